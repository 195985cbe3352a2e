/-
  Plain words: rows of equal parts, the order of strings, bodies and their areas, pairs.
-/
import Derived.Test.YtjmjmijjdgolfaaProd
import Derived.Sort.Walk0
import Derived.Lib.Bytealg
namespace Go.Proofs.Ytjmjmijjdgolfaa
open Go.RowKit

section
variable {α : Type} (enc : α → List Value) (k : Nat)
theorem flatK_len (hk : ∀ x, (enc x).length = k) (l : List α) : (l.flatMap enc).length = l.length * k := by
  induction l with
  | nil => simp
  | cons p l ih => rw [List.flatMap_cons, List.length_append, ih, hk, List.length_cons, Nat.succ_mul]; omega
theorem flatK_at (hk : ∀ x, (enc x).length = k) (l : List α) : ∀ (i : Nat) (h : i < l.length) (j : Nat), j < k → (l.flatMap enc)[i * k + j]? = (enc l[i])[j]? := by
  induction l with
  | nil => intro i h; simp at h
  | cons p l ih =>
    intro i h j hj
    rw [List.flatMap_cons]
    cases i with
    | zero => rw [List.getElem?_append_left (by rw [hk]; omega)]; simp
    | succ i =>
      have := ih i (by simpa using h) j hj
      rw [List.getElem?_append_right (by rw [hk, Nat.succ_mul]; omega), hk, show (i + 1) * k + j - k = i * k + j by rw [Nat.succ_mul]; omega, this]
      rfl
end

/-- A cell of an own row is set. -/
theorem own_set {w : World} {base : Nat} {e : TypeId} {size n g cap : Nat} {xs : List Value} (h : w.ownsRow base e size (.slice (some ⟨g, 0, none⟩) n cap) n xs) (j : Nat) (u : Value) :
    (w.setCell ⟨g, j, none⟩ u).ownsRow base e size (.slice (some ⟨g, 0, none⟩) n cap) n (xs.set j u) := by
  obtain ⟨hl, ⟨h0, _⟩ | ⟨g', cap', cur, hv, hb, hc, h1, h2, h3, h4⟩⟩ := h
  · simp at h0
  · simp only [Value.slice.injEq, Option.some.injEq, Addr.mk.injEq, and_true, true_and] at hv
    obtain ⟨rfl, rfl⟩ := hv
    exact ⟨by simpa using hl, .inr ⟨g, cap, _, rfl, hb, blk_set hc u, h1, h2, by simpa using h3, by rw [Array.toList_setIfInBounds, List.take_set, h4]⟩⟩
theorem own_frozen {w : World} {base : Nat} {e : TypeId} {size n g cap : Nat} {xs : List Value} (h : w.ownsRow base e size (.slice (some ⟨g, 0, none⟩) n cap) n xs) (j : Nat) : w.frozen? ⟨g, j, none⟩ = false := by
  obtain ⟨hl, ⟨h0, _⟩ | ⟨g', cap', cur, hv, hb, hc, h1, h2, h3, h4⟩⟩ := h
  · simp at h0
  · simp only [Value.slice.injEq, Option.some.injEq, Addr.mk.injEq, and_true, true_and] at hv
    obtain ⟨rfl, rfl⟩ := hv
    exact frozen_of_blk hc _
theorem own_form {w : World} {base : Nat} {e : TypeId} {size n : Nat} {v : Value} {xs : List Value} (h : w.ownsRow base e size v n xs) : ∃ A c, v = .slice A n c ∧ (0 < n → ∃ g : Nat, A = some ⟨g, 0, none⟩ ∧ g < w.heap.size ∧ base ≤ g) := by
  rcases h.2 with ⟨rfl, rfl⟩ | ⟨g, cap, cur, rfl, hb, hc, _⟩
  · exact ⟨none, 0, rfl, fun h => by omega⟩
  · exact ⟨_, cap, rfl, fun _ => ⟨g, rfl, lt_of_blk hc, hb⟩⟩


theorem blk_cell0 {w : World} {g : Nat} {a : Value} {t : TypeId} (h : w.heap[g]? = some (.cells #[a] t (0, 0))) : w.cell? ⟨g, 0, none⟩ = some a := by rw [cell_of_blk h]; rfl

/-- The bytes of a string. -/
abbrev bt (s : ByteArray) : List UInt8 := s.data.toList
theorem bt_inj {a b : ByteArray} (h : bt a = bt b) : a = b := by
  obtain ⟨⟨a⟩⟩ := a; obtain ⟨⟨b⟩⟩ := b
  simpa [bt] using h
theorem leS_iff (a b : ByteArray) : leS a b = true ↔ ¬ bt b < bt a := by
  unfold leS
  rw [bytesLess_eq, Lib.toList_data, Lib.toList_data]
  simp only [Bool.or_eq_true, decide_eq_true_eq, beq_iff_eq]
  constructor
  · rintro (h | h)
    · exact fun h2 => absurd (List.lt_trans h h2) (List.lt_irrefl _)
    · rw [bt, bt, h]; exact List.lt_irrefl _
  · intro h
    rcases List.le_iff_lt_or_eq.mp (List.not_lt.mp h) with h | h
    · exact .inl h
    · exact .inr h
theorem leS_false (a b : ByteArray) : leS a b = false ↔ bt b < bt a := by
  rw [← Bool.not_eq_true, leS_iff, Classical.not_not]
theorem cmpB_lt : ∀ (a b : List UInt8), Lib.compareBytes a b < 0 ↔ a < b
  | [], [] => by simp [Lib.compareBytes]
  | [], _ :: _ => by simp [Lib.compareBytes]
  | _ :: _, [] => by simp [Lib.compareBytes]
  | a :: x, b :: y => by
    have ih := cmpB_lt x y
    unfold Lib.compareBytes
    rw [List.cons_lt_cons_iff]
    by_cases h1 : a < b
    · simp [h1]
    · by_cases h2 : b < a
      · have : a ≠ b := fun e => by subst e; exact h1 h2
        simp [h1, h2, this]
      · have e : a = b := UInt8.le_antisymm (UInt8.not_lt.mp h2) (UInt8.not_lt.mp h1)
        subst e
        simp [h1, ih]
theorem cmpB_eq : ∀ (a b : List UInt8), Lib.compareBytes a b = 0 ↔ a = b
  | [], [] => by simp [Lib.compareBytes]
  | [], _ :: _ => by simp [Lib.compareBytes]
  | _ :: _, [] => by simp [Lib.compareBytes]
  | a :: x, b :: y => by
    have ih := cmpB_eq x y
    unfold Lib.compareBytes
    by_cases h1 : a < b
    · have : a ≠ b := fun e => by subst e; exact UInt8.lt_irrefl _ h1
      simp [h1, this]
    · by_cases h2 : b < a
      · have : a ≠ b := fun e => by subst e; exact h1 h2
        simp [h1, h2, this]
      · have e : a = b := UInt8.le_antisymm (UInt8.not_lt.mp h2) (UInt8.not_lt.mp h1)
        subst e
        simp [h1, ih]
theorem cmpB_bd : ∀ (a b : List UInt8), -1 ≤ Lib.compareBytes a b ∧ Lib.compareBytes a b ≤ 1
  | [], [] => by simp [Lib.compareBytes]
  | [], _ :: _ => by simp [Lib.compareBytes]
  | _ :: _, [] => by simp [Lib.compareBytes]
  | a :: x, b :: y => by
    have ih := cmpB_bd x y
    unfold Lib.compareBytes
    split
    · omega
    · split
      · omega
      · exact ih

/-- Rising keys. -/
def Rising {α : Type} (key : α → ByteArray) (l : List α) : Prop := ∀ i j (_ : i < j) (hj : j < l.length), bt (key (l[i]'(by omega))) < bt (key (l[j]'hj))

structure Bo where
  part : ByteArray
  w : Int
  h : Int
def Bo.cells (b : Bo) : List Value := [.string b.part, .int .i64 b.w, .int .i64 b.h]
def flatB (l : List Bo) : List Value := l.flatMap Bo.cells
def BoAt (w : World) (A : Option Addr) (l : List Bo) : Prop := l = [] ∨ ∃ g : Nat, A = some ⟨g, 0, none⟩ ∧ LineAt w g (flatB l)
theorem BoAt.below {w w' : World} {A : Option Addr} {l : List Bo} (h : BoAt w A l) (hb : Below w.heap.size w w') : BoAt w' A l := by
  rcases h with h | ⟨g, e, h⟩
  · exact .inl h
  · exact .inr ⟨g, e, h.below hb⟩
theorem flatB_at (l : List Bo) (k : Nat) (h : k < l.length) (j : Nat) (hj : j < 3) : (flatB l)[k * 3 + j]? = l[k].cells[j]? := flatK_at Bo.cells 3 (fun _ => rfl) l k h j hj
theorem row_bo {w : World} {g : Nat} {l : List Bo} (h : LineAt w g (flatB l)) {k : Nat} (hk : k < l.length) :
    w.cell? ⟨g, k * 3, none⟩ = some (.string l[k].part) ∧ w.cell? ⟨g, k * 3 + 1, none⟩ = some (.int .i64 l[k].w) ∧ w.cell? ⟨g, k * 3 + 2, none⟩ = some (.int .i64 l[k].h) :=
  ⟨h.2 _ _ (flatB_at l k hk 0 (by omega)), h.2 _ _ (flatB_at l k hk 1 (by omega)), h.2 _ _ (flatB_at l k hk 2 (by omega))⟩

/-- The error of bodies. -/
def bodyErr : List Bo → Option ByteArray → Int
  | [], _ => 0
  | p :: l, prev => if keyB p.part = false then 5 else if (inR p.w 1 500000 && inR p.h 1 500000) = false then 1 else if prev.any (leS p.part) = true then 7 else bodyErr l (some p.part)
def bodiesErr (l : List Bo) : Int := if 500 < l.length then 2 else bodyErr l none
def prevB (l : List Bo) : Nat → Option ByteArray
  | 0 => none
  | k + 1 => l[k]?.map Bo.part

def boOk (b : Bo) : Bool := keyB b.part && inR b.w 1 500000 && inR b.h 1 500000
theorem bodyErr_ok : ∀ (l : List Bo) (prev : Option ByteArray), bodyErr l prev = 0 → (∀ b ∈ l, boOk b = true) ∧ (∀ p, prev = some p → ∀ b ∈ l.head?, bt p < bt b.part) ∧ l.Pairwise (fun a b => bt a.part < bt b.part)
  | [], _, _ => ⟨by simp, by simp, .nil⟩
  | b :: l, prev, h => by
    unfold bodyErr at h
    split at h
    · cases h
    split at h
    · cases h
    split at h
    · cases h
    rename_i h1 h2 h3
    obtain ⟨i1, i2, i3⟩ := bodyErr_ok l (some b.part) h
    refine ⟨?_, ?_, ?_⟩
    · intro x hx
      rcases List.mem_cons.mp hx with rfl | hx
      · simp only [Bool.not_eq_false] at h1 h2
        unfold boOk
        rw [h1, Bool.true_and, h2]
      · exact i1 x hx
    · rintro p rfl x hx
      simp at hx
      subst hx
      simp only [Option.any_some, Bool.not_eq_true] at h3
      exact (leS_false _ _).mp h3
    · cases l with
      | nil => simp
      | cons c l =>
        have hbc := i2 b.part rfl c (by simp)
        refine List.pairwise_cons.mpr ⟨?_, i3⟩
        intro x hx
        rcases List.mem_cons.mp hx with rfl | hx
        · exact hbc
        · exact List.lt_trans hbc ((List.pairwise_cons.mp i3).1 x hx)
theorem bodiesErr_ok {l : List Bo} (h : bodiesErr l = 0) : l.length ≤ 500 ∧ (∀ b ∈ l, boOk b = true) ∧ Rising Bo.part l := by
  unfold bodiesErr at h
  split at h
  · cases h
  obtain ⟨h1, _, h3⟩ := bodyErr_ok l none h
  refine ⟨by omega, h1, fun i j hij hj => ?_⟩
  exact List.pairwise_iff_getElem.mp h3 i j (by omega) hj hij
theorem plErr_ok (W H : Int) : ∀ (l : List Pl) (prev : Option ByteArray), plErr W H l prev = 0 → (∀ b ∈ l, (keyB b.name && keyB b.part && plOk W H b) = true) ∧ (∀ p, prev = some p → ∀ b ∈ l.head?, bt p < bt b.name) ∧ l.Pairwise (fun a b => bt a.name < bt b.name)
  | [], _, _ => ⟨by simp, by simp, .nil⟩
  | b :: l, prev, h => by
    unfold plErr at h
    split at h
    · cases h
    split at h
    · cases h
    split at h
    · cases h
    rename_i h1 h2 h3
    obtain ⟨i1, i2, i3⟩ := plErr_ok W H l (some b.name) h
    refine ⟨?_, ?_, ?_⟩
    · intro x hx
      rcases List.mem_cons.mp hx with rfl | hx
      · simp only [Bool.not_eq_false] at h1 h3
        rw [h1, h3]; rfl
      · exact i1 x hx
    · rintro p rfl x hx
      simp at hx
      subst hx
      simp only [Option.any_some, Bool.not_eq_true] at h2
      exact (leS_false _ _).mp h2
    · cases l with
      | nil => simp
      | cons c l =>
        have hbc := i2 b.name rfl c (by simp)
        refine List.pairwise_cons.mpr ⟨?_, i3⟩
        intro x hx
        rcases List.mem_cons.mp hx with rfl | hx
        · exact hbc
        · exact List.lt_trans hbc ((List.pairwise_cons.mp i3).1 x hx)
theorem prodErr_ok {key : ByteArray} {W H : Int} {l : List Pl} (h : prodErr key W H l = 0) :
    keyB key = true ∧ (1 ≤ W ∧ W ≤ 500000) ∧ (1 ≤ H ∧ H ≤ 500000) ∧ l.length ≤ 1000 ∧ (∀ b ∈ l, (keyB b.name && keyB b.part && plOk W H b) = true) ∧ Rising Pl.name l := by
  unfold prodErr at h
  split at h
  · cases h
  split at h
  · cases h
  split at h
  · cases h
  rename_i h1 h2 h3
  simp [inR] at h1 h2
  obtain ⟨i1, _, i3⟩ := plErr_ok W H l none h
  refine ⟨h1, by omega, by omega, by omega, i1, fun i j hij hj => ?_⟩
  exact List.pairwise_iff_getElem.mp i3 i j (by omega) hj hij

def gapErr (g : Int) : Int := if inR g 0 500000 = true then 0 else 1
/-- The error of bodies, and of a distance, with a product. -/
def distErr (key : ByteArray) (W H : Int) (l : List Pl) (b : List Bo) (g : Int) : Int :=
  if prodErr key W H l = 0 then (if bodiesErr b = 0 then gapErr g else bodiesErr b) else prodErr key W H l

/-- An area: from, to; from, to. -/
structure Ar where
  xf : Int
  xt : Int
  yf : Int
  yt : Int
def Ar.cells (a : Ar) : List Value := [.int .i64 a.xf, .int .i64 a.xt, .int .i64 a.yf, .int .i64 a.yt]
def turnW (w h q : Int) : Int := if q % 2 = 1 then h else w
def turnH (w h q : Int) : Int := if q % 2 = 1 then w else h
def arOf (p : Pl) (o : Bo) : Ar := ⟨2 * p.x - turnW o.w o.h p.q, 2 * p.x + turnW o.w o.h p.q, 2 * p.y - turnH o.w o.h p.q, 2 * p.y + turnH o.w o.h p.q⟩
def boOf (b : List Bo) (part : ByteArray) : Option Bo := b.find? fun o => decide (bt o.part = bt part)
def boxOf (b : List Bo) (p : Pl) : Option Ar := (boOf b p.part).map (arOf p)
def nameBox (b : List Bo) (p : Pl) : Option (ByteArray × Ar) := (boxOf b p).map fun a => (p.name, a)

def nearA (g : Int) (a b : Ar) : Bool := decide (max (a.xf - b.xt) (b.xf - a.xt) < g) && decide (max (a.yf - b.yt) (b.yf - a.yt) < g)
/-- All pairs of a list, in order. -/
def prs {α : Type} : List α → List (α × α)
  | [] => []
  | x :: l => l.map (fun y => (x, y)) ++ prs l

def crowdP (b : List Bo) (g : Int) (l : List Pl) : List (ByteArray × ByteArray) := ((prs (l.filterMap (nameBox b))).filter fun p => nearA g p.1.2 p.2.2).map fun p => (p.1.1, p.2.1)
def crowd2 (b : List Bo) (g : Int) (p q : Pl) : Option (ByteArray × ByteArray) :=
  match boxOf b p, boxOf b q with
  | some x, some y => if nearA g x y then some (p.name, q.name) else none
  | _, _ => none
def crowdR (b : List Bo) (g : Int) (l : List Pl) : List (ByteArray × ByteArray) := (prs l).filterMap fun p => crowd2 b g p.1 p.2
theorem crowd_row (b : List Bo) (g : Int) (p : Pl) (l : List Pl) :
    l.filterMap (crowd2 b g p) = match boxOf b p with
      | some a => ((l.filterMap (nameBox b)).filter fun q => nearA g a q.2).map fun q => (p.name, q.1)
      | none => [] := by
  cases ha : boxOf b p with
  | none =>
    simp only
    rw [List.filterMap_eq_nil_iff]
    intro q _
    simp [crowd2, ha]
  | some a =>
    simp only
    induction l with
    | nil => rfl
    | cons q l ih =>
      cases hq : boxOf b q with
      | none =>
        rw [List.filterMap_cons_none (by simp [crowd2, ha, hq]), ih, List.filterMap_cons_none (by simp [nameBox, hq])]
      | some c =>
        rw [List.filterMap_cons_some (b := (q.name, c)) (by simp [nameBox, hq])]
        cases hn : nearA g a c
        · rw [List.filterMap_cons_none (by simp [crowd2, ha, hq, hn]), ih, List.filter_cons_of_neg (by simp [hn])]
        · rw [List.filterMap_cons_some (b := (p.name, q.name)) (by simp [crowd2, ha, hq, hn]), ih, List.filter_cons_of_pos (by simp [hn])]
          rfl
theorem crowd_eq (b : List Bo) (g : Int) (l : List Pl) : crowdP b g l = crowdR b g l := by
  induction l with
  | nil => rfl
  | cons p l ih =>
    have e : crowdR b g (p :: l) = l.filterMap (crowd2 b g p) ++ crowdR b g l := by
      unfold crowdR
      rw [prs, List.filterMap_append, List.filterMap_map]
      rfl
    rw [e, crowd_row, ← ih]
    unfold crowdP
    cases hp : boxOf b p with
    | none => rw [List.filterMap_cons_none (by simp [nameBox, hp])]; simp
    | some a =>
      rw [List.filterMap_cons_some (b := (p.name, a)) (by simp [nameBox, hp])]
      simp only
      rw [prs, List.filter_append, List.map_append, List.filter_map, List.map_map]
      rfl

def mn2 (x y : Int) : Int := if y < x then y else x
def mn4 (x y z u : Int) : Int := mn2 (mn2 (mn2 x y) z) u
theorem mn4_def (x y z u : Int) : (if u < (if z < (if y < x then y else x) then z else (if y < x then y else x)) then u else (if z < (if y < x then y else x) then z else (if y < x then y else x))) = mn4 x y z u := rfl
theorem run_min_int4 {P : Program} (w : World) (ts : Array TypeId) (t : TypeId) (k k' k'' k3 : IntKind) (x y z u : Int) : (Builtin.min_ ts t #[.int k x, .int k' y, .int k'' z, .int k3 u]).run P w = .ok (.int k (mn4 x y z u)) w := by
  simp [Builtin.min_, Builtin.min2, mn4, mn2]
  rfl
def beyOf (W H e : Int) (a : Ar) : Bool := decide (mn4 a.xf a.yf (2 * W - a.xt) (2 * H - a.yt) < 2 * e)
def beyond (b : List Bo) (W H e : Int) (l : List Pl) : List ByteArray := ((l.filterMap (nameBox b)).filter fun p => beyOf W H e p.2).map fun p => p.1
end Go.Proofs.Ytjmjmijjdgolfaa
