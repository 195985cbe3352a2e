/-
  Plain words on setups.
-/
import Derived.Test.YtjmjmijjdgolfaaSeR
import Derived.Lib.SlicesS
namespace Go.Proofs.Ytjmjmijjdgolfaa
open Go.RowKit

def nth (l : List ByteArray) (i : Nat) : ByteArray := l.getD i dS
def has (l : List ByteArray) (x : ByteArray) : Bool := Lib.containsS l x
theorem has_iff {l : List ByteArray} {x : ByteArray} : has l x = true ↔ x ∈ l := Lib.containsS_iff _ _
theorem has_false {l : List ByteArray} {x : ByteArray} : has l x = false ↔ x ∉ l := by rw [← Bool.not_eq_true, has_iff]
theorem nth_at {l : List ByteArray} {i : Nat} (h : i < l.length) : nth l i = l[i] := by unfold nth; rw [List.getD_eq_getElem?_getD, List.getElem?_eq_getElem h]; rfl
/-- No part. -/
def em (x : ByteArray) : Bool := x.toList.isEmpty
theorem em_iff (x : ByteArray) : em x = true ↔ x = dS := by
  unfold em
  rw [Lib.toList_data, List.isEmpty_iff]
  constructor
  · intro h; exact bt_inj h
  · rintro rfl; rfl
theorem key_not_em {x : ByteArray} (h : keyB x = true) : em x = false := by
  cases e : em x
  · rfl
  · rw [(em_iff x).mp e] at h
    exact absurd h (by decide)

/-- The error of a setup. -/
def seErr : List ByteArray → List ByteArray → Int
  | [], _ => 0
  | x :: r, seen => if em x = true then seErr r (seen ++ [x]) else if keyB x = false then 5 else if has seen x = true then 6 else seErr r (seen ++ [x])
def setErr (s : List ByteArray) : Int := if s = [] then 8 else if 100 < s.length then 2 else seErr s []

/-- A right setup. -/
def SetOk (s : List ByteArray) : Prop := s ≠ [] ∧ s.length ≤ 100 ∧ (∀ x ∈ s, em x = true ∨ keyB x = true) ∧ s.Pairwise fun a b => em a = false → a ≠ b
theorem seErr_ok (s : List ByteArray) : ∀ seen, seErr s seen = 0 → (∀ x ∈ s, em x = true ∨ keyB x = true) ∧ (∀ x ∈ s, em x = false → x ∉ seen) ∧ s.Pairwise fun a b => em a = false → a ≠ b := by
  induction s with
  | nil => intro seen _; simp
  | cons x r ih =>
    intro seen h
    unfold seErr at h
    by_cases h1 : em x = true
    · rw [if_pos h1] at h
      obtain ⟨a, b, c⟩ := ih _ h
      refine ⟨?_, ?_, ?_⟩
      · intro y hy
        rcases List.mem_cons.mp hy with rfl | hy
        · exact .inl h1
        · exact a y hy
      · intro y hy he
        rcases List.mem_cons.mp hy with rfl | hy
        · rw [h1] at he; cases he
        · intro hs; exact b y hy he (List.mem_append_left _ hs)
      · refine List.Pairwise.cons ?_ c
        intro y hy he
        rw [h1] at he; cases he
    · rw [if_neg h1] at h
      by_cases h2 : keyB x = false
      · rw [if_pos h2] at h; cases h
      rw [if_neg h2] at h
      by_cases h3 : has seen x = true
      · rw [if_pos h3] at h; cases h
      rw [if_neg h3] at h
      obtain ⟨a, b, c⟩ := ih _ h
      refine ⟨?_, ?_, ?_⟩
      · intro y hy
        rcases List.mem_cons.mp hy with rfl | hy
        · exact .inr (by simpa using h2)
        · exact a y hy
      · intro y hy he
        rcases List.mem_cons.mp hy with rfl | hy
        · exact fun h => h3 (has_iff.mpr h)
        · intro hs; exact b y hy he (List.mem_append_left _ hs)
      · refine List.Pairwise.cons ?_ c
        rintro y hy he rfl
        exact b _ hy he (List.mem_append_right _ (by simp))
theorem setErr_ok {s : List ByteArray} (h : setErr s = 0) : SetOk s := by
  unfold setErr at h
  by_cases h0 : s = []
  · rw [if_pos h0] at h; cases h
  rw [if_neg h0] at h
  by_cases h1 : 100 < s.length
  · rw [if_pos h1] at h; cases h
  rw [if_neg h1] at h
  obtain ⟨a, _, c⟩ := seErr_ok s [] h
  exact ⟨h0, by omega, a, c⟩

/-- The error of parts. -/
def paErr : List ByteArray → Option ByteArray → Int
  | [], _ => 0
  | x :: r, prev => if keyB x = false then 5 else if prev.any (leS x) = true then 7 else paErr r (some x)
def psErr (slots : Int) : List (List ByteArray) → Int
  | [] => 0
  | l :: r => if slots < l.length then 12 else if paErr l none = 0 then psErr slots r else paErr l none
def partsErr (slots : Int) (p : List (List ByteArray)) : Int := if inR slots 1 100 = false then 1 else if 200 < p.length then 2 else psErr slots p

/-- Right parts. -/
def PaOk (l : List ByteArray) : Prop := (∀ x ∈ l, keyB x = true) ∧ l.Pairwise fun a b => bt a < bt b
theorem paErr_ok (l : List ByteArray) : ∀ prev, paErr l prev = 0 → PaOk l ∧ ∀ y, prev = some y → ∀ x ∈ l, bt y < bt x := by
  induction l with
  | nil => intro prev _; exact ⟨⟨by simp, .nil⟩, by simp⟩
  | cons x r ih =>
    intro prev h
    unfold paErr at h
    by_cases h1 : keyB x = false
    · rw [if_pos h1] at h; cases h
    rw [if_neg h1] at h
    by_cases h2 : prev.any (leS x) = true
    · rw [if_pos h2] at h; cases h
    rw [if_neg h2] at h
    obtain ⟨⟨a, b⟩, c⟩ := ih _ h
    have hx : ∀ y, prev = some y → bt y < bt x := by
      rintro y rfl
      simp only [Option.any_some, Bool.not_eq_true] at h2
      exact (leS_false _ _).mp h2
    refine ⟨⟨?_, .cons (fun y hy => c x rfl y hy) b⟩, ?_⟩
    · intro y hy
      rcases List.mem_cons.mp hy with rfl | hy
      · simpa using h1
      · exact a y hy
    · intro y hy z hz
      rcases List.mem_cons.mp hz with rfl | hz
      · exact hx y hy
      · exact List.lt_trans (hx y hy) (c x rfl z hz)
theorem psErr_ok {slots : Int} {p : List (List ByteArray)} (h : psErr slots p = 0) : ∀ l ∈ p, (l.length : Int) ≤ slots ∧ PaOk l := by
  induction p with
  | nil => simp
  | cons l r ih =>
    unfold psErr at h
    by_cases h1 : slots < l.length
    · rw [if_pos h1] at h; cases h
    rw [if_neg h1] at h
    by_cases h2 : paErr l none = 0
    · rw [if_pos h2] at h
      intro k hk
      rcases List.mem_cons.mp hk with rfl | hk
      · exact ⟨by omega, (paErr_ok _ _ h2).1⟩
      · exact ih h k hk
    · rw [if_neg h2] at h; exact absurd h h2
theorem partsErr_ok {slots : Int} {p : List (List ByteArray)} (h : partsErr slots p = 0) : 1 ≤ slots ∧ slots ≤ 100 ∧ p.length ≤ 200 ∧ ∀ l ∈ p, (l.length : Int) ≤ slots ∧ PaOk l := by
  unfold partsErr at h
  by_cases h1 : inR slots 1 100 = false
  · rw [if_pos h1] at h; cases h
  rw [if_neg h1] at h
  by_cases h2 : 200 < p.length
  · rw [if_pos h2] at h; cases h
  rw [if_neg h2] at h
  simp [inR] at h1
  exact ⟨h1.1, h1.2, by omega, psErr_ok h⟩

/-- The errors of a setup and parts. -/
def chkErr (s : List ByteArray) (p : List (List ByteArray)) : Int := if setErr s = 0 then partsErr s.length p else setErr s

/-- The parts that a setup has not. -/
def missOf (s parts : List ByteArray) : List ByteArray := parts.filter fun x => !has s x

/-- The changes. -/
def chgK (a b : List ByteArray) (k : Nat) : List (Nat × ByteArray × ByteArray) := (List.range k).filterMap fun i => if nth a i = nth b i then none else some (i, nth a i, nth b i)
def chgOf (a b : List ByteArray) : List (Nat × ByteArray × ByteArray) := chgK a b a.length
theorem chgK_same {a b : List ByteArray} {k : Nat} (h : nth a k = nth b k) : chgK a b (k + 1) = chgK a b k := by
  unfold chgK
  rw [List.range_succ, List.filterMap_append]
  simp [h]
theorem chgK_next {a b : List ByteArray} {k : Nat} (h : ¬ nth a k = nth b k) : chgK a b (k + 1) = chgK a b k ++ [(k, nth a k, nth b k)] := by
  unfold chgK
  rw [List.range_succ, List.filterMap_append]
  congr 1
  simp only [List.filterMap_cons, List.filterMap_nil, if_neg h]
theorem chgK_len (a b : List ByteArray) (k : Nat) : (chgK a b k).length ≤ k := by
  unfold chgK
  have := List.length_filterMap_le (fun i => if nth a i = nth b i then none else some (i, nth a i, nth b i)) (List.range k)
  simpa using this
def ldsOf (l : List (Nat × ByteArray × ByteArray)) : Nat := l.countP fun c => !em c.2.2
def loadsOf (a b : List ByteArray) : Nat := ldsOf (chgOf a b)
theorem loadsOf_le (a b : List ByteArray) : loadsOf a b ≤ a.length := Nat.le_trans List.countP_le_length (chgK_len _ _ _)

/-- When a part is needed next. -/
def whenOf (part : ByteArray) (later : List (List ByteArray)) : Nat := later.findIdx fun l => has l part
/-- A part is rather taken out than another one. -/
def better (later : List (List ByteArray)) (y z : ByteArray) : Bool := decide (whenOf z later < whenOf y later) || (decide (whenOf y later = whenOf z later) && decide (bt z < bt y))
theorem better_asymm {later : List (List ByteArray)} {y z : ByteArray} (h : better later y z = true) : better later z y = false := by
  unfold better at *
  simp only [Bool.or_eq_true, Bool.and_eq_true, decide_eq_true_eq, Bool.or_eq_false_iff, Bool.and_eq_false_iff, decide_eq_false_iff_not] at *
  rcases h with h | ⟨h, h2⟩
  · exact ⟨by omega, .inl (by omega)⟩
  · exact ⟨by omega, .inr (fun h3 => List.lt_irrefl _ (List.lt_trans h2 h3))⟩
theorem better_total {later : List (List ByteArray)} {y z : ByteArray} (hne : y ≠ z) (h : better later z y = false) : better later y z = true := by
  unfold better at *
  simp only [Bool.or_eq_true, Bool.and_eq_true, decide_eq_true_eq, Bool.or_eq_false_iff, Bool.and_eq_false_iff, decide_eq_false_iff_not] at *
  obtain ⟨h1, h2⟩ := h
  rcases Nat.lt_or_ge (whenOf z later) (whenOf y later) with h3 | h3
  · exact .inl h3
  · right
    have he : whenOf y later = whenOf z later := by omega
    refine ⟨he, ?_⟩
    have h4 : ¬ bt y < bt z := by
      rcases h2 with h2 | h2
      · exact absurd he.symm h2
      · exact h2
    rcases List.le_iff_lt_or_eq.mp (List.not_lt.mp h4) with h | h
    · exact h
    · exact absurd (bt_inj h.symm) hne

/-- A slot that may be taken. -/
def cand (parts : List ByteArray) (y : ByteArray) : Bool := !(has parts y && !em y)
def stepB (parts : List ByteArray) (later : List (List ByteArray)) (out : List ByteArray) (b : Option Nat) (i : Nat) : Option Nat :=
  if cand parts (nth out i) = false then b else
    match b with
    | none => some i
    | some j => if em (nth out j) = true then some j else if em (nth out i) = true then some i else if better later (nth out i) (nth out j) = true then some i else some j
def pickB (parts : List ByteArray) (later : List (List ByteArray)) (out : List ByteArray) : Nat → Option Nat
  | 0 => none
  | k + 1 => stepB parts later out (pickB parts later out k) k
def nextGo (parts : List ByteArray) (later : List (List ByteArray)) : List ByteArray → List ByteArray → List ByteArray
  | out, [] => out
  | out, x :: xs => nextGo parts later (match pickB parts later out out.length with | some i => out.set i x | none => out) xs
def nextOf (s parts : List ByteArray) (later : List (List ByteArray)) : List ByteArray := nextGo parts later s (missOf s parts)
theorem nextGo_length (parts : List ByteArray) (later : List (List ByteArray)) (xs : List ByteArray) : ∀ out, (nextGo parts later out xs).length = out.length := by
  induction xs with
  | nil => intro out; rfl
  | cons x xs ih =>
    intro out
    rw [nextGo, ih]
    split <;> simp
theorem nextOf_length (s parts : List ByteArray) (later : List (List ByteArray)) : (nextOf s parts later).length = s.length := nextGo_length _ _ _ _

/-- One slot goes before another one. -/
def pre (later : List (List ByteArray)) (out : List ByteArray) (i j : Nat) : Prop :=
  (em (nth out i) = true ∧ (em (nth out j) = true → i < j)) ∨ (em (nth out i) = false ∧ em (nth out j) = false ∧ better later (nth out i) (nth out j) = true)
theorem pickB_lt (parts : List ByteArray) (later : List (List ByteArray)) (out : List ByteArray) : ∀ k i, pickB parts later out k = some i → i < k ∧ cand parts (nth out i) = true := by
  intro k
  induction k with
  | zero => intro i h; cases h
  | succ k ih =>
    intro i h
    rw [pickB] at h
    unfold stepB at h
    by_cases hc : cand parts (nth out k) = false
    · rw [if_pos hc] at h
      have := ih i h
      exact ⟨by omega, this.2⟩
    rw [if_neg hc] at h
    have hck : cand parts (nth out k) = true := by simpa using hc
    cases hb : pickB parts later out k with
    | none => rw [hb] at h; cases h; exact ⟨by omega, hck⟩
    | some j =>
      rw [hb] at h
      have hj := ih j hb
      simp only at h
      split at h
      · cases h; exact ⟨by omega, hj.2⟩
      split at h
      · cases h; exact ⟨by omega, hck⟩
      split at h
      · cases h; exact ⟨by omega, hck⟩
      · cases h; exact ⟨by omega, hj.2⟩
theorem pickB_best {parts : List ByteArray} {later : List (List ByteArray)} {out : List ByteArray} {i : Nat} (hc : cand parts (nth out i) = true) (hp : ∀ j, j < out.length → j ≠ i → cand parts (nth out j) = true → pre later out i j) :
    ∀ k, k ≤ out.length → (i < k → pickB parts later out k = some i) ∧ (k ≤ i → ∀ j, pickB parts later out k = some j → j ≠ i) := by
  intro k
  induction k with
  | zero => intro _; exact ⟨fun h => by omega, fun _ j h => by cases h⟩
  | succ k ih =>
    intro hk
    obtain ⟨ih1, ih2⟩ := ih (by omega)
    refine ⟨fun hik => ?_, fun hki j hj => ?_⟩
    · rw [pickB]
      by_cases e : k = i
      · subst e
        unfold stepB
        rw [if_neg (by simp [hc])]
        cases hb : pickB parts later out k with
        | none => rfl
        | some j =>
          have hj := pickB_lt _ _ _ _ _ hb
          have hne := ih2 (Nat.le_refl _) j hb
          simp only
          rcases hp j (by omega) hne hj.2 with ⟨a, b⟩ | ⟨a, b, c⟩
          · have hz : em (nth out j) = false := by
              cases h : em (nth out j)
              · rfl
              · have := b h; omega
            rw [if_neg (by simp [hz]), if_pos a]
          · rw [if_neg (by simp [b]), if_neg (by simp [a]), if_pos c]
      · rw [ih1 (by omega)]
        unfold stepB
        by_cases hck : cand parts (nth out k) = false
        · rw [if_pos hck]
        · rw [if_neg hck]
          simp only
          rcases hp k (by omega) e (by simpa using hck) with ⟨a, b⟩ | ⟨a, b, c⟩
          · rw [if_pos a]
          · rw [if_neg (by simp [a]), if_neg (by simp [b]), if_neg (by simp [better_asymm c])]
    · have := pickB_lt parts later out (k + 1) j hj
      omega

/-- Parts are laid into slots, one after the other. -/
def fill : List ByteArray → List Nat → List ByteArray → List ByteArray
  | out, i :: is, x :: xs => fill (out.set i x) is xs
  | out, _, _ => out
theorem getD_set_self {l : List ByteArray} {i : Nat} (h : i < l.length) (x : ByteArray) : nth (l.set i x) i = x := by
  unfold nth; rw [List.getD_eq_getElem?_getD, List.getElem?_set_self h]; rfl
theorem getD_set_ne {l : List ByteArray} {i j : Nat} (h : i ≠ j) (x : ByteArray) : nth (l.set i x) j = nth l j := by
  unfold nth; rw [List.getD_eq_getElem?_getD, List.getD_eq_getElem?_getD, List.getElem?_set_ne h]
theorem fill_next (parts : List ByteArray) (later : List (List ByteArray)) (xs : List ByteArray) : ∀ (out : List ByteArray) (room : List Nat), room.Nodup → (∀ i ∈ room, i < out.length) → (∀ i, i < out.length → (i ∈ room ↔ cand parts (nth out i) = true)) →
    room.Pairwise (pre later out) → (∀ x ∈ xs, x ∈ parts ∧ em x = false) → xs.length ≤ room.length → fill out room xs = nextGo parts later out xs := by
  induction xs with
  | nil => intro out room _ _ _ _ _ _; cases room <;> rfl
  | cons x xs ih =>
    intro out room hn hlt hc hp hx hl
    cases room with
    | nil => simp at hl
    | cons i room =>
      have hi := hlt i (by simp)
      have hci := (hc i hi).mp (by simp)
      have hpi := List.pairwise_cons.mp hp
      have hni := List.nodup_cons.mp hn
      have hb : pickB parts later out out.length = some i := by
        refine (pickB_best hci (fun j hj hne hcj => ?_) out.length (Nat.le_refl _)).1 hi
        have := (hc j hj).mpr hcj
        rcases List.mem_cons.mp this with e | hm
        · exact absurd e hne
        · exact hpi.1 j hm
      rw [fill, nextGo, hb]
      simp only
      have hset : ∀ j ∈ room, nth (out.set i x) j = nth out j := fun j hj => getD_set_ne (fun e => hni.1 (by rw [e]; exact hj)) x
      refine ih _ _ hni.2 (fun j hj => by simpa using hlt j (List.mem_cons_of_mem _ hj)) (fun j hj => ?_) ?_ (fun y hy => hx y (List.mem_cons_of_mem _ hy)) (by simpa using hl)
      · rw [List.length_set] at hj
        by_cases e : i = j
        · subst e
          rw [getD_set_self hi]
          obtain ⟨h1, h2⟩ := hx x (by simp)
          simp [cand, has_iff.mpr h1, h2, hni.1]
        · rw [getD_set_ne e, ← hc j hj]
          simp [Ne.symm e]
      · refine hpi.2.imp_of_mem ?_
        intro a b ha hb hab
        unfold pre at *
        rw [hset a ha, hset b hb]
        exact hab

def empties (s : List ByteArray) (k : Nat) : List Nat := (List.range k).filter fun i => em (nth s i)
def spares (s parts : List ByteArray) (k : Nat) : List Nat := (List.range k).filter fun i => !em (nth s i) && !has parts (nth s i)

theorem getD_mem {s : List ByteArray} {i : Nat} (h : i < s.length) : nth s i ∈ s := by
  rw [nth_at h]
  exact List.getElem_mem h
theorem setOk_ne {s : List ByteArray} (h : SetOk s) {i j : Nat} (hi : i < s.length) (hj : j < s.length) (hne : i ≠ j) (he : em (nth s i) = false) : nth s i ≠ nth s j := by
  have hp := List.pairwise_iff_getElem.mp h.2.2.2
  have e1 : nth s i = s[i] := nth_at hi
  have e2 : nth s j = s[j] := nth_at hj
  rw [e1] at he
  rw [e1, e2]
  rcases Nat.lt_or_ge i j with h1 | h1
  · exact hp i j hi hj h1 he
  · intro e
    exact hp j i hj hi (by omega) (e ▸ he) e.symm

theorem room_next {s parts : List ByteArray} {later : List (List ByteArray)} (hs : SetOk s) (hpa : PaOk parts) {R : List Nat} (hR : R.Perm (spares s parts s.length)) (hsort : R.Pairwise fun i j => better later (nth s j) (nth s i) = false) (hl : (missOf s parts).length ≤ (empties s s.length ++ R).length) :
    fill s (empties s s.length ++ R) (missOf s parts) = nextOf s parts later := by
  have hmR : ∀ i, i ∈ R ↔ i < s.length ∧ em (nth s i) = false ∧ nth s i ∉ parts := fun i => by
    rw [hR.mem_iff]
    simp [spares, has_false]
  have hmE : ∀ i, i ∈ empties s s.length ↔ i < s.length ∧ em (nth s i) = true := fun i => by simp [empties]
  have hnR : R.Nodup := hR.nodup_iff.mpr (List.nodup_range.filter _)
  have hnE : (empties s s.length).Nodup := List.nodup_range.filter _
  refine fill_next parts later _ s _ ?_ ?_ ?_ ?_ ?_ hl
  · rw [List.nodup_append]
    refine ⟨hnE, hnR, fun a ha b hb e => ?_⟩
    subst e
    have h1 := (hmE a).mp ha
    have h2 := (hmR a).mp hb
    rw [h1.2] at h2
    exact absurd h2.2.1 (by simp)
  · intro i hi
    rcases List.mem_append.mp hi with h | h
    · exact ((hmE i).mp h).1
    · exact ((hmR i).mp h).1
  · intro i hi
    rw [List.mem_append, hmE, hmR]
    unfold cand
    cases h1 : em (nth s i) <;> cases h2 : has parts (nth s i) <;> simp [hi, ← has_iff, h2]
  · rw [List.pairwise_append]
    refine ⟨?_, ?_, ?_⟩
    · have : (empties s s.length).Pairwise fun i j => i < j := List.pairwise_lt_range.filter _
      refine this.imp_of_mem ?_
      intro a b ha hb hab
      exact .inl ⟨((hmE a).mp ha).2, fun _ => hab⟩
    · have h2 : R.Pairwise fun i j => i ≠ j := hnR
      refine (hsort.and h2).imp_of_mem ?_
      rintro a b ha hb ⟨hab, hne⟩
      have ha' := (hmR a).mp ha
      have hb' := (hmR b).mp hb
      exact .inr ⟨ha'.2.1, hb'.2.1, better_total (setOk_ne hs ha'.1 hb'.1 hne ha'.2.1) hab⟩
    · intro a ha b hb
      refine .inl ⟨((hmE a).mp ha).2, fun h => ?_⟩
      rw [((hmR b).mp hb).2.1] at h
      cases h
  · intro x hx
    have h := List.mem_filter.mp hx
    exact ⟨h.1, key_not_em (hpa.1 x h.1)⟩

theorem nodup_sub {α : Type} (l : List α) : ∀ m : List α, l.Nodup → (∀ x ∈ l, x ∈ m) → l.length ≤ m.length := by
  induction l with
  | nil => intro m _ _; exact Nat.zero_le _
  | cons x l ih =>
    intro m hn hs
    obtain ⟨a, b, rfl⟩ := List.append_of_mem (hs x (by simp))
    have hn' := List.nodup_cons.mp hn
    have := ih (a ++ b) hn'.2 (fun y hy => by
      rcases List.mem_append.mp (hs y (List.mem_cons_of_mem _ hy)) with h | h
      · exact List.mem_append_left _ h
      · rcases List.mem_cons.mp h with e | h
        · subst e; exact absurd hy hn'.1
        · exact List.mem_append_right _ h)
    simp at this ⊢
    omega
/-- There is room for what is missing. -/
theorem room_enough {s parts : List ByteArray} (hs : SetOk s) (hpa : PaOk parts) (hl : parts.length ≤ s.length) {R : List Nat} (hR : R.Perm (spares s parts s.length)) : (missOf s parts).length ≤ (empties s s.length ++ R).length := by
  -- the slots that are not taken hold parts of the product, each of them once
  let keep := (List.range s.length).filter fun i => !em (nth s i) && has parts (nth s i)
  have h1 : (empties s s.length).length + (spares s parts s.length).length + keep.length = s.length := by
    have : ∀ l : List Nat, (l.filter fun i => em (nth s i)).length + (l.filter fun i => !em (nth s i) && !has parts (nth s i)).length + (l.filter fun i => !em (nth s i) && has parts (nth s i)).length = l.length := by
      intro l
      induction l with
      | nil => rfl
      | cons a l ih =>
        simp only [List.filter_cons]
        cases em (nth s a) <;> cases has parts (nth s a) <;> simp <;> omega
    have := this (List.range s.length)
    simpa [empties, spares, keep] using this
  have hndp : parts.Nodup := hpa.2.imp fun h e => by subst e; exact List.lt_irrefl _ h
  have h2 : (parts.filter fun x => has s x).length + (missOf s parts).length = parts.length := by
    have : ∀ l : List ByteArray, (l.filter fun x => has s x).length + (l.filter fun x => !has s x).length = l.length := by
      intro l
      induction l with
      | nil => rfl
      | cons a l ih =>
        simp only [List.filter_cons]
        cases has s a <;> simp <;> omega
    exact this parts
  -- the kept slots' parts are without repetition among the parts that are there
  have h3 : keep.length ≤ (parts.filter fun x => has s x).length := by
    have hm : (keep.map fun i => nth s i).length ≤ (parts.filter fun x => has s x).length := by
      refine nodup_sub _ _ ?_ ?_
      · rw [List.Nodup, List.pairwise_map]
        have hn : keep.Pairwise fun i j => i ≠ j := List.nodup_range.filter _
        refine hn.imp_of_mem ?_
        intro a b ha hb hne
        have ha' := List.mem_filter.mp ha
        have hb' := List.mem_filter.mp hb
        simp only [List.mem_range, Bool.and_eq_true, Bool.not_eq_eq_eq_not, Bool.not_true] at ha' hb'
        exact setOk_ne hs ha'.1 hb'.1 hne ha'.2.1
      · intro x hx
        obtain ⟨i, hi, rfl⟩ := List.mem_map.mp hx
        have hi' := List.mem_filter.mp hi
        simp only [List.mem_range, Bool.and_eq_true] at hi'
        exact List.mem_filter.mpr ⟨has_iff.mp hi'.2.2, has_iff.mpr (getD_mem hi'.1)⟩
    simpa using hm
  rw [List.length_append, hR.length_eq]
  omega
/-- The next setup is a right one. -/
theorem nextGo_ok {parts : List ByteArray} {later : List (List ByteArray)} (xs : List ByteArray) : ∀ out : List ByteArray, SetOk out → xs.Nodup → (∀ x ∈ xs, keyB x = true ∧ x ∉ out) → SetOk (nextGo parts later out xs) := by
  induction xs with
  | nil => intro out h _ _; exact h
  | cons x xs ih =>
    intro out h hn hx
    rw [nextGo]
    have hn' := List.nodup_cons.mp hn
    have hx0 := hx x (by simp)
    cases hb : pickB parts later out out.length with
    | none => exact ih out h hn'.2 fun y hy => hx y (List.mem_cons_of_mem _ hy)
    | some i =>
      have hi := (pickB_lt _ _ _ _ _ hb).1
      have hm : ∀ y, y ∈ out.set i x → y = x ∨ y ∈ out := fun y hy => by
        rcases List.mem_or_eq_of_mem_set hy with h | h
        · exact .inr h
        · exact .inl h
      refine ih _ ⟨?_, by rw [List.length_set]; exact h.2.1, ?_, ?_⟩ hn'.2 (fun y hy => ⟨(hx y (List.mem_cons_of_mem _ hy)).1, fun hc => ?_⟩)
      · intro e
        have := congrArg List.length e
        rw [List.length_set] at this
        exact h.1 (List.length_eq_zero_iff.mp (by simpa using this))
      · intro y hy
        rcases hm y hy with rfl | h2
        · exact .inr hx0.1
        · exact h.2.2.1 y h2
      · rw [List.pairwise_iff_getElem]
        intro a b ha hb hab he
        rw [List.length_set] at ha hb
        have hp := List.pairwise_iff_getElem.mp h.2.2.2 a b ha hb hab
        rw [List.getElem_set] at he ⊢
        rw [List.getElem_set]
        split at he
        · rename_i e
          subst e
          rw [if_pos rfl, if_neg (by omega)]
          exact fun e => hx0.2 (e ▸ List.getElem_mem hb)
        · rename_i e
          rw [if_neg e]
          split
          · exact fun e => hx0.2 (e ▸ List.getElem_mem ha)
          · exact hp he
      · rcases hm y hc with rfl | h2
        · exact hn'.1 hy
        · exact (hx y (List.mem_cons_of_mem _ hy)).2 h2
theorem missOf_nodup {s parts : List ByteArray} (hpa : PaOk parts) : (missOf s parts).Nodup := by
  have : parts.Nodup := hpa.2.imp fun h e => by subst e; exact List.lt_irrefl _ h
  exact this.filter _
theorem missOf_mem {s parts : List ByteArray} {x : ByteArray} (h : x ∈ missOf s parts) : x ∈ parts ∧ x ∉ s := by
  have h := List.mem_filter.mp h
  exact ⟨h.1, has_false.mp (by simpa using h.2)⟩
theorem nextOf_ok {s parts : List ByteArray} {later : List (List ByteArray)} (h : SetOk s) (hpa : PaOk parts) : SetOk (nextOf s parts later) :=
  nextGo_ok _ _ h (missOf_nodup hpa) fun x hx => ⟨hpa.1 x (missOf_mem hx).1, (missOf_mem hx).2⟩

/-- The setups for products in an order, and the loads of all. -/
def setupsOf : List ByteArray → List (List ByteArray) → List (List ByteArray)
  | _, [] => []
  | s, l :: r => nextOf s l r :: setupsOf (nextOf s l r) r
def sumOf : List ByteArray → List (List ByteArray) → Nat
  | _, [] => 0
  | s, x :: r => loadsOf s x + sumOf x r
def totalOf (s : List ByteArray) (p : List (List ByteArray)) : Nat := sumOf s (setupsOf s p)
theorem setupsOf_len (p : List (List ByteArray)) : ∀ s, (setupsOf s p).length = p.length := by
  induction p with
  | nil => intro s; rfl
  | cons l r ih => intro s; simp [setupsOf, ih]
/-- The setup before product k, and the one behind. -/
def upTo (s : List ByteArray) (p : List (List ByteArray)) : Nat → List ByteArray
  | 0 => s
  | k + 1 => nextOf (upTo s p k) (p.getD k []) (p.drop (k + 1))
theorem upTo_cons (s l : List ByteArray) (r : List (List ByteArray)) : ∀ k, upTo s (l :: r) (k + 1) = upTo (nextOf s l r) r k := by
  intro k
  induction k with
  | zero => rfl
  | succ k ih => rw [upTo, ih, upTo]; rfl
theorem setupsOf_map (p : List (List ByteArray)) : ∀ s, setupsOf s p = (List.range p.length).map fun k => upTo s p (k + 1) := by
  induction p with
  | nil => intro s; rfl
  | cons l r ih =>
    intro s
    rw [setupsOf, ih, List.length_cons, List.range_succ_eq_map, List.map_cons, List.map_map]
    congr 1
    refine List.map_congr_left fun k _ => ?_
    exact (upTo_cons s l r (k + 1)).symm
theorem upTo_ok {s : List ByteArray} {p : List (List ByteArray)} (h : SetOk s) (hp : ∀ l ∈ p, PaOk l) : ∀ k, k ≤ p.length → SetOk (upTo s p k) ∧ (upTo s p k).length = s.length := by
  intro k
  induction k with
  | zero => intro _; exact ⟨h, rfl⟩
  | succ k ih =>
    intro hk
    obtain ⟨a, b⟩ := ih (by omega)
    have hm : p.getD k [] ∈ p := by rw [List.getD_eq_getElem?_getD, List.getElem?_eq_getElem (show k < p.length by omega)]; exact List.getElem_mem _
    exact ⟨nextOf_ok a (hp _ hm), by rw [upTo, nextOf_length, b]⟩
end Go.Proofs.Ytjmjmijjdgolfaa
