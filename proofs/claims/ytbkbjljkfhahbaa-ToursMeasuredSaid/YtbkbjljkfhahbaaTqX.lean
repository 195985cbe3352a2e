/-
  Turning a part of a tour: plain words.
-/
import Derived.Test.YtbkbjljkfhahbaaTqC
import Derived.Deep.LoopGhost
namespace Go.Proofs.Ytbkbjljkfhahbaa
open Go.RowKit
set_option linter.unusedSimpArgs false
set_option linter.unusedVariables false

/-- How long a way over points is. -/
def sumP : List (Int × Int) → Int
  | a :: b :: r => apart a b + sumP (b :: r)
  | _ => 0
theorem sumP_app (a : Int × Int) (Y : List (Int × Int)) : ∀ X : List (Int × Int), sumP (X ++ a :: Y) = sumP (X ++ [a]) + sumP (a :: Y)
  | [] => by show sumP (a :: Y) = 0 + sumP (a :: Y); omega
  | [x] => by
    show apart x a + sumP (a :: Y) = (apart x a + 0) + sumP (a :: Y)
    omega
  | x :: x' :: X => by
    have h := sumP_app a Y (x' :: X)
    show apart x x' + sumP (x' :: X ++ a :: Y) = (apart x x' + sumP (x' :: X ++ [a])) + sumP (a :: Y)
    rw [h]
    omega
theorem sumP_rev : ∀ M : List (Int × Int), sumP M.reverse = sumP M
  | [] => rfl
  | [a] => rfl
  | a :: b :: r => by
    have h := sumP_rev (b :: r)
    rw [List.reverse_cons, List.reverse_cons, List.append_assoc]
    show sumP (r.reverse ++ b :: [a]) = _
    rw [sumP_app, ← List.reverse_cons, h]
    show sumP (b :: r) + (apart b a + 0) = apart a b + sumP (b :: r)
    rw [apart_comm b a]
    omega
theorem sumP_mid (X : List (Int × Int)) (a : Int × Int) (M : List (Int × Int)) (d : Int × Int) (Y : List (Int × Int)) {m0 m1 : Int × Int} (h0 : M.head? = some m0) (h1 : M.getLast? = some m1) :
    sumP (X ++ a :: (M ++ d :: Y)) = sumP (X ++ [a]) + apart a m0 + sumP M + apart m1 d + sumP (d :: Y) := by
  rw [sumP_app]
  have e2 : sumP (a :: (M ++ d :: Y)) = apart a m0 + sumP (M ++ d :: Y) := by
    cases M with
    | nil => cases h0
    | cons m R =>
      simp only [List.head?_cons, Option.some.injEq] at h0
      subst h0
      rfl
  have e3 : sumP (M ++ d :: Y) = sumP M + apart m1 d + sumP (d :: Y) := by
    obtain ⟨L, hL⟩ : ∃ L, M = L ++ [m1] := by
      have hne : M ≠ [] := by rintro rfl; cases h1
      refine ⟨M.dropLast, ?_⟩
      have := List.dropLast_concat_getLast hne
      rw [List.getLast?_eq_some_getLast hne] at h1
      injection h1 with h1
      rw [h1] at this
      exact this.symm
    rw [hL, List.append_assoc]
    show sumP (L ++ m1 :: (d :: Y)) = _
    rw [sumP_app]
    show _ + (apart m1 d + sumP (d :: Y)) = _
    omega
  rw [e2, e3]
  omega
theorem lenFrom_sumP (s : Int × Int) (l : List (Int × Int)) : ∀ (o : List Int) (a : Int × Int), lenFrom s l a o = sumP (a :: (o.map (ptAt l) ++ [s]))
  | [], a => by show apart a s = apart a s + 0; omega
  | k :: r, a => by
    show apart a (ptAt l k) + lenFrom s l (ptAt l k) r = apart a (ptAt l k) + sumP (ptAt l k :: (r.map (ptAt l) ++ [s]))
    rw [lenFrom_sumP s l r]

/-- An order of which a part is turned. -/
def tl (o : List Int) (i k : Nat) : List Int := o.take i ++ ((o.drop i).take (k + 1 - i)).reverse ++ o.drop (k + 1)
theorem tl_len {o : List Int} {i k : Nat} (hi : i ≤ k) (hk : k < o.length) : (tl o i k).length = o.length := by
  unfold tl
  simp only [List.length_append, List.length_take, List.length_reverse, List.length_drop]
  omega
theorem tl_mem {o : List Int} {i k : Nat} {x : Int} (h : x ∈ tl o i k) : x ∈ o := by
  unfold tl at h
  rcases List.mem_append.mp h with h | h
  · rcases List.mem_append.mp h with h | h
    · exact List.mem_of_mem_take h
    · exact List.mem_of_mem_drop (List.mem_of_mem_take (List.mem_reverse.mp h))
  · exact List.mem_of_mem_drop h
/-- The point at a place of a tour: the start ahead of the first one and behind the last one. -/
def plAt (s : Int × Int) (l : List (Int × Int)) (o : List Int) (j : Int) : Int × Int := if j < 0 ∨ j = o.length then s else ptAt l (o.getD j.toNat 0)
theorem plAt_ok {s : Int × Int} {l : List (Int × Int)} (hs : okPt s = true) (hl : ∀ p ∈ l, okPt p = true) (o : List Int) (j : Int) : okPt (plAt s l o j) = true := by
  unfold plAt
  split
  · exact hs
  · exact ptAt_ok hl _
theorem plAt_end (s : Int × Int) (l : List (Int × Int)) (o : List Int) (j : Int) (h : j < 0 ∨ j = o.length) : plAt s l o j = s := if_pos h
theorem plAt_mid (s : Int × Int) (l : List (Int × Int)) (o : List Int) {j : Nat} (h : j < o.length) : plAt s l o j = ptAt l o[j] := by
  unfold plAt
  rw [if_neg (by omega), show ((j : Int)).toNat = j from rfl, List.getD_eq_getElem?_getD, List.getElem?_eq_getElem h]
  rfl
/-- Turning the part makes the tour shorter, by the ways to the part and from it. -/
def shw (s : Int × Int) (l : List (Int × Int)) (o : List Int) (i k : Nat) : Bool := decide (apart (plAt s l o ((i : Int) - 1)) (plAt s l o k) + apart (plAt s l o i) (plAt s l o ((k : Int) + 1)) < apart (plAt s l o ((i : Int) - 1)) (plAt s l o i) + apart (plAt s l o k) (plAt s l o ((k : Int) + 1)))
theorem lenOf_tl (s : Int × Int) (l : List (Int × Int)) (o : List Int) {i k : Nat} (hi : i ≤ k) (hk : k < o.length) :
    lenOf s l (tl o i k) + (apart (plAt s l o ((i : Int) - 1)) (plAt s l o i) + apart (plAt s l o k) (plAt s l o ((k : Int) + 1))) = lenOf s l o + (apart (plAt s l o ((i : Int) - 1)) (plAt s l o k) + apart (plAt s l o i) (plAt s l o ((k : Int) + 1))) := by
  have hM0 : (((o.drop i).take (k + 1 - i)).map (ptAt l)).head? = some (plAt s l o i) := by
    rw [plAt_mid s l o (by omega : i < o.length), List.head?_eq_getElem?, List.getElem?_map, List.getElem?_take_of_lt (by omega), List.getElem?_drop, Nat.add_zero, List.getElem?_eq_getElem (by omega)]
    rfl
  have hM1 : (((o.drop i).take (k + 1 - i)).map (ptAt l)).getLast? = some (plAt s l o k) := by
    rw [plAt_mid s l o hk, List.getLast?_eq_getElem?, List.getElem?_map]
    have e : (((o.drop i).take (k + 1 - i)).map (ptAt l)).length - 1 = k - i := by
      rw [List.length_map, List.length_take, List.length_drop]; omega
    rw [e, List.getElem?_take_of_lt (by omega), List.getElem?_drop, show i + (k - i) = k from by omega, List.getElem?_eq_getElem hk]
    rfl
  obtain ⟨X, hX⟩ : ∃ X, s :: (o.take i).map (ptAt l) = X ++ [plAt s l o ((i : Int) - 1)] := by
    cases i with
    | zero => exact ⟨[], by rw [plAt_end _ _ _ _ (.inl (by omega))]; rfl⟩
    | succ i =>
      refine ⟨s :: (o.take i).map (ptAt l), ?_⟩
      rw [show ((i + 1 : Nat) : Int) - 1 = (i : Int) from by omega, plAt_mid s l o (by omega : i < o.length), ← List.take_append_getElem (by omega : i < o.length), List.map_append]
      rfl
  obtain ⟨Y, hY⟩ : ∃ Y, (o.drop (k + 1)).map (ptAt l) ++ [s] = plAt s l o ((k : Int) + 1) :: Y := by
    by_cases hkl : k + 1 < o.length
    · refine ⟨(o.drop (k + 2)).map (ptAt l) ++ [s], ?_⟩
      rw [show ((k : Int) + 1) = ((k + 1 : Nat) : Int) from by omega, plAt_mid s l o hkl, List.drop_eq_getElem_cons hkl]
      rfl
    · refine ⟨[], ?_⟩
      rw [plAt_end _ _ _ _ (.inr (by omega)), List.drop_eq_nil_of_le (by omega)]
      rfl
  have hsp : o = o.take i ++ (o.drop i).take (k + 1 - i) ++ o.drop (k + 1) := by
    have h1 : o.drop (k + 1) = (o.drop i).drop (k + 1 - i) := by rw [List.drop_drop]; congr 1; omega
    rw [h1, List.append_assoc, List.take_append_drop, List.take_append_drop]
  have h1 : lenOf s l o = sumP (X ++ plAt s l o ((i : Int) - 1) :: (((o.drop i).take (k + 1 - i)).map (ptAt l) ++ plAt s l o ((k : Int) + 1) :: Y)) := by
    unfold lenOf
    rw [lenFrom_sumP]
    congr 1
    conv => lhs; rw [hsp]
    rw [List.map_append, List.map_append, List.append_assoc, List.append_assoc, hY, ← List.cons_append, hX, List.append_assoc]
    rfl
  have h2 : lenOf s l (tl o i k) = sumP (X ++ plAt s l o ((i : Int) - 1) :: ((((o.drop i).take (k + 1 - i)).map (ptAt l)).reverse ++ plAt s l o ((k : Int) + 1) :: Y)) := by
    unfold lenOf tl
    rw [lenFrom_sumP]
    congr 1
    rw [List.map_append, List.map_append, List.append_assoc, List.append_assoc, hY, ← List.cons_append, hX, List.append_assoc, List.map_reverse]
    rfl
  rw [h1, h2, sumP_mid X _ _ _ Y hM0 hM1, sumP_mid X _ _ _ Y (by rw [List.head?_reverse]; exact hM1) (by rw [List.getLast?_reverse]; exact hM0), sumP_rev]
  omega
theorem shw_iff (s : Int × Int) (l : List (Int × Int)) (o : List Int) {i k : Nat} (hi : i ≤ k) (hk : k < o.length) : shw s l o i k = decide (lenOf s l (tl o i k) < lenOf s l o) := by
  have h := lenOf_tl s l o hi hk
  unfold shw
  congr 1
  apply propext
  constructor <;> (intro h'; omega)

/-- No turn makes it shorter, of those ahead of a place: first parts that begin earlier, then of the same beginning those that end earlier. -/
def Calm (s : Int × Int) (l : List (Int × Int)) (o : List Int) (i k : Nat) : Prop := ∀ a b, a < b → b < o.length → (a < i ∨ (a = i ∧ b < k)) → shw s l o a b = false
theorem Calm.zero (s : Int × Int) (l : List (Int × Int)) (o : List Int) : Calm s l o 0 1 := fun a b h1 h2 h3 => by omega
theorem Calm.next {s : Int × Int} {l : List (Int × Int)} {o : List Int} {i k : Nat} (h : Calm s l o i k) (hs : shw s l o i k = false) : Calm s l o i (k + 1) := fun a b h1 h2 h3 => by
  by_cases e : a = i ∧ b = k
  · rw [e.1, e.2]; exact hs
  · exact h a b h1 h2 (by omega)
theorem Calm.down {s : Int × Int} {l : List (Int × Int)} {o : List Int} {i k : Nat} (h : Calm s l o i k) (hk : o.length ≤ k) : Calm s l o (i + 1) (i + 2) := fun a b h1 h2 h3 => h a b h1 h2 (by omega)
/-- What an order turns into. -/
inductive Imp (s : Int × Int) (l : List (Int × Int)) : List Int → List Int → Prop
  | done (o : List Int) (h : ∀ a b, a < b → b < o.length → shw s l o a b = false) : Imp s l o o
  | step (o : List Int) (i k : Nat) (r : List Int) (hi : i < k) (hk : k < o.length) (hc : Calm s l o i k) (hs : shw s l o i k = true) (hr : Imp s l (tl o i k) r) : Imp s l o r
theorem Imp.one {s : Int × Int} {l : List (Int × Int)} {o r r' : List Int} (h : Imp s l o r) (h' : Imp s l o r') : r = r' := by
  induction h with
  | done o h =>
    cases h' with
    | done => rfl
    | step _ i k _ hi hk hc hs => rw [h i k hi hk] at hs; cases hs
  | step o i k r hi hk hc hs hr ih =>
    cases h' with
    | done _ h => rw [h i k hi hk] at hs; cases hs
    | step _ i' k' _ hi' hk' hc' hs' hr' =>
      have e1 : i = i' := by
        rcases Nat.lt_trichotomy i i' with hlt | he | hlt
        · rw [hc' i k hi hk (.inl hlt)] at hs; cases hs
        · exact he
        · rw [hc i' k' hi' hk' (.inl hlt)] at hs'; cases hs'
      subst e1
      have e2 : k = k' := by
        rcases Nat.lt_trichotomy k k' with hlt | he | hlt
        · rw [hc' i k hi hk (.inr ⟨rfl, hlt⟩)] at hs; cases hs
        · exact he
        · rw [hc i k' hi' hk' (.inr ⟨rfl, hlt⟩)] at hs'; cases hs'
      subst e2
      exact ih hr'
theorem tl_short {s : Int × Int} {l : List (Int × Int)} {o : List Int} {i k : Nat} (hi : i ≤ k) (hk : k < o.length) (h : shw s l o i k = true) : lenOf s l (tl o i k) < lenOf s l o := by
  rw [shw_iff s l o hi hk] at h
  exact of_decide_eq_true h
theorem imp_some {s : Int × Int} {l : List (Int × Int)} (hs : okPt s = true) (hl : ∀ p ∈ l, okPt p = true) : ∀ (n : Nat) (o : List Int), (lenOf s l o).toNat ≤ n → ∃ r, Imp s l o r := by
  intro n
  induction n with
  | zero =>
    intro o hn
    refine ⟨o, .done o fun a b h1 h2 => ?_⟩
    cases hsh : shw s l o a b
    · rfl
    · have := tl_short (by omega : a ≤ b) h2 hsh
      have := (lenFrom_bd hs hl (tl o a b) s hs).1
      unfold lenOf at *
      omega
  | succ n ih =>
    intro o hn
    by_cases hex : ∃ a b, a < b ∧ b < o.length ∧ shw s l o a b = true
    · obtain ⟨a, ha⟩ := exists_least hex
      obtain ⟨⟨b0, hb0⟩, hal⟩ := ha
      obtain ⟨b, ⟨hb1, hb2, hb3⟩, hbl⟩ := exists_least (p := fun b => a < b ∧ b < o.length ∧ shw s l o a b = true) ⟨b0, hb0⟩
      have hsh := tl_short (by omega : a ≤ b) hb2 hb3
      have hnn := (lenFrom_bd hs hl (tl o a b) s hs).1
      have hnn' : 0 ≤ lenOf s l (tl o a b) := hnn
      obtain ⟨r, hr⟩ := ih (tl o a b) (by omega)
      refine ⟨r, .step o a b r hb1 hb2 (fun x y h1 h2 h3 => ?_) hb3 hr⟩
      cases hxy : shw s l o x y
      · rfl
      · rcases h3 with h3 | ⟨rfl, h3⟩
        · have := hal x ⟨y, h1, h2, hxy⟩; omega
        · have := hbl y ⟨h1, h2, hxy⟩; omega
    · refine ⟨o, .done o fun a b h1 h2 => ?_⟩
      cases hsh : shw s l o a b
      · rfl
      · exact absurd ⟨a, b, h1, h2, hsh⟩ hex
open Classical in
/-- The order that Improved tells. -/
noncomputable def impL (s : Int × Int) (l : List (Int × Int)) (o : List Int) : List Int := if h : ∃ r, Imp s l o r then Classical.choose h else o
theorem Imp.eq {s : Int × Int} {l : List (Int × Int)} {o r : List Int} (h : Imp s l o r) : r = impL s l o := by
  have hx : ∃ r, Imp s l o r := ⟨r, h⟩
  unfold impL
  rw [dif_pos hx]
  exact h.one (Classical.choose_spec hx)
theorem Imp.len {s : Int × Int} {l : List (Int × Int)} {o r : List Int} (h : Imp s l o r) : r.length = o.length := by
  induction h with
  | done => rfl
  | step o i k r hi hk hc hs hr ih => rw [ih, tl_len (by omega) hk]
theorem Imp.mem {s : Int × Int} {l : List (Int × Int)} {o r : List Int} (h : Imp s l o r) : ∀ x ∈ r, x ∈ o := by
  induction h with
  | done => exact fun _ h => h
  | step o i k r hi hk hc hs hr ih => exact fun x hx => tl_mem (ih x hx)
theorem imp_all {s : Int × Int} {l : List (Int × Int)} (hs : okPt s = true) (hl : ∀ p ∈ l, okPt p = true) (o : List Int) : Imp s l o (impL s l o) := by
  obtain ⟨r, hr⟩ := imp_some hs hl _ o (Nat.le_refl _)
  rw [← hr.eq]
  exact hr
/-- Turning on. -/
theorem Imp.back {s : Int × Int} {l : List (Int × Int)} {o0 o : List Int} {i k : Nat} (h : ∀ r, Imp s l o r → Imp s l o0 r) (hi : i < k) (hk : k < o.length) (hc : Calm s l o i k) (hs : shw s l o i k = true) : ∀ r, Imp s l (tl o i k) r → Imp s l o0 r :=
  fun r hr => h r (.step o i k r hi hk hc hs hr)
end Go.Proofs.Ytbkbjljkfhahbaa
