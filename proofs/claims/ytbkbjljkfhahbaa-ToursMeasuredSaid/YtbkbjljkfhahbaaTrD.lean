/-
  Improved: what was tried just before stays so; the program's function of functions.
-/
import Derived.Test.YtbkbjljkfhahbaaTrC
namespace Go.Proofs.Ytbkbjljkfhahbaa
open Go.RowKit
set_option linter.unusedSimpArgs false
set_option linter.unusedVariables false

theorem tl_get {o : List Int} {i k m : Nat} (hi : i ≤ k) (hk : k < o.length) (hm : m < i ∨ k < m) : (tl o i k)[m]? = o[m]? := by
  unfold tl
  have h1 : (o.take i).length = i := by rw [List.length_take]; omega
  have h2 : ((o.drop i).take (k + 1 - i)).reverse.length = k + 1 - i := by rw [List.length_reverse, List.length_take, List.length_drop]; omega
  rcases hm with hm | hm
  · rw [List.append_assoc, List.getElem?_append_left (by omega), List.getElem?_take_of_lt hm]
  · rw [List.getElem?_append_right (by rw [List.length_append]; omega), List.length_append, h1, h2, List.getElem?_drop]
    congr 1
    omega
theorem plAt_tl (s : Int × Int) (l : List (Int × Int)) {o : List Int} {i k : Nat} (hi : i ≤ k) (hk : k < o.length) {j : Int} (hj : j < i ∨ (k : Int) < j) : plAt s l (tl o i k) j = plAt s l o j := by
  unfold plAt
  rw [tl_len hi hk]
  split
  · rfl
  · rw [List.getD_eq_getElem?_getD, List.getD_eq_getElem?_getD, tl_get hi hk (by omega)]
theorem shw_tl (s : Int × Int) (l : List (Int × Int)) {o : List Int} {i k a b : Nat} (hi : i ≤ k) (hk : k < o.length) (ha : a < i) (hb : b + 1 < i ∨ k < b) : shw s l (tl o i k) a b = shw s l o a b := by
  unfold shw
  rw [plAt_tl s l hi hk (j := (a : Int) - 1) (by omega), plAt_tl s l hi hk (j := (a : Int)) (by omega), plAt_tl s l hi hk (j := (b : Int)) (by omega), plAt_tl s l hi hk (j := (b : Int) + 1) (by omega)]
/-- What is known of the parts that begin ahead of the part that was turned last. -/
def Known (s : Int × Int) (l : List (Int × Int)) (o : List Int) (F T : Nat) : Prop := ∀ a b, a < F → a < b → b < o.length → (b + 1 < F ∨ T ≤ b) → shw s l o a b = false
theorem Known.zero (s : Int × Int) (l : List (Int × Int)) (o : List Int) (T : Nat) : Known s l o 0 T := fun a b h => by omega
theorem Calm.known {s : Int × Int} {l : List (Int × Int)} {o : List Int} {i k : Nat} (h : Calm s l o i k) (hi : i < k) (hk : k < o.length) : Known s l (tl o i k) i (k + 1) := fun a b h1 h2 h3 h4 => by
  rw [shw_tl s l (by omega) hk h1 (by omega)]
  rw [tl_len (by omega) hk] at h3
  exact h a b h2 h3 (.inl h1)
/-- The rounds that are left. -/
def mu (L : Int) (n i : Nat) : Nat := L.toNat * (n + 1) + (n - i)
theorem mu_next {L : Int} {n i : Nat} (h : i < n) : mu L n (i + 1) < mu L n i := by unfold mu; omega
theorem mu_down {L L' : Int} {n i : Nat} (h0 : 0 ≤ L') (h : L' < L) : mu L' n 0 < mu L n i := by
  unfold mu
  have h1 : L'.toNat + 1 ≤ L.toNat := by omega
  have h2 := Nat.mul_le_mul_right (n + 1) h1
  rw [Nat.add_mul] at h2
  omega
/-- Where of a beginning the ends are that are tried: all others are known. -/
structure Ends (s : Int × Int) (l : List (Int × Int)) (o : List Int) (i F T : Nat) : Prop where
  low : i + 1 ≤ F
  mid : F ≤ T
  top : T ≤ o.length
  rest : ∀ b, i < b → b < o.length → (b < F ∨ T ≤ b) → shw s l o i b = false

/-- What tells whether a turn makes it shorter. -/
def isF (q : Nat) : Value := .func (.func 56) #[] #[.pointer (some ⟨q + 3, 0, none⟩)]
set_option maxHeartbeats 4000000 in
theorem shorterIn_any (s : Int × Int) (Ap Ao : Option Addr) (n1 n2 cp co : Nat) (w : World) :
    Calls Try.prog 49 #[.agg #[.int .i64 s.1, .int .i64 s.2], .slice Ap n1 cp, .slice Ao n2 co] w fun e w' => e = .returned (isF w.heap.size) ∧ SI w.heap.size s (.slice Ap n1 cp) (.slice Ao n2 co) w' ∧ Below w.heap.size w w' := by
  obtain ⟨s1, s2⟩ := s
  dsimp only
  go_enter Try.func49, Try.ntmps49
  go_wp2_with fail
  refine bodyPost_ret (v := isF w.heap.size) (by unfold results; simp only [Try.results49]; go_simp; rfl) rfl ⟨rfl, ⟨?_, ?_, ?_, ?_⟩, ?_⟩
  · exact blk_alloc (blk_alloc (blk_alloc (blk_new w _ rfl) _) _) _
  · exact blk_alloc (blk_alloc (blk_new _ _ (by simp)) _) _
  · exact blk_alloc (blk_new _ _ (by simp)) _
  · exact blk_new _ _ (by simp)
  · exact (((((Below.refl _ _).alloc (Nat.le_refl _) _).alloc (by simp) _).alloc (by simp; omega) _).alloc (by simp; omega) _)
end Go.Proofs.Ytbkbjljkfhahbaa
