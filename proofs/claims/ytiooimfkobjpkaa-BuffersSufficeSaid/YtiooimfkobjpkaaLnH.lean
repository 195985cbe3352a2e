/-
  The reference's search for buffers: words, sums, comparisons.
-/
import Derived.Test.YtiooimfkobjpkaaLnK
import Derived.Test.YtiooimfkobjpkaaLnG
import Derived.Test.YtiooimfkobjpkaaApK
import Derived.Laws.EntriesVeiled
namespace Go.Proofs.Ytiooimfkobjpkaa
open Go.RowKit
set_option linter.unusedSimpArgs false
set_option linter.unusedVariables false

/-- An append leaves the rows as they read, and the blocks of one cell. -/
def SA (Z n : Nat) (xs : List Value) (a b : World) : Prop :=
  Below Z a b ∧ (∀ (q : Nat) (x : Value), a.heap[q]? = some (.cells #[x] 3 (0, 0)) → b.heap[q]? = some (.cells #[x] 3 (0, 0))) ∧ ∀ v, a.ownsRow Z 3 1 v n xs → b.ownsRow Z 3 1 v n xs
theorem SA.refl (Z n : Nat) (xs : List Value) (a : World) : SA Z n xs a a := ⟨Below.refl _ _, fun _ _ h => h, fun _ h => h⟩
theorem SA.trans {Z n : Nat} {xs : List Value} {a b c : World} (h : SA Z n xs a b) (k : SA Z n xs b c) : SA Z n xs a c := ⟨h.1.trans k.1, fun q x hq => k.2.1 q x (h.2.1 q x hq), fun v hv => k.2.2 v (h.2.2 v hv)⟩
theorem SA.of_below {Z n : Nat} {xs : List Value} {a b : World} (h : Below a.heap.size a b) (hZ : Z ≤ a.heap.size) : SA Z n xs a b := ⟨h.mono hZ, fun q x hq => blk_below h hq, fun v hv => own_below hv h⟩
theorem SA.append {Z n : Nat} {xs : List Value} {a b : World} {v : Value} (hZ : Z ≤ a.heap.size) (hown : a.ownsRow Z 3 1 v n xs) (hkeep : b.ownsRow Z 3 1 v n xs) (hg : a.grownBy b v.ownBlock) (hn : n = 0 → v = .slice none 0 0) : SA Z n xs a b := by
  refine ⟨(Below.refl _ _).grown hg hZ (own_row hown), fun q x hq => ?_, fun u hu => ?_⟩
  · by_cases e : some q = v.ownBlock
    · rcases hown.2 with ⟨rfl, _⟩ | ⟨g, cap, cur, rfl, _, hk, hnc, _, hs, ht⟩
      · cases e
      · cases e
        rw [hq] at hk
        injection hk with hk
        injection hk with h1 _ _
        subst h1
        rcases hkeep.2 with ⟨h2, _⟩ | ⟨g', cap', cur', h2, _, hk', _, _, hs', ht'⟩
        · cases h2
        · injection h2 with h3 h4 h5
          injection h3 with h3
          injection h3 with h3
          subst h3
          subst h5
          have hc1 : cap = 1 := by simpa using hs.symm
          subst hc1
          have hn1 : n = 1 := by
            rcases Nat.eq_zero_or_pos n with h0 | h0
            · have := hn h0; cases this
            · omega
          subst hn1
          have : cur' = #[x] := by
            have h6 : cur'.toList.take 1 = [x] := by
              rw [show (1 : Nat) = 1 * 1 from rfl, ht', ← ht]
              rfl
            have h7 : cur'.toList.length = 1 := by simpa using hs'
            rw [List.take_of_length_le (by omega)] at h6
            rw [← Array.toArray_toList (xs := cur'), h6]
          rw [hk', this]
    · exact (hg.block q (lt_of_blk hq) e).trans hq
  · by_cases e : u.ownBlock = none ∨ u.ownBlock ≠ v.ownBlock
    · refine hu.kept hg ?_
      rcases e with e | e
      · exact .inl e
      · exact .inr (fun h => e h)
    · have e1 : u.ownBlock = v.ownBlock := Classical.byContradiction fun h => e (.inr h)
      have e2 : u.ownBlock ≠ none := fun h => e (.inl h)
      have : u = v := by
        rcases hu.2 with ⟨rfl, _⟩ | ⟨g, cap, cur, rfl, _, hk, _, _, hs, _⟩
        · exact absurd rfl e2
        · rcases hown.2 with ⟨rfl, _⟩ | ⟨g', cap', cur', rfl, _, hk', _, _, hs', _⟩
          · cases e1
          · cases e1
            rw [hk] at hk'
            injection hk' with hk'
            injection hk' with h1 _ _
            subst h1
            have : cap = cap' := by omega
            rw [this]
      rw [this]
      exact hkeep
/-- A region's relation: nothing has turned below its beginning. -/
def GZ (Z : Nat) (a b : World) : Prop := a.heap.size ≤ b.heap.size ∧ (Z ≤ a.heap.size → Below Z a b)
theorem GZ.refl (Z : Nat) (a : World) : GZ Z a a := ⟨Nat.le_refl _, fun _ => Below.refl _ _⟩
theorem GZ.trans {Z : Nat} {a b c : World} (h : GZ Z a b) (k : GZ Z b c) : GZ Z a c := ⟨Nat.le_trans h.1 k.1, fun hz => (h.2 hz).trans (k.2 (Nat.le_trans hz h.1))⟩
theorem GZ.of_below {Z : Nat} {a b : World} (h : Below a.heap.size a b) : GZ Z a b := ⟨h.size, fun hz => h.mono hz⟩
theorem GZ.of_SA {Z n : Nat} {xs : List Value} {a b : World} (h : SA Z n xs a b) : GZ Z a b := ⟨h.1.size, fun _ => h.1⟩

/-- The sum of numbers. -/
def sumI : List Int → Int
  | [] => 0
  | x :: r => x + sumI r
theorem sumI_nonneg : ∀ (l : List Int), (∀ x ∈ l, 0 ≤ x) → 0 ≤ sumI l
  | [], _ => by simp [sumI]
  | x :: r, h => by
    have h1 := h x (by simp)
    have h2 := sumI_nonneg r fun y hy => h y (by simp [hy])
    simp only [sumI]
    omega
theorem sumI_le : ∀ (l : List Int), (∀ x ∈ l, x ≤ 2000) → sumI l ≤ (l.length : Int) * 2000
  | [], _ => by simp [sumI]
  | x :: r, h => by
    have h1 := h x (by simp)
    have h2 := sumI_le r fun y hy => h y (by simp [hy])
    simp only [sumI, List.length_cons]
    push_cast
    omega
theorem sumI_rep (n : Nat) (x : Int) : sumI (List.replicate n x) = (n : Int) * x := by
  induction n with
  | zero => simp [sumI]
  | succ n ih =>
    rw [List.replicate_succ]
    simp only [sumI]
    rw [ih]
    push_cast
    rw [Int.add_mul]
    omega
theorem sumI_zero : ∀ (l : List Int), (∀ x ∈ l, 0 ≤ x) → sumI l = 0 → l = List.replicate l.length 0
  | [], _, _ => rfl
  | x :: r, h, e => by
    have h1 := h x (by simp)
    have h2 := sumI_nonneg r fun y hy => h y (by simp [hy])
    simp only [sumI] at e
    obtain rfl : x = 0 := by omega
    have h3 := sumI_zero r (fun y hy => h y (by simp [hy])) (by omega)
    rw [List.length_cons, List.replicate_succ, ← h3]

set_option maxHeartbeats 1000000 in
theorem sumN_any (l : List Int) (hl : l.length ≤ 1000) (hx : ∀ x ∈ l, 0 ≤ x ∧ x ≤ 2000) {v : Value} {w : World} (h : Reads encN v l w) :
    Calls Try.prog 69 #[v] w fun e w' => e = .returned (.int .i64 (sumI l)) ∧ Below w.heap.size w w' := by
  have HH := Lib.hid h
  have HX := Lib.hid hx
  obtain ⟨A, c, rfl, _⟩ := h
  clear hx
  obtain ⟨S, hS⟩ : ∃ S, sumI l = S := ⟨_, rfl⟩
  have HS0 := Lib.hid hS
  rw [hS]
  clear hS
  go_enter Try.func69, Try.ntmps69
  go_wp2_with fail
  go_loopw [3, 8] (fun tv kk wr => ∃ (k : Nat) (T : Int), k ≤ l.length ∧ kk = .int .i64 k ∧ tv = .int .i64 T ∧ 0 ≤ T ∧ T ≤ (k : Int) * 2000 ∧ Hid (T + sumI (l.drop k) = S) ∧ Hid (Below w.heap.size w wr)) (fun _ kk _ => l.length - (intOf kk).toNat)
  case atStart => exact ⟨0, 0, by omega, rfl, rfl, by omega, by omega, by rw [List.drop_zero, Int.zero_add]; exact HS0.out, Below.refl _ _⟩
  case round =>
    obtain ⟨k, T, hk, rfl, rfl, hT0, hT1, HI, HB⟩ := hrel
    by_cases hlt : k < l.length
    · obtain ⟨x, hx⟩ : ∃ x, l[k] = x := ⟨_, rfl⟩
      have hxb := HX.out l[k] (List.getElem_mem hlt)
      rw [hx] at hxb
      obtain ⟨A', c', e, hr⟩ := HH.out.below HB.out
      cases e
      rcases hr with rfl | ⟨g, rfl, hrow⟩
      · simp at hlt
      have hc := row_n hrow hlt
      rw [hx] at hc
      have hgl := hrow.1
      have HI2 : Hid (T + x + sumI (l.drop (k + 1)) = S) := by
        have := HI.out
        rw [drop_at l hlt, hx] at this
        simp only [sumI] at this
        show _ = _
        omega
      clear hx HI hrow
      have i1 : (0 : Int) ≤ (k : Int) := by omega
      have i2 : (k : Int) < (l.length : Int) := by omega
      go_wp2_with fail
      go_roundw
      case rel => exact ⟨k + 1, T + x, by omega, by go_num, rfl, by omega, by push_cast; omega, HI2, HB⟩
      case measure => simp [intOf]; omega
    · obtain rfl : k = l.length := by omega
      have HF : Hid (T = S) := by
        have := HI.out
        rw [List.drop_length] at this
        simp only [sumI] at this
        show _ = _
        omega
      go_wp2_with fail
      go_ret
      exact ⟨ret_int HF.out, HB.out⟩
theorem compareInt_self (x : Int) : Lib.compareInt x x = 0 := by
  unfold Lib.compareInt
  rw [if_neg (Int.lt_irrefl _), if_neg (Int.lt_irrefl _)]
set_option maxHeartbeats 1000000 in
theorem cmpEq_any (l : List Int) (hl : l.length ≤ 1000) {v1 v2 : Value} {w : World} (h1 : Reads encN v1 l w) (h2 : Reads encN v2 l w) :
    Calls Try.prog 70 #[v1, v2] w fun e w' => e = .returned (.int .i64 0) ∧ Below w.heap.size w w' := by
  have HH := Lib.hid (And.intro h1 h2)
  obtain ⟨A, c, rfl, _⟩ := h1
  obtain ⟨A2, c2, rfl, _⟩ := h2
  go_enter Try.func70, Try.ntmps70
  go_wp2_with fail
  go_loopw [11] (fun kk wr => ∃ (k : Nat), k ≤ l.length ∧ kk = .int .i64 k ∧ Hid (Below w.heap.size w wr)) (fun kk _ => l.length - (intOf kk).toNat)
  case atStart => exact ⟨0, by omega, rfl, Below.refl _ _⟩
  case round =>
    obtain ⟨k, hk, rfl, HB⟩ := hrel
    by_cases hlt : k < l.length
    · obtain ⟨x, hx⟩ : ∃ x, l[k] = x := ⟨_, rfl⟩
      obtain ⟨A', c', e, hr⟩ := HH.out.1.below HB.out
      cases e
      rcases hr with rfl | ⟨g, rfl, hrow⟩
      · simp at hlt
      obtain ⟨A', c', e, hr2⟩ := HH.out.2.below HB.out
      cases e
      rcases hr2 with rfl | ⟨g2, rfl, hrow2⟩
      · simp at hlt
      have hc := row_n hrow hlt
      have hc2 := row_n hrow2 hlt
      rw [hx] at hc hc2
      have hgl := hrow.1
      have hgl2 := hrow2.1
      have CC := Lib.hid (fun W => Try.cmp_Compare_int x x W)
      rw [compareInt_self] at CC
      clear hx hrow hrow2
      have i1 : (0 : Int) ≤ (k : Int) := by omega
      have i2 : (k : Int) < (l.length : Int) := by omega
      have i3 : ¬ (l.length : Int) ≤ (k : Int) := by omega
      go_wp2_with fail
      refine (CC.out _).mono ?_
      rintro e w2 ⟨rfl, rfl⟩
      go_wp2_with fail
      go_roundw
      case rel => exact ⟨k + 1, by omega, by go_num, HB⟩
      case measure => simp [intOf]; omega
    · obtain rfl : k = l.length := by omega
      go_wp2_with fail
      go_ret
      exact ⟨rfl, HB.out⟩
end Go.Proofs.Ytiooimfkobjpkaa
