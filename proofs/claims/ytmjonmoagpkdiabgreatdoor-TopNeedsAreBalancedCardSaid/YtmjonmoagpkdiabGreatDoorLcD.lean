/-
  What a machine can place, and what it has to do: small functions of loads; the slowest machine.
-/
import Derived.Test.YtmjonmoagpkdiabGreatDoorLcC
import Derived.Test.YtmjonmoagpkdiabGreatDoorSeC
import Derived.Test.YtmjonmoagpkdiabGreatDoorLmF
namespace Go.Proofs.YtmjonmoagpkdiabGreatDoor
open Go.RowKit
set_option linter.unusedSimpArgs false
set_option linter.unusedVariables false

set_option maxHeartbeats 2000000 in
theorem canPlace_any {base : Nat} (key : ByteArray) (each fixed feed : Int) (can : List ByteArray) {A : Option Addr} {c : Nat} (x : ByteArray) (hl : can.length ≤ 1000000) (hp : PaOk can) {w : World} (h : ReadsF base encS (.slice A can.length c) can w) :
    Calls Tryz.prog 39 #[.agg #[.string key, .int .i64 each, .int .i64 fixed, .int .i64 feed, .slice A can.length c], .string x] w fun e w' => e = .returned (.bool (has can x)) ∧ Below w.heap.size w w' := by
  have hba : Below w.heap.size w (w.alloc (.cells #[.string key, .int .i64 each, .int .i64 fixed, .int .i64 feed, .slice A can.length c] 38)) := (Below.refl _ _).alloc (Nat.le_refl _) _
  have H0 : Hid (Below w.heap.size w (w.alloc (.cells #[.string key, .int .i64 each, .int .i64 fixed, .int .i64 feed, .slice A can.length c] 38)) ∧ ReadsF base encS (.slice A can.length c) can (w.alloc (.cells #[.string key, .int .i64 each, .int .i64 fixed, .int .i64 feed, .slice A can.length c] 38)) ∧ (w.alloc (.cells #[.string key, .int .i64 each, .int .i64 fixed, .int .i64 feed, .slice A can.length c] 38)).heap[w.heap.size]? = some (.cells #[.string key, .int .i64 each, .int .i64 fixed, .int .i64 feed, .slice A can.length c] 38 (0, 0))) := ⟨hba, h.below hba, blk_new w _ rfl⟩
  clear hba h
  go_enter Tryz.func39, Tryz.ntmps39
  go_upto_region 1 with (fail)
  generalize w.alloc (.cells #[.string key, .int .i64 each, .int .i64 fixed, .int .i64 feed, .slice A can.length c] 38) = wx at *
  obtain ⟨p0, p1, p2, p3, p4⟩ := blk5 H0.out.2.2
  have pl := lt_of_blk H0.out.2.2
  obtain ⟨A', c', e, hcap, hr⟩ := H0.out.2.1
  cases e
  rcases Nat.eq_zero_or_pos can.length with h0 | h0
  · have hF := Lib.hid (has_false.mpr (show x ∉ can by rw [List.length_eq_zero_iff.mp h0]; simp))
    have CB := Lib.hid (fun W => Tryz.slices_BinarySearch_string_empty A c x W)
    rw [h0] at p4
    rw [h0]
    clear h0 hcap hr
    go_wp2_with fail
    refine (CB.out _).mono ?_
    rintro e w' ⟨rfl, rfl⟩
    go_wp2_with fail
    go_ret
    exact ⟨ret_bool hF.out.symm, H0.out.1⟩
  · rcases hr with rfl | ⟨g, rfl, _, hrow⟩
    · simp at h0
    have CB := Lib.hid (fun (W : World) (hc : ∀ j, j < can.length → W.cell? ⟨g, 0 + j, none⟩ = some (.string (can.getD j x))) => Tryz.slices_BinarySearch_string g 0 can.length c (fun t => can.getD t x) x W (by omega) hc)
    have HS := Lib.hid (halve_has hp x)
    simp only [HS.out] at CB
    have hcell : ∀ j, j < can.length → wx.cell? ⟨g, 0 + j, none⟩ = some (.string (can.getD j x)) := fun j hj => by
      rw [Nat.zero_add, List.getD_eq_getElem?_getD, List.getElem?_eq_getElem hj]
      exact row_strg hrow hj
    have HC := Lib.hid hcell
    clear hcell HS h0 hrow
    generalize hb : has can x = b at *
    have H9 := Lib.hid hb
    clear hb
    go_wp2_with fail
    refine (CB.out _ HC.out).mono ?_
    rintro e w' ⟨he, q, rfl⟩
    subst he
    go_wp2_with fail
    go_ret
    exact ⟨ret_bool H9.out.symm, below_drewN H0.out.1 q⟩

def encL (x : Int × Int) : List Value := [.int .i64 x.1, .int .i64 x.2]
theorem flatL_at (L : List (Int × Int)) {k : Nat} (hk : k < L.length) : (L.flatMap encL)[k * 2]? = some (.int .i64 L[k].1) ∧ (L.flatMap encL)[k * 2 + 1]? = some (.int .i64 L[k].2) :=
  ⟨flatK_at encL 2 (fun _ => rfl) L k hk 0 (by omega), flatK_at encL 2 (fun _ => rfl) L k hk 1 (by omega)⟩
theorem flatL_set : ∀ (L : List (Int × Int)) (k : Nat) (_ : k < L.length) (x y : Int), ((L.flatMap encL).set (k * 2) (.int .i64 x)).set (k * 2 + 1) (.int .i64 y) = (L.set k (x, y)).flatMap encL
  | [], k, h, _, _ => by simp at h
  | a :: r, 0, _, x, y => by simp [encL]
  | a :: r, k + 1, h, x, y => by
    have ih := flatL_set r k (by simpa using h) x y
    rw [List.set_cons_succ, List.flatMap_cons, List.flatMap_cons, ← ih, show (k + 1) * 2 = k * 2 + 1 + 1 by omega]
    rfl
theorem flatL_set0 : ∀ (L : List (Int × Int)) (k : Nat) (_ : k < L.length) (x : Int), (L.flatMap encL).set (k * 2) (.int .i64 x) = (L.set k (x, (L.getD k (0, 0)).2)).flatMap encL
  | [], k, h, _ => by simp at h
  | a :: r, 0, _, x => by simp [encL]
  | a :: r, k + 1, h, x => by
    have ih := flatL_set0 r k (by simpa using h) x
    rw [List.set_cons_succ, List.flatMap_cons, List.flatMap_cons, List.getD_cons_succ, ← ih, show (k + 1) * 2 = k * 2 + 1 + 1 by omega]
    rfl
theorem flatL_zero : ∀ n : Nat, (List.replicate n ((0 : Int), (0 : Int))).flatMap encL = List.replicate (n * 2) (Value.int .i64 0)
  | 0 => rfl
  | n + 1 => by
    rw [List.replicate_succ, List.flatMap_cons, flatL_zero n, show (n + 1) * 2 = n * 2 + 1 + 1 by omega, List.replicate_succ, List.replicate_succ]
    rfl
/-- A row of loads of its own. -/
structure LS (wo : World) (gb : Nat) (L : List (Int × Int)) (W : World) : Prop where
  bel : Below wo.heap.size wo W
  new : wo.heap.size ≤ gb
  row : W.heap[gb]? = some (.cells (L.flatMap encL).toArray 59 (0, 0))
theorem LS.then_ {wo : World} {gb : Nat} {L : List (Int × Int)} {W W' : World} (h : LS wo gb L W) (hb : Below W.heap.size W W') : LS wo gb L W' := ⟨h.bel.then_below hb h.bel.size, h.new, blk_below hb h.row⟩
theorem LS.at_ {wo : World} {gb : Nat} {L : List (Int × Int)} {W : World} (h : LS wo gb L W) {k : Nat} (hk : k < L.length) : W.cell? ⟨gb, k * 2, none⟩ = some (.int .i64 L[k].1) ∧ W.cell? ⟨gb, k * 2 + 1, none⟩ = some (.int .i64 L[k].2) := by
  obtain ⟨a, b⟩ := flatL_at L hk
  exact ⟨(cell_of_blk h.row _).trans (List.getElem?_toArray.trans a), (cell_of_blk h.row _).trans (List.getElem?_toArray.trans b)⟩
theorem LS.fr {wo : World} {gb : Nat} {L : List (Int × Int)} {W : World} (h : LS wo gb L W) (i : Nat) : W.frozen? ⟨gb, i, none⟩ = false := frozen_of_blk h.row i
theorem LS.set {wo : World} {gb : Nat} {L : List (Int × Int)} {W : World} (h : LS wo gb L W) {k : Nat} (hk : k < L.length) (x y : Int) : LS wo gb (L.set k (x, y)) ((W.setCell ⟨gb, k * 2, none⟩ (.int .i64 x)).setCell ⟨gb, k * 2 + 1, none⟩ (.int .i64 y)) := by
  have hn := h.new
  refine ⟨(h.bel.setCell hn _).setCell hn _, h.new, ?_⟩
  rw [← flatL_set L k hk x y]
  have := blk_set (blk_set h.row (i := k * 2) (.int .i64 x)) (i := k * 2 + 1) (.int .i64 y)
  simpa only [List.setIfInBounds_toArray] using this
theorem LS.set0 {wo : World} {gb : Nat} {L : List (Int × Int)} {W : World} (h : LS wo gb L W) {k : Nat} (hk : k < L.length) (x : Int) : LS wo gb (L.set k (x, (L.getD k (0, 0)).2)) (W.setCell ⟨gb, k * 2, none⟩ (.int .i64 x)) := by
  have hn := h.new
  refine ⟨h.bel.setCell hn _, h.new, ?_⟩
  rw [← flatL_set0 L k hk x]
  have := blk_set h.row (i := k * 2) (.int .i64 x)
  simpa only [List.setIfInBounds_toArray] using this

set_option maxHeartbeats 4000000 in
theorem with_any (cy pa : Int) (key : ByteArray) (each fixed feed : Int) (u : Value) (part : ByteArray) (many : Int) (w : World) (hc : 0 ≤ cy ∧ cy ≤ 1000000000000000) (hp : 0 ≤ pa ∧ pa ≤ 1000000) (he : 0 ≤ each ∧ each ≤ 10000000) (hm : 0 ≤ many ∧ many ≤ 1000) :
    Calls Tryz.prog 40 #[.agg #[.int .i64 cy, .int .i64 pa], .agg #[.string key, .int .i64 each, .int .i64 fixed, .int .i64 feed, u], .agg #[.string part, .int .i64 many]] w fun e w' => e = .returned (.agg #[.int .i64 (cy + each * many), .int .i64 (pa + 1)]) ∧ Below w.heap.size w w' := by
  have b1 : 0 ≤ each * many := Int.mul_nonneg he.1 hm.1
  have b2 : each * many ≤ 10000000 * 1000 := Int.mul_le_mul he.2 hm.2 hm.1 (by omega)
  have hw1 : IntKind.i64.wrap (each * many) = each * many := IntWalk.i64_in _ (by omega)
  have hw2 : IntKind.i64.wrap (cy + each * many) = cy + each * many := IntWalk.i64_in _ (by omega)
  have H0 : Hid (Below w.heap.size w ((((w.alloc (.cells #[.int .i64 cy, .int .i64 pa] 59)).alloc (.cells #[.string key, .int .i64 each, .int .i64 fixed, .int .i64 feed, u] 38)).alloc (.cells #[.string part, .int .i64 many] 36)).alloc (.cells #[.int .i64 0, .int .i64 0] 59)) ∧
    ((((w.alloc (.cells #[.int .i64 cy, .int .i64 pa] 59)).alloc (.cells #[.string key, .int .i64 each, .int .i64 fixed, .int .i64 feed, u] 38)).alloc (.cells #[.string part, .int .i64 many] 36)).alloc (.cells #[.int .i64 0, .int .i64 0] 59)).heap[w.heap.size]? = some (.cells #[.int .i64 cy, .int .i64 pa] 59 (0, 0)) ∧
    ((((w.alloc (.cells #[.int .i64 cy, .int .i64 pa] 59)).alloc (.cells #[.string key, .int .i64 each, .int .i64 fixed, .int .i64 feed, u] 38)).alloc (.cells #[.string part, .int .i64 many] 36)).alloc (.cells #[.int .i64 0, .int .i64 0] 59)).heap[w.heap.size + 1]? = some (.cells #[.string key, .int .i64 each, .int .i64 fixed, .int .i64 feed, u] 38 (0, 0)) ∧
    ((((w.alloc (.cells #[.int .i64 cy, .int .i64 pa] 59)).alloc (.cells #[.string key, .int .i64 each, .int .i64 fixed, .int .i64 feed, u] 38)).alloc (.cells #[.string part, .int .i64 many] 36)).alloc (.cells #[.int .i64 0, .int .i64 0] 59)).heap[w.heap.size + 1 + 1]? = some (.cells #[.string part, .int .i64 many] 36 (0, 0)) ∧
    ((((w.alloc (.cells #[.int .i64 cy, .int .i64 pa] 59)).alloc (.cells #[.string key, .int .i64 each, .int .i64 fixed, .int .i64 feed, u] 38)).alloc (.cells #[.string part, .int .i64 many] 36)).alloc (.cells #[.int .i64 0, .int .i64 0] 59)).heap[w.heap.size + 1 + 1 + 1]? = some (.cells #[.int .i64 0, .int .i64 0] 59 (0, 0))) :=
    ⟨((((Below.refl _ _).alloc (Nat.le_refl _) _).alloc (by simp) _).alloc (by simp; omega) _).alloc (by simp; omega) _, blk_alloc (blk_alloc (blk_alloc (blk_new w _ rfl) _) _) _, blk_alloc (blk_alloc (blk_new _ _ (by simp)) _) _, blk_alloc (blk_new _ _ (by simp)) _, blk_new _ _ (by simp)⟩
  go_enter Tryz.func40, Tryz.ntmps40
  go_upto_region 1 with (fail)
  generalize (((w.alloc (.cells #[.int .i64 cy, .int .i64 pa] 59)).alloc (.cells #[.string key, .int .i64 each, .int .i64 fixed, .int .i64 feed, u] 38)).alloc (.cells #[.string part, .int .i64 many] 36)).alloc (.cells #[.int .i64 0, .int .i64 0] 59) = wx at *
  obtain ⟨hB, k0, k1, k2, k3⟩ := H0.out
  obtain ⟨c0, c1⟩ := blk2c k0
  obtain ⟨_, d1, _, _, _⟩ := blk5 k1
  obtain ⟨_, e1⟩ := blk2c k2
  obtain ⟨z0, z1, f0, f1⟩ := blk2 k3
  have l0 := lt_of_blk k0
  have l1 := lt_of_blk k1
  have l2 := lt_of_blk k2
  have l3 := lt_of_blk k3
  have HB := Lib.hid hB
  clear k0 k1 k2 k3 hB H0
  go_wp2_with fail
  refine bodyPost_ret (v := .agg #[.int .i64 (cy + each * many), .int .i64 (pa + 1)]) (by unfold results; simp only [Tryz.results40]; go_simp) rfl ⟨rfl, (HB.out.setCell (by simp only; omega) _).setCell (by simp only; omega) _⟩

end Go.Proofs.YtmjonmoagpkdiabGreatDoor
