/-
  A number that is repeated.
-/
import Derived.Test.YtopoemfnnnfgdaaGreatDoorLcH
import Derived.Laws.CopyOwn
import Derived.Test.YtopoemfnnnfgdaaGreatDoorRgS
namespace Go.Proofs.YtopoemfnnnfgdaaGreatDoor
open Go.RowKit
set_option linter.unusedSimpArgs false
set_option linter.unusedVariables false

theorem run_makeInts (n : Nat) (hn : n ≤ 1000000) (W : World) : (Instr.makeSlice 22 (.int .i64 n) (.int .i64 n)).run Tryz.prog W = .ok (.slice (some ⟨W.heap.size, 0, none⟩) n n) (W.alloc (.cells (List.replicate n (Value.int .i64 0)).toArray 3)) := by
  rw [List.toArray_replicate]
  exact run_makeI n hn W
/-- So many times x, then 0. -/
def rpC (x : Int) (z : Nat) (j : Nat) : Value := .int .i64 (if j < z then x else 0)
def rpL (x : Int) (z c : Nat) : List Value := (List.range c).map (rpC x z)
theorem rpL_len (x : Int) (z c : Nat) : (rpL x z c).length = c := by simp [rpL]
theorem rpL_at (x : Int) {z c j : Nat} (hj : j < c) : (rpL x z c)[j]? = some (rpC x z j) := by
  unfold rpL
  rw [List.getElem?_map, List.getElem?_range hj]
  rfl
theorem rpL_seg (x : Int) {y z m c : Nat} (hy : z ≤ y) (h : z + m ≤ c) : (rpL x y c).take z ++ rpL x m m ++ (rpL x y c).drop (z + (rpL x m m).length) = rpL x (max y (z + m)) c := by
  apply List.ext_getElem?
  intro j
  rw [rpL_len]
  have h1 : ((rpL x y c).take z).length = z := by rw [List.length_take, rpL_len]; omega
  by_cases hj : j < c
  · rw [rpL_at x hj, List.append_assoc]
    by_cases hz : j < z
    · rw [List.getElem?_append_left (by omega), List.getElem?_take_of_lt hz, rpL_at x hj]
      unfold rpC
      rw [if_pos (by omega), if_pos (by omega)]
    · rw [List.getElem?_append_right (by omega), h1]
      by_cases hm : j < z + m
      · rw [List.getElem?_append_left (by rw [rpL_len]; omega), rpL_at x (by omega)]
        unfold rpC
        rw [if_pos (by omega), if_pos (by omega)]
      · rw [List.getElem?_append_right (by rw [rpL_len]; omega), rpL_len, List.getElem?_drop, rpL_at x (by omega)]
        unfold rpC
        have e1 : (z + m + (j - z - m) < y) ↔ (j < max y (z + m)) := by omega
        simp only [e1]
  · rw [List.getElem?_eq_none (by rw [List.length_append, List.length_append, h1, rpL_len, List.length_drop, rpL_len]; omega), List.getElem?_eq_none (by rw [rpL_len]; omega)]
theorem rpL_full (x : Int) (c : Nat) : rpL x c c = (List.replicate c x).map (Value.int .i64) := by
  apply List.ext_getElem?
  intro j
  by_cases hj : j < c
  · rw [rpL_at x hj]
    unfold rpC
    rw [if_pos hj]
    simp [hj]
  · rw [List.getElem?_eq_none (by rw [rpL_len]; omega), List.getElem?_eq_none (by simp; omega)]
theorem rpL_zero (x : Int) (c : Nat) : rpL x 0 c = List.replicate c (Value.int .i64 0) := by
  unfold rpL rpC
  refine List.ext_getElem (by simp) fun j h1 h2 => ?_
  simp

theorem run_copy_rp {w : World} (x : Int) (ty : TypeId) (g y z m c dLen dCap gs sLen sCap : Nat) (hg : w.heap[g]? = some (.cells (rpL x y c).toArray 3 (0, 0))) (hm : m = Nat.min sLen dLen) (hy : z ≤ y) (hz : z + m ≤ c)
    (hsrc : ∀ j, j < m → w.cell? ⟨gs, j, none⟩ = some (rpC x m j)) :
    (Builtin.copy_ #[22, 22] ty #[.slice (some ⟨g, z, none⟩) dLen dCap, .slice (some ⟨gs, 0, none⟩) sLen sCap]).run Tryz.prog w = .ok (.int .i64 (m : Int)) (w.setRow g (rpL x (max y (z + m)) c).toArray) := by
  have hsz : (Tryz.prog.info? 3).map (·.size) = some 1 := by
    obtain ⟨i0, hi, _, hz1, _⟩ := info_parts int_infoN
    rw [hi]
    simp [hz1]
  have hrun := run_copy_row (P := Tryz.prog) w 22 22 ty 3 g z dLen dCap ⟨gs, 0, none⟩ sLen sCap (rpL x y c).toArray 3 (rpL x m m) Tryz.underlying22 hsz hg (by rw [rpL_len]; exact hm) (fun j u hu => by
    have hj : j < m := by
      have := (List.getElem?_eq_some_iff.mp hu).1
      rw [rpL_len] at this
      exact this
    rw [rpL_at x hj] at hu
    have hu2 := Option.some.inj hu
    rw [addr_new, ← hu2]
    exact hsrc j hj) (by rw [rpL_len]; simp [rpL_len]; omega) (fun u hu => by
      obtain ⟨j, _, rfl⟩ := List.mem_map.mp hu
      rfl)
  rw [hrun]
  rw [show (rpL x y c).toArray.toList = rpL x y c from rfl, rpL_seg x hy hz, rpL_len]
  rfl

/-- So many at least are laid. -/
def RpB (x : Int) (g z c : Nat) (W : World) : Prop := ∃ y, z ≤ y ∧ y ≤ c ∧ W.heap[g]? = some (.cells (rpL x y c).toArray 3 (0, 0))
theorem RpB.lt {x : Int} {g z c : Nat} {W : World} (h : RpB x g z c W) : g < W.heap.size := lt_of_blk h.choose_spec.2.2
theorem RpB.below {x : Int} {g z c : Nat} {W W' : World} (h : RpB x g z c W) (hb : Below W.heap.size W W') : RpB x g z c W' := by
  obtain ⟨y, h1, h2, h3⟩ := h
  exact ⟨y, h1, h2, blk_below hb h3⟩
/-- Nothing turns below, and what is laid stays. -/
def RpR (x : Int) (g z c : Nat) (a b : World) : Prop := a.heap.size ≤ b.heap.size ∧ (g ≤ a.heap.size → Below g a b) ∧ (RpB x g z c a → RpB x g z c b)
theorem RpR.refl (x : Int) (g z c : Nat) (a : World) : RpR x g z c a a := ⟨Nat.le_refl _, fun _ => Below.refl _ _, fun h => h⟩
theorem RpR.trans {x : Int} {g z c : Nat} {a b d : World} (h : RpR x g z c a b) (k : RpR x g z c b d) : RpR x g z c a d := ⟨Nat.le_trans h.1 k.1, fun hz => (h.2.1 hz).trans (k.2.1 (Nat.le_trans hz h.1)), fun y => k.2.2 (h.2.2 y)⟩
theorem RpR.of_below {x : Int} {g z c : Nat} {a b : World} (h : Below a.heap.size a b) : RpR x g z c a b := ⟨h.size, fun hz => h.mono hz, fun y => y.below h⟩

set_option maxRecDepth 100000 in
set_option maxHeartbeats 4000000 in
theorem repeatN_any (x : Int) (gx c : Nat) (h1 : 1 ≤ c) (h2 : c ≤ 1000) {w : World} (hx : w.heap[gx]? = some (.cells #[.int .i64 x] 3 (0, 0))) :
    Calls Tryz.prog 40 #[.slice (some ⟨gx, 0, none⟩) 1 1, .int .i64 c] w fun e w' => ∃ g : Nat, e = .returned (.slice (some ⟨g, 0, none⟩) c c) ∧ Below w.heap.size w w' ∧ w.heap.size ≤ g ∧ w'.heap[g]? = some (.cells (rpL x c c).toArray 3 (0, 0)) := by
  have CM := Lib.hid (fun W => Tryz.bits_Mul 1 c (by omega) (by omega) W)
  have e1 : (1 * c / 18446744073709551616 : Nat) = 0 := by omega
  have e2 : (1 * c % 18446744073709551616 : Nat) = c := by omega
  rw [e1, e2] at CM
  have hmk := run_makeInts c (by omega)
  rw [← rpL_zero x] at hmk
  have HX := Lib.hid hx
  have q0 := blk_cell0 hx
  have hgx := lt_of_blk hx
  clear e1 e2 hx
  go_enter Tryz.func40, Tryz.ntmps40
  go_wp2_with fail
  refine (CM.out _).mono ?_
  rintro e wq ⟨rfl, rfl⟩
  clear CM
  go_wp2_with fail
  have hg0 : (wq.alloc (.cells (rpL x 0 c).toArray 3)).heap[wq.heap.size]? = some (.cells (rpL x 0 c).toArray 3 (0, 0)) := blk_new wq _ rfl
  have hrun := run_copy_rp (w := wq.alloc (.cells (rpL x 0 c).toArray 3)) x 3 wq.heap.size 0 0 1 c c c gx 1 1 hg0 (Nat.min_eq_left h1).symm (by omega) (by omega) (fun j hj => by
    have p0 := blk_cell0 (blk_alloc HX.out (.cells (rpL x 0 c).toArray 3))
    obtain rfl : j = 0 := by omega
    exact p0)
  rw [hrun]
  clear hrun
  have H0 : Hid (Below wq.heap.size wq ((wq.alloc (.cells (rpL x 0 c).toArray 3)).setRow wq.heap.size (rpL x (max 0 (0 + 1)) c).toArray) ∧ ((wq.alloc (.cells (rpL x 0 c).toArray 3)).setRow wq.heap.size (rpL x (max 0 (0 + 1)) c).toArray).heap[wq.heap.size]? = some (.cells (rpL x 1 c).toArray 3 (0, 0))) := ⟨below_setRow ((Below.refl _ _).alloc (Nat.le_refl _) _) (Nat.le_refl _) _, setRow_heap _ _ _ _ _ _ hg0⟩
  generalize (wq.alloc (.cells (rpL x 0 c).toArray 3)).setRow wq.heap.size (rpL x (max 0 (0 + 1)) c).toArray = wx at *
  clear hg0 q0 hgx
  obtain ⟨g, hg⟩ : ∃ g, wq.heap.size = g := ⟨_, rfl⟩
  have HG := Lib.hid hg
  clear hg
  go_wp2_with fail
  go_loopw [8] (fun nv wr => ∃ z : Nat, 1 ≤ z ∧ z ≤ c ∧ nv = .int .i64 z ∧ Hid (Below wq.heap.size wq wr ∧ RpB x wq.heap.size z c wr)) (fun nv _ => c - (intOf nv).toNat)
  case atStart => exact ⟨1, by omega, by omega, rfl, H0.out.1, 1, by omega, by omega, H0.out.2⟩
  case round =>
    clear H0
    obtain ⟨z, hz1, hz2, rfl, HS⟩ := hrel
    by_cases hlt : z < c
    · have hgl : wq.heap.size < wr.heap.size := HS.out.2.lt
      have hcz : ¬ c = z := by omega
      have i1 : (0 : Int) ≤ (z : Int) := by omega
      have i2 : (z : Int) < (c : Int) := by omega
      obtain ⟨m, HMm, hm1, hm2, hm3⟩ : ∃ m, Hid (m = Nat.min z (c - z)) ∧ m ≤ c - z ∧ m ≤ z ∧ 1 ≤ m := by
        refine ⟨Nat.min z (c - z), rfl, Nat.min_le_right _ _, Nat.min_le_left _ _, ?_⟩
        show 1 ≤ min z (c - z)
        rw [Nat.min_def]
        split <;> omega
      obtain ⟨W0, rfl⟩ : ∃ W0 : World, W0 = wr := ⟨_, rfl⟩
      go_wp2_with fail
      refine Rg.rgS2 7 (RpR x wq.heap.size z c) (fun a b => Below a.heap.size a b) (RpR x wq.heap.size z c)
        [(fun vs u => vs 0 = .int .i64 z), (fun vs u => vs 1 = .slice (some ⟨wq.heap.size, 0, none⟩) c c), (fun vs u => vs 2 = .int .i64 z), (fun vs u => vs 3 = .slice (some ⟨wq.heap.size, z, none⟩) (c - z) (c - z)), (fun vs u => vs 4 = .slice (some ⟨wq.heap.size, 0, none⟩) c c), (fun vs u => vs 5 = .int .i64 z), (fun vs u => vs 6 = .slice (some ⟨wq.heap.size, 0, none⟩) z c), (fun vs u => RpB x wq.heap.size (z + m) c u ∧ vs 7 = .int .i64 m)]
        [[], [], [], [1, 2], [], [], [4, 5], [1, 2, 3, 4, 5, 6]] [some 38, some 39, some 40, some 41, some 42, some 43, some 44, some 45, some 46, some 8] [] (fun _ _ => True) [[], [], [], [1, 2], [], [], [4, 5], [1, 2, 3, 4, 5, 6], [0, 1, 2, 3, 4, 5, 6, 7], [0, 1, 2, 3, 4, 5, 6, 7, 8]]
        (by kernel_rfl) (by decide) (by kernel_rfl) (by kernel_rfl) (by kernel_rfl) (by kernel_rfl) (by kernel_rfl) (fun _ => RpR.refl _ _ _ _ _) (fun _ _ _ h k => h.trans k) (fun _ _ h => h.1) (fun _ _ h => RpR.of_below h) (fun _ _ h => h) ?_ ?_ trivial ?_ ?_
      · intro j vs w w' h hE
        match j, h with
        | 0, h => exact h
        | 1, h => exact h
        | 2, h => exact h
        | 3, h => exact h
        | 4, h => exact h
        | 5, h => exact h
        | 6, h => exact h
        | 7, h =>
          have h : RpB x wq.heap.size (z + m) c w ∧ vs 7 = .int .i64 m := h
          show RpB x wq.heap.size (z + m) c w' ∧ vs 7 = .int .i64 m
          obtain ⟨k, e⟩ := h
          exact ⟨k.below hE, e⟩
        | (j + 8), h => exact h
      · intro j hj hc vs w w' h hE
        match j, hj, hc, h with
        | 0, _, _, h => exact h
        | 1, _, _, h => exact h
        | 2, _, _, h => exact h
        | 3, _, _, h => exact h
        | 4, _, _, h => exact h
        | 5, _, _, h => exact h
        | 6, _, _, h => exact h
        | 7, hj, _, _ => exact absurd rfl hj
        | (j + 8), _, _, h => exact h
      ·
        refine Rg.cons 0 1 rfl (Rg.plain rfl ?_) ?_
        · intro vs W n hn hI hG hT hF K hK
          simp only [Rg.putsD, List.getD_cons_zero, List.getD_cons_succ, Act.put, List.setIfInBounds_toArray, List.set_cons_zero, List.set_cons_succ] at hK ⊢
          clear hn
          clear hF
          have H := Lib.hid hK
          clear hK hT
          go_simp
          exact H.out _ _ ((Below.refl _ _)) rfl (fun h => by cases h) hI
        refine Rg.cons 1 2 rfl (Rg.plain rfl ?_) ?_
        · intro vs W n hn hI hG hT hF K hK
          simp only [Rg.putsD, List.getD_cons_zero, List.getD_cons_succ, Act.put, List.setIfInBounds_toArray, List.set_cons_zero, List.set_cons_succ] at hK ⊢
          clear hn
          clear hF
          have H := Lib.hid hK
          clear hK hT
          go_simp
          exact H.out _ _ ((Below.refl _ _)) rfl (fun h => by cases h) hI
        refine Rg.cons 2 3 rfl (Rg.plain rfl ?_) ?_
        · intro vs W n hn hI hG hT hF K hK
          simp only [Rg.putsD, List.getD_cons_zero, List.getD_cons_succ, Act.put, List.setIfInBounds_toArray, List.set_cons_zero, List.set_cons_succ] at hK ⊢
          clear hn
          clear hF
          have H := Lib.hid hK
          clear hK hT
          go_simp
          exact H.out _ _ ((Below.refl _ _)) rfl (fun h => by cases h) hI
        refine Rg.cons 3 4 rfl (Rg.plain rfl ?_) ?_
        · intro vs W n hn hI hG hT hF K hK
          simp only [Rg.putsD, List.getD_cons_zero, List.getD_cons_succ, Act.put, List.setIfInBounds_toArray, List.set_cons_zero, List.set_cons_succ] at hK ⊢
          clear hn
          clear hF
          have t1 : vs 1 = .slice (some ⟨wq.heap.size, 0, none⟩) c c := hT 1 (by decide)
          have t2 : vs 2 = .int .i64 z := hT 2 (by decide)
          simp only [t1, t2] at hK
          have H := Lib.hid hK
          clear hK hT
          go_simp
          exact H.out _ _ ((Below.refl _ _)) rfl (fun h => by cases h) hI
        refine Rg.cons 4 5 rfl (Rg.plain rfl ?_) ?_
        · intro vs W n hn hI hG hT hF K hK
          simp only [Rg.putsD, List.getD_cons_zero, List.getD_cons_succ, Act.put, List.setIfInBounds_toArray, List.set_cons_zero, List.set_cons_succ] at hK ⊢
          clear hn
          clear hF
          have H := Lib.hid hK
          clear hK hT
          go_simp
          exact H.out _ _ ((Below.refl _ _)) rfl (fun h => by cases h) hI
        refine Rg.cons 5 6 rfl (Rg.plain rfl ?_) ?_
        · intro vs W n hn hI hG hT hF K hK
          simp only [Rg.putsD, List.getD_cons_zero, List.getD_cons_succ, Act.put, List.setIfInBounds_toArray, List.set_cons_zero, List.set_cons_succ] at hK ⊢
          clear hn
          clear hF
          have H := Lib.hid hK
          clear hK hT
          go_simp
          exact H.out _ _ ((Below.refl _ _)) rfl (fun h => by cases h) hI
        refine Rg.cons 6 7 rfl (Rg.plain rfl ?_) ?_
        · intro vs W n hn hI hG hT hF K hK
          simp only [Rg.putsD, List.getD_cons_zero, List.getD_cons_succ, Act.put, List.setIfInBounds_toArray, List.set_cons_zero, List.set_cons_succ] at hK ⊢
          clear hn
          clear hF
          have t4 : vs 4 = .slice (some ⟨wq.heap.size, 0, none⟩) c c := hT 4 (by decide)
          have t5 : vs 5 = .int .i64 z := hT 5 (by decide)
          simp only [t4, t5] at hK
          have H := Lib.hid hK
          clear hK hT
          go_simp
          exact H.out _ _ ((Below.refl _ _)) rfl (fun h => by cases h) hI
        refine Rg.cons 7 8 rfl (Rg.plain rfl ?_) ?_
        · intro vs W n hn hI hG hT hF K hK
          simp only [Rg.putsD, List.getD_cons_zero, List.getD_cons_succ, Act.put, List.setIfInBounds_toArray, List.set_cons_zero, List.set_cons_succ] at hK ⊢
          clear hn
          clear hF
          have t1 : vs 1 = .slice (some ⟨wq.heap.size, 0, none⟩) c c := hT 1 (by decide)
          have t2 : vs 2 = .int .i64 z := hT 2 (by decide)
          have t3 : vs 3 = .slice (some ⟨wq.heap.size, z, none⟩) (c - z) (c - z) := hT 3 (by decide)
          have t4 : vs 4 = .slice (some ⟨wq.heap.size, 0, none⟩) c c := hT 4 (by decide)
          have t5 : vs 5 = .int .i64 z := hT 5 (by decide)
          have t6 : vs 6 = .slice (some ⟨wq.heap.size, 0, none⟩) z c := hT 6 (by decide)
          obtain ⟨y, hy1, hy2, hbk⟩ := hG.2.2 HS.out.2
          simp only [t1, t2, t3, t4, t5, t6] at hK
          have H := Lib.hid hK
          clear hK hT
          go_simp
          have hrun := run_copy_rp (w := W) x 3 wq.heap.size y z m c (c - z) (c - z) wq.heap.size z c hbk HMm.out hy1 (by omega) (fun j hj => by
          rw [cell_of_blk hbk]
          have : (rpL x y c).toArray[j]? = (rpL x y c)[j]? := by simp
          rw [this, rpL_at x (by omega)]
          unfold rpC
          rw [if_pos (by omega), if_pos (by omega)])
          rw [hrun]
          exact H.out _ _ ⟨by simp, fun hz => below_setRow (Below.refl _ _) (Nat.le_refl _) _, fun _ => ⟨max y (z + m), by omega, by omega, setRow_heap _ _ _ _ _ _ hbk⟩⟩ ⟨⟨max y (z + m), by omega, by omega, setRow_heap _ _ _ _ _ _ hbk⟩, rfl⟩ (fun h => by cases h) trivial
        exact Rg.nil
      · intro vs W hG hI hT hF
        have t0 : vs 0 = .int .i64 z := hT 0 (by decide)
        have t1 : vs 1 = .slice (some ⟨wq.heap.size, 0, none⟩) c c := hT 1 (by decide)
        have t2 : vs 2 = .int .i64 z := hT 2 (by decide)
        have t3 : vs 3 = .slice (some ⟨wq.heap.size, z, none⟩) (c - z) (c - z) := hT 3 (by decide)
        have t4 : vs 4 = .slice (some ⟨wq.heap.size, 0, none⟩) c c := hT 4 (by decide)
        have t5 : vs 5 = .int .i64 z := hT 5 (by decide)
        have t6 : vs 6 = .slice (some ⟨wq.heap.size, 0, none⟩) z c := hT 6 (by decide)
        have t7 : RpB x wq.heap.size (z + m) c W ∧ vs 7 = .int .i64 m := hT 7 (by decide)
        simp only [List.length_cons, List.length_nil, Nat.reduceAdd, List.range, List.range.loop, List.drop_succ_cons, List.drop_zero, Rg.putsD, List.getD_cons_zero, List.getD_cons_succ, Act.put, List.setIfInBounds_toArray, List.set_cons_zero, List.set_cons_succ, t0, t1, t2, t3, t4, t5, t6]
        clear hT t0 t1 t2 t3 t4 t5 t6
        have HF : Hid (Below wq.heap.size wq W ∧ RpB x wq.heap.size (z + m) c W) := ⟨(HS.out.1.drew).trans (hG.2.1 HS.out.1.size), t7.1⟩
        have e7 := t7.2
        simp only [e7]
        clear hF hG hI HS t7 e7
        go_wp2_with fail
        go_roundw
        case rel => exact ⟨z + m, by omega, by omega, by go_num, HF⟩
        case measure => simp [intOf]; omega
    · obtain rfl : z = c := by omega
      go_wp2_with fail
      go_ret
      obtain ⟨y, hy1, hy2, hk⟩ := HS.out.2
      obtain rfl : y = z := by omega
      exact ⟨_, rfl, HS.out.1, Nat.le_refl _, hk⟩

set_option maxRecDepth 100000 in
set_option maxHeartbeats 4000000 in
theorem repeat0_any (x : Int) (gx : Nat) {w : World} (hx : w.heap[gx]? = some (.cells #[.int .i64 x] 3 (0, 0))) :
    Calls Tryz.prog 40 #[.slice (some ⟨gx, 0, none⟩) 1 1, .int .i64 0] w fun e w' => ∃ g : Nat, e = .returned (.slice (some ⟨g, 0, none⟩) 0 0) ∧ Below w.heap.size w w' ∧ w.heap.size ≤ g ∧ w'.heap[g]? = some (.cells (rpL x 0 0).toArray 3 (0, 0)) := by
  have CM := Lib.hid (fun W => Tryz.bits_Mul 1 0 (by omega) (by omega) W)
  rw [show (1 * 0 / 18446744073709551616 : Nat) = 0 from rfl, show (1 * 0 % 18446744073709551616 : Nat) = 0 from rfl] at CM
  have hmk : ∀ W : World, (Instr.makeSlice 22 (.int .i64 0) (.int .i64 0)).run Tryz.prog W = .ok (.slice (some ⟨W.heap.size, 0, none⟩) 0 0) (W.alloc (.cells (rpL x 0 0).toArray 3)) := by
    have h := run_makeInts 0 (by omega)
    rw [← rpL_zero x] at h
    exact h
  have HX := Lib.hid hx
  have q0 := blk_cell0 hx
  have hgx := lt_of_blk hx
  clear hx
  go_enter Tryz.func40, Tryz.ntmps40
  go_wp2_with fail
  refine (CM.out _).mono ?_
  rintro e wq ⟨rfl, rfl⟩
  clear CM
  go_wp2_with fail
  have hg0 : (wq.alloc (.cells (rpL x 0 0).toArray 3)).heap[wq.heap.size]? = some (.cells (rpL x 0 0).toArray 3 (0, 0)) := blk_new wq _ rfl
  have hrun := run_copy_rp (w := wq.alloc (.cells (rpL x 0 0).toArray 3)) x 3 wq.heap.size 0 0 0 0 0 0 gx 1 1 hg0 rfl (by omega) (by omega) (fun j hj => by omega)
  rw [hrun]
  clear hrun
  have H0 : Hid (Below wq.heap.size wq ((wq.alloc (.cells (rpL x 0 0).toArray 3)).setRow wq.heap.size (rpL x (max 0 (0 + 0)) 0).toArray) ∧ ((wq.alloc (.cells (rpL x 0 0).toArray 3)).setRow wq.heap.size (rpL x (max 0 (0 + 0)) 0).toArray).heap[wq.heap.size]? = some (.cells (rpL x 0 0).toArray 3 (0, 0))) := ⟨below_setRow ((Below.refl _ _).alloc (Nat.le_refl _) _) (Nat.le_refl _) _, setRow_heap _ _ _ _ _ _ hg0⟩
  generalize (wq.alloc (.cells (rpL x 0 0).toArray 3)).setRow wq.heap.size (rpL x (max 0 (0 + 0)) 0).toArray = wx at *
  clear hg0 q0 hgx
  go_wp2_with fail
  go_loopw [8] (fun nv wr => nv = .int .i64 0 ∧ Hid (Below wq.heap.size wq wr ∧ wr.heap[wq.heap.size]? = some (.cells (rpL x 0 0).toArray 3 (0, 0)))) (fun nv _ => 0)
  case atStart => exact ⟨rfl, H0⟩
  case round =>
    obtain ⟨rfl, HS⟩ := hrel
    go_wp2_with fail
    go_ret
    exact ⟨_, rfl, HS.out.1, Nat.le_refl _, HS.out.2⟩
/-- slices.Repeat of one number. -/
theorem repeatR_any (x : Int) (gx c : Nat) (h2 : c ≤ 1000) {w : World} (hx : w.heap[gx]? = some (.cells #[.int .i64 x] 3 (0, 0))) :
    Calls Tryz.prog 40 #[.slice (some ⟨gx, 0, none⟩) 1 1, .int .i64 c] w fun e w' => ∃ g : Nat, e = .returned (.slice (some ⟨g, 0, none⟩) c c) ∧ NS w g (List.replicate c x) w' := by
  rcases Nat.eq_zero_or_pos c with rfl | h
  · refine (repeat0_any x gx hx).mono ?_
    rintro e w' ⟨g, rfl, h3, h4, h5⟩
    exact ⟨g, rfl, h3, h4, by rw [rpL_full] at h5; exact h5⟩
  · refine (repeatN_any x gx c h h2 hx).mono ?_
    rintro e w' ⟨g, rfl, h3, h4, h5⟩
    exact ⟨g, rfl, h3, h4, by rw [rpL_full] at h5; exact h5⟩
end Go.Proofs.YtopoemfnnnfgdaaGreatDoor
