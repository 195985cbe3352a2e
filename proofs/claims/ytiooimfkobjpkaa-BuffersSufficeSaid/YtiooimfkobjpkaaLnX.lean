/-
  The reference's rows: its loops.
-/
import Derived.Test.YtiooimfkobjpkaaLnW
namespace Go.Proofs.Ytiooimfkobjpkaa
open Go.RowKit
set_option linter.unusedSimpArgs false
set_option linter.unusedVariables false

theorem intS_info : (Try.prog.info? 22).map (fun i => (i.zero, i.size, i.bytes)) = some (some (.slice none 0 0), 1, 24) := by kernel_rfl
theorem cell_farS {w : World} {p q : Addr} (h : q.block ≠ p.block) (u : Value) : (w.setCell p u).cell? q = w.cell? q :=
  World.cell?_setCell_other _ _ _ _ (fun e => h (congrArg Addr.block e).symm)

/-- A row is appended to one of three rows of rows. -/
theorem push_any {wo W W' : World} {fA fB fC : Nat → Nat → Int} {gA gB gC : Nat → Nat} {n bA bB bC : Nat} {vA vB vC v' : Value} (hbel : Below wo.heap.size wo W) (hA : Grid wo.heap.size fA gA n bA vA W) (hB : Grid wo.heap.size fB gB n bB vB W) (hC : Grid wo.heap.size fC gC n bC vC W)
    (dB : ∀ j, vA.ownBlock = some j → vB.ownBlock ≠ some j) (dC : ∀ j, vA.ownBlock = some j → vC.ownBlock ≠ some j) {q : Nat}
    (hown : W'.ownsRow wo.heap.size 22 1 v' (bA + 1) (rowsV gA n bA ++ [.slice (some ⟨q, 0, none⟩) n n])) (hg : W.grownBy W' vA.ownBlock) (hv : v'.ownBlock = vA.ownBlock ∨ v'.ownBlock = some W.heap.size) (hq : W.heap[q]? = some (.cells ((intsR (fA bA) n).map (Value.int .i64)).toArray 3 (0, 0))) (hb : wo.heap.size ≤ q) :
    Below wo.heap.size wo W' ∧ Grid wo.heap.size fA (fun c => if c = bA then q else gA c) n (bA + 1) v' W' ∧ Grid wo.heap.size fB gB n bB vB W' ∧ Grid wo.heap.size fC gC n bC vC W' ∧ (∀ j, v'.ownBlock = some j → vB.ownBlock ≠ some j) ∧ (∀ j, v'.ownBlock = some j → vC.ownBlock ≠ some j) := by
  have hz := hbel.size
  refine ⟨hbel.grown hg hz (own_row hA.own), hA.push hown hg hq hb, hB.off hg (own_typ hA.own) dB, hC.off hg (own_typ hA.own) dC, fun j hj e => ?_, fun j hj e => ?_⟩
  · rcases hv with hv | hv
    · exact dB j (hv.symm.trans hj) e
    · rw [hv] at hj
      cases hj
      have := own_lt hB.own _ e
      omega
  · rcases hv with hv | hv
    · exact dC j (hv.symm.trans hj) e
    · rw [hv] at hj
      cases hj
      have := own_lt hC.own _ e
      omega
theorem flip_ne {a b : Option Nat} (h : ∀ j, a = some j → b ≠ some j) : ∀ j, b = some j → a ≠ some j := fun j hj e => h j e hj

set_option maxRecDepth 100000 in
set_option maxHeartbeats 8000000 in
theorem moves_any (cs bs : List Int) (m : Nat) (hcs : CsOk cs) (h1 : 1 ≤ cs.length) (h6 : cs.length ≤ 6) (hb : (bs.length : Int) = (cs.length : Int) - 1) (hbs : ∀ x ∈ bs, 0 ≤ x ∧ x ≤ 2000) (hm : m ≤ 2000) {v1 v2 : Value} {w : World} (r1 : Reads encN v1 cs w) (r2 : Reads encN v2 bs w) :
    Calls Try.prog 62 #[v1, v2, .int .i64 m] w fun e w' => ∃ (u1 u2 u3 : Value) (fx fy fz : Nat → Nat), e = .returned (.tuple #[u1, u2, u3]) ∧ Mv w cs bs fx fy fz cs.length m u1 u2 u3 w' := by
  have HR := Lib.hid (And.intro r1 r2)
  have HC := Lib.hid (And.intro hcs hbs)
  have hbl1 : bs.length < cs.length := by omega
  have hbl2 : cs.length ≤ bs.length + 1 := by omega
  clear hb
  obtain ⟨A1, c1, rfl, _⟩ := r1
  obtain ⟨A2, c2, rfl, _⟩ := r2
  clear hcs hbs
  have hmk := run_makeInts cs.length (by omega)
  go_enter Try.func62, Try.ntmps62
  go_wp2_with fail
  go_loopw [6, 7, 8, 16] (fun v6 v7 v8 kk wr => ∃ (b : Nat) (fx fy fz : Nat → Nat), b ≤ m ∧ kk = .int .i64 b ∧ w.heap.size ≤ wr.heap.size ∧ Hid (Mv w cs bs fx fy fz cs.length b v6 v7 v8 wr)) (fun _ _ _ kk _ => m - (intOf kk).toNat)
  case atStart =>
    refine ⟨0, id, id, id, by omega, rfl, Nat.le_refl _, Below.refl _ _, ⟨World.ownsRow_nil _ _ _ _, fun c hc => by omega, fun c hc => by omega⟩, ⟨World.ownsRow_nil _ _ _ _, fun c hc => by omega, fun c hc => by omega⟩, ⟨World.ownsRow_nil _ _ _ _, fun c hc => by omega, fun c hc => by omega⟩, ?_, ?_, ?_⟩
    all_goals
      intro j hj
      simp [Value.ownBlock] at hj
  case round =>
    obtain ⟨b, fx, fy, fz, hb, rfl, hwz, HS⟩ := hrel
    obtain ⟨A6, c6, rfl, _⟩ := own_form HS.out.gx.own
    obtain ⟨A7, c7, rfl, _⟩ := own_form HS.out.gy.own
    obtain ⟨A8, c8, rfl, _⟩ := own_form HS.out.gz.own
    by_cases hbm : b < m
    · go_upto_region 4 with (fail)
      refine Rg.rgL (fun a b => Below a.heap.size a b)
        [(fun vs u => vs 0 = .slice A1 cs.length c1), (fun vs u => vs 1 = .int .i64 cs.length), (fun vs u => ∃ b : Nat, vs 2 = .slice (some ⟨b, 0, none⟩) cs.length cs.length ∧ u.heap[b]? = some (.cells (List.replicate cs.length (Value.int .i64 0)).toArray 3 (0, 0))), (fun vs u => vs 3 = .slice A1 cs.length c1), (fun vs u => vs 4 = .int .i64 cs.length), (fun vs u => ∃ b : Nat, vs 5 = .slice (some ⟨b, 0, none⟩) cs.length cs.length ∧ u.heap[b]? = some (.cells (List.replicate cs.length (Value.int .i64 0)).toArray 3 (0, 0))), (fun vs u => vs 6 = .slice A1 cs.length c1), (fun vs u => vs 7 = .int .i64 cs.length), (fun vs u => ∃ b : Nat, vs 8 = .slice (some ⟨b, 0, none⟩) cs.length cs.length ∧ u.heap[b]? = some (.cells (List.replicate cs.length (Value.int .i64 0)).toArray 3 (0, 0))), (fun vs u => vs 9 = vs 2), (fun vs u => vs 10 = vs 5)]
        [[], [0], [0, 1], [], [3], [3, 4], [], [6], [6, 7], [0, 1, 2], [0, 1, 2, 3, 4, 5, 9]] [some 19, some 20, some 21, some 22, some 23, some 24, some 25, some 26, some 27, some 10, some 11, some 12] [2, 5, 8] (fun _ _ => True) [[], [0], [0, 1], [], [3], [3, 4], [], [6], [6, 7], [0, 1, 2], [0, 1, 2, 3, 4, 5, 9], [0, 1, 2, 3, 4, 5, 6, 7, 8, 9, 10]]
        (by kernel_rfl) (by decide) (by kernel_rfl) (by kernel_rfl) (by kernel_rfl) (by kernel_rfl) (by kernel_rfl) (fun _ => Below.refl _ _) (fun _ _ _ h k => h.ext k) (fun _ _ h => h.size) ?_ trivial ?_ ?_
      · intro t ht vs w w' h hE
        simp only [List.mem_cons, List.not_mem_nil, or_false] at ht
        rcases ht with rfl | rfl | rfl | rfl | rfl | rfl | rfl | rfl | rfl | rfl | rfl
        · exact h
        · exact h
        · obtain ⟨b, e, k⟩ := h
          exact ⟨b, e, blk_below hE k⟩
        · exact h
        · exact h
        · obtain ⟨b, e, k⟩ := h
          exact ⟨b, e, blk_below hE k⟩
        · exact h
        · exact h
        · obtain ⟨b, e, k⟩ := h
          exact ⟨b, e, blk_below hE k⟩
        · exact h
        · exact h
      ·
        refine Rg.cons 0 1 rfl (Rg.plain rfl ?_) ?_
        · intro vs W n hn hI hG hT hF K hK
          simp only [Rg.putsD, List.getD_cons_zero, List.getD_cons_succ, Act.put, List.setIfInBounds_toArray, List.set_cons_zero, List.set_cons_succ] at hK ⊢
          clear hn
          clear hF hI
          have H := Lib.hid hK
          clear hK hT
          go_simp
          exact H.out _ _ (Below.refl _ _) rfl (fun h => by cases h) trivial
        refine Rg.cons 1 2 rfl (Rg.plain rfl ?_) ?_
        · intro vs W n hn hI hG hT hF K hK
          simp only [Rg.putsD, List.getD_cons_zero, List.getD_cons_succ, Act.put, List.setIfInBounds_toArray, List.set_cons_zero, List.set_cons_succ] at hK ⊢
          clear hn
          clear hF hI
          have t0 : vs 0 = .slice A1 cs.length c1 := hT 0 (by decide)
          simp only [t0] at hK
          have H := Lib.hid hK
          clear hK hT
          go_simp
          exact H.out _ _ (Below.refl _ _) rfl (fun h => by cases h) trivial
        refine Rg.cons 2 3 rfl (Rg.plain rfl ?_) ?_
        · intro vs W n hn hI hG hT hF K hK
          simp only [Rg.putsD, List.getD_cons_zero, List.getD_cons_succ, Act.put, List.setIfInBounds_toArray, List.set_cons_zero, List.set_cons_succ] at hK ⊢
          clear hn
          clear hF hI
          have t0 : vs 0 = .slice A1 cs.length c1 := hT 0 (by decide)
          have t1 : vs 1 = .int .i64 cs.length := hT 1 (by decide)
          simp only [t0, t1] at hK
          have H := Lib.hid hK
          clear hK hT
          go_simp
          exact H.out _ _ ((Below.refl _ _).alloc (Nat.le_refl _) _) (show ∃ b : Nat, _ = _ ∧ _ = _ from ⟨_, rfl, by simpa using blk_new W (.cells (List.replicate cs.length (Value.int .i64 0)).toArray 3) rfl⟩) (fun _ => ⟨W.heap.size, rfl, Nat.le_refl _, by simp⟩) trivial
        refine Rg.cons 3 4 rfl (Rg.plain rfl ?_) ?_
        · intro vs W n hn hI hG hT hF K hK
          simp only [Rg.putsD, List.getD_cons_zero, List.getD_cons_succ, Act.put, List.setIfInBounds_toArray, List.set_cons_zero, List.set_cons_succ] at hK ⊢
          clear hn
          clear hF hI
          have H := Lib.hid hK
          clear hK hT
          go_simp
          exact H.out _ _ (Below.refl _ _) rfl (fun h => by cases h) trivial
        refine Rg.cons 4 5 rfl (Rg.plain rfl ?_) ?_
        · intro vs W n hn hI hG hT hF K hK
          simp only [Rg.putsD, List.getD_cons_zero, List.getD_cons_succ, Act.put, List.setIfInBounds_toArray, List.set_cons_zero, List.set_cons_succ] at hK ⊢
          clear hn
          clear hF hI
          have t3 : vs 3 = .slice A1 cs.length c1 := hT 3 (by decide)
          simp only [t3] at hK
          have H := Lib.hid hK
          clear hK hT
          go_simp
          exact H.out _ _ (Below.refl _ _) rfl (fun h => by cases h) trivial
        refine Rg.cons 5 6 rfl (Rg.plain rfl ?_) ?_
        · intro vs W n hn hI hG hT hF K hK
          simp only [Rg.putsD, List.getD_cons_zero, List.getD_cons_succ, Act.put, List.setIfInBounds_toArray, List.set_cons_zero, List.set_cons_succ] at hK ⊢
          clear hn
          clear hF hI
          have t3 : vs 3 = .slice A1 cs.length c1 := hT 3 (by decide)
          have t4 : vs 4 = .int .i64 cs.length := hT 4 (by decide)
          simp only [t3, t4] at hK
          have H := Lib.hid hK
          clear hK hT
          go_simp
          exact H.out _ _ ((Below.refl _ _).alloc (Nat.le_refl _) _) (show ∃ b : Nat, _ = _ ∧ _ = _ from ⟨_, rfl, by simpa using blk_new W (.cells (List.replicate cs.length (Value.int .i64 0)).toArray 3) rfl⟩) (fun _ => ⟨W.heap.size, rfl, Nat.le_refl _, by simp⟩) trivial
        refine Rg.cons 6 7 rfl (Rg.plain rfl ?_) ?_
        · intro vs W n hn hI hG hT hF K hK
          simp only [Rg.putsD, List.getD_cons_zero, List.getD_cons_succ, Act.put, List.setIfInBounds_toArray, List.set_cons_zero, List.set_cons_succ] at hK ⊢
          clear hn
          clear hF hI
          have H := Lib.hid hK
          clear hK hT
          go_simp
          exact H.out _ _ (Below.refl _ _) rfl (fun h => by cases h) trivial
        refine Rg.cons 7 8 rfl (Rg.plain rfl ?_) ?_
        · intro vs W n hn hI hG hT hF K hK
          simp only [Rg.putsD, List.getD_cons_zero, List.getD_cons_succ, Act.put, List.setIfInBounds_toArray, List.set_cons_zero, List.set_cons_succ] at hK ⊢
          clear hn
          clear hF hI
          have t6 : vs 6 = .slice A1 cs.length c1 := hT 6 (by decide)
          simp only [t6] at hK
          have H := Lib.hid hK
          clear hK hT
          go_simp
          exact H.out _ _ (Below.refl _ _) rfl (fun h => by cases h) trivial
        refine Rg.cons 8 9 rfl (Rg.plain rfl ?_) ?_
        · intro vs W n hn hI hG hT hF K hK
          simp only [Rg.putsD, List.getD_cons_zero, List.getD_cons_succ, Act.put, List.setIfInBounds_toArray, List.set_cons_zero, List.set_cons_succ] at hK ⊢
          clear hn
          clear hF hI
          have t6 : vs 6 = .slice A1 cs.length c1 := hT 6 (by decide)
          have t7 : vs 7 = .int .i64 cs.length := hT 7 (by decide)
          simp only [t6, t7] at hK
          have H := Lib.hid hK
          clear hK hT
          go_simp
          exact H.out _ _ ((Below.refl _ _).alloc (Nat.le_refl _) _) (show ∃ b : Nat, _ = _ ∧ _ = _ from ⟨_, rfl, by simpa using blk_new W (.cells (List.replicate cs.length (Value.int .i64 0)).toArray 3) rfl⟩) (fun _ => ⟨W.heap.size, rfl, Nat.le_refl _, by simp⟩) trivial
        refine Rg.cons 9 10 rfl (Rg.plain rfl ?_) ?_
        · intro vs W n hn hI hG hT hF K hK
          simp only [Rg.putsD, List.getD_cons_zero, List.getD_cons_succ, Act.put, List.setIfInBounds_toArray, List.set_cons_zero, List.set_cons_succ] at hK ⊢
          clear hn
          clear hF hI
          have t0 : vs 0 = .slice A1 cs.length c1 := hT 0 (by decide)
          have t1 : vs 1 = .int .i64 cs.length := hT 1 (by decide)
          have t2 : ∃ b : Nat, vs 2 = .slice (some ⟨b, 0, none⟩) cs.length cs.length ∧ W.heap[b]? = some (.cells (List.replicate cs.length (Value.int .i64 0)).toArray 3 (0, 0)) := hT 2 (by decide)
          simp only [t0, t1] at hK
          have H := Lib.hid hK
          clear hK hT
          go_simp
          exact H.out _ _ (Below.refl _ _) rfl (fun h => by cases h) trivial
        refine Rg.cons 10 11 rfl (Rg.plain rfl ?_) ?_
        · intro vs W n hn hI hG hT hF K hK
          simp only [Rg.putsD, List.getD_cons_zero, List.getD_cons_succ, Act.put, List.setIfInBounds_toArray, List.set_cons_zero, List.set_cons_succ] at hK ⊢
          clear hn
          clear hF hI
          have t0 : vs 0 = .slice A1 cs.length c1 := hT 0 (by decide)
          have t1 : vs 1 = .int .i64 cs.length := hT 1 (by decide)
          have t2 : ∃ b : Nat, vs 2 = .slice (some ⟨b, 0, none⟩) cs.length cs.length ∧ W.heap[b]? = some (.cells (List.replicate cs.length (Value.int .i64 0)).toArray 3 (0, 0)) := hT 2 (by decide)
          have t3 : vs 3 = .slice A1 cs.length c1 := hT 3 (by decide)
          have t4 : vs 4 = .int .i64 cs.length := hT 4 (by decide)
          have t5 : ∃ b : Nat, vs 5 = .slice (some ⟨b, 0, none⟩) cs.length cs.length ∧ W.heap[b]? = some (.cells (List.replicate cs.length (Value.int .i64 0)).toArray 3 (0, 0)) := hT 5 (by decide)
          have t9 : vs 9 = vs 2 := hT 9 (by decide)
          simp only [t0, t1, t3, t4, t9] at hK
          have H := Lib.hid hK
          clear hK hT
          go_simp
          exact H.out _ _ (Below.refl _ _) rfl (fun h => by cases h) trivial
        exact Rg.nil
      · intro vs W hG hI hT hF
        have t0 : vs 0 = .slice A1 cs.length c1 := hT 0 (by decide)
        have t1 : vs 1 = .int .i64 cs.length := hT 1 (by decide)
        have t2 : ∃ b : Nat, vs 2 = .slice (some ⟨b, 0, none⟩) cs.length cs.length ∧ W.heap[b]? = some (.cells (List.replicate cs.length (Value.int .i64 0)).toArray 3 (0, 0)) := hT 2 (by decide)
        have t3 : vs 3 = .slice A1 cs.length c1 := hT 3 (by decide)
        have t4 : vs 4 = .int .i64 cs.length := hT 4 (by decide)
        have t5 : ∃ b : Nat, vs 5 = .slice (some ⟨b, 0, none⟩) cs.length cs.length ∧ W.heap[b]? = some (.cells (List.replicate cs.length (Value.int .i64 0)).toArray 3 (0, 0)) := hT 5 (by decide)
        have t6 : vs 6 = .slice A1 cs.length c1 := hT 6 (by decide)
        have t7 : vs 7 = .int .i64 cs.length := hT 7 (by decide)
        have t8 : ∃ b : Nat, vs 8 = .slice (some ⟨b, 0, none⟩) cs.length cs.length ∧ W.heap[b]? = some (.cells (List.replicate cs.length (Value.int .i64 0)).toArray 3 (0, 0)) := hT 8 (by decide)
        have t9 : vs 9 = vs 2 := hT 9 (by decide)
        have t10 : vs 10 = vs 5 := hT 10 (by decide)
        simp only [List.length_cons, List.length_nil, Nat.reduceAdd, List.range, List.range.loop, List.drop_succ_cons, List.drop_zero, Rg.putsD, List.getD_cons_zero, List.getD_cons_succ, Act.put, List.setIfInBounds_toArray, List.set_cons_zero, List.set_cons_succ, t0, t1, t3, t4, t6, t7, t9, t10]
        clear hT t0 t1 t3 t4 t6 t7 t9 t10
        obtain ⟨q1, e2, k2⟩ := t2
        obtain ⟨q2, e5, k5⟩ := t5
        obtain ⟨q3, e8, k8⟩ := t8
        obtain ⟨_, p2, l2, _⟩ := hF.1 2 (by decide) (by decide)
        obtain ⟨_, p5, l5, _⟩ := hF.1 5 (by decide) (by decide)
        obtain ⟨_, p8, l8, _⟩ := hF.1 8 (by decide) (by decide)
        have n12 := hF.2 2 (by decide) 5 (by decide) (by decide) (by decide) (by decide)
        have n13 := hF.2 2 (by decide) 8 (by decide) (by decide) (by decide) (by decide)
        have n23 := hF.2 5 (by decide) 8 (by decide) (by decide) (by decide) (by decide)
        simp only [e2, e5, e8, Rg.blockOf, Option.some.injEq, ne_eq] at p2 p5 p8 n12 n13 n23
        subst p2 p5 p8
        simp only [e2, e5, e8]
        have hGW : Below wr.heap.size wr W := (Below.refl _ _).drew.then_below hG (Nat.le_refl _)
        have l2' : wr.heap.size ≤ q1 := l2
        have l5' : wr.heap.size ≤ q2 := l5
        have l8' : wr.heap.size ≤ q3 := l8
        have HAP : Hid (Ap w fx fy fz b q1 q2 q3) := by
          refine ⟨by omega, by omega, by omega, n12, n13, n23, fun c hc => ?_, fun c hc => ?_, fun c hc => ?_⟩
          all_goals
            have e1 := lt_of_blk (HS.out.gx.rows c hc)
            have e2 := lt_of_blk (HS.out.gy.rows c hc)
            have e3 := lt_of_blk (HS.out.gz.rows c hc)
            omega
        have HM : Hid (Mi w cs bs fx fy fz cs.length b (.slice A6 b c6) (.slice A7 b c7) (.slice A8 b c8) q1 q2 q3 0 0 0 0 W) :=
          ⟨HS.out.below hGW, by rw [stR_zero]; exact k2, by rw [stR_zero]; exact k5, by rw [stR_zero]; exact k8⟩
        have hzW := HM.out.mv.bel.size
        clear e2 e5 e8 k2 k5 k8 hF hG hI l2 l5 l8 hGW l2' l5' l8' HS hwz n12 n13 n23
        go_wp2_with fail
        go_loopw [30] (fun kk wr => ∃ (k : Nat), k ≤ cs.length ∧ kk = .int .i64 k ∧ w.heap.size ≤ wr.heap.size ∧ Hid (Mi w cs bs fx fy fz cs.length b (.slice A6 b c6) (.slice A7 b c7) (.slice A8 b c8) q1 q2 q3 k 0 0 0 wr)) (fun kk _ => cs.length - (intOf kk).toNat)
        case atStart => exact ⟨0, by omega, rfl, hzW, HM⟩
        case round =>
          clear HM hzW
          obtain ⟨k, hk, rfl, hwz, HM⟩ := hrel
          by_cases hlt : k < cs.length
          · have hck := cs_at HC.out.1 k
            obtain ⟨c, hc⟩ : ∃ c, cs.getD k 0 = c := ⟨_, rfl⟩
            rw [hc] at hck
            obtain ⟨A', c', e, hr⟩ := HR.out.1.below HM.out.mv.bel
            cases e
            rcases hr with rfl | ⟨gc, rfl, hrow⟩
            · simp at hlt
            have q0 := row_n hrow hlt
            rw [show cs[k] = c by rw [← hc, List.getD_eq_getElem?_getD, List.getElem?_eq_getElem hlt]; rfl] at q0
            have hgc := hrow.1
            have HCK := Lib.hid hc
            have i1 : (0 : Int) ≤ (k : Int) := by omega
            have i2 : (k : Int) < (cs.length : Int) := by omega
            clear hrow hc
            have bF := from_bd bs HC.out.1 b k
            have bB := bef_bd bs HC.out.1 b k
            have bR := rm_bd bs HC.out.1 b k
            have HV : Hid (cm cs bs b k = max (from_ cs bs b k) (bef cs bs b k) ∧ dn cs bs b k = cm cs bs b k + c ∧ lv cs bs b k = max (dn cs bs b k) (rm cs bs b k)) := ⟨rfl, by rw [← HCK.out]; rfl, lv_eq _ _ _ _⟩
            have HVF : Hid ((k = 0 → from_ cs bs b k = 0) ∧ ∀ k', k = k' + 1 → from_ cs bs b k = lv cs bs b k') := ⟨fun h => if_pos h, fun k' h => by subst h; rfl⟩
            have HVB : Hid ((b = 0 → bef cs bs b k = 0) ∧ ∀ b', b = b' + 1 → bef cs bs b k = lv cs bs b' k) := ⟨fun h => if_pos h, fun b' h => by subst h; rfl⟩
            have HVM : Hid (∀ x : Int, bs.getD k 0 = x → 0 ≤ x → k + 1 < cs.length → x < b → rm cs bs b k = lv cs bs (b - 1 - x.toNat) (k + 1)) := by
              intro x hx h0 h1 h2
              unfold rm bufN
              rw [hx, if_pos ⟨h1, by omega⟩]
            have HVN : Hid (∀ x : Int, bs.getD k 0 = x → 0 ≤ x → ¬ x < b → lv cs bs b k = dn cs bs b k) := by
              intro x hx h0 h2
              exact lv_plain bs HC.out.1 (by unfold bufN; rw [hx]; omega)
            have HVL : Hid (¬ k + 1 < cs.length → lv cs bs b k = dn cs bs b k) := fun h => lv_plain bs HC.out.1 (by omega)
            generalize hF : from_ cs bs b k = F at *
            generalize hB : bef cs bs b k = B at *
            generalize hMM : rm cs bs b k = M at *
            clear hF hB hMM
            go_upto_if 36 with (fail)
            clear q0 hgc
            go_cut [] (fun wc => Hid (Mi w cs bs fx fy fz cs.length b (.slice A6 b c6) (.slice A7 b c7) (.slice A8 b c8) q1 q2 q3 k B 0 0 wc))
            case first => as_aux_lemma =>
              rcases Nat.eq_zero_or_pos b with hb0 | hb0
              · have hB0 := HVB.out.1 hb0
                subst hb0
                subst hB0
                go_wp2_with fail
                go_meet
                exact HM
              · obtain ⟨b', rfl⟩ : ∃ b', b = b' + 1 := ⟨b - 1, by omega⟩
                have hpos : (0 : Int) < ((b' + 1 : Nat) : Int) := by omega
                have HB1 := Lib.hid (HVB.out.2 b' rfl)
                obtain ⟨g8, cap8, e8, hg8, z0⟩ := HM.out.mv.gz.cell (c := b') (by omega)
                cases e8
                have hrz := HM.out.mv.gz.rows b' (by omega)
                have z1 := (cell_of_blk hrz k).trans (intsR_at (lv cs bs b') hlt)
                rw [← HB1.out] at z1
                have hlz := lt_of_blk hrz
                have d1 := (cell_of_blk HM.out.k1 k).trans (stR_at (cm cs bs (b' + 1)) 0 hlt)
                have ld1 := lt_of_blk HM.out.k1
                have f1 := frozen_of_blk HM.out.k1 k
                have H2 := Lib.hid (HM.out.set1 HAP.out hlt B)
                have i3 : (0 : Int) ≤ (b' : Int) := by omega
                have i4 : (b' : Int) < ((b' + 1 : Nat) : Int) := by omega
                clear hrz
                go_wp2_with fail
                go_meet
                exact H2
            case rest => as_aux_lemma =>
              have HM1 : Hid (Mi w cs bs fx fy fz cs.length b (.slice A6 b c6) (.slice A7 b c7) (.slice A8 b c8) q1 q2 q3 k B 0 0 wc) := hcut
              clear HM hcut
              go_upto_if 49 with (fail)
              go_cut [] (fun wd => Hid (Mi w cs bs fx fy fz cs.length b (.slice A6 b c6) (.slice A7 b c7) (.slice A8 b c8) q1 q2 q3 k (max F B) 0 0 wd))
              case first => as_aux_lemma =>
                rcases Nat.eq_zero_or_pos k with hk0 | hk0
                · have hF0 := HVF.out.1 hk0
                  have hX : max F B = B := by omega
                  have HX := Lib.hid hX
                  clear hX hF0
                  subst hk0
                  go_wp2_with fail
                  go_meet
                  rw [HX.out]
                  exact HM1
                · obtain ⟨k', hkk⟩ : ∃ k', k = k' + 1 := ⟨k - 1, by omega⟩
                  have hpos : (0 : Int) < (k : Int) := by omega
                  have HF1 := Lib.hid (HVF.out.2 k' hkk)
                  have hk'n : k' < cs.length := by omega
                  have hk'k : k' < k := by omega
                  have wk3 : IntKind.i64.wrap ((k : Int) - 1) = (k' : Int) := by rw [IntKind.wrap_i64]; omega
                  clear hkk
                  go_upto_region 11 with (fail)
                  try simp only [Int.natCast_pos, hk0, decide_true]
                  have i5 : (0 : Int) ≤ (k' : Int) := by omega
                  have i6 : (k' : Int) < (cs.length : Int) := by omega
                  refine Rg.rgL (fun a b => Below a.heap.size a b)
                    [(fun vs u => vs 0 = .slice (some ⟨q1, 0, none⟩) cs.length cs.length), (fun vs u => vs 1 = .int .i64 (k : Int)), (fun vs u => vs 2 = .slice (some ⟨q1, 0, none⟩) cs.length cs.length), (fun vs u => vs 3 = .int .i64 (k : Int)), (fun vs u => vs 4 = .pointer (some ⟨q1, k, none⟩)), (fun vs u => vs 5 = .int .i64 B), (fun vs u => vs 6 = .slice (some ⟨q3, 0, none⟩) cs.length cs.length), (fun vs u => vs 7 = .int .i64 (k : Int)), (fun vs u => vs 8 = .int .i64 (k' : Int)), (fun vs u => vs 9 = .pointer (some ⟨q3, k', none⟩)), (fun vs u => vs 10 = .int .i64 F), (fun vs u => vs 11 = .int .i64 (max B F))]
                    [[], [], [], [], [2, 3], [2, 3, 4], [], [], [7], [6, 7, 8], [6, 7, 8, 9], [2, 3, 4, 5, 6, 7, 8, 9, 10]] [some 50, some 51, some 52, some 53, some 54, some 55, some 56, some 57, some 58, some 59, some 60, some 61, some 62, none] [] (fun _ _ => True) [[], [], [], [], [2, 3], [2, 3, 4], [], [], [7], [6, 7, 8], [6, 7, 8, 9], [2, 3, 4, 5, 6, 7, 8, 9, 10], [0, 1, 2, 3, 4, 5, 6, 7, 8, 9, 10, 11], [0, 1, 2, 3, 4, 5, 6, 7, 8, 9, 10, 11, 12]]
                    (by kernel_rfl) (by decide) (by kernel_rfl) (by kernel_rfl) (by kernel_rfl) (by kernel_rfl) (by kernel_rfl) (fun _ => Below.refl _ _) (fun _ _ _ h k => h.ext k) (fun _ _ h => h.size) ?_ trivial ?_ ?_
                  · intro t ht vs w w' h hE
                    simp only [List.mem_cons, List.not_mem_nil, or_false] at ht
                    rcases ht with rfl | rfl | rfl | rfl | rfl | rfl | rfl | rfl | rfl | rfl | rfl | rfl
                    · exact h
                    · exact h
                    · exact h
                    · exact h
                    · exact h
                    · exact h
                    · exact h
                    · exact h
                    · exact h
                    · exact h
                    · exact h
                    · exact h
                  ·
                    refine Rg.cons 0 1 rfl (Rg.plain rfl ?_) ?_
                    · intro vs W n hn hI hG hT hF K hK
                      simp only [Rg.putsD, List.getD_cons_zero, List.getD_cons_succ, Act.put, List.setIfInBounds_toArray, List.set_cons_zero, List.set_cons_succ] at hK ⊢
                      clear hn
                      clear hF hI
                      have H := Lib.hid hK
                      clear hK hT
                      go_simp
                      exact H.out _ _ (Below.refl _ _) rfl (fun h => by cases h) trivial
                    refine Rg.cons 1 2 rfl (Rg.plain rfl ?_) ?_
                    · intro vs W n hn hI hG hT hF K hK
                      simp only [Rg.putsD, List.getD_cons_zero, List.getD_cons_succ, Act.put, List.setIfInBounds_toArray, List.set_cons_zero, List.set_cons_succ] at hK ⊢
                      clear hn
                      clear hF hI
                      have H := Lib.hid hK
                      clear hK hT
                      go_simp
                      exact H.out _ _ (Below.refl _ _) rfl (fun h => by cases h) trivial
                    refine Rg.cons 2 3 rfl (Rg.plain rfl ?_) ?_
                    · intro vs W n hn hI hG hT hF K hK
                      simp only [Rg.putsD, List.getD_cons_zero, List.getD_cons_succ, Act.put, List.setIfInBounds_toArray, List.set_cons_zero, List.set_cons_succ] at hK ⊢
                      clear hn
                      clear hF hI
                      have H := Lib.hid hK
                      clear hK hT
                      go_simp
                      exact H.out _ _ (Below.refl _ _) rfl (fun h => by cases h) trivial
                    refine Rg.cons 3 4 rfl (Rg.plain rfl ?_) ?_
                    · intro vs W n hn hI hG hT hF K hK
                      simp only [Rg.putsD, List.getD_cons_zero, List.getD_cons_succ, Act.put, List.setIfInBounds_toArray, List.set_cons_zero, List.set_cons_succ] at hK ⊢
                      clear hn
                      clear hF hI
                      have H := Lib.hid hK
                      clear hK hT
                      go_simp
                      exact H.out _ _ (Below.refl _ _) rfl (fun h => by cases h) trivial
                    refine Rg.cons 4 5 rfl (Rg.plain rfl ?_) ?_
                    · intro vs W n hn hI hG hT hF K hK
                      simp only [Rg.putsD, List.getD_cons_zero, List.getD_cons_succ, Act.put, List.setIfInBounds_toArray, List.set_cons_zero, List.set_cons_succ] at hK ⊢
                      clear hn
                      clear hF hI
                      have t2 : vs 2 = .slice (some ⟨q1, 0, none⟩) cs.length cs.length := hT 2 (by decide)
                      have t3 : vs 3 = .int .i64 (k : Int) := hT 3 (by decide)
                      simp only [t2, t3] at hK
                      have H := Lib.hid hK
                      clear hK hT
                      go_simp
                      exact H.out _ _ (Below.refl _ _) rfl (fun h => by cases h) trivial
                    refine Rg.cons 5 6 rfl (Rg.plain rfl ?_) ?_
                    · intro vs W n hn hI hG hT hF K hK
                      simp only [Rg.putsD, List.getD_cons_zero, List.getD_cons_succ, Act.put, List.setIfInBounds_toArray, List.set_cons_zero, List.set_cons_succ] at hK ⊢
                      clear hn
                      clear hF hI
                      have t2 : vs 2 = .slice (some ⟨q1, 0, none⟩) cs.length cs.length := hT 2 (by decide)
                      have t3 : vs 3 = .int .i64 (k : Int) := hT 3 (by decide)
                      have t4 : vs 4 = .pointer (some ⟨q1, k, none⟩) := hT 4 (by decide)
                      have d1 := (cell_of_blk (blk_below hG HM1.out.k1) k).trans (stR_at (cm cs bs b) B hlt)
                      have ld1 := lt_of_blk (blk_below hG HM1.out.k1)
                      simp only [t2, t3, t4] at hK
                      have H := Lib.hid hK
                      clear hK hT
                      go_simp
                      exact H.out _ _ (Below.refl _ _) rfl (fun h => by cases h) trivial
                    refine Rg.cons 6 7 rfl (Rg.plain rfl ?_) ?_
                    · intro vs W n hn hI hG hT hF K hK
                      simp only [Rg.putsD, List.getD_cons_zero, List.getD_cons_succ, Act.put, List.setIfInBounds_toArray, List.set_cons_zero, List.set_cons_succ] at hK ⊢
                      clear hn
                      clear hF hI
                      have H := Lib.hid hK
                      clear hK hT
                      go_simp
                      exact H.out _ _ (Below.refl _ _) rfl (fun h => by cases h) trivial
                    refine Rg.cons 7 8 rfl (Rg.plain rfl ?_) ?_
                    · intro vs W n hn hI hG hT hF K hK
                      simp only [Rg.putsD, List.getD_cons_zero, List.getD_cons_succ, Act.put, List.setIfInBounds_toArray, List.set_cons_zero, List.set_cons_succ] at hK ⊢
                      clear hn
                      clear hF hI
                      have H := Lib.hid hK
                      clear hK hT
                      go_simp
                      exact H.out _ _ (Below.refl _ _) rfl (fun h => by cases h) trivial
                    refine Rg.cons 8 9 rfl (Rg.plain rfl ?_) ?_
                    · intro vs W n hn hI hG hT hF K hK
                      simp only [Rg.putsD, List.getD_cons_zero, List.getD_cons_succ, Act.put, List.setIfInBounds_toArray, List.set_cons_zero, List.set_cons_succ] at hK ⊢
                      clear hn
                      clear hF hI
                      have t7 : vs 7 = .int .i64 (k : Int) := hT 7 (by decide)
                      simp only [t7] at hK
                      have H := Lib.hid hK
                      clear hK hT
                      go_simp
                      exact H.out _ _ (Below.refl _ _) rfl (fun h => by cases h) trivial
                    refine Rg.cons 9 10 rfl (Rg.plain rfl ?_) ?_
                    · intro vs W n hn hI hG hT hF K hK
                      simp only [Rg.putsD, List.getD_cons_zero, List.getD_cons_succ, Act.put, List.setIfInBounds_toArray, List.set_cons_zero, List.set_cons_succ] at hK ⊢
                      clear hn
                      clear hF hI
                      have t6 : vs 6 = .slice (some ⟨q3, 0, none⟩) cs.length cs.length := hT 6 (by decide)
                      have t7 : vs 7 = .int .i64 (k : Int) := hT 7 (by decide)
                      have t8 : vs 8 = .int .i64 (k' : Int) := hT 8 (by decide)
                      simp only [t6, t7, t8] at hK
                      have H := Lib.hid hK
                      clear hK hT
                      go_simp
                      exact H.out _ _ (Below.refl _ _) rfl (fun h => by cases h) trivial
                    refine Rg.cons 10 11 rfl (Rg.plain rfl ?_) ?_
                    · intro vs W n hn hI hG hT hF K hK
                      simp only [Rg.putsD, List.getD_cons_zero, List.getD_cons_succ, Act.put, List.setIfInBounds_toArray, List.set_cons_zero, List.set_cons_succ] at hK ⊢
                      clear hn
                      clear hF hI
                      have t6 : vs 6 = .slice (some ⟨q3, 0, none⟩) cs.length cs.length := hT 6 (by decide)
                      have t7 : vs 7 = .int .i64 (k : Int) := hT 7 (by decide)
                      have t8 : vs 8 = .int .i64 (k' : Int) := hT 8 (by decide)
                      have t9 : vs 9 = .pointer (some ⟨q3, k', none⟩) := hT 9 (by decide)
                      have d1 := (cell_of_blk (blk_below hG HM1.out.k3) k').trans (stR_lt (lv cs bs b) 0 hk'k hk)
                      rw [← HF1.out] at d1
                      have ld1 := lt_of_blk (blk_below hG HM1.out.k3)
                      simp only [t6, t7, t8, t9] at hK
                      have H := Lib.hid hK
                      clear hK hT
                      go_simp
                      exact H.out _ _ (Below.refl _ _) rfl (fun h => by cases h) trivial
                    refine Rg.cons 11 12 rfl (Rg.plain rfl ?_) ?_
                    · intro vs W n hn hI hG hT hF K hK
                      simp only [Rg.putsD, List.getD_cons_zero, List.getD_cons_succ, Act.put, List.setIfInBounds_toArray, List.set_cons_zero, List.set_cons_succ] at hK ⊢
                      clear hn
                      clear hF hI
                      have t2 : vs 2 = .slice (some ⟨q1, 0, none⟩) cs.length cs.length := hT 2 (by decide)
                      have t3 : vs 3 = .int .i64 (k : Int) := hT 3 (by decide)
                      have t4 : vs 4 = .pointer (some ⟨q1, k, none⟩) := hT 4 (by decide)
                      have t5 : vs 5 = .int .i64 B := hT 5 (by decide)
                      have t6 : vs 6 = .slice (some ⟨q3, 0, none⟩) cs.length cs.length := hT 6 (by decide)
                      have t7 : vs 7 = .int .i64 (k : Int) := hT 7 (by decide)
                      have t8 : vs 8 = .int .i64 (k' : Int) := hT 8 (by decide)
                      have t9 : vs 9 = .pointer (some ⟨q3, k', none⟩) := hT 9 (by decide)
                      have t10 : vs 10 = .int .i64 F := hT 10 (by decide)
                      simp only [t2, t3, t4, t5, t6, t7, t8, t9, t10] at hK
                      have H := Lib.hid hK
                      clear hK hT
                      go_simp
                      exact H.out _ _ (Below.refl _ _) rfl (fun h => by cases h) trivial
                    exact Rg.nil
                  · intro vs W hG hI hT hF
                    have t0 : vs 0 = .slice (some ⟨q1, 0, none⟩) cs.length cs.length := hT 0 (by decide)
                    have t1 : vs 1 = .int .i64 (k : Int) := hT 1 (by decide)
                    have t2 : vs 2 = .slice (some ⟨q1, 0, none⟩) cs.length cs.length := hT 2 (by decide)
                    have t3 : vs 3 = .int .i64 (k : Int) := hT 3 (by decide)
                    have t4 : vs 4 = .pointer (some ⟨q1, k, none⟩) := hT 4 (by decide)
                    have t5 : vs 5 = .int .i64 B := hT 5 (by decide)
                    have t6 : vs 6 = .slice (some ⟨q3, 0, none⟩) cs.length cs.length := hT 6 (by decide)
                    have t7 : vs 7 = .int .i64 (k : Int) := hT 7 (by decide)
                    have t8 : vs 8 = .int .i64 (k' : Int) := hT 8 (by decide)
                    have t9 : vs 9 = .pointer (some ⟨q3, k', none⟩) := hT 9 (by decide)
                    have t10 : vs 10 = .int .i64 F := hT 10 (by decide)
                    have t11 : vs 11 = .int .i64 (max B F) := hT 11 (by decide)
                    simp only [List.length_cons, List.length_nil, Nat.reduceAdd, List.range, List.range.loop, List.drop_succ_cons, List.drop_zero, Rg.putsD, List.getD_cons_zero, List.getD_cons_succ, Act.put, List.setIfInBounds_toArray, List.set_cons_zero, List.set_cons_succ, t0, t1, t2, t3, t4, t5, t6, t7, t8, t9, t10, t11]
                    clear hT t0 t1 t2 t3 t4 t5 t6 t7 t8 t9 t10 t11
                    have HG1 : Hid (Below wc.heap.size wc W) := (Below.refl _ _).drew.then_below hG (Nat.le_refl _)
                    have H4 := Lib.hid (HM1.out.below HG1.out)
                    clear hG hI hF
                    have d1 := (cell_of_blk H4.out.k1 k).trans (stR_at (cm cs bs b) B hlt)
                    have ld1 := lt_of_blk H4.out.k1
                    have f1 := frozen_of_blk H4.out.k1 k
                    have H6 := Lib.hid (H4.out.set1 HAP.out hlt (max B F))
                    go_wp2_with fail
                    go_meet
                    rw [show max F B = max B F by omega]
                    exact H6
              case rest => as_aux_lemma =>
                have HM2 : Hid (Mi w cs bs fx fy fz cs.length b (.slice A6 b c6) (.slice A7 b c7) (.slice A8 b c8) q1 q2 q3 k (max F B) 0 0 wc) := hcut
                clear HM1 hcut
                obtain ⟨X, hX⟩ : ∃ X, max F B = X := ⟨_, rfl⟩
                have bX : 0 ≤ X ∧ X ≤ ((b : Int) + k) * 10000000 := by omega
                rw [hX] at HV HM2
                clear hX
                go_upto_region 12 with (fail)
                have d1 := (cell_of_blk HM2.out.k1 k).trans (stR_at (cm cs bs b) X hlt)
                have ld1 := lt_of_blk HM2.out.k1
                have d2 := (cell_of_blk HM2.out.k2 k).trans (stR_at (dn cs bs b) 0 hlt)
                have ld2 := lt_of_blk HM2.out.k2
                have f2 := frozen_of_blk HM2.out.k2 k
                have d3 := (cell_of_blk HM2.out.k3 k).trans (stR_at (lv cs bs b) 0 hlt)
                have ld3 := lt_of_blk HM2.out.k3
                have f3 := frozen_of_blk HM2.out.k3 k
                have n12 := HAP.out.n12
                have n13 := HAP.out.n13
                have n23 := HAP.out.n23
                have H3 := Lib.hid (((HM2.out.set2 HAP.out hlt (X + c)).set3 HAP.out hlt (X + c)).below (Below.refl _ _).drew)
                have wk : IntKind.i64.wrap (X + c) = X + c := by rw [IntKind.wrap_i64]; omega
                go_region_held (fun W => W.cell? ⟨q1, k, none⟩ = some (.int .i64 X)) (simp [*, cell_farS]) (fail)
                rename_i hheld
                clear hheld
                try simp only [wk]
                generalize ((wc.setCell ⟨q2, k, none⟩ (.int .i64 (X + c))).setCell ⟨q3, k, none⟩ (.int .i64 (X + c))).drew = w5 at *
                clear d1 ld1 d2 ld2 f2 d3 ld3 f3 HM2 wk
                have hz5 := H3.out.mv.bel.size
                have HD : Hid (dn cs bs b k = X + c) := by
                  show _ = _
                  rw [HV.out.2.1, HV.out.1]
                by_cases hk1 : k + 1 < cs.length
                · have hkb : k < bs.length := by omega
                  have hx0 := HC.out.2 bs[k] (List.getElem_mem hkb)
                  have hr2 := HR.out.2.below H3.out.mv.bel
                  obtain ⟨x, hx⟩ : ∃ x, bs[k] = x := ⟨_, rfl⟩
                  rw [hx] at hx0
                  obtain ⟨A', c', e, hr⟩ := hr2
                  cases e
                  rcases hr with rfl | ⟨gb, rfl, hrow⟩
                  · simp at hkb
                  have q0 := row_n hrow hkb
                  rw [hx] at q0
                  have HXB : Hid (bs.getD k 0 = x) := by
                    show _ = _
                    rw [List.getD_eq_getElem?_getD, List.getElem?_eq_getElem hkb]
                    exact hx
                  obtain ⟨x, rfl⟩ := Int.eq_ofNat_of_zero_le hx0.1
                  have HG0 : Hid (w5.cell? ⟨gb, k, none⟩ = some (.int .i64 (x : Int)) ∧ gb < w5.heap.size) := ⟨q0, hrow.1⟩
                  have hgb := hrow.1
                  have i5 : (k : Int) < (bs.length : Int) := by omega
                  have i6 : (k : Int) + 1 < (cs.length : Int) := by omega
                  clear hrow hx
                  by_cases hxb : x < b
                  · have hxb' : (x : Int) < (b : Int) := by omega
                    obtain ⟨d, hd⟩ : ∃ d, b - 1 - x = d := ⟨_, rfl⟩
                    have hdi : (b : Int) - x - 1 = (d : Int) := by omega
                    have hdb : d < b := by omega
                    have HRM : Hid (M = lv cs bs d (k + 1)) := by
                      have := HVM.out x HXB.out hx0.1 hk1 hxb'
                      rw [show (x : Int).toNat = x from rfl, hd] at this
                      exact this
                    obtain ⟨g8, cap8, e8, hg8, z0⟩ := H3.out.mv.gz.cell hdb
                    cases e8
                    have HG8 : Hid (w5.cell? ⟨g8, d, none⟩ = some (.slice (some ⟨fz d, 0, none⟩) cs.length cs.length) ∧ g8 < w5.heap.size) := ⟨z0, hg8⟩
                    clear z0 hg8 hd
                    go_upto_region 14 with (fail)
                    try simp only [hk1, hxb, hxb', i6, decide_true]
                    have wk1 : IntKind.i64.wrap ((b : Int) - x) = (b : Int) - x := by rw [IntKind.wrap_i64]; omega
                    have wk2 : IntKind.i64.wrap ((b : Int) - x - 1) = (d : Int) := by rw [IntKind.wrap_i64]; omega
                    have wk3 : IntKind.i64.wrap ((k : Int) + 1) = ((k + 1 : Nat) : Int) := by rw [IntKind.wrap_i64]; omega
                    have HDI := Lib.hid hdi
                    clear hdi
                    have i7 : (0 : Int) ≤ (d : Int) := by omega
                    have i8 : (d : Int) < (b : Int) := by omega
                    have i9 : (0 : Int) ≤ ((k + 1 : Nat) : Int) := by omega
                    have i10 : ((k + 1 : Nat) : Int) < (cs.length : Int) := by omega
                    refine Rg.rgL (fun a b => Below a.heap.size a b)
                      [(fun vs u => vs 0 = .slice (some ⟨q3, 0, none⟩) cs.length cs.length), (fun vs u => vs 1 = .int .i64 k), (fun vs u => vs 2 = .slice (some ⟨q3, 0, none⟩) cs.length cs.length), (fun vs u => vs 3 = .int .i64 k), (fun vs u => vs 4 = .pointer (some ⟨q3, k, none⟩)), (fun vs u => vs 5 = .int .i64 (X + c)), (fun vs u => vs 6 = .slice (some ⟨g8, 0, none⟩) b c8), (fun vs u => vs 7 = .int .i64 b), (fun vs u => vs 8 = .slice (some ⟨gb, 0, none⟩) bs.length c2), (fun vs u => vs 9 = .int .i64 k), (fun vs u => vs 10 = .pointer (some ⟨gb, k, none⟩)), (fun vs u => vs 11 = .int .i64 (x : Int)), (fun vs u => vs 12 = .int .i64 ((b : Int) - x)), (fun vs u => vs 13 = .int .i64 (d : Int)), (fun vs u => vs 14 = .pointer (some ⟨g8, d, none⟩)), (fun vs u => vs 15 = .slice (some ⟨fz d, 0, none⟩) cs.length cs.length), (fun vs u => vs 16 = .int .i64 k), (fun vs u => vs 17 = .int .i64 ((k + 1 : Nat) : Int)), (fun vs u => vs 18 = .pointer (some ⟨fz d, k + 1, none⟩)), (fun vs u => vs 19 = .int .i64 M), (fun vs u => vs 20 = .int .i64 (max (X + c) M))]
                      [[], [], [], [], [2, 3], [2, 3, 4], [], [], [], [], [8, 9], [8, 9, 10], [7, 8, 9, 10, 11], [7, 8, 9, 10, 11, 12], [6, 7, 8, 9, 10, 11, 12, 13], [6, 7, 8, 9, 10, 11, 12, 13, 14], [], [16], [6, 7, 8, 9, 10, 11, 12, 13, 14, 15, 16, 17], [6, 7, 8, 9, 10, 11, 12, 13, 14, 15, 16, 17, 18], [2, 3, 4, 5, 6, 7, 8, 9, 10, 11, 12, 13, 14, 15, 16, 17, 18, 19]] [some 94, some 95, some 96, some 97, some 98, some 99, some 100, some 101, some 102, some 103, some 104, some 105, some 106, some 107, some 108, some 109, some 110, some 111, some 112, some 113, some 114, some 115, none] [] (fun _ _ => True) [[], [], [], [], [2, 3], [2, 3, 4], [], [], [], [], [8, 9], [8, 9, 10], [7, 8, 9, 10, 11], [7, 8, 9, 10, 11, 12], [6, 7, 8, 9, 10, 11, 12, 13], [6, 7, 8, 9, 10, 11, 12, 13, 14], [], [16], [6, 7, 8, 9, 10, 11, 12, 13, 14, 15, 16, 17], [6, 7, 8, 9, 10, 11, 12, 13, 14, 15, 16, 17, 18], [2, 3, 4, 5, 6, 7, 8, 9, 10, 11, 12, 13, 14, 15, 16, 17, 18, 19], [0, 1, 2, 3, 4, 5, 6, 7, 8, 9, 10, 11, 12, 13, 14, 15, 16, 17, 18, 19, 20], [0, 1, 2, 3, 4, 5, 6, 7, 8, 9, 10, 11, 12, 13, 14, 15, 16, 17, 18, 19, 20, 21]]
                      (by kernel_rfl) (by decide) (by kernel_rfl) (by kernel_rfl) (by kernel_rfl) (by kernel_rfl) (by kernel_rfl) (fun _ => Below.refl _ _) (fun _ _ _ h k => h.ext k) (fun _ _ h => h.size) ?_ trivial ?_ ?_
                    · intro t ht vs w w' h hE
                      simp only [List.mem_cons, List.not_mem_nil, or_false] at ht
                      rcases ht with rfl | rfl | rfl | rfl | rfl | rfl | rfl | rfl | rfl | rfl | rfl | rfl | rfl | rfl | rfl | rfl | rfl | rfl | rfl | rfl | rfl
                      · exact h
                      · exact h
                      · exact h
                      · exact h
                      · exact h
                      · exact h
                      · exact h
                      · exact h
                      · exact h
                      · exact h
                      · exact h
                      · exact h
                      · exact h
                      · exact h
                      · exact h
                      · exact h
                      · exact h
                      · exact h
                      · exact h
                      · exact h
                      · exact h
                    ·
                      refine Rg.cons 0 1 rfl (Rg.plain rfl ?_) ?_
                      · intro vs W n hn hI hG hT hF K hK
                        simp only [Rg.putsD, List.getD_cons_zero, List.getD_cons_succ, Act.put, List.setIfInBounds_toArray, List.set_cons_zero, List.set_cons_succ] at hK ⊢
                        clear hn
                        clear hF hI
                        have H := Lib.hid hK
                        clear hK hT
                        go_simp
                        exact H.out _ _ (Below.refl _ _) rfl (fun h => by cases h) trivial
                      refine Rg.cons 1 2 rfl (Rg.plain rfl ?_) ?_
                      · intro vs W n hn hI hG hT hF K hK
                        simp only [Rg.putsD, List.getD_cons_zero, List.getD_cons_succ, Act.put, List.setIfInBounds_toArray, List.set_cons_zero, List.set_cons_succ] at hK ⊢
                        clear hn
                        clear hF hI
                        have H := Lib.hid hK
                        clear hK hT
                        go_simp
                        exact H.out _ _ (Below.refl _ _) rfl (fun h => by cases h) trivial
                      refine Rg.cons 2 3 rfl (Rg.plain rfl ?_) ?_
                      · intro vs W n hn hI hG hT hF K hK
                        simp only [Rg.putsD, List.getD_cons_zero, List.getD_cons_succ, Act.put, List.setIfInBounds_toArray, List.set_cons_zero, List.set_cons_succ] at hK ⊢
                        clear hn
                        clear hF hI
                        have H := Lib.hid hK
                        clear hK hT
                        go_simp
                        exact H.out _ _ (Below.refl _ _) rfl (fun h => by cases h) trivial
                      refine Rg.cons 3 4 rfl (Rg.plain rfl ?_) ?_
                      · intro vs W n hn hI hG hT hF K hK
                        simp only [Rg.putsD, List.getD_cons_zero, List.getD_cons_succ, Act.put, List.setIfInBounds_toArray, List.set_cons_zero, List.set_cons_succ] at hK ⊢
                        clear hn
                        clear hF hI
                        have H := Lib.hid hK
                        clear hK hT
                        go_simp
                        exact H.out _ _ (Below.refl _ _) rfl (fun h => by cases h) trivial
                      refine Rg.cons 4 5 rfl (Rg.plain rfl ?_) ?_
                      · intro vs W n hn hI hG hT hF K hK
                        simp only [Rg.putsD, List.getD_cons_zero, List.getD_cons_succ, Act.put, List.setIfInBounds_toArray, List.set_cons_zero, List.set_cons_succ] at hK ⊢
                        clear hn
                        clear hF hI
                        have t2 : vs 2 = .slice (some ⟨q3, 0, none⟩) cs.length cs.length := hT 2 (by decide)
                        have t3 : vs 3 = .int .i64 k := hT 3 (by decide)
                        simp only [t2, t3] at hK
                        have H := Lib.hid hK
                        clear hK hT
                        go_simp
                        exact H.out _ _ (Below.refl _ _) rfl (fun h => by cases h) trivial
                      refine Rg.cons 5 6 rfl (Rg.plain rfl ?_) ?_
                      · intro vs W n hn hI hG hT hF K hK
                        simp only [Rg.putsD, List.getD_cons_zero, List.getD_cons_succ, Act.put, List.setIfInBounds_toArray, List.set_cons_zero, List.set_cons_succ] at hK ⊢
                        clear hn
                        clear hF hI
                        have t2 : vs 2 = .slice (some ⟨q3, 0, none⟩) cs.length cs.length := hT 2 (by decide)
                        have t3 : vs 3 = .int .i64 k := hT 3 (by decide)
                        have t4 : vs 4 = .pointer (some ⟨q3, k, none⟩) := hT 4 (by decide)
                        have d1 := (cell_of_blk (blk_below hG H3.out.k3) k).trans (stR_at (lv cs bs b) (X + c) hlt)
                        have ld1 := lt_of_blk (blk_below hG H3.out.k3)
                        simp only [t2, t3, t4] at hK
                        have H := Lib.hid hK
                        clear hK hT
                        go_simp
                        exact H.out _ _ (Below.refl _ _) rfl (fun h => by cases h) trivial
                      refine Rg.cons 6 7 rfl (Rg.plain rfl ?_) ?_
                      · intro vs W n hn hI hG hT hF K hK
                        simp only [Rg.putsD, List.getD_cons_zero, List.getD_cons_succ, Act.put, List.setIfInBounds_toArray, List.set_cons_zero, List.set_cons_succ] at hK ⊢
                        clear hn
                        clear hF hI
                        have H := Lib.hid hK
                        clear hK hT
                        go_simp
                        exact H.out _ _ (Below.refl _ _) rfl (fun h => by cases h) trivial
                      refine Rg.cons 7 8 rfl (Rg.plain rfl ?_) ?_
                      · intro vs W n hn hI hG hT hF K hK
                        simp only [Rg.putsD, List.getD_cons_zero, List.getD_cons_succ, Act.put, List.setIfInBounds_toArray, List.set_cons_zero, List.set_cons_succ] at hK ⊢
                        clear hn
                        clear hF hI
                        have H := Lib.hid hK
                        clear hK hT
                        go_simp
                        exact H.out _ _ (Below.refl _ _) rfl (fun h => by cases h) trivial
                      refine Rg.cons 8 9 rfl (Rg.plain rfl ?_) ?_
                      · intro vs W n hn hI hG hT hF K hK
                        simp only [Rg.putsD, List.getD_cons_zero, List.getD_cons_succ, Act.put, List.setIfInBounds_toArray, List.set_cons_zero, List.set_cons_succ] at hK ⊢
                        clear hn
                        clear hF hI
                        have H := Lib.hid hK
                        clear hK hT
                        go_simp
                        exact H.out _ _ (Below.refl _ _) rfl (fun h => by cases h) trivial
                      refine Rg.cons 9 10 rfl (Rg.plain rfl ?_) ?_
                      · intro vs W n hn hI hG hT hF K hK
                        simp only [Rg.putsD, List.getD_cons_zero, List.getD_cons_succ, Act.put, List.setIfInBounds_toArray, List.set_cons_zero, List.set_cons_succ] at hK ⊢
                        clear hn
                        clear hF hI
                        have H := Lib.hid hK
                        clear hK hT
                        go_simp
                        exact H.out _ _ (Below.refl _ _) rfl (fun h => by cases h) trivial
                      refine Rg.cons 10 11 rfl (Rg.plain rfl ?_) ?_
                      · intro vs W n hn hI hG hT hF K hK
                        simp only [Rg.putsD, List.getD_cons_zero, List.getD_cons_succ, Act.put, List.setIfInBounds_toArray, List.set_cons_zero, List.set_cons_succ] at hK ⊢
                        clear hn
                        clear hF hI
                        have t8 : vs 8 = .slice (some ⟨gb, 0, none⟩) bs.length c2 := hT 8 (by decide)
                        have t9 : vs 9 = .int .i64 k := hT 9 (by decide)
                        simp only [t8, t9] at hK
                        have H := Lib.hid hK
                        clear hK hT
                        go_simp
                        exact H.out _ _ (Below.refl _ _) rfl (fun h => by cases h) trivial
                      refine Rg.cons 11 12 rfl (Rg.plain rfl ?_) ?_
                      · intro vs W n hn hI hG hT hF K hK
                        simp only [Rg.putsD, List.getD_cons_zero, List.getD_cons_succ, Act.put, List.setIfInBounds_toArray, List.set_cons_zero, List.set_cons_succ] at hK ⊢
                        clear hn
                        clear hF hI
                        have t8 : vs 8 = .slice (some ⟨gb, 0, none⟩) bs.length c2 := hT 8 (by decide)
                        have t9 : vs 9 = .int .i64 k := hT 9 (by decide)
                        have t10 : vs 10 = .pointer (some ⟨gb, k, none⟩) := hT 10 (by decide)
                        have d1 := (hG.cell (p := ⟨gb, k, none⟩) HG0.out.2).trans HG0.out.1
                        have ld1 : gb < W.heap.size := Nat.lt_of_lt_of_le HG0.out.2 hG.size
                        simp only [t8, t9, t10] at hK
                        have H := Lib.hid hK
                        clear hK hT
                        go_simp
                        exact H.out _ _ (Below.refl _ _) rfl (fun h => by cases h) trivial
                      refine Rg.cons 12 13 rfl (Rg.plain rfl ?_) ?_
                      · intro vs W n hn hI hG hT hF K hK
                        simp only [Rg.putsD, List.getD_cons_zero, List.getD_cons_succ, Act.put, List.setIfInBounds_toArray, List.set_cons_zero, List.set_cons_succ] at hK ⊢
                        clear hn
                        clear hF hI
                        have t7 : vs 7 = .int .i64 b := hT 7 (by decide)
                        have t8 : vs 8 = .slice (some ⟨gb, 0, none⟩) bs.length c2 := hT 8 (by decide)
                        have t9 : vs 9 = .int .i64 k := hT 9 (by decide)
                        have t10 : vs 10 = .pointer (some ⟨gb, k, none⟩) := hT 10 (by decide)
                        have t11 : vs 11 = .int .i64 (x : Int) := hT 11 (by decide)
                        simp only [t7, t8, t9, t10, t11] at hK
                        have H := Lib.hid hK
                        clear hK hT
                        go_simp
                        exact H.out _ _ (Below.refl _ _) rfl (fun h => by cases h) trivial
                      refine Rg.cons 13 14 rfl (Rg.plain rfl ?_) ?_
                      · intro vs W n hn hI hG hT hF K hK
                        simp only [Rg.putsD, List.getD_cons_zero, List.getD_cons_succ, Act.put, List.setIfInBounds_toArray, List.set_cons_zero, List.set_cons_succ] at hK ⊢
                        clear hn
                        clear hF hI
                        have t7 : vs 7 = .int .i64 b := hT 7 (by decide)
                        have t8 : vs 8 = .slice (some ⟨gb, 0, none⟩) bs.length c2 := hT 8 (by decide)
                        have t9 : vs 9 = .int .i64 k := hT 9 (by decide)
                        have t10 : vs 10 = .pointer (some ⟨gb, k, none⟩) := hT 10 (by decide)
                        have t11 : vs 11 = .int .i64 (x : Int) := hT 11 (by decide)
                        have t12 : vs 12 = .int .i64 ((b : Int) - x) := hT 12 (by decide)
                        simp only [t7, t8, t9, t10, t11, t12] at hK
                        have H := Lib.hid hK
                        clear hK hT
                        go_simp
                        exact H.out _ _ (Below.refl _ _) rfl (fun h => by cases h) trivial
                      refine Rg.cons 14 15 rfl (Rg.plain rfl ?_) ?_
                      · intro vs W n hn hI hG hT hF K hK
                        simp only [Rg.putsD, List.getD_cons_zero, List.getD_cons_succ, Act.put, List.setIfInBounds_toArray, List.set_cons_zero, List.set_cons_succ] at hK ⊢
                        clear hn
                        clear hF hI
                        have t6 : vs 6 = .slice (some ⟨g8, 0, none⟩) b c8 := hT 6 (by decide)
                        have t7 : vs 7 = .int .i64 b := hT 7 (by decide)
                        have t8 : vs 8 = .slice (some ⟨gb, 0, none⟩) bs.length c2 := hT 8 (by decide)
                        have t9 : vs 9 = .int .i64 k := hT 9 (by decide)
                        have t10 : vs 10 = .pointer (some ⟨gb, k, none⟩) := hT 10 (by decide)
                        have t11 : vs 11 = .int .i64 (x : Int) := hT 11 (by decide)
                        have t12 : vs 12 = .int .i64 ((b : Int) - x) := hT 12 (by decide)
                        have t13 : vs 13 = .int .i64 (d : Int) := hT 13 (by decide)
                        simp only [t6, t7, t8, t9, t10, t11, t12, t13] at hK
                        have H := Lib.hid hK
                        clear hK hT
                        go_simp
                        exact H.out _ _ (Below.refl _ _) rfl (fun h => by cases h) trivial
                      refine Rg.cons 15 16 rfl (Rg.plain rfl ?_) ?_
                      · intro vs W n hn hI hG hT hF K hK
                        simp only [Rg.putsD, List.getD_cons_zero, List.getD_cons_succ, Act.put, List.setIfInBounds_toArray, List.set_cons_zero, List.set_cons_succ] at hK ⊢
                        clear hn
                        clear hF hI
                        have t6 : vs 6 = .slice (some ⟨g8, 0, none⟩) b c8 := hT 6 (by decide)
                        have t7 : vs 7 = .int .i64 b := hT 7 (by decide)
                        have t8 : vs 8 = .slice (some ⟨gb, 0, none⟩) bs.length c2 := hT 8 (by decide)
                        have t9 : vs 9 = .int .i64 k := hT 9 (by decide)
                        have t10 : vs 10 = .pointer (some ⟨gb, k, none⟩) := hT 10 (by decide)
                        have t11 : vs 11 = .int .i64 (x : Int) := hT 11 (by decide)
                        have t12 : vs 12 = .int .i64 ((b : Int) - x) := hT 12 (by decide)
                        have t13 : vs 13 = .int .i64 (d : Int) := hT 13 (by decide)
                        have t14 : vs 14 = .pointer (some ⟨g8, d, none⟩) := hT 14 (by decide)
                        have d1 := (hG.cell (p := ⟨g8, d, none⟩) HG8.out.2).trans HG8.out.1
                        have ld1 : g8 < W.heap.size := Nat.lt_of_lt_of_le HG8.out.2 hG.size
                        simp only [t6, t7, t8, t9, t10, t11, t12, t13, t14] at hK
                        have H := Lib.hid hK
                        clear hK hT
                        go_simp
                        exact H.out _ _ (Below.refl _ _) rfl (fun h => by cases h) trivial
                      refine Rg.cons 16 17 rfl (Rg.plain rfl ?_) ?_
                      · intro vs W n hn hI hG hT hF K hK
                        simp only [Rg.putsD, List.getD_cons_zero, List.getD_cons_succ, Act.put, List.setIfInBounds_toArray, List.set_cons_zero, List.set_cons_succ] at hK ⊢
                        clear hn
                        clear hF hI
                        have H := Lib.hid hK
                        clear hK hT
                        go_simp
                        exact H.out _ _ (Below.refl _ _) rfl (fun h => by cases h) trivial
                      refine Rg.cons 17 18 rfl (Rg.plain rfl ?_) ?_
                      · intro vs W n hn hI hG hT hF K hK
                        simp only [Rg.putsD, List.getD_cons_zero, List.getD_cons_succ, Act.put, List.setIfInBounds_toArray, List.set_cons_zero, List.set_cons_succ] at hK ⊢
                        clear hn
                        clear hF hI
                        have t16 : vs 16 = .int .i64 k := hT 16 (by decide)
                        simp only [t16] at hK
                        have H := Lib.hid hK
                        clear hK hT
                        go_simp
                        exact H.out _ _ (Below.refl _ _) rfl (fun h => by cases h) trivial
                      refine Rg.cons 18 19 rfl (Rg.plain rfl ?_) ?_
                      · intro vs W n hn hI hG hT hF K hK
                        simp only [Rg.putsD, List.getD_cons_zero, List.getD_cons_succ, Act.put, List.setIfInBounds_toArray, List.set_cons_zero, List.set_cons_succ] at hK ⊢
                        clear hn
                        clear hF hI
                        have t6 : vs 6 = .slice (some ⟨g8, 0, none⟩) b c8 := hT 6 (by decide)
                        have t7 : vs 7 = .int .i64 b := hT 7 (by decide)
                        have t8 : vs 8 = .slice (some ⟨gb, 0, none⟩) bs.length c2 := hT 8 (by decide)
                        have t9 : vs 9 = .int .i64 k := hT 9 (by decide)
                        have t10 : vs 10 = .pointer (some ⟨gb, k, none⟩) := hT 10 (by decide)
                        have t11 : vs 11 = .int .i64 (x : Int) := hT 11 (by decide)
                        have t12 : vs 12 = .int .i64 ((b : Int) - x) := hT 12 (by decide)
                        have t13 : vs 13 = .int .i64 (d : Int) := hT 13 (by decide)
                        have t14 : vs 14 = .pointer (some ⟨g8, d, none⟩) := hT 14 (by decide)
                        have t15 : vs 15 = .slice (some ⟨fz d, 0, none⟩) cs.length cs.length := hT 15 (by decide)
                        have t16 : vs 16 = .int .i64 k := hT 16 (by decide)
                        have t17 : vs 17 = .int .i64 ((k + 1 : Nat) : Int) := hT 17 (by decide)
                        simp only [t6, t7, t8, t9, t10, t11, t12, t13, t14, t15, t16, t17] at hK
                        have H := Lib.hid hK
                        clear hK hT
                        go_simp
                        exact H.out _ _ (Below.refl _ _) rfl (fun h => by cases h) trivial
                      refine Rg.cons 19 20 rfl (Rg.plain rfl ?_) ?_
                      · intro vs W n hn hI hG hT hF K hK
                        simp only [Rg.putsD, List.getD_cons_zero, List.getD_cons_succ, Act.put, List.setIfInBounds_toArray, List.set_cons_zero, List.set_cons_succ] at hK ⊢
                        clear hn
                        clear hF hI
                        have t6 : vs 6 = .slice (some ⟨g8, 0, none⟩) b c8 := hT 6 (by decide)
                        have t7 : vs 7 = .int .i64 b := hT 7 (by decide)
                        have t8 : vs 8 = .slice (some ⟨gb, 0, none⟩) bs.length c2 := hT 8 (by decide)
                        have t9 : vs 9 = .int .i64 k := hT 9 (by decide)
                        have t10 : vs 10 = .pointer (some ⟨gb, k, none⟩) := hT 10 (by decide)
                        have t11 : vs 11 = .int .i64 (x : Int) := hT 11 (by decide)
                        have t12 : vs 12 = .int .i64 ((b : Int) - x) := hT 12 (by decide)
                        have t13 : vs 13 = .int .i64 (d : Int) := hT 13 (by decide)
                        have t14 : vs 14 = .pointer (some ⟨g8, d, none⟩) := hT 14 (by decide)
                        have t15 : vs 15 = .slice (some ⟨fz d, 0, none⟩) cs.length cs.length := hT 15 (by decide)
                        have t16 : vs 16 = .int .i64 k := hT 16 (by decide)
                        have t17 : vs 17 = .int .i64 ((k + 1 : Nat) : Int) := hT 17 (by decide)
                        have t18 : vs 18 = .pointer (some ⟨fz d, k + 1, none⟩) := hT 18 (by decide)
                        have hrz := blk_below hG (H3.out.mv.gz.rows d hdb)
                        have d1 := (cell_of_blk hrz (k + 1)).trans (intsR_at (lv cs bs d) hk1)
                        rw [← HRM.out] at d1
                        have ld1 := lt_of_blk hrz
                        clear hrz
                        simp only [t6, t7, t8, t9, t10, t11, t12, t13, t14, t15, t16, t17, t18] at hK
                        have H := Lib.hid hK
                        clear hK hT
                        go_simp
                        exact H.out _ _ (Below.refl _ _) rfl (fun h => by cases h) trivial
                      refine Rg.cons 20 21 rfl (Rg.plain rfl ?_) ?_
                      · intro vs W n hn hI hG hT hF K hK
                        simp only [Rg.putsD, List.getD_cons_zero, List.getD_cons_succ, Act.put, List.setIfInBounds_toArray, List.set_cons_zero, List.set_cons_succ] at hK ⊢
                        clear hn
                        clear hF hI
                        have t2 : vs 2 = .slice (some ⟨q3, 0, none⟩) cs.length cs.length := hT 2 (by decide)
                        have t3 : vs 3 = .int .i64 k := hT 3 (by decide)
                        have t4 : vs 4 = .pointer (some ⟨q3, k, none⟩) := hT 4 (by decide)
                        have t5 : vs 5 = .int .i64 (X + c) := hT 5 (by decide)
                        have t6 : vs 6 = .slice (some ⟨g8, 0, none⟩) b c8 := hT 6 (by decide)
                        have t7 : vs 7 = .int .i64 b := hT 7 (by decide)
                        have t8 : vs 8 = .slice (some ⟨gb, 0, none⟩) bs.length c2 := hT 8 (by decide)
                        have t9 : vs 9 = .int .i64 k := hT 9 (by decide)
                        have t10 : vs 10 = .pointer (some ⟨gb, k, none⟩) := hT 10 (by decide)
                        have t11 : vs 11 = .int .i64 (x : Int) := hT 11 (by decide)
                        have t12 : vs 12 = .int .i64 ((b : Int) - x) := hT 12 (by decide)
                        have t13 : vs 13 = .int .i64 (d : Int) := hT 13 (by decide)
                        have t14 : vs 14 = .pointer (some ⟨g8, d, none⟩) := hT 14 (by decide)
                        have t15 : vs 15 = .slice (some ⟨fz d, 0, none⟩) cs.length cs.length := hT 15 (by decide)
                        have t16 : vs 16 = .int .i64 k := hT 16 (by decide)
                        have t17 : vs 17 = .int .i64 ((k + 1 : Nat) : Int) := hT 17 (by decide)
                        have t18 : vs 18 = .pointer (some ⟨fz d, k + 1, none⟩) := hT 18 (by decide)
                        have t19 : vs 19 = .int .i64 M := hT 19 (by decide)
                        simp only [t2, t3, t4, t5, t6, t7, t8, t9, t10, t11, t12, t13, t14, t15, t16, t17, t18, t19] at hK
                        have H := Lib.hid hK
                        clear hK hT
                        go_simp
                        exact H.out _ _ (Below.refl _ _) rfl (fun h => by cases h) trivial
                      exact Rg.nil
                    · intro vs W hG hI hT hF
                      have t0 : vs 0 = .slice (some ⟨q3, 0, none⟩) cs.length cs.length := hT 0 (by decide)
                      have t1 : vs 1 = .int .i64 k := hT 1 (by decide)
                      have t2 : vs 2 = .slice (some ⟨q3, 0, none⟩) cs.length cs.length := hT 2 (by decide)
                      have t3 : vs 3 = .int .i64 k := hT 3 (by decide)
                      have t4 : vs 4 = .pointer (some ⟨q3, k, none⟩) := hT 4 (by decide)
                      have t5 : vs 5 = .int .i64 (X + c) := hT 5 (by decide)
                      have t6 : vs 6 = .slice (some ⟨g8, 0, none⟩) b c8 := hT 6 (by decide)
                      have t7 : vs 7 = .int .i64 b := hT 7 (by decide)
                      have t8 : vs 8 = .slice (some ⟨gb, 0, none⟩) bs.length c2 := hT 8 (by decide)
                      have t9 : vs 9 = .int .i64 k := hT 9 (by decide)
                      have t10 : vs 10 = .pointer (some ⟨gb, k, none⟩) := hT 10 (by decide)
                      have t11 : vs 11 = .int .i64 (x : Int) := hT 11 (by decide)
                      have t12 : vs 12 = .int .i64 ((b : Int) - x) := hT 12 (by decide)
                      have t13 : vs 13 = .int .i64 (d : Int) := hT 13 (by decide)
                      have t14 : vs 14 = .pointer (some ⟨g8, d, none⟩) := hT 14 (by decide)
                      have t15 : vs 15 = .slice (some ⟨fz d, 0, none⟩) cs.length cs.length := hT 15 (by decide)
                      have t16 : vs 16 = .int .i64 k := hT 16 (by decide)
                      have t17 : vs 17 = .int .i64 ((k + 1 : Nat) : Int) := hT 17 (by decide)
                      have t18 : vs 18 = .pointer (some ⟨fz d, k + 1, none⟩) := hT 18 (by decide)
                      have t19 : vs 19 = .int .i64 M := hT 19 (by decide)
                      have t20 : vs 20 = .int .i64 (max (X + c) M) := hT 20 (by decide)
                      simp only [List.length_cons, List.length_nil, Nat.reduceAdd, List.range, List.range.loop, List.drop_succ_cons, List.drop_zero, Rg.putsD, List.getD_cons_zero, List.getD_cons_succ, Act.put, List.setIfInBounds_toArray, List.set_cons_zero, List.set_cons_succ, t0, t1, t2, t3, t4, t5, t6, t7, t8, t9, t10, t11, t12, t13, t14, t15, t16, t17, t18, t19, t20]
                      clear hT t0 t1 t2 t3 t4 t5 t6 t7 t8 t9 t10 t11 t12 t13 t14 t15 t16 t17 t18 t19 t20
                      have HG1 : Hid (Below w5.heap.size w5 W) := (Below.refl _ _).drew.then_below hG (Nat.le_refl _)
                      have H4 := Lib.hid (H3.out.below HG1.out)
                      clear hG hI hF wk1 wk2 wk3
                      have d1 := (cell_of_blk H4.out.k3 k).trans (stR_at (lv cs bs b) (X + c) hlt)
                      have ld1 := lt_of_blk H4.out.k3
                      have f1 := frozen_of_blk H4.out.k3 k
                      have H9 := Lib.hid ((H4.out.set3 HAP.out hlt (max (X + c) M)).next HV.out.1.symm HD.out.symm (by rw [HV.out.2.2, HD.out]))
                      have hz9 := H9.out.mv.bel.size
                      go_wp2_with fail
                      go_roundw
                      case rel => exact ⟨k + 1, by omega, by go_num, hz9, H9⟩
                      case measure => simp [intOf]; omega
                  · have hxb' : ¬ (x : Int) < (b : Int) := by omega
                    have H9 := Lib.hid (H3.out.next HV.out.1.symm HD.out.symm ((HVN.out x HXB.out hx0.1 hxb').trans HD.out).symm)
                    clear hxb
                    go_wp2_with fail
                    go_roundw
                    case rel => exact ⟨k + 1, by omega, by go_num, hz5, H9⟩
                    case measure => simp [intOf]; omega
                · have hk1' : ¬ (k : Int) + 1 < (cs.length : Int) := by omega
                  have H9 := Lib.hid (H3.out.next HV.out.1.symm HD.out.symm ((HVL.out hk1).trans HD.out).symm)
                  go_wp2_with fail
                  go_roundw
                  case rel => exact ⟨k + 1, by omega, by go_num, hz5, H9⟩
                  case measure => simp [intOf]; omega
          · obtain rfl : k = cs.length := by omega
            have f1 : stR (cm cs bs b) cs.length cs.length 0 = intsR (cm cs bs b) cs.length := stR_full _ _ _
            have f2 : stR (dn cs bs b) cs.length cs.length 0 = intsR (dn cs bs b) cs.length := stR_full _ _ _
            have f3 : stR (lv cs bs b) cs.length cs.length 0 = intsR (lv cs bs b) cs.length := stR_full _ _ _
            have HK : Hid (wr.heap[q1]? = some (.cells ((intsR (cm cs bs b) cs.length).map (Value.int .i64)).toArray 3 (0, 0)) ∧ wr.heap[q2]? = some (.cells ((intsR (dn cs bs b) cs.length).map (Value.int .i64)).toArray 3 (0, 0)) ∧ wr.heap[q3]? = some (.cells ((intsR (lv cs bs b) cs.length).map (Value.int .i64)).toArray 3 (0, 0))) :=
              ⟨by rw [← f1]; exact HM.out.k1, by rw [← f2]; exact HM.out.k2, by rw [← f3]; exact HM.out.k3⟩
            have HMV := Lib.hid HM.out.mv
            clear HM f1 f2 f3 hmk
            obtain ⟨i0, hi0, hz0, hzz1, hz20⟩ := info_parts intS_info
            have HI := Lib.hid (And.intro hi0 (And.intro hz0 (And.intro hzz1 hz20)))
            clear hi0 hz0 hzz1 hz20
            go_upto_region 16 with (fail)
            go_wp2_with (at_builtin; refine hold ?_)
            refine loose ?_
            refine wpList_append_own_at _ rfl _ _ 101 rfl w.heap.size 22 i0 _ 1 24 Try.underlying101 HI.out.1 HI.out.2.1 HI.out.2.2.1 HI.out.2.2.2 rfl (by omega) _ b (rowsV fx cs.length b) rfl (HMV.out.gx.own.alloc _) ⟨wr.heap.size, 0, none⟩ 1 1 [.slice (some ⟨q1, 0, none⟩) cs.length cs.length] rfl rfl (cell_one_new _ _ _) (by intro u hu; simp at hu; subst hu; rfl) (by unfold maxLen; omega) (by omega) (by simp; omega) ?_
            intro u6 w4 h1own h1g _ h1v
            have hal : ∀ (W : World) (o : Obj), Below W.heap.size W (W.alloc o) := fun W o => (Below.refl _ _).alloc (Nat.le_refl _) o
            have hm1 := HMV.out.below (hal wr (.cells #[.slice (some ⟨q1, 0, none⟩) cs.length cs.length] 22))
            have P1 := push_any hm1.bel hm1.gx hm1.gy hm1.gz hm1.d1 hm1.d2 h1own h1g h1v (blk_below (hal _ _) HK.out.1) HAP.out.b1
            have K1 : Hid (w4.heap[q2]? = some (.cells ((intsR (dn cs bs b) cs.length).map (Value.int .i64)).toArray 3 (0, 0)) ∧ w4.heap[q3]? = some (.cells ((intsR (lv cs bs b) cs.length).map (Value.int .i64)).toArray 3 (0, 0))) :=
              ⟨int_off (blk_below (hal _ _) HK.out.2.1) (own_typ hm1.gx.own) h1g, int_off (blk_below (hal _ _) HK.out.2.2) (own_typ hm1.gx.own) h1g⟩
            have D1 := Lib.hid hm1.d3
            have Q1 := Lib.hid P1
            have HAL := Lib.hid hal
            have hz4 := P1.1.size
            clear hm1 P1 h1own h1g h1v hal HK HMV
            go_wp2_with (at_builtin; refine hold ?_)
            refine loose ?_
            refine wpList_append_own_at _ rfl _ _ 101 rfl w.heap.size 22 i0 _ 1 24 Try.underlying101 HI.out.1 HI.out.2.1 HI.out.2.2.1 HI.out.2.2.2 rfl (by omega) _ b (rowsV fy cs.length b) rfl (Q1.out.2.2.1.own.alloc _) ⟨w4.heap.size, 0, none⟩ 1 1 [.slice (some ⟨q2, 0, none⟩) cs.length cs.length] rfl rfl (cell_one_new _ _ _) (by intro u hu; simp at hu; subst hu; rfl) (by unfold maxLen; omega) (by omega) (by simp; omega) ?_
            intro u7 w5 h2own h2g _ h2v
            have ha2 := HAL.out w4 (.cells #[.slice (some ⟨q2, 0, none⟩) cs.length cs.length] 22)
            have hy2 := Q1.out.2.2.1.below ha2
            have P2 := push_any (Q1.out.1.then_below ha2 hz4) hy2 (Q1.out.2.1.below ha2) (Q1.out.2.2.2.1.below ha2) (flip_ne Q1.out.2.2.2.2.1) D1.out h2own h2g h2v (blk_below ha2 K1.out.1) HAP.out.b2
            have K2 : Hid (w5.heap[q3]? = some (.cells ((intsR (lv cs bs b) cs.length).map (Value.int .i64)).toArray 3 (0, 0))) :=
              int_off (blk_below ha2 K1.out.2) (own_typ hy2.own) h2g
            have D2 := Lib.hid Q1.out.2.2.2.2.2
            have Q2 := Lib.hid P2
            have hz5 := P2.1.size
            clear P2 h2own h2g h2v ha2 hy2 K1 Q1 hz4
            go_wp2_with (at_builtin; refine hold ?_)
            refine loose ?_
            refine wpList_append_own_at _ rfl _ _ 101 rfl w.heap.size 22 i0 _ 1 24 Try.underlying101 HI.out.1 HI.out.2.1 HI.out.2.2.1 HI.out.2.2.2 rfl (by omega) _ b (rowsV fz cs.length b) rfl (Q2.out.2.2.2.1.own.alloc _) ⟨w5.heap.size, 0, none⟩ 1 1 [.slice (some ⟨q3, 0, none⟩) cs.length cs.length] rfl rfl (cell_one_new _ _ _) (by intro u hu; simp at hu; subst hu; rfl) (by unfold maxLen; omega) (by omega) (by simp; omega) ?_
            intro u8 w6 h3own h3g _ h3v
            have ha3 := HAL.out w5 (.cells #[.slice (some ⟨q3, 0, none⟩) cs.length cs.length] 22)
            have hz3 := Q2.out.2.2.2.1.below ha3
            have P3 := push_any (Q2.out.1.then_below ha3 hz5) hz3 (Q2.out.2.1.below ha3) (Q2.out.2.2.1.below ha3) (flip_ne Q2.out.2.2.2.2.2) (flip_ne D2.out) h3own h3g h3v (blk_below ha3 K2.out) HAP.out.b3
            have H9 : Hid (Mv w cs bs (fun c => if c = b then q1 else fx c) (fun c => if c = b then q2 else fy c) (fun c => if c = b then q3 else fz c) cs.length (b + 1) u6 u7 u8 w6) :=
              ⟨P3.1, P3.2.2.2.1, P3.2.2.1, P3.2.1, flip_ne Q2.out.2.2.2.2.1, flip_ne P3.2.2.2.2.2, flip_ne P3.2.2.2.2.1⟩
            have hz6 := H9.out.bel.size
            clear P3 h3own h3g h3v ha3 hz3 K2 Q2 hz5
            go_wp2_with fail
            go_roundw
            case rel => exact ⟨b + 1, _, _, _, by omega, by go_num, hz6, H9⟩
            case measure => simp [intOf]; omega
    · obtain rfl : b = m := by omega
      go_wp2_with fail
      refine bodyPost_ret (v := .tuple #[.slice A6 b c6, .slice A7 b c7, .slice A8 b c8]) (by unfold results; simp only [Try.results62]; go_simp) rfl ⟨_, _, _, fx, fy, fz, rfl, HS.out⟩
end Go.Proofs.Ytiooimfkobjpkaa
