/-
  How long each machine was blocked, and idle: the reference's answer.
-/
import Derived.Test.YtiooimfkobjpkaaLnY
namespace Go.Proofs.Ytiooimfkobjpkaa
open Go.RowKit
set_option linter.unusedSimpArgs false
set_option linter.unusedVariables false

theorem readsF_ints {W : World} {q B : Nat} {l : List Int} {n : Nat} (hn : n = l.length) (hq : B ≤ q) {t : TypeId} (h : W.heap[q]? = some (.cells (l.map (Value.int .i64)).toArray t (0, 0))) : ReadsF B encN (.slice (some ⟨q, 0, none⟩) n n) l W := by
  subst hn
  refine ⟨_, _, rfl, Nat.le_refl _, .inr ⟨q, rfl, hq, lt_of_blk h, fun j u hu => ?_⟩⟩
  rw [flatN_map] at hu
  rw [cell_of_blk h]
  simpa using hu
/-- The sums so far, and the three rows of rows. -/
structure Bq (wo : World) (cs bs : List Int) (fx fy fz : Nat → Nat) (n m : Nat) (v1 v2 v3 : Value) (qb qi k b b' : Nat) (W : World) : Prop where
  mv : Mv wo cs bs fx fy fz n m v1 v2 v3 W
  kb : W.heap[qb]? = some (.cells ((sumR (blkS cs bs) n m k b).map (Value.int .i64)).toArray 3 (0, 0))
  ki : W.heap[qi]? = some (.cells ((sumR (idlS cs bs) n m k b').map (Value.int .i64)).toArray 3 (0, 0))
section
variable {wo : World} {cs bs : List Int} {fx fy fz : Nat → Nat} {n m : Nat} {v1 v2 v3 : Value} {qb qi k b b' : Nat} {W W' : World}
theorem Bq.then_ (h : Bq wo cs bs fx fy fz n m v1 v2 v3 qb qi k b b' W) (hb : Below W.heap.size W W') : Bq wo cs bs fx fy fz n m v1 v2 v3 qb qi k b b' W' :=
  ⟨h.mv.below hb, blk_below hb h.kb, blk_below hb h.ki⟩
theorem Bq.next (h : Bq wo cs bs fx fy fz n m v1 v2 v3 qb qi k m m W) : Bq wo cs bs fx fy fz n m v1 v2 v3 qb qi (k + 1) 0 0 W :=
  ⟨h.mv, by rw [← sumR_next]; exact h.kb, by rw [← sumR_next]; exact h.ki⟩
theorem Bq.setB (h : Bq wo cs bs fx fy fz n m v1 v2 v3 qb qi k b b' W) (hk : k < n) (h0 : wo.heap.size ≤ qb) (h1 : ∀ c, c < m → fx c ≠ qb ∧ fy c ≠ qb ∧ fz c ≠ qb) (h3 : qi ≠ qb) {x : Int} (hx : x = blkS cs bs k (b + 1)) : Bq wo cs bs fx fy fz n m v1 v2 v3 qb qi k (b + 1) b' (W.setCell ⟨qb, k, none⟩ (.int .i64 x)) := by
  subst hx
  exact ⟨h.mv.set h.kb h0 h1 _ _, by rw [← sumR_set (blkS cs bs) m b (b + 1) hk]; exact blk_set h.kb _, blk_far h.ki h3 _⟩
theorem Bq.setI (h : Bq wo cs bs fx fy fz n m v1 v2 v3 qb qi k b b' W) (hk : k < n) (h0 : wo.heap.size ≤ qi) (h1 : ∀ c, c < m → fx c ≠ qi ∧ fy c ≠ qi ∧ fz c ≠ qi) (h3 : qb ≠ qi) {x : Int} (hx : x = idlS cs bs k (b' + 1)) : Bq wo cs bs fx fy fz n m v1 v2 v3 qb qi k b (b' + 1) (W.setCell ⟨qi, k, none⟩ (.int .i64 x)) := by
  subst hx
  exact ⟨h.mv.set h.ki h0 h1 _ _, blk_far h.kb h3 _, by rw [← sumR_set (idlS cs bs) m b' (b' + 1) hk]; exact blk_set h.ki _⟩
theorem Bq.skipI (h : Bq wo cs bs fx fy fz n m v1 v2 v3 qb qi k b 0 W) : Bq wo cs bs fx fy fz n m v1 v2 v3 qb qi k b 1 W := by
  refine ⟨h.mv, h.kb, ?_⟩
  have : sumR (idlS cs bs) n m k 1 = sumR (idlS cs bs) n m k 0 := by
    unfold sumR
    refine List.map_congr_left fun j _ => ?_
    unfold cnt
    split
    · rfl
    · split
      · rw [idlS, idlS, idlT, if_pos rfl]; rfl
      · rfl
  rw [this]
  exact h.ki
end

set_option maxRecDepth 100000 in
set_option maxHeartbeats 8000000 in
theorem blockedOf_any (cs bs : List Int) (m : Nat) (hcs : CsOk cs) (hc1 : 1 ≤ cs.length) (hc6 : cs.length ≤ 6) (hb : (bs.length : Int) = (cs.length : Int) - 1) (hbs : ∀ x ∈ bs, 0 ≤ x ∧ x ≤ 2000) (hm2 : m ≤ 2000) {v1 v2 : Value} {w : World} (r1 : Reads encN v1 cs w) (r2 : Reads encN v2 bs w) :
    Calls Try.prog 30 #[v1, v2, .int .i64 m] w fun e w' => ∃ v v', e = .returned (.tuple #[v, v']) ∧ ReadsF w.heap.size encN v (allR (blkS cs bs) cs.length m) w' ∧ ReadsF w.heap.size encN v' (allR (idlS cs bs) cs.length m) w' ∧ Below w.heap.size w w' := by
  have CP := Lib.hid (moves_any cs bs m hcs hc1 hc6 hb hbs hm2 r1 r2)
  have HC := Lib.hid hcs
  obtain ⟨A1, c1, rfl, _⟩ := r1
  obtain ⟨A2, c2, rfl, _⟩ := r2
  clear hcs hbs hb
  have hmk := run_makeInts cs.length (by omega)
  go_enter Try.func30, Try.ntmps30
  go_wp2_with fail
  refine CP.out.mono ?_
  rintro e w2 ⟨u1, u2, u3, fx, fy, fz, rfl, hmv⟩
  have HM := Lib.hid hmv
  have hz2 := hmv.bel.size
  obtain ⟨A6, c6, rfl, _⟩ := own_form hmv.gx.own
  obtain ⟨A7, c7, rfl, _⟩ := own_form hmv.gy.own
  obtain ⟨A8, c8, rfl, _⟩ := own_form hmv.gz.own
  clear hmv CP
  go_upto_region 2 with (fail)
  refine Rg.rgL (fun a b => Below a.heap.size a b)
    [(fun vs u => vs 0 = .slice A1 cs.length c1), (fun vs u => vs 1 = .int .i64 cs.length), (fun vs u => ∃ b : Nat, vs 2 = .slice (some ⟨b, 0, none⟩) cs.length cs.length ∧ u.heap[b]? = some (.cells (List.replicate cs.length (Value.int .i64 0)).toArray 3 (0, 0))), (fun vs u => vs 3 = .slice A1 cs.length c1), (fun vs u => vs 4 = .int .i64 cs.length), (fun vs u => ∃ b : Nat, vs 5 = .slice (some ⟨b, 0, none⟩) cs.length cs.length ∧ u.heap[b]? = some (.cells (List.replicate cs.length (Value.int .i64 0)).toArray 3 (0, 0))), (fun vs u => vs 6 = vs 2)]
    [[], [0], [0, 1], [], [3], [3, 4], [0, 1, 2]] [some 23, some 24, some 25, some 26, some 27, some 28, some 11, some 12] [2, 5] (fun _ _ => True) [[], [0], [0, 1], [], [3], [3, 4], [0, 1, 2], [0, 1, 2, 3, 4, 5, 6]]
    (by kernel_rfl) (by decide) (by kernel_rfl) (by kernel_rfl) (by kernel_rfl) (by kernel_rfl) (by kernel_rfl) (fun _ => Below.refl _ _) (fun _ _ _ h k => h.ext k) (fun _ _ h => h.size) ?_ trivial ?_ ?_
  · intro t ht vs w w' h hE
    simp only [List.mem_cons, List.not_mem_nil, or_false] at ht
    rcases ht with rfl | rfl | rfl | rfl | rfl | rfl | rfl
    · exact h
    · exact h
    · obtain ⟨b, e, k⟩ := h
      exact ⟨b, e, blk_below hE k⟩
    · exact h
    · exact h
    · obtain ⟨b, e, k⟩ := h
      exact ⟨b, e, blk_below hE k⟩
    · exact h
  ·
    refine Rg.cons 0 1 rfl (Rg.plain rfl ?_) ?_
    · intro vs W n hn hI hG hT hF K hK
      simp only [Rg.putsD, List.getD_cons_zero, List.getD_cons_succ, Act.put, List.setIfInBounds_toArray, List.set_cons_zero, List.set_cons_succ] at hK ⊢
      clear hn
      clear hF hI
      have H := Lib.hid hK
      clear hK hT
      go_simp
      exact H.out _ _ (Below.refl _ _) rfl (fun h => by cases h) trivial
    refine Rg.cons 1 2 rfl (Rg.plain rfl ?_) ?_
    · intro vs W n hn hI hG hT hF K hK
      simp only [Rg.putsD, List.getD_cons_zero, List.getD_cons_succ, Act.put, List.setIfInBounds_toArray, List.set_cons_zero, List.set_cons_succ] at hK ⊢
      clear hn
      clear hF hI
      have t0 : vs 0 = .slice A1 cs.length c1 := hT 0 (by decide)
      simp only [t0] at hK
      have H := Lib.hid hK
      clear hK hT
      go_simp
      exact H.out _ _ (Below.refl _ _) rfl (fun h => by cases h) trivial
    refine Rg.cons 2 3 rfl (Rg.plain rfl ?_) ?_
    · intro vs W n hn hI hG hT hF K hK
      simp only [Rg.putsD, List.getD_cons_zero, List.getD_cons_succ, Act.put, List.setIfInBounds_toArray, List.set_cons_zero, List.set_cons_succ] at hK ⊢
      clear hn
      clear hF hI
      have t0 : vs 0 = .slice A1 cs.length c1 := hT 0 (by decide)
      have t1 : vs 1 = .int .i64 cs.length := hT 1 (by decide)
      simp only [t0, t1] at hK
      have H := Lib.hid hK
      clear hK hT
      go_simp
      exact H.out _ _ ((Below.refl _ _).alloc (Nat.le_refl _) _) (show ∃ b : Nat, _ = _ ∧ _ = _ from ⟨_, rfl, by simpa using blk_new W (.cells (List.replicate cs.length (Value.int .i64 0)).toArray 3) rfl⟩) (fun _ => ⟨W.heap.size, rfl, Nat.le_refl _, by simp⟩) trivial
    refine Rg.cons 3 4 rfl (Rg.plain rfl ?_) ?_
    · intro vs W n hn hI hG hT hF K hK
      simp only [Rg.putsD, List.getD_cons_zero, List.getD_cons_succ, Act.put, List.setIfInBounds_toArray, List.set_cons_zero, List.set_cons_succ] at hK ⊢
      clear hn
      clear hF hI
      have H := Lib.hid hK
      clear hK hT
      go_simp
      exact H.out _ _ (Below.refl _ _) rfl (fun h => by cases h) trivial
    refine Rg.cons 4 5 rfl (Rg.plain rfl ?_) ?_
    · intro vs W n hn hI hG hT hF K hK
      simp only [Rg.putsD, List.getD_cons_zero, List.getD_cons_succ, Act.put, List.setIfInBounds_toArray, List.set_cons_zero, List.set_cons_succ] at hK ⊢
      clear hn
      clear hF hI
      have t3 : vs 3 = .slice A1 cs.length c1 := hT 3 (by decide)
      simp only [t3] at hK
      have H := Lib.hid hK
      clear hK hT
      go_simp
      exact H.out _ _ (Below.refl _ _) rfl (fun h => by cases h) trivial
    refine Rg.cons 5 6 rfl (Rg.plain rfl ?_) ?_
    · intro vs W n hn hI hG hT hF K hK
      simp only [Rg.putsD, List.getD_cons_zero, List.getD_cons_succ, Act.put, List.setIfInBounds_toArray, List.set_cons_zero, List.set_cons_succ] at hK ⊢
      clear hn
      clear hF hI
      have t3 : vs 3 = .slice A1 cs.length c1 := hT 3 (by decide)
      have t4 : vs 4 = .int .i64 cs.length := hT 4 (by decide)
      simp only [t3, t4] at hK
      have H := Lib.hid hK
      clear hK hT
      go_simp
      exact H.out _ _ ((Below.refl _ _).alloc (Nat.le_refl _) _) (show ∃ b : Nat, _ = _ ∧ _ = _ from ⟨_, rfl, by simpa using blk_new W (.cells (List.replicate cs.length (Value.int .i64 0)).toArray 3) rfl⟩) (fun _ => ⟨W.heap.size, rfl, Nat.le_refl _, by simp⟩) trivial
    refine Rg.cons 6 7 rfl (Rg.plain rfl ?_) ?_
    · intro vs W n hn hI hG hT hF K hK
      simp only [Rg.putsD, List.getD_cons_zero, List.getD_cons_succ, Act.put, List.setIfInBounds_toArray, List.set_cons_zero, List.set_cons_succ] at hK ⊢
      clear hn
      clear hF hI
      have t0 : vs 0 = .slice A1 cs.length c1 := hT 0 (by decide)
      have t1 : vs 1 = .int .i64 cs.length := hT 1 (by decide)
      have t2 : ∃ b : Nat, vs 2 = .slice (some ⟨b, 0, none⟩) cs.length cs.length ∧ W.heap[b]? = some (.cells (List.replicate cs.length (Value.int .i64 0)).toArray 3 (0, 0)) := hT 2 (by decide)
      simp only [t0, t1] at hK
      have H := Lib.hid hK
      clear hK hT
      go_simp
      exact H.out _ _ (Below.refl _ _) rfl (fun h => by cases h) trivial
    exact Rg.nil
  · intro vs W hG hI hT hF
    have t0 : vs 0 = .slice A1 cs.length c1 := hT 0 (by decide)
    have t1 : vs 1 = .int .i64 cs.length := hT 1 (by decide)
    have t2 : ∃ b : Nat, vs 2 = .slice (some ⟨b, 0, none⟩) cs.length cs.length ∧ W.heap[b]? = some (.cells (List.replicate cs.length (Value.int .i64 0)).toArray 3 (0, 0)) := hT 2 (by decide)
    have t3 : vs 3 = .slice A1 cs.length c1 := hT 3 (by decide)
    have t4 : vs 4 = .int .i64 cs.length := hT 4 (by decide)
    have t5 : ∃ b : Nat, vs 5 = .slice (some ⟨b, 0, none⟩) cs.length cs.length ∧ W.heap[b]? = some (.cells (List.replicate cs.length (Value.int .i64 0)).toArray 3 (0, 0)) := hT 5 (by decide)
    have t6 : vs 6 = vs 2 := hT 6 (by decide)
    simp only [List.length_cons, List.length_nil, Nat.reduceAdd, List.range, List.range.loop, List.drop_succ_cons, List.drop_zero, Rg.putsD, List.getD_cons_zero, List.getD_cons_succ, Act.put, List.setIfInBounds_toArray, List.set_cons_zero, List.set_cons_succ, t0, t1, t3, t4, t6]
    clear hT t0 t1 t3 t4 t6
    obtain ⟨qb, e2, k2⟩ := t2
    obtain ⟨qi, e5, k5⟩ := t5
    obtain ⟨_, p2, l2, _⟩ := hF.1 2 (by decide) (by decide)
    obtain ⟨_, p5, l5, _⟩ := hF.1 5 (by decide) (by decide)
    have hne := hF.2 2 (by decide) 5 (by decide) (by decide) (by decide) (by decide)
    simp only [e2, e5, Rg.blockOf, Option.some.injEq, ne_eq] at p2 p5 hne
    subst p2 p5
    simp only [e2, e5]
    have hGW : Below w2.heap.size w2 W := (Below.refl _ _).drew.then_below hG (Nat.le_refl _)
    have l2' : w2.heap.size ≤ qb := l2
    have l5' : w2.heap.size ≤ qi := l5
    have HB0 : Hid (Bq w cs bs fx fy fz cs.length m (.slice A6 m c6) (.slice A7 m c7) (.slice A8 m c8) qb qi 0 0 0 W) := ⟨HM.out.below hGW, by rw [sumR_zero (blkS cs bs) (fun _ => rfl)]; exact k2, by rw [sumR_zero (idlS cs bs) (fun _ => rfl)]; exact k5⟩
    have HFR : Hid (w.heap.size ≤ qb ∧ w.heap.size ≤ qi ∧ (∀ c, c < m → fx c ≠ qb ∧ fy c ≠ qb ∧ fz c ≠ qb) ∧ (∀ c, c < m → fx c ≠ qi ∧ fy c ≠ qi ∧ fz c ≠ qi) ∧ qb ≠ qi) := by
      refine ⟨by omega, by omega, fun c hc => ?_, fun c hc => ?_, hne⟩
      all_goals
        have e1 := lt_of_blk (HM.out.gx.rows c hc)
        have e2 := lt_of_blk (HM.out.gy.rows c hc)
        have e3 := lt_of_blk (HM.out.gz.rows c hc)
        omega
    have hz3 := HB0.out.mv.bel.size
    clear e2 e5 k2 k5 hF hG hI l2 l5 hGW hmk l2' l5' hne HM
    go_wp2_with fail
    go_loopw [31] (fun kk wr => ∃ (k : Nat), k ≤ cs.length ∧ kk = .int .i64 k ∧ w.heap.size ≤ wr.heap.size ∧ Hid (Bq w cs bs fx fy fz cs.length m (.slice A6 m c6) (.slice A7 m c7) (.slice A8 m c8) qb qi k 0 0 wr)) (fun kk _ => cs.length - (intOf kk).toNat)
    case atStart => exact ⟨0, by omega, rfl, hz3, HB0⟩
    case round =>
      clear HB0 hz3
      obtain ⟨k, hk, rfl, hwz, HS⟩ := hrel
      by_cases hlt : k < cs.length
      · have i1 : (0 : Int) ≤ (k : Int) := by omega
        have i2 : (k : Int) < (cs.length : Int) := by omega
        go_wp2_with fail
        obtain ⟨wo, hwo⟩ : ∃ wo : World, wo = wr := ⟨_, rfl⟩
        rw [← hwo]
        rw [← hwo] at HS hwz
        clear hwo
        go_loopw [35] (fun kk wr => ∃ (b : Nat), b ≤ m ∧ kk = .int .i64 b ∧ w.heap.size ≤ wr.heap.size ∧ Hid (Bq w cs bs fx fy fz cs.length m (.slice A6 m c6) (.slice A7 m c7) (.slice A8 m c8) qb qi k b b wr)) (fun kk _ => m - (intOf kk).toNat)
        case atStart => exact ⟨0, by omega, rfl, hwz, HS⟩
        case round =>
          clear HS hwz
          obtain ⟨b, hbm', rfl, hwz, HS⟩ := hrel
          by_cases hbm : b < m
          · have i3 : (0 : Int) ≤ (b : Int) := by omega
            have i4 : (b : Int) < (m : Int) := by omega
            have bb1 := blkS_bd bs HC.out (k := k) (by omega) b (by omega)
            have bi1 := idlS_bd bs HC.out (k := k) (by omega) b (by omega)
            have bx1 := cm_bd bs HC.out b k
            have by1 := dn_bd bs HC.out b k
            have bz1 := lv_bd bs HC.out b k
            have HVB : Hid (blkS cs bs k (b + 1) = blkS cs bs k b + (lv cs bs b k - dn cs bs b k)) := rfl
            have HVI : Hid (∀ b', b = b' + 1 → idlS cs bs k (b + 1) = idlS cs bs k b + (cm cs bs b k - lv cs bs b' k)) := by
              rintro b' rfl
              rfl
            obtain ⟨g6, cap6, e6, hg6, z6⟩ := HS.out.mv.gx.cell hbm
            obtain ⟨g7, cap7, e7, hg7, z7⟩ := HS.out.mv.gy.cell hbm
            obtain ⟨g8, cap8, e8, hg8, z8⟩ := HS.out.mv.gz.cell hbm
            cases e6
            cases e7
            cases e8
            have r6 := (cell_of_blk (HS.out.mv.gx.rows b hbm) k).trans (intsR_at (cm cs bs b) hlt)
            have r7 := (cell_of_blk (HS.out.mv.gy.rows b hbm) k).trans (intsR_at (dn cs bs b) hlt)
            have r8 := (cell_of_blk (HS.out.mv.gz.rows b hbm) k).trans (intsR_at (lv cs bs b) hlt)
            have HZ : Hid (wr.cell? ⟨g6, b, none⟩ = some (.slice (some ⟨fx b, 0, none⟩) cs.length cs.length) ∧ wr.cell? ⟨g7, b, none⟩ = some (.slice (some ⟨fy b, 0, none⟩) cs.length cs.length) ∧ wr.cell? ⟨g8, b, none⟩ = some (.slice (some ⟨fz b, 0, none⟩) cs.length cs.length) ∧ g6 < wr.heap.size ∧ g7 < wr.heap.size ∧ g8 < wr.heap.size) := ⟨z6, z7, z8, hg6, hg7, hg8⟩
            have HY : Hid (wr.cell? ⟨fx b, k, none⟩ = some (.int .i64 (cm cs bs b k)) ∧ wr.cell? ⟨fy b, k, none⟩ = some (.int .i64 (dn cs bs b k)) ∧ wr.cell? ⟨fz b, k, none⟩ = some (.int .i64 (lv cs bs b k)) ∧ fx b < wr.heap.size ∧ fy b < wr.heap.size ∧ fz b < wr.heap.size) := ⟨r6, r7, r8, lt_of_blk (HS.out.mv.gx.rows b hbm), lt_of_blk (HS.out.mv.gy.rows b hbm), lt_of_blk (HS.out.mv.gz.rows b hbm)⟩
            clear z6 z7 z8 hg6 hg7 hg8 r6 r7 r8
            generalize hXX : cm cs bs b k = X at *
            have HXX := Lib.hid hXX
            clear hXX
            generalize dn cs bs b k = Y at *
            generalize lv cs bs b k = Z at *
            generalize hVV : blkS cs bs k b = V at *
            generalize hUU : idlS cs bs k b = U at *
            have HVU := Lib.hid (And.intro hVV hUU)
            clear hVV hUU
            go_upto_region 9 with (fail)
            have wk1 : IntKind.i64.wrap (Z - Y) = Z - Y := by rw [IntKind.wrap_i64]; omega
            have wk2 : IntKind.i64.wrap (V + (Z - Y)) = V + (Z - Y) := by rw [IntKind.wrap_i64]; omega
            refine Rg.rgL (fun a b => Below a.heap.size a b)
              [(fun vs u => vs 0 = .slice (some ⟨qb, 0, none⟩) cs.length cs.length), (fun vs u => vs 1 = .int .i64 k), (fun vs u => vs 2 = .pointer (some ⟨qb, k, none⟩)), (fun vs u => vs 3 = .int .i64 V), (fun vs u => vs 4 = .slice (some ⟨g8, 0, none⟩) m c8), (fun vs u => vs 5 = .int .i64 b), (fun vs u => vs 6 = .pointer (some ⟨g8, b, none⟩)), (fun vs u => vs 7 = .slice (some ⟨fz b, 0, none⟩) cs.length cs.length), (fun vs u => vs 8 = .int .i64 k), (fun vs u => vs 9 = .pointer (some ⟨fz b, k, none⟩)), (fun vs u => vs 10 = .int .i64 Z), (fun vs u => vs 11 = .slice (some ⟨g7, 0, none⟩) m c7), (fun vs u => vs 12 = .int .i64 b), (fun vs u => vs 13 = .pointer (some ⟨g7, b, none⟩)), (fun vs u => vs 14 = .slice (some ⟨fy b, 0, none⟩) cs.length cs.length), (fun vs u => vs 15 = .int .i64 k), (fun vs u => vs 16 = .pointer (some ⟨fy b, k, none⟩)), (fun vs u => vs 17 = .int .i64 Y), (fun vs u => vs 18 = .int .i64 (Z - Y))]
              [[], [], [0, 1], [0, 1, 2], [], [], [4, 5], [4, 5, 6], [], [4, 5, 6, 7, 8], [4, 5, 6, 7, 8, 9], [], [], [11, 12], [11, 12, 13], [], [11, 12, 13, 14, 15], [11, 12, 13, 14, 15, 16], [4, 5, 6, 7, 8, 9, 10, 11, 12, 13, 14, 15, 16, 17]] [some 38, some 39, some 40, some 41, some 42, some 43, some 44, some 45, some 46, some 47, some 48, some 49, some 50, some 51, some 52, some 53, some 54, some 55, some 56, some 57, some 58, none] [] (fun _ _ => True) [[], [], [0, 1], [0, 1, 2], [], [], [4, 5], [4, 5, 6], [], [4, 5, 6, 7, 8], [4, 5, 6, 7, 8, 9], [], [], [11, 12], [11, 12, 13], [], [11, 12, 13, 14, 15], [11, 12, 13, 14, 15, 16], [4, 5, 6, 7, 8, 9, 10, 11, 12, 13, 14, 15, 16, 17], [0, 1, 2, 3, 4, 5, 6, 7, 8, 9, 10, 11, 12, 13, 14, 15, 16, 17, 18], [0, 1, 2, 3, 4, 5, 6, 7, 8, 9, 10, 11, 12, 13, 14, 15, 16, 17, 18, 19], [0, 1, 2, 3, 4, 5, 6, 7, 8, 9, 10, 11, 12, 13, 14, 15, 16, 17, 18, 19, 20]]
              (by kernel_rfl) (by decide) (by kernel_rfl) (by kernel_rfl) (by kernel_rfl) (by kernel_rfl) (by kernel_rfl) (fun _ => Below.refl _ _) (fun _ _ _ h k => h.ext k) (fun _ _ h => h.size) ?_ trivial ?_ ?_
            · intro t ht vs w w' h hE
              simp only [List.mem_cons, List.not_mem_nil, or_false] at ht
              rcases ht with rfl | rfl | rfl | rfl | rfl | rfl | rfl | rfl | rfl | rfl | rfl | rfl | rfl | rfl | rfl | rfl | rfl | rfl | rfl
              · exact h
              · exact h
              · exact h
              · exact h
              · exact h
              · exact h
              · exact h
              · exact h
              · exact h
              · exact h
              · exact h
              · exact h
              · exact h
              · exact h
              · exact h
              · exact h
              · exact h
              · exact h
              · exact h
            ·
              refine Rg.cons 0 1 rfl (Rg.plain rfl ?_) ?_
              · intro vs W n hn hI hG hT hF K hK
                simp only [Rg.putsD, List.getD_cons_zero, List.getD_cons_succ, Act.put, List.setIfInBounds_toArray, List.set_cons_zero, List.set_cons_succ] at hK ⊢
                clear hn
                clear hF hI
                have H := Lib.hid hK
                clear hK hT
                go_simp
                exact H.out _ _ (Below.refl _ _) rfl (fun h => by cases h) trivial
              refine Rg.cons 1 2 rfl (Rg.plain rfl ?_) ?_
              · intro vs W n hn hI hG hT hF K hK
                simp only [Rg.putsD, List.getD_cons_zero, List.getD_cons_succ, Act.put, List.setIfInBounds_toArray, List.set_cons_zero, List.set_cons_succ] at hK ⊢
                clear hn
                clear hF hI
                have H := Lib.hid hK
                clear hK hT
                go_simp
                exact H.out _ _ (Below.refl _ _) rfl (fun h => by cases h) trivial
              refine Rg.cons 2 3 rfl (Rg.plain rfl ?_) ?_
              · intro vs W n hn hI hG hT hF K hK
                simp only [Rg.putsD, List.getD_cons_zero, List.getD_cons_succ, Act.put, List.setIfInBounds_toArray, List.set_cons_zero, List.set_cons_succ] at hK ⊢
                clear hn
                clear hF hI
                have t0 : vs 0 = .slice (some ⟨qb, 0, none⟩) cs.length cs.length := hT 0 (by decide)
                have t1 : vs 1 = .int .i64 k := hT 1 (by decide)
                simp only [t0, t1] at hK
                have H := Lib.hid hK
                clear hK hT
                go_simp
                exact H.out _ _ (Below.refl _ _) rfl (fun h => by cases h) trivial
              refine Rg.cons 3 4 rfl (Rg.plain rfl ?_) ?_
              · intro vs W n hn hI hG hT hF K hK
                simp only [Rg.putsD, List.getD_cons_zero, List.getD_cons_succ, Act.put, List.setIfInBounds_toArray, List.set_cons_zero, List.set_cons_succ] at hK ⊢
                clear hn
                clear hF hI
                have t0 : vs 0 = .slice (some ⟨qb, 0, none⟩) cs.length cs.length := hT 0 (by decide)
                have t1 : vs 1 = .int .i64 k := hT 1 (by decide)
                have t2 : vs 2 = .pointer (some ⟨qb, k, none⟩) := hT 2 (by decide)
                have d1 := cell_of_blk (blk_below hG HS.out.kb) k
                rw [sumR_at (blkS cs bs) m b hlt, HVU.out.1] at d1
                have ld1 := lt_of_blk (blk_below hG HS.out.kb)
                simp only [t0, t1, t2] at hK
                have H := Lib.hid hK
                clear hK hT
                go_simp
                exact H.out _ _ (Below.refl _ _) rfl (fun h => by cases h) trivial
              refine Rg.cons 4 5 rfl (Rg.plain rfl ?_) ?_
              · intro vs W n hn hI hG hT hF K hK
                simp only [Rg.putsD, List.getD_cons_zero, List.getD_cons_succ, Act.put, List.setIfInBounds_toArray, List.set_cons_zero, List.set_cons_succ] at hK ⊢
                clear hn
                clear hF hI
                have H := Lib.hid hK
                clear hK hT
                go_simp
                exact H.out _ _ (Below.refl _ _) rfl (fun h => by cases h) trivial
              refine Rg.cons 5 6 rfl (Rg.plain rfl ?_) ?_
              · intro vs W n hn hI hG hT hF K hK
                simp only [Rg.putsD, List.getD_cons_zero, List.getD_cons_succ, Act.put, List.setIfInBounds_toArray, List.set_cons_zero, List.set_cons_succ] at hK ⊢
                clear hn
                clear hF hI
                have H := Lib.hid hK
                clear hK hT
                go_simp
                exact H.out _ _ (Below.refl _ _) rfl (fun h => by cases h) trivial
              refine Rg.cons 6 7 rfl (Rg.plain rfl ?_) ?_
              · intro vs W n hn hI hG hT hF K hK
                simp only [Rg.putsD, List.getD_cons_zero, List.getD_cons_succ, Act.put, List.setIfInBounds_toArray, List.set_cons_zero, List.set_cons_succ] at hK ⊢
                clear hn
                clear hF hI
                have t4 : vs 4 = .slice (some ⟨g8, 0, none⟩) m c8 := hT 4 (by decide)
                have t5 : vs 5 = .int .i64 b := hT 5 (by decide)
                simp only [t4, t5] at hK
                have H := Lib.hid hK
                clear hK hT
                go_simp
                exact H.out _ _ (Below.refl _ _) rfl (fun h => by cases h) trivial
              refine Rg.cons 7 8 rfl (Rg.plain rfl ?_) ?_
              · intro vs W n hn hI hG hT hF K hK
                simp only [Rg.putsD, List.getD_cons_zero, List.getD_cons_succ, Act.put, List.setIfInBounds_toArray, List.set_cons_zero, List.set_cons_succ] at hK ⊢
                clear hn
                clear hF hI
                have t4 : vs 4 = .slice (some ⟨g8, 0, none⟩) m c8 := hT 4 (by decide)
                have t5 : vs 5 = .int .i64 b := hT 5 (by decide)
                have t6 : vs 6 = .pointer (some ⟨g8, b, none⟩) := hT 6 (by decide)
                have d1 := (hG.cell (p := ⟨g8, b, none⟩) HZ.out.2.2.2.2.2).trans HZ.out.2.2.1
                have ld1 : g8 < W.heap.size := Nat.lt_of_lt_of_le HZ.out.2.2.2.2.2 hG.size
                simp only [t4, t5, t6] at hK
                have H := Lib.hid hK
                clear hK hT
                go_simp
                exact H.out _ _ (Below.refl _ _) rfl (fun h => by cases h) trivial
              refine Rg.cons 8 9 rfl (Rg.plain rfl ?_) ?_
              · intro vs W n hn hI hG hT hF K hK
                simp only [Rg.putsD, List.getD_cons_zero, List.getD_cons_succ, Act.put, List.setIfInBounds_toArray, List.set_cons_zero, List.set_cons_succ] at hK ⊢
                clear hn
                clear hF hI
                have H := Lib.hid hK
                clear hK hT
                go_simp
                exact H.out _ _ (Below.refl _ _) rfl (fun h => by cases h) trivial
              refine Rg.cons 9 10 rfl (Rg.plain rfl ?_) ?_
              · intro vs W n hn hI hG hT hF K hK
                simp only [Rg.putsD, List.getD_cons_zero, List.getD_cons_succ, Act.put, List.setIfInBounds_toArray, List.set_cons_zero, List.set_cons_succ] at hK ⊢
                clear hn
                clear hF hI
                have t4 : vs 4 = .slice (some ⟨g8, 0, none⟩) m c8 := hT 4 (by decide)
                have t5 : vs 5 = .int .i64 b := hT 5 (by decide)
                have t6 : vs 6 = .pointer (some ⟨g8, b, none⟩) := hT 6 (by decide)
                have t7 : vs 7 = .slice (some ⟨fz b, 0, none⟩) cs.length cs.length := hT 7 (by decide)
                have t8 : vs 8 = .int .i64 k := hT 8 (by decide)
                simp only [t4, t5, t6, t7, t8] at hK
                have H := Lib.hid hK
                clear hK hT
                go_simp
                exact H.out _ _ (Below.refl _ _) rfl (fun h => by cases h) trivial
              refine Rg.cons 10 11 rfl (Rg.plain rfl ?_) ?_
              · intro vs W n hn hI hG hT hF K hK
                simp only [Rg.putsD, List.getD_cons_zero, List.getD_cons_succ, Act.put, List.setIfInBounds_toArray, List.set_cons_zero, List.set_cons_succ] at hK ⊢
                clear hn
                clear hF hI
                have t4 : vs 4 = .slice (some ⟨g8, 0, none⟩) m c8 := hT 4 (by decide)
                have t5 : vs 5 = .int .i64 b := hT 5 (by decide)
                have t6 : vs 6 = .pointer (some ⟨g8, b, none⟩) := hT 6 (by decide)
                have t7 : vs 7 = .slice (some ⟨fz b, 0, none⟩) cs.length cs.length := hT 7 (by decide)
                have t8 : vs 8 = .int .i64 k := hT 8 (by decide)
                have t9 : vs 9 = .pointer (some ⟨fz b, k, none⟩) := hT 9 (by decide)
                have d1 := (hG.cell (p := ⟨fz b, k, none⟩) HY.out.2.2.2.2.2).trans HY.out.2.2.1
                have ld1 : fz b < W.heap.size := Nat.lt_of_lt_of_le HY.out.2.2.2.2.2 hG.size
                simp only [t4, t5, t6, t7, t8, t9] at hK
                have H := Lib.hid hK
                clear hK hT
                go_simp
                exact H.out _ _ (Below.refl _ _) rfl (fun h => by cases h) trivial
              refine Rg.cons 11 12 rfl (Rg.plain rfl ?_) ?_
              · intro vs W n hn hI hG hT hF K hK
                simp only [Rg.putsD, List.getD_cons_zero, List.getD_cons_succ, Act.put, List.setIfInBounds_toArray, List.set_cons_zero, List.set_cons_succ] at hK ⊢
                clear hn
                clear hF hI
                have H := Lib.hid hK
                clear hK hT
                go_simp
                exact H.out _ _ (Below.refl _ _) rfl (fun h => by cases h) trivial
              refine Rg.cons 12 13 rfl (Rg.plain rfl ?_) ?_
              · intro vs W n hn hI hG hT hF K hK
                simp only [Rg.putsD, List.getD_cons_zero, List.getD_cons_succ, Act.put, List.setIfInBounds_toArray, List.set_cons_zero, List.set_cons_succ] at hK ⊢
                clear hn
                clear hF hI
                have H := Lib.hid hK
                clear hK hT
                go_simp
                exact H.out _ _ (Below.refl _ _) rfl (fun h => by cases h) trivial
              refine Rg.cons 13 14 rfl (Rg.plain rfl ?_) ?_
              · intro vs W n hn hI hG hT hF K hK
                simp only [Rg.putsD, List.getD_cons_zero, List.getD_cons_succ, Act.put, List.setIfInBounds_toArray, List.set_cons_zero, List.set_cons_succ] at hK ⊢
                clear hn
                clear hF hI
                have t11 : vs 11 = .slice (some ⟨g7, 0, none⟩) m c7 := hT 11 (by decide)
                have t12 : vs 12 = .int .i64 b := hT 12 (by decide)
                simp only [t11, t12] at hK
                have H := Lib.hid hK
                clear hK hT
                go_simp
                exact H.out _ _ (Below.refl _ _) rfl (fun h => by cases h) trivial
              refine Rg.cons 14 15 rfl (Rg.plain rfl ?_) ?_
              · intro vs W n hn hI hG hT hF K hK
                simp only [Rg.putsD, List.getD_cons_zero, List.getD_cons_succ, Act.put, List.setIfInBounds_toArray, List.set_cons_zero, List.set_cons_succ] at hK ⊢
                clear hn
                clear hF hI
                have t11 : vs 11 = .slice (some ⟨g7, 0, none⟩) m c7 := hT 11 (by decide)
                have t12 : vs 12 = .int .i64 b := hT 12 (by decide)
                have t13 : vs 13 = .pointer (some ⟨g7, b, none⟩) := hT 13 (by decide)
                have d1 := (hG.cell (p := ⟨g7, b, none⟩) HZ.out.2.2.2.2.1).trans HZ.out.2.1
                have ld1 : g7 < W.heap.size := Nat.lt_of_lt_of_le HZ.out.2.2.2.2.1 hG.size
                simp only [t11, t12, t13] at hK
                have H := Lib.hid hK
                clear hK hT
                go_simp
                exact H.out _ _ (Below.refl _ _) rfl (fun h => by cases h) trivial
              refine Rg.cons 15 16 rfl (Rg.plain rfl ?_) ?_
              · intro vs W n hn hI hG hT hF K hK
                simp only [Rg.putsD, List.getD_cons_zero, List.getD_cons_succ, Act.put, List.setIfInBounds_toArray, List.set_cons_zero, List.set_cons_succ] at hK ⊢
                clear hn
                clear hF hI
                have H := Lib.hid hK
                clear hK hT
                go_simp
                exact H.out _ _ (Below.refl _ _) rfl (fun h => by cases h) trivial
              refine Rg.cons 16 17 rfl (Rg.plain rfl ?_) ?_
              · intro vs W n hn hI hG hT hF K hK
                simp only [Rg.putsD, List.getD_cons_zero, List.getD_cons_succ, Act.put, List.setIfInBounds_toArray, List.set_cons_zero, List.set_cons_succ] at hK ⊢
                clear hn
                clear hF hI
                have t11 : vs 11 = .slice (some ⟨g7, 0, none⟩) m c7 := hT 11 (by decide)
                have t12 : vs 12 = .int .i64 b := hT 12 (by decide)
                have t13 : vs 13 = .pointer (some ⟨g7, b, none⟩) := hT 13 (by decide)
                have t14 : vs 14 = .slice (some ⟨fy b, 0, none⟩) cs.length cs.length := hT 14 (by decide)
                have t15 : vs 15 = .int .i64 k := hT 15 (by decide)
                simp only [t11, t12, t13, t14, t15] at hK
                have H := Lib.hid hK
                clear hK hT
                go_simp
                exact H.out _ _ (Below.refl _ _) rfl (fun h => by cases h) trivial
              refine Rg.cons 17 18 rfl (Rg.plain rfl ?_) ?_
              · intro vs W n hn hI hG hT hF K hK
                simp only [Rg.putsD, List.getD_cons_zero, List.getD_cons_succ, Act.put, List.setIfInBounds_toArray, List.set_cons_zero, List.set_cons_succ] at hK ⊢
                clear hn
                clear hF hI
                have t11 : vs 11 = .slice (some ⟨g7, 0, none⟩) m c7 := hT 11 (by decide)
                have t12 : vs 12 = .int .i64 b := hT 12 (by decide)
                have t13 : vs 13 = .pointer (some ⟨g7, b, none⟩) := hT 13 (by decide)
                have t14 : vs 14 = .slice (some ⟨fy b, 0, none⟩) cs.length cs.length := hT 14 (by decide)
                have t15 : vs 15 = .int .i64 k := hT 15 (by decide)
                have t16 : vs 16 = .pointer (some ⟨fy b, k, none⟩) := hT 16 (by decide)
                have d1 := (hG.cell (p := ⟨fy b, k, none⟩) HY.out.2.2.2.2.1).trans HY.out.2.1
                have ld1 : fy b < W.heap.size := Nat.lt_of_lt_of_le HY.out.2.2.2.2.1 hG.size
                simp only [t11, t12, t13, t14, t15, t16] at hK
                have H := Lib.hid hK
                clear hK hT
                go_simp
                exact H.out _ _ (Below.refl _ _) rfl (fun h => by cases h) trivial
              refine Rg.cons 18 19 rfl (Rg.plain rfl ?_) ?_
              · intro vs W n hn hI hG hT hF K hK
                simp only [Rg.putsD, List.getD_cons_zero, List.getD_cons_succ, Act.put, List.setIfInBounds_toArray, List.set_cons_zero, List.set_cons_succ] at hK ⊢
                clear hn
                clear hF hI
                have t4 : vs 4 = .slice (some ⟨g8, 0, none⟩) m c8 := hT 4 (by decide)
                have t5 : vs 5 = .int .i64 b := hT 5 (by decide)
                have t6 : vs 6 = .pointer (some ⟨g8, b, none⟩) := hT 6 (by decide)
                have t7 : vs 7 = .slice (some ⟨fz b, 0, none⟩) cs.length cs.length := hT 7 (by decide)
                have t8 : vs 8 = .int .i64 k := hT 8 (by decide)
                have t9 : vs 9 = .pointer (some ⟨fz b, k, none⟩) := hT 9 (by decide)
                have t10 : vs 10 = .int .i64 Z := hT 10 (by decide)
                have t11 : vs 11 = .slice (some ⟨g7, 0, none⟩) m c7 := hT 11 (by decide)
                have t12 : vs 12 = .int .i64 b := hT 12 (by decide)
                have t13 : vs 13 = .pointer (some ⟨g7, b, none⟩) := hT 13 (by decide)
                have t14 : vs 14 = .slice (some ⟨fy b, 0, none⟩) cs.length cs.length := hT 14 (by decide)
                have t15 : vs 15 = .int .i64 k := hT 15 (by decide)
                have t16 : vs 16 = .pointer (some ⟨fy b, k, none⟩) := hT 16 (by decide)
                have t17 : vs 17 = .int .i64 Y := hT 17 (by decide)
                simp only [t4, t5, t6, t7, t8, t9, t10, t11, t12, t13, t14, t15, t16, t17] at hK
                have H := Lib.hid hK
                clear hK hT
                go_simp
                exact H.out _ _ (Below.refl _ _) rfl (fun h => by cases h) trivial
              exact Rg.nil
            · intro vs W hG hI hT hF
              have t0 : vs 0 = .slice (some ⟨qb, 0, none⟩) cs.length cs.length := hT 0 (by decide)
              have t1 : vs 1 = .int .i64 k := hT 1 (by decide)
              have t2 : vs 2 = .pointer (some ⟨qb, k, none⟩) := hT 2 (by decide)
              have t3 : vs 3 = .int .i64 V := hT 3 (by decide)
              have t4 : vs 4 = .slice (some ⟨g8, 0, none⟩) m c8 := hT 4 (by decide)
              have t5 : vs 5 = .int .i64 b := hT 5 (by decide)
              have t6 : vs 6 = .pointer (some ⟨g8, b, none⟩) := hT 6 (by decide)
              have t7 : vs 7 = .slice (some ⟨fz b, 0, none⟩) cs.length cs.length := hT 7 (by decide)
              have t8 : vs 8 = .int .i64 k := hT 8 (by decide)
              have t9 : vs 9 = .pointer (some ⟨fz b, k, none⟩) := hT 9 (by decide)
              have t10 : vs 10 = .int .i64 Z := hT 10 (by decide)
              have t11 : vs 11 = .slice (some ⟨g7, 0, none⟩) m c7 := hT 11 (by decide)
              have t12 : vs 12 = .int .i64 b := hT 12 (by decide)
              have t13 : vs 13 = .pointer (some ⟨g7, b, none⟩) := hT 13 (by decide)
              have t14 : vs 14 = .slice (some ⟨fy b, 0, none⟩) cs.length cs.length := hT 14 (by decide)
              have t15 : vs 15 = .int .i64 k := hT 15 (by decide)
              have t16 : vs 16 = .pointer (some ⟨fy b, k, none⟩) := hT 16 (by decide)
              have t17 : vs 17 = .int .i64 Y := hT 17 (by decide)
              have t18 : vs 18 = .int .i64 (Z - Y) := hT 18 (by decide)
              simp only [List.length_cons, List.length_nil, Nat.reduceAdd, List.range, List.range.loop, List.drop_succ_cons, List.drop_zero, Rg.putsD, List.getD_cons_zero, List.getD_cons_succ, Act.put, List.setIfInBounds_toArray, List.set_cons_zero, List.set_cons_succ, t0, t1, t2, t3, t4, t5, t6, t7, t8, t9, t10, t11, t12, t13, t14, t15, t16, t17, t18]
              clear hT t0 t1 t2 t3 t4 t5 t6 t7 t8 t9 t10 t11 t12 t13 t14 t15 t16 t17 t18
              have HG1 : Hid (Below wr.heap.size wr W) := (Below.refl _ _).drew.then_below hG (Nat.le_refl _)
              have H2 := Lib.hid (HS.out.then_ HG1.out)
              clear hG hI hF
              have d1 := cell_of_blk H2.out.kb k
              rw [sumR_at (blkS cs bs) m b hlt, HVU.out.1] at d1
              have ld1 := lt_of_blk H2.out.kb
              have f1 := frozen_of_blk H2.out.kb k
              have H3 := Lib.hid (H2.out.setB hlt HFR.out.1 HFR.out.2.2.1 (Ne.symm HFR.out.2.2.2.2) HVB.out.symm)
              go_upto_region 10 with (fail)
              generalize W.setCell ⟨qb, k, none⟩ (.int .i64 (V + (Z - Y))) = w5 at *
              clear d1 ld1 f1 H2 HG1 wk1 wk2 HZ HY
              have hz5 := H3.out.mv.bel.size
              rcases Nat.eq_zero_or_pos b with hb0 | hb0
              · subst hb0
                have H4 := Lib.hid H3.out.skipI
                go_wp2_with fail
                go_roundw
                case rel => exact ⟨1, by omega, by go_num, hz5, H4⟩
                case measure => simp [intOf]; omega
              · obtain ⟨b', hbb⟩ : ∃ b', b = b' + 1 := ⟨b - 1, by omega⟩
                have hpos : (0 : Int) < (b : Int) := by omega
                have HVI2 := Lib.hid (HVI.out b' hbb)
                have hb'm : b' < m := by omega
                have wk3 : IntKind.i64.wrap ((b : Int) - 1) = (b' : Int) := by rw [IntKind.wrap_i64]; omega
                have bp1 := lv_bd bs HC.out b' k
                clear HVI hbb
                obtain ⟨g6, cap6, e6, hg6, z6⟩ := H3.out.mv.gx.cell hbm
                obtain ⟨g8, cap8, e8, hg8, z8⟩ := H3.out.mv.gz.cell hb'm
                cases e6
                cases e8
                have r6 := (cell_of_blk (H3.out.mv.gx.rows b hbm) k).trans (intsR_at (cm cs bs b) hlt)
                have r8 := (cell_of_blk (H3.out.mv.gz.rows b' hb'm) k).trans (intsR_at (lv cs bs b') hlt)
                have HZ : Hid (w5.cell? ⟨g6, b, none⟩ = some (.slice (some ⟨fx b, 0, none⟩) cs.length cs.length) ∧ w5.cell? ⟨g8, b', none⟩ = some (.slice (some ⟨fz b', 0, none⟩) cs.length cs.length) ∧ g6 < w5.heap.size ∧ g8 < w5.heap.size) := ⟨z6, z8, hg6, hg8⟩
                have HY : Hid (w5.cell? ⟨fx b, k, none⟩ = some (.int .i64 X) ∧ w5.cell? ⟨fz b', k, none⟩ = some (.int .i64 (lv cs bs b' k)) ∧ fx b < w5.heap.size ∧ fz b' < w5.heap.size) := ⟨by rw [← HXX.out]; exact r6, r8, lt_of_blk (H3.out.mv.gx.rows b hbm), lt_of_blk (H3.out.mv.gz.rows b' hb'm)⟩
                clear z6 z8 hg6 hg8 r6 r8
                generalize lv cs bs b' k = P at *
                have wk1 : IntKind.i64.wrap (X - P) = X - P := by rw [IntKind.wrap_i64]; omega
                have wk2 : IntKind.i64.wrap (U + (X - P)) = U + (X - P) := by rw [IntKind.wrap_i64]; omega
                have i5 : (0 : Int) ≤ (b' : Int) := by omega
                have i6 : (b' : Int) < (m : Int) := by omega
                go_upto_region 11 with (fail)
                try simp only [Int.natCast_pos, hb0, decide_true]
                refine Rg.rgL (fun a b => Below a.heap.size a b)
                  [(fun vs u => vs 0 = .slice (some ⟨qi, 0, none⟩) cs.length cs.length), (fun vs u => vs 1 = .int .i64 k), (fun vs u => vs 2 = .pointer (some ⟨qi, k, none⟩)), (fun vs u => vs 3 = .int .i64 U), (fun vs u => vs 4 = .slice (some ⟨g6, 0, none⟩) m c6), (fun vs u => vs 5 = .int .i64 b), (fun vs u => vs 6 = .pointer (some ⟨g6, b, none⟩)), (fun vs u => vs 7 = .slice (some ⟨fx b, 0, none⟩) cs.length cs.length), (fun vs u => vs 8 = .int .i64 k), (fun vs u => vs 9 = .pointer (some ⟨fx b, k, none⟩)), (fun vs u => vs 10 = .int .i64 X), (fun vs u => vs 11 = .slice (some ⟨g8, 0, none⟩) m c8), (fun vs u => vs 12 = .int .i64 b), (fun vs u => vs 13 = .int .i64 (b' : Int)), (fun vs u => vs 14 = .pointer (some ⟨g8, b', none⟩)), (fun vs u => vs 15 = .slice (some ⟨fz b', 0, none⟩) cs.length cs.length), (fun vs u => vs 16 = .int .i64 k), (fun vs u => vs 17 = .pointer (some ⟨fz b', k, none⟩)), (fun vs u => vs 18 = .int .i64 P), (fun vs u => vs 19 = .int .i64 (X - P))]
                  [[], [], [0, 1], [0, 1, 2], [], [], [4, 5], [4, 5, 6], [], [4, 5, 6, 7, 8], [4, 5, 6, 7, 8, 9], [], [], [12], [11, 12, 13], [11, 12, 13, 14], [], [11, 12, 13, 14, 15, 16], [11, 12, 13, 14, 15, 16, 17], [4, 5, 6, 7, 8, 9, 10, 11, 12, 13, 14, 15, 16, 17, 18]] [some 61, some 62, some 63, some 64, some 65, some 66, some 67, some 68, some 69, some 70, some 71, some 72, some 73, some 74, some 75, some 76, some 77, some 78, some 79, some 80, some 81, some 82, none] [] (fun _ _ => True) [[], [], [0, 1], [0, 1, 2], [], [], [4, 5], [4, 5, 6], [], [4, 5, 6, 7, 8], [4, 5, 6, 7, 8, 9], [], [], [12], [11, 12, 13], [11, 12, 13, 14], [], [11, 12, 13, 14, 15, 16], [11, 12, 13, 14, 15, 16, 17], [4, 5, 6, 7, 8, 9, 10, 11, 12, 13, 14, 15, 16, 17, 18], [0, 1, 2, 3, 4, 5, 6, 7, 8, 9, 10, 11, 12, 13, 14, 15, 16, 17, 18, 19], [0, 1, 2, 3, 4, 5, 6, 7, 8, 9, 10, 11, 12, 13, 14, 15, 16, 17, 18, 19, 20], [0, 1, 2, 3, 4, 5, 6, 7, 8, 9, 10, 11, 12, 13, 14, 15, 16, 17, 18, 19, 20, 21]]
                  (by kernel_rfl) (by decide) (by kernel_rfl) (by kernel_rfl) (by kernel_rfl) (by kernel_rfl) (by kernel_rfl) (fun _ => Below.refl _ _) (fun _ _ _ h k => h.ext k) (fun _ _ h => h.size) ?_ trivial ?_ ?_
                · intro t ht vs w w' h hE
                  simp only [List.mem_cons, List.not_mem_nil, or_false] at ht
                  rcases ht with rfl | rfl | rfl | rfl | rfl | rfl | rfl | rfl | rfl | rfl | rfl | rfl | rfl | rfl | rfl | rfl | rfl | rfl | rfl | rfl
                  · exact h
                  · exact h
                  · exact h
                  · exact h
                  · exact h
                  · exact h
                  · exact h
                  · exact h
                  · exact h
                  · exact h
                  · exact h
                  · exact h
                  · exact h
                  · exact h
                  · exact h
                  · exact h
                  · exact h
                  · exact h
                  · exact h
                  · exact h
                ·
                  refine Rg.cons 0 1 rfl (Rg.plain rfl ?_) ?_
                  · intro vs W n hn hI hG hT hF K hK
                    simp only [Rg.putsD, List.getD_cons_zero, List.getD_cons_succ, Act.put, List.setIfInBounds_toArray, List.set_cons_zero, List.set_cons_succ] at hK ⊢
                    clear hn
                    clear hF hI
                    have H := Lib.hid hK
                    clear hK hT
                    go_simp
                    exact H.out _ _ (Below.refl _ _) rfl (fun h => by cases h) trivial
                  refine Rg.cons 1 2 rfl (Rg.plain rfl ?_) ?_
                  · intro vs W n hn hI hG hT hF K hK
                    simp only [Rg.putsD, List.getD_cons_zero, List.getD_cons_succ, Act.put, List.setIfInBounds_toArray, List.set_cons_zero, List.set_cons_succ] at hK ⊢
                    clear hn
                    clear hF hI
                    have H := Lib.hid hK
                    clear hK hT
                    go_simp
                    exact H.out _ _ (Below.refl _ _) rfl (fun h => by cases h) trivial
                  refine Rg.cons 2 3 rfl (Rg.plain rfl ?_) ?_
                  · intro vs W n hn hI hG hT hF K hK
                    simp only [Rg.putsD, List.getD_cons_zero, List.getD_cons_succ, Act.put, List.setIfInBounds_toArray, List.set_cons_zero, List.set_cons_succ] at hK ⊢
                    clear hn
                    clear hF hI
                    have t0 : vs 0 = .slice (some ⟨qi, 0, none⟩) cs.length cs.length := hT 0 (by decide)
                    have t1 : vs 1 = .int .i64 k := hT 1 (by decide)
                    simp only [t0, t1] at hK
                    have H := Lib.hid hK
                    clear hK hT
                    go_simp
                    exact H.out _ _ (Below.refl _ _) rfl (fun h => by cases h) trivial
                  refine Rg.cons 3 4 rfl (Rg.plain rfl ?_) ?_
                  · intro vs W n hn hI hG hT hF K hK
                    simp only [Rg.putsD, List.getD_cons_zero, List.getD_cons_succ, Act.put, List.setIfInBounds_toArray, List.set_cons_zero, List.set_cons_succ] at hK ⊢
                    clear hn
                    clear hF hI
                    have t0 : vs 0 = .slice (some ⟨qi, 0, none⟩) cs.length cs.length := hT 0 (by decide)
                    have t1 : vs 1 = .int .i64 k := hT 1 (by decide)
                    have t2 : vs 2 = .pointer (some ⟨qi, k, none⟩) := hT 2 (by decide)
                    have d1 := cell_of_blk (blk_below hG H3.out.ki) k
                    rw [sumR_at (idlS cs bs) m b hlt, HVU.out.2] at d1
                    have ld1 := lt_of_blk (blk_below hG H3.out.ki)
                    simp only [t0, t1, t2] at hK
                    have H := Lib.hid hK
                    clear hK hT
                    go_simp
                    exact H.out _ _ (Below.refl _ _) rfl (fun h => by cases h) trivial
                  refine Rg.cons 4 5 rfl (Rg.plain rfl ?_) ?_
                  · intro vs W n hn hI hG hT hF K hK
                    simp only [Rg.putsD, List.getD_cons_zero, List.getD_cons_succ, Act.put, List.setIfInBounds_toArray, List.set_cons_zero, List.set_cons_succ] at hK ⊢
                    clear hn
                    clear hF hI
                    have H := Lib.hid hK
                    clear hK hT
                    go_simp
                    exact H.out _ _ (Below.refl _ _) rfl (fun h => by cases h) trivial
                  refine Rg.cons 5 6 rfl (Rg.plain rfl ?_) ?_
                  · intro vs W n hn hI hG hT hF K hK
                    simp only [Rg.putsD, List.getD_cons_zero, List.getD_cons_succ, Act.put, List.setIfInBounds_toArray, List.set_cons_zero, List.set_cons_succ] at hK ⊢
                    clear hn
                    clear hF hI
                    have H := Lib.hid hK
                    clear hK hT
                    go_simp
                    exact H.out _ _ (Below.refl _ _) rfl (fun h => by cases h) trivial
                  refine Rg.cons 6 7 rfl (Rg.plain rfl ?_) ?_
                  · intro vs W n hn hI hG hT hF K hK
                    simp only [Rg.putsD, List.getD_cons_zero, List.getD_cons_succ, Act.put, List.setIfInBounds_toArray, List.set_cons_zero, List.set_cons_succ] at hK ⊢
                    clear hn
                    clear hF hI
                    have t4 : vs 4 = .slice (some ⟨g6, 0, none⟩) m c6 := hT 4 (by decide)
                    have t5 : vs 5 = .int .i64 b := hT 5 (by decide)
                    simp only [t4, t5] at hK
                    have H := Lib.hid hK
                    clear hK hT
                    go_simp
                    exact H.out _ _ (Below.refl _ _) rfl (fun h => by cases h) trivial
                  refine Rg.cons 7 8 rfl (Rg.plain rfl ?_) ?_
                  · intro vs W n hn hI hG hT hF K hK
                    simp only [Rg.putsD, List.getD_cons_zero, List.getD_cons_succ, Act.put, List.setIfInBounds_toArray, List.set_cons_zero, List.set_cons_succ] at hK ⊢
                    clear hn
                    clear hF hI
                    have t4 : vs 4 = .slice (some ⟨g6, 0, none⟩) m c6 := hT 4 (by decide)
                    have t5 : vs 5 = .int .i64 b := hT 5 (by decide)
                    have t6 : vs 6 = .pointer (some ⟨g6, b, none⟩) := hT 6 (by decide)
                    have d1 := (hG.cell (p := ⟨g6, b, none⟩) HZ.out.2.2.1).trans HZ.out.1
                    have ld1 : g6 < W.heap.size := Nat.lt_of_lt_of_le HZ.out.2.2.1 hG.size
                    simp only [t4, t5, t6] at hK
                    have H := Lib.hid hK
                    clear hK hT
                    go_simp
                    exact H.out _ _ (Below.refl _ _) rfl (fun h => by cases h) trivial
                  refine Rg.cons 8 9 rfl (Rg.plain rfl ?_) ?_
                  · intro vs W n hn hI hG hT hF K hK
                    simp only [Rg.putsD, List.getD_cons_zero, List.getD_cons_succ, Act.put, List.setIfInBounds_toArray, List.set_cons_zero, List.set_cons_succ] at hK ⊢
                    clear hn
                    clear hF hI
                    have H := Lib.hid hK
                    clear hK hT
                    go_simp
                    exact H.out _ _ (Below.refl _ _) rfl (fun h => by cases h) trivial
                  refine Rg.cons 9 10 rfl (Rg.plain rfl ?_) ?_
                  · intro vs W n hn hI hG hT hF K hK
                    simp only [Rg.putsD, List.getD_cons_zero, List.getD_cons_succ, Act.put, List.setIfInBounds_toArray, List.set_cons_zero, List.set_cons_succ] at hK ⊢
                    clear hn
                    clear hF hI
                    have t4 : vs 4 = .slice (some ⟨g6, 0, none⟩) m c6 := hT 4 (by decide)
                    have t5 : vs 5 = .int .i64 b := hT 5 (by decide)
                    have t6 : vs 6 = .pointer (some ⟨g6, b, none⟩) := hT 6 (by decide)
                    have t7 : vs 7 = .slice (some ⟨fx b, 0, none⟩) cs.length cs.length := hT 7 (by decide)
                    have t8 : vs 8 = .int .i64 k := hT 8 (by decide)
                    simp only [t4, t5, t6, t7, t8] at hK
                    have H := Lib.hid hK
                    clear hK hT
                    go_simp
                    exact H.out _ _ (Below.refl _ _) rfl (fun h => by cases h) trivial
                  refine Rg.cons 10 11 rfl (Rg.plain rfl ?_) ?_
                  · intro vs W n hn hI hG hT hF K hK
                    simp only [Rg.putsD, List.getD_cons_zero, List.getD_cons_succ, Act.put, List.setIfInBounds_toArray, List.set_cons_zero, List.set_cons_succ] at hK ⊢
                    clear hn
                    clear hF hI
                    have t4 : vs 4 = .slice (some ⟨g6, 0, none⟩) m c6 := hT 4 (by decide)
                    have t5 : vs 5 = .int .i64 b := hT 5 (by decide)
                    have t6 : vs 6 = .pointer (some ⟨g6, b, none⟩) := hT 6 (by decide)
                    have t7 : vs 7 = .slice (some ⟨fx b, 0, none⟩) cs.length cs.length := hT 7 (by decide)
                    have t8 : vs 8 = .int .i64 k := hT 8 (by decide)
                    have t9 : vs 9 = .pointer (some ⟨fx b, k, none⟩) := hT 9 (by decide)
                    have d1 := (hG.cell (p := ⟨fx b, k, none⟩) HY.out.2.2.1).trans HY.out.1
                    have ld1 : fx b < W.heap.size := Nat.lt_of_lt_of_le HY.out.2.2.1 hG.size
                    simp only [t4, t5, t6, t7, t8, t9] at hK
                    have H := Lib.hid hK
                    clear hK hT
                    go_simp
                    exact H.out _ _ (Below.refl _ _) rfl (fun h => by cases h) trivial
                  refine Rg.cons 11 12 rfl (Rg.plain rfl ?_) ?_
                  · intro vs W n hn hI hG hT hF K hK
                    simp only [Rg.putsD, List.getD_cons_zero, List.getD_cons_succ, Act.put, List.setIfInBounds_toArray, List.set_cons_zero, List.set_cons_succ] at hK ⊢
                    clear hn
                    clear hF hI
                    have H := Lib.hid hK
                    clear hK hT
                    go_simp
                    exact H.out _ _ (Below.refl _ _) rfl (fun h => by cases h) trivial
                  refine Rg.cons 12 13 rfl (Rg.plain rfl ?_) ?_
                  · intro vs W n hn hI hG hT hF K hK
                    simp only [Rg.putsD, List.getD_cons_zero, List.getD_cons_succ, Act.put, List.setIfInBounds_toArray, List.set_cons_zero, List.set_cons_succ] at hK ⊢
                    clear hn
                    clear hF hI
                    have H := Lib.hid hK
                    clear hK hT
                    go_simp
                    exact H.out _ _ (Below.refl _ _) rfl (fun h => by cases h) trivial
                  refine Rg.cons 13 14 rfl (Rg.plain rfl ?_) ?_
                  · intro vs W n hn hI hG hT hF K hK
                    simp only [Rg.putsD, List.getD_cons_zero, List.getD_cons_succ, Act.put, List.setIfInBounds_toArray, List.set_cons_zero, List.set_cons_succ] at hK ⊢
                    clear hn
                    clear hF hI
                    have t12 : vs 12 = .int .i64 b := hT 12 (by decide)
                    simp only [t12] at hK
                    have H := Lib.hid hK
                    clear hK hT
                    go_simp
                    exact H.out _ _ (Below.refl _ _) rfl (fun h => by cases h) trivial
                  refine Rg.cons 14 15 rfl (Rg.plain rfl ?_) ?_
                  · intro vs W n hn hI hG hT hF K hK
                    simp only [Rg.putsD, List.getD_cons_zero, List.getD_cons_succ, Act.put, List.setIfInBounds_toArray, List.set_cons_zero, List.set_cons_succ] at hK ⊢
                    clear hn
                    clear hF hI
                    have t11 : vs 11 = .slice (some ⟨g8, 0, none⟩) m c8 := hT 11 (by decide)
                    have t12 : vs 12 = .int .i64 b := hT 12 (by decide)
                    have t13 : vs 13 = .int .i64 (b' : Int) := hT 13 (by decide)
                    simp only [t11, t12, t13] at hK
                    have H := Lib.hid hK
                    clear hK hT
                    go_simp
                    exact H.out _ _ (Below.refl _ _) rfl (fun h => by cases h) trivial
                  refine Rg.cons 15 16 rfl (Rg.plain rfl ?_) ?_
                  · intro vs W n hn hI hG hT hF K hK
                    simp only [Rg.putsD, List.getD_cons_zero, List.getD_cons_succ, Act.put, List.setIfInBounds_toArray, List.set_cons_zero, List.set_cons_succ] at hK ⊢
                    clear hn
                    clear hF hI
                    have t11 : vs 11 = .slice (some ⟨g8, 0, none⟩) m c8 := hT 11 (by decide)
                    have t12 : vs 12 = .int .i64 b := hT 12 (by decide)
                    have t13 : vs 13 = .int .i64 (b' : Int) := hT 13 (by decide)
                    have t14 : vs 14 = .pointer (some ⟨g8, b', none⟩) := hT 14 (by decide)
                    have d1 := (hG.cell (p := ⟨g8, b', none⟩) HZ.out.2.2.2).trans HZ.out.2.1
                    have ld1 : g8 < W.heap.size := Nat.lt_of_lt_of_le HZ.out.2.2.2 hG.size
                    simp only [t11, t12, t13, t14] at hK
                    have H := Lib.hid hK
                    clear hK hT
                    go_simp
                    exact H.out _ _ (Below.refl _ _) rfl (fun h => by cases h) trivial
                  refine Rg.cons 16 17 rfl (Rg.plain rfl ?_) ?_
                  · intro vs W n hn hI hG hT hF K hK
                    simp only [Rg.putsD, List.getD_cons_zero, List.getD_cons_succ, Act.put, List.setIfInBounds_toArray, List.set_cons_zero, List.set_cons_succ] at hK ⊢
                    clear hn
                    clear hF hI
                    have H := Lib.hid hK
                    clear hK hT
                    go_simp
                    exact H.out _ _ (Below.refl _ _) rfl (fun h => by cases h) trivial
                  refine Rg.cons 17 18 rfl (Rg.plain rfl ?_) ?_
                  · intro vs W n hn hI hG hT hF K hK
                    simp only [Rg.putsD, List.getD_cons_zero, List.getD_cons_succ, Act.put, List.setIfInBounds_toArray, List.set_cons_zero, List.set_cons_succ] at hK ⊢
                    clear hn
                    clear hF hI
                    have t11 : vs 11 = .slice (some ⟨g8, 0, none⟩) m c8 := hT 11 (by decide)
                    have t12 : vs 12 = .int .i64 b := hT 12 (by decide)
                    have t13 : vs 13 = .int .i64 (b' : Int) := hT 13 (by decide)
                    have t14 : vs 14 = .pointer (some ⟨g8, b', none⟩) := hT 14 (by decide)
                    have t15 : vs 15 = .slice (some ⟨fz b', 0, none⟩) cs.length cs.length := hT 15 (by decide)
                    have t16 : vs 16 = .int .i64 k := hT 16 (by decide)
                    simp only [t11, t12, t13, t14, t15, t16] at hK
                    have H := Lib.hid hK
                    clear hK hT
                    go_simp
                    exact H.out _ _ (Below.refl _ _) rfl (fun h => by cases h) trivial
                  refine Rg.cons 18 19 rfl (Rg.plain rfl ?_) ?_
                  · intro vs W n hn hI hG hT hF K hK
                    simp only [Rg.putsD, List.getD_cons_zero, List.getD_cons_succ, Act.put, List.setIfInBounds_toArray, List.set_cons_zero, List.set_cons_succ] at hK ⊢
                    clear hn
                    clear hF hI
                    have t11 : vs 11 = .slice (some ⟨g8, 0, none⟩) m c8 := hT 11 (by decide)
                    have t12 : vs 12 = .int .i64 b := hT 12 (by decide)
                    have t13 : vs 13 = .int .i64 (b' : Int) := hT 13 (by decide)
                    have t14 : vs 14 = .pointer (some ⟨g8, b', none⟩) := hT 14 (by decide)
                    have t15 : vs 15 = .slice (some ⟨fz b', 0, none⟩) cs.length cs.length := hT 15 (by decide)
                    have t16 : vs 16 = .int .i64 k := hT 16 (by decide)
                    have t17 : vs 17 = .pointer (some ⟨fz b', k, none⟩) := hT 17 (by decide)
                    have d1 := (hG.cell (p := ⟨fz b', k, none⟩) HY.out.2.2.2).trans HY.out.2.1
                    have ld1 : fz b' < W.heap.size := Nat.lt_of_lt_of_le HY.out.2.2.2 hG.size
                    simp only [t11, t12, t13, t14, t15, t16, t17] at hK
                    have H := Lib.hid hK
                    clear hK hT
                    go_simp
                    exact H.out _ _ (Below.refl _ _) rfl (fun h => by cases h) trivial
                  refine Rg.cons 19 20 rfl (Rg.plain rfl ?_) ?_
                  · intro vs W n hn hI hG hT hF K hK
                    simp only [Rg.putsD, List.getD_cons_zero, List.getD_cons_succ, Act.put, List.setIfInBounds_toArray, List.set_cons_zero, List.set_cons_succ] at hK ⊢
                    clear hn
                    clear hF hI
                    have t4 : vs 4 = .slice (some ⟨g6, 0, none⟩) m c6 := hT 4 (by decide)
                    have t5 : vs 5 = .int .i64 b := hT 5 (by decide)
                    have t6 : vs 6 = .pointer (some ⟨g6, b, none⟩) := hT 6 (by decide)
                    have t7 : vs 7 = .slice (some ⟨fx b, 0, none⟩) cs.length cs.length := hT 7 (by decide)
                    have t8 : vs 8 = .int .i64 k := hT 8 (by decide)
                    have t9 : vs 9 = .pointer (some ⟨fx b, k, none⟩) := hT 9 (by decide)
                    have t10 : vs 10 = .int .i64 X := hT 10 (by decide)
                    have t11 : vs 11 = .slice (some ⟨g8, 0, none⟩) m c8 := hT 11 (by decide)
                    have t12 : vs 12 = .int .i64 b := hT 12 (by decide)
                    have t13 : vs 13 = .int .i64 (b' : Int) := hT 13 (by decide)
                    have t14 : vs 14 = .pointer (some ⟨g8, b', none⟩) := hT 14 (by decide)
                    have t15 : vs 15 = .slice (some ⟨fz b', 0, none⟩) cs.length cs.length := hT 15 (by decide)
                    have t16 : vs 16 = .int .i64 k := hT 16 (by decide)
                    have t17 : vs 17 = .pointer (some ⟨fz b', k, none⟩) := hT 17 (by decide)
                    have t18 : vs 18 = .int .i64 P := hT 18 (by decide)
                    simp only [t4, t5, t6, t7, t8, t9, t10, t11, t12, t13, t14, t15, t16, t17, t18] at hK
                    have H := Lib.hid hK
                    clear hK hT
                    go_simp
                    exact H.out _ _ (Below.refl _ _) rfl (fun h => by cases h) trivial
                  exact Rg.nil
                · intro vs W hG hI hT hF
                  have t0 : vs 0 = .slice (some ⟨qi, 0, none⟩) cs.length cs.length := hT 0 (by decide)
                  have t1 : vs 1 = .int .i64 k := hT 1 (by decide)
                  have t2 : vs 2 = .pointer (some ⟨qi, k, none⟩) := hT 2 (by decide)
                  have t3 : vs 3 = .int .i64 U := hT 3 (by decide)
                  have t4 : vs 4 = .slice (some ⟨g6, 0, none⟩) m c6 := hT 4 (by decide)
                  have t5 : vs 5 = .int .i64 b := hT 5 (by decide)
                  have t6 : vs 6 = .pointer (some ⟨g6, b, none⟩) := hT 6 (by decide)
                  have t7 : vs 7 = .slice (some ⟨fx b, 0, none⟩) cs.length cs.length := hT 7 (by decide)
                  have t8 : vs 8 = .int .i64 k := hT 8 (by decide)
                  have t9 : vs 9 = .pointer (some ⟨fx b, k, none⟩) := hT 9 (by decide)
                  have t10 : vs 10 = .int .i64 X := hT 10 (by decide)
                  have t11 : vs 11 = .slice (some ⟨g8, 0, none⟩) m c8 := hT 11 (by decide)
                  have t12 : vs 12 = .int .i64 b := hT 12 (by decide)
                  have t13 : vs 13 = .int .i64 (b' : Int) := hT 13 (by decide)
                  have t14 : vs 14 = .pointer (some ⟨g8, b', none⟩) := hT 14 (by decide)
                  have t15 : vs 15 = .slice (some ⟨fz b', 0, none⟩) cs.length cs.length := hT 15 (by decide)
                  have t16 : vs 16 = .int .i64 k := hT 16 (by decide)
                  have t17 : vs 17 = .pointer (some ⟨fz b', k, none⟩) := hT 17 (by decide)
                  have t18 : vs 18 = .int .i64 P := hT 18 (by decide)
                  have t19 : vs 19 = .int .i64 (X - P) := hT 19 (by decide)
                  simp only [List.length_cons, List.length_nil, Nat.reduceAdd, List.range, List.range.loop, List.drop_succ_cons, List.drop_zero, Rg.putsD, List.getD_cons_zero, List.getD_cons_succ, Act.put, List.setIfInBounds_toArray, List.set_cons_zero, List.set_cons_succ, t0, t1, t2, t3, t4, t5, t6, t7, t8, t9, t10, t11, t12, t13, t14, t15, t16, t17, t18, t19]
                  clear hT t0 t1 t2 t3 t4 t5 t6 t7 t8 t9 t10 t11 t12 t13 t14 t15 t16 t17 t18 t19
                  have HG1 : Hid (Below w5.heap.size w5 W) := (Below.refl _ _).drew.then_below hG (Nat.le_refl _)
                  have H4 := Lib.hid (H3.out.then_ HG1.out)
                  clear hG hI hF wk1 wk2 wk3
                  have d1 := cell_of_blk H4.out.ki k
                  rw [sumR_at (idlS cs bs) m b hlt, HVU.out.2] at d1
                  have ld1 := lt_of_blk H4.out.ki
                  have f1 := frozen_of_blk H4.out.ki k
                  have H6 := Lib.hid (H4.out.setI hlt HFR.out.2.1 HFR.out.2.2.2.1 HFR.out.2.2.2.2 HVI2.out.symm)
                  have hz6 := H6.out.mv.bel.size
                  go_wp2_with fail
                  go_roundw
                  case rel => exact ⟨b + 1, by omega, by go_num, hz6, H6⟩
                  case measure => simp [intOf]; omega
          · obtain rfl : b = m := by omega
            have H9 := Lib.hid HS.out.next
            go_wp2_with fail
            go_roundw
            case rel => exact ⟨k + 1, by omega, by go_num, hwz, H9⟩
            case measure => simp [intOf]; omega
      · obtain rfl : k = cs.length := by omega
        go_wp2_with fail
        refine bodyPost_ret (v := .tuple #[.slice (some ⟨qb, 0, none⟩) cs.length cs.length, .slice (some ⟨qi, 0, none⟩) cs.length cs.length]) (by unfold results; simp only [Try.results30]; go_simp) rfl ⟨_, _, rfl, ?_, ?_, HS.out.mv.bel⟩
        · have h := HS.out.kb
          rw [sumR_all] at h
          exact readsF_ints (allR_len _ _ _).symm HFR.out.1 h
        · have h := HS.out.ki
          rw [sumR_all] at h
          exact readsF_ints (allR_len _ _ _).symm HFR.out.2.1 h
end Go.Proofs.Ytiooimfkobjpkaa
