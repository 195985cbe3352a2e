/-
  How long each machine was blocked, and idle: the program's loops.
-/
import Derived.Test.YtiooimfkobjpkaaLnT
namespace Go.Proofs.Ytiooimfkobjpkaa
open Go.RowKit
set_option linter.unusedSimpArgs false
set_option linter.unusedVariables false

/-- What Blocked gives. -/
def blkV (cs bs : List Int) (n : Int) : List Int := if bErr cs bs n = 0 then allR (blkS cs bs) cs.length n.toNat else []
def idlV (cs bs : List Int) (n : Int) : List Int := if bErr cs bs n = 0 then allR (idlS cs bs) cs.length n.toNat else []
theorem reads_ints {W : World} {q : Nat} {l : List Int} {n : Nat} (hn : n = l.length) {t : TypeId} (h : W.heap[q]? = some (.cells (l.map (Value.int .i64)).toArray t (0, 0))) : Reads encN (.slice (some ⟨q, 0, none⟩) n n) l W := by
  subst hn
  refine ⟨_, _, rfl, .inr ⟨q, rfl, lt_of_blk h, fun j u hu => ?_⟩⟩
  rw [flatN_map] at hu
  rw [cell_of_blk h]
  simpa using hu

set_option maxRecDepth 100000 in
set_option maxHeartbeats 8000000 in
theorem blocked_any (cs bs : List Int) (n : Int) (hl : cs.length ≤ 1000000) (hb : bs.length ≤ 1000000) {v1 v2 : Value} {w : World} (r1 : Reads encN v1 cs w) (r2 : Reads encN v2 bs w) :
    Calls Try.prog 26 #[v1, v2, .int .i64 n] w fun e w' => ∃ v v', e = .returned (.tuple #[v, v', .int .i64 (bErr cs bs n)]) ∧ Reads encN v (blkV cs bs n) w' ∧ Reads encN v' (idlV cs bs n) w' ∧ Below w.heap.size w w' := by
  have CC := Lib.hid (checkBoards_any cs bs n hl hb r1 r2)
  have HR := Lib.hid (And.intro r1 r2)
  have CP := Lib.hid (fun (m : Nat) (W : World) h0 h1 h2 h3 h4 h5 h6 h7 => @passes_any cs bs m h0 h1 h2 h3 h4 h5 v1 v2 W h6 h7)
  obtain ⟨A1, c1, rfl, _⟩ := r1
  obtain ⟨A2, c2, rfl, _⟩ := r2
  by_cases h0 : bErr cs bs n = 0
  rotate_left
  · have HV : Hid (blkV cs bs n = [] ∧ idlV cs bs n = []) := ⟨if_neg h0, if_neg h0⟩
    have hne : (bErr cs bs n != 0) = true := by simp [h0]
    generalize bErr cs bs n = E at *
    generalize blkV cs bs n = LV at *
    generalize idlV cs bs n = LI at *
    clear h0
    go_enter Try.func26, Try.ntmps26
    go_wp2_with fail
    refine CC.out.mono ?_
    rintro e w2 ⟨rfl, b2⟩
    have HB := Lib.hid b2
    clear b2 CC
    go_wp2_with fail
    refine bodyPost_ret (v := .tuple #[.slice none 0 0, .slice none 0 0, .int .i64 E]) (by unfold results; simp only [Try.results26]; go_simp) rfl ⟨_, _, rfl, ?_, ?_, HB.out⟩
    · rw [HV.out.1]
      exact nil_readsN _
    · rw [HV.out.2]
      exact nil_readsN _
  obtain ⟨hc0, hbl, hbs, hn1, hn2⟩ := bErr_ok h0
  obtain ⟨hc1, hc6, hcs⟩ := cErr_ok hc0
  have HV : Hid (blkV cs bs n = allR (blkS cs bs) cs.length n.toNat ∧ idlV cs bs n = allR (idlS cs bs) cs.length n.toNat) := ⟨if_pos h0, if_pos h0⟩
  rw [h0] at CC ⊢
  clear h0
  generalize blkV cs bs n = LV at *
  generalize idlV cs bs n = LI at *
  obtain ⟨m, rfl⟩ := Int.eq_ofNat_of_zero_le (show 0 ≤ n by omega)
  have CP2 := Lib.hid (fun W h6 h7 => CP.out m W hcs hc1 hc6 hbl hbs (by omega) h6 h7)
  have HC := Lib.hid hcs
  have hbl2 : bs.length < 6 := by omega
  clear CP hbl hbs hcs hc0
  have hm2 : m ≤ 2000 := by omega
  clear hn2
  have hmk := run_makeInts cs.length (by omega)
  go_enter Try.func26, Try.ntmps26
  go_wp2_with fail
  refine CC.out.mono ?_
  rintro e w2 ⟨rfl, b2⟩
  have HB := Lib.hid b2
  clear b2 CC
  go_upto_region 4 with (fail)
  refine Rg.rgL (fun a b => Below a.heap.size a b)
    [(fun vs u => vs 0 = .slice A1 cs.length c1), (fun vs u => vs 1 = .int .i64 cs.length), (fun vs u => ∃ b : Nat, vs 2 = .slice (some ⟨b, 0, none⟩) cs.length cs.length ∧ u.heap[b]? = some (.cells (List.replicate cs.length (Value.int .i64 0)).toArray 3 (0, 0))), (fun vs u => vs 3 = .slice A1 cs.length c1), (fun vs u => vs 4 = .int .i64 cs.length), (fun vs u => ∃ b : Nat, vs 5 = .slice (some ⟨b, 0, none⟩) cs.length cs.length ∧ u.heap[b]? = some (.cells (List.replicate cs.length (Value.int .i64 0)).toArray 3 (0, 0))), (fun vs u => vs 6 = vs 2)]
    [[], [0], [0, 1], [], [3], [3, 4], [0, 1, 2]] [some 23, some 24, some 25, some 26, some 27, some 28, some 10, some 11] [2, 5] (fun _ _ => True) [[], [0], [0, 1], [], [3], [3, 4], [0, 1, 2], [0, 1, 2, 3, 4, 5, 6]]
    (by kernel_rfl) (by decide) (by kernel_rfl) (by kernel_rfl) (by kernel_rfl) (by kernel_rfl) (by kernel_rfl) (fun _ => Below.refl _ _) (fun _ _ _ h k => h.ext k) (fun _ _ h => h.size) ?_ trivial ?_ ?_
  · intro t ht vs w w' h hE
    simp only [List.mem_cons, List.not_mem_nil, or_false] at ht
    rcases ht with rfl | rfl | rfl | rfl | rfl | rfl | rfl
    · exact h
    · exact h
    · obtain ⟨b, e, k⟩ := h
      exact ⟨b, e, blk_below hE k⟩
    · exact h
    · exact h
    · obtain ⟨b, e, k⟩ := h
      exact ⟨b, e, blk_below hE k⟩
    · exact h
  ·
    refine Rg.cons 0 1 rfl (Rg.plain rfl ?_) ?_
    · intro vs W n hn hI hG hT hF K hK
      simp only [Rg.putsD, List.getD_cons_zero, List.getD_cons_succ, Act.put, List.setIfInBounds_toArray, List.set_cons_zero, List.set_cons_succ] at hK ⊢
      clear hn
      clear hF hI
      have H := Lib.hid hK
      clear hK hT
      go_simp
      exact H.out _ _ (Below.refl _ _) rfl (fun h => by cases h) trivial
    refine Rg.cons 1 2 rfl (Rg.plain rfl ?_) ?_
    · intro vs W n hn hI hG hT hF K hK
      simp only [Rg.putsD, List.getD_cons_zero, List.getD_cons_succ, Act.put, List.setIfInBounds_toArray, List.set_cons_zero, List.set_cons_succ] at hK ⊢
      clear hn
      clear hF hI
      have t0 : vs 0 = .slice A1 cs.length c1 := hT 0 (by decide)
      simp only [t0] at hK
      have H := Lib.hid hK
      clear hK hT
      go_simp
      exact H.out _ _ (Below.refl _ _) rfl (fun h => by cases h) trivial
    refine Rg.cons 2 3 rfl (Rg.plain rfl ?_) ?_
    · intro vs W n hn hI hG hT hF K hK
      simp only [Rg.putsD, List.getD_cons_zero, List.getD_cons_succ, Act.put, List.setIfInBounds_toArray, List.set_cons_zero, List.set_cons_succ] at hK ⊢
      clear hn
      clear hF hI
      have t0 : vs 0 = .slice A1 cs.length c1 := hT 0 (by decide)
      have t1 : vs 1 = .int .i64 cs.length := hT 1 (by decide)
      simp only [t0, t1] at hK
      have H := Lib.hid hK
      clear hK hT
      go_simp
      exact H.out _ _ ((Below.refl _ _).alloc (Nat.le_refl _) _) (show ∃ b : Nat, _ = _ ∧ _ = _ from ⟨_, rfl, by simpa using blk_new W (.cells (List.replicate cs.length (Value.int .i64 0)).toArray 3) rfl⟩) (fun _ => ⟨W.heap.size, rfl, Nat.le_refl _, by simp⟩) trivial
    refine Rg.cons 3 4 rfl (Rg.plain rfl ?_) ?_
    · intro vs W n hn hI hG hT hF K hK
      simp only [Rg.putsD, List.getD_cons_zero, List.getD_cons_succ, Act.put, List.setIfInBounds_toArray, List.set_cons_zero, List.set_cons_succ] at hK ⊢
      clear hn
      clear hF hI
      have H := Lib.hid hK
      clear hK hT
      go_simp
      exact H.out _ _ (Below.refl _ _) rfl (fun h => by cases h) trivial
    refine Rg.cons 4 5 rfl (Rg.plain rfl ?_) ?_
    · intro vs W n hn hI hG hT hF K hK
      simp only [Rg.putsD, List.getD_cons_zero, List.getD_cons_succ, Act.put, List.setIfInBounds_toArray, List.set_cons_zero, List.set_cons_succ] at hK ⊢
      clear hn
      clear hF hI
      have t3 : vs 3 = .slice A1 cs.length c1 := hT 3 (by decide)
      simp only [t3] at hK
      have H := Lib.hid hK
      clear hK hT
      go_simp
      exact H.out _ _ (Below.refl _ _) rfl (fun h => by cases h) trivial
    refine Rg.cons 5 6 rfl (Rg.plain rfl ?_) ?_
    · intro vs W n hn hI hG hT hF K hK
      simp only [Rg.putsD, List.getD_cons_zero, List.getD_cons_succ, Act.put, List.setIfInBounds_toArray, List.set_cons_zero, List.set_cons_succ] at hK ⊢
      clear hn
      clear hF hI
      have t3 : vs 3 = .slice A1 cs.length c1 := hT 3 (by decide)
      have t4 : vs 4 = .int .i64 cs.length := hT 4 (by decide)
      simp only [t3, t4] at hK
      have H := Lib.hid hK
      clear hK hT
      go_simp
      exact H.out _ _ ((Below.refl _ _).alloc (Nat.le_refl _) _) (show ∃ b : Nat, _ = _ ∧ _ = _ from ⟨_, rfl, by simpa using blk_new W (.cells (List.replicate cs.length (Value.int .i64 0)).toArray 3) rfl⟩) (fun _ => ⟨W.heap.size, rfl, Nat.le_refl _, by simp⟩) trivial
    refine Rg.cons 6 7 rfl (Rg.plain rfl ?_) ?_
    · intro vs W n hn hI hG hT hF K hK
      simp only [Rg.putsD, List.getD_cons_zero, List.getD_cons_succ, Act.put, List.setIfInBounds_toArray, List.set_cons_zero, List.set_cons_succ] at hK ⊢
      clear hn
      clear hF hI
      have t0 : vs 0 = .slice A1 cs.length c1 := hT 0 (by decide)
      have t1 : vs 1 = .int .i64 cs.length := hT 1 (by decide)
      have t2 : ∃ b : Nat, vs 2 = .slice (some ⟨b, 0, none⟩) cs.length cs.length ∧ W.heap[b]? = some (.cells (List.replicate cs.length (Value.int .i64 0)).toArray 3 (0, 0)) := hT 2 (by decide)
      simp only [t0, t1] at hK
      have H := Lib.hid hK
      clear hK hT
      go_simp
      exact H.out _ _ (Below.refl _ _) rfl (fun h => by cases h) trivial
    exact Rg.nil
  · intro vs W hG hI hT hF
    have t0 : vs 0 = .slice A1 cs.length c1 := hT 0 (by decide)
    have t1 : vs 1 = .int .i64 cs.length := hT 1 (by decide)
    have t2 : ∃ b : Nat, vs 2 = .slice (some ⟨b, 0, none⟩) cs.length cs.length ∧ W.heap[b]? = some (.cells (List.replicate cs.length (Value.int .i64 0)).toArray 3 (0, 0)) := hT 2 (by decide)
    have t3 : vs 3 = .slice A1 cs.length c1 := hT 3 (by decide)
    have t4 : vs 4 = .int .i64 cs.length := hT 4 (by decide)
    have t5 : ∃ b : Nat, vs 5 = .slice (some ⟨b, 0, none⟩) cs.length cs.length ∧ W.heap[b]? = some (.cells (List.replicate cs.length (Value.int .i64 0)).toArray 3 (0, 0)) := hT 5 (by decide)
    have t6 : vs 6 = vs 2 := hT 6 (by decide)
    simp only [List.length_cons, List.length_nil, Nat.reduceAdd, List.range, List.range.loop, List.drop_succ_cons, List.drop_zero, Rg.putsD, List.getD_cons_zero, List.getD_cons_succ, Act.put, List.setIfInBounds_toArray, List.set_cons_zero, List.set_cons_succ, t0, t1, t3, t4, t6]
    clear hT t0 t1 t3 t4 t6
    obtain ⟨qb, e2, k2⟩ := t2
    obtain ⟨qi, e5, k5⟩ := t5
    obtain ⟨_, q2, l2, _⟩ := hF.1 2 (by decide) (by decide)
    obtain ⟨_, q5, l5, _⟩ := hF.1 5 (by decide) (by decide)
    have hne := hF.2 2 (by decide) 5 (by decide) (by decide) (by decide) (by decide)
    simp only [e2, e5, Rg.blockOf, Option.some.injEq, ne_eq] at q2 q5 hne
    subst q2 q5
    simp only [e2, e5]
    have hGW : Below w2.heap.size w2 W := (Below.refl _ _).drew.then_below hG (Nat.le_refl _)
    have l2' : w2.heap.size ≤ qb := l2
    have l5' : w2.heap.size ≤ qi := l5
    have HWB : Hid (Below w.heap.size w W) := HB.out.then_below hGW HB.out.size
    have hzb := HB.out.size
    have HK : Hid (W.heap[qb]? = some (.cells (List.replicate cs.length (Value.int .i64 0)).toArray 3 (0, 0)) ∧ W.heap[qi]? = some (.cells (List.replicate cs.length (Value.int .i64 0)).toArray 3 (0, 0))) := ⟨k2, k5⟩
    clear e2 e5 k2 k5 hF hG hI l2 l5 hGW hmk
    go_wp2_with fail
    refine (CP2.out W (HR.out.1.below HWB.out) (HR.out.2.below HWB.out)).mono ?_
    rintro e w3 ⟨oa, g, rfl, hp, b3, hoa, hga⟩
    have hql := lt_of_blk HK.out.1
    have hqi := lt_of_blk HK.out.2
    have HB0 : Hid (Bk w cs bs oa g cs.length m qb qi 0 0 0 w3) := ⟨HWB.out.then_below b3 HWB.out.size, hp, by rw [sumR_zero (blkS cs bs) (fun _ => rfl)]; exact blk_below b3 HK.out.1, by rw [sumR_zero (idlS cs bs) (fun _ => rfl)]; exact blk_below b3 HK.out.2⟩
    have HFR : Hid (w.heap.size ≤ qb ∧ w.heap.size ≤ qi ∧ oa ≠ qb ∧ oa ≠ qi ∧ (∀ j, j < cs.length → g j ≠ qb) ∧ (∀ j, j < cs.length → g j ≠ qi) ∧ qb ≠ qi) :=
      ⟨by omega, by omega, by omega, by omega, fun j hj => by have := hga j hj; omega, fun j hj => by have := hga j hj; omega, hne⟩
    have hz3 := HB0.out.bel.size
    clear hp b3 hoa hga HK HWB hql hqi l2' l5' HB hne CP2
    go_wp2_with fail
    go_loopw [34] (fun kk wr => ∃ (k : Nat), k ≤ cs.length ∧ kk = .int .i64 k ∧ w.heap.size ≤ wr.heap.size ∧ Hid (Bk w cs bs oa g cs.length m qb qi k 0 0 wr)) (fun kk _ => cs.length - (intOf kk).toNat)
    case atStart => exact ⟨0, by omega, rfl, hz3, HB0⟩
    case round =>
      clear HB0 hz3
      obtain ⟨k, hk, rfl, hwz, HS⟩ := hrel
      by_cases hlt : k < cs.length
      · have q1 := cell_of_blk HS.out.pa.ho k
        rw [oaR_at m cs.length g hlt, if_pos hlt] at q1
        have hl1 := lt_of_blk HS.out.pa.ho
        have i1 : (0 : Int) ≤ (k : Int) := by omega
        have i2 : (k : Int) < (cs.length : Int) := by omega
        go_wp2_with fail
        clear q1 hl1
        obtain ⟨wo, hwo⟩ : ∃ wo : World, wo = wr := ⟨_, rfl⟩
        rw [← hwo]
        rw [← hwo] at HS hwz
        clear hwo
        go_loopw [41] (fun kk wr => ∃ (b : Nat), b ≤ m ∧ kk = .int .i64 b ∧ w.heap.size ≤ wr.heap.size ∧ Hid (Bk w cs bs oa g cs.length m qb qi k b b wr)) (fun kk _ => m - (intOf kk).toNat)
        case atStart => exact ⟨0, by omega, rfl, hwz, HS⟩
        case round =>
          clear HS hwz
          obtain ⟨b, hbm', rfl, hwz, HS⟩ := hrel
          by_cases hbm : b < m
          · have hrk := HS.out.pa.rows k hlt
            obtain ⟨p1, p2, p3⟩ := pRow_done cs bs m 0 k hbm (.inl hbm)
            have d5 : wr.cell? ⟨g k, b * 3, none⟩ = some (.int .i64 (cm cs bs b k)) := (cell_of_blk hrk (b * 3)).trans (List.getElem?_toArray.trans p1)
            have d6 : wr.cell? ⟨g k, b * 3 + 1, none⟩ = some (.int .i64 (dn cs bs b k)) := (cell_of_blk hrk (b * 3 + 1)).trans (List.getElem?_toArray.trans p2)
            have d7 : wr.cell? ⟨g k, b * 3 + 2, none⟩ = some (.int .i64 (lv cs bs b k)) := (cell_of_blk hrk (b * 3 + 2)).trans (List.getElem?_toArray.trans p3)
            have hgl := lt_of_blk hrk
            have i3 : (0 : Int) ≤ (b : Int) := by omega
            have i4 : (b : Int) < (m : Int) := by omega
            have bb1 := blkS_bd bs HC.out (k := k) (by omega) b (by omega)
            have bi1 := idlS_bd bs HC.out (k := k) (by omega) b (by omega)
            have bx1 := cm_bd bs HC.out b k
            have by1 := dn_bd bs HC.out b k
            have bz1 := lv_bd bs HC.out b k
            have HVB : Hid (blkS cs bs k (b + 1) = blkS cs bs k b + (lv cs bs b k - dn cs bs b k)) := rfl
            have HVI : Hid (∀ b', b = b' + 1 → idlS cs bs k (b + 1) = idlS cs bs k b + (cm cs bs b k - lv cs bs b' k)) := by
              rintro b' rfl
              rfl
            clear hrk p1 p2 p3
            generalize cm cs bs b k = X at *
            generalize dn cs bs b k = Y at *
            generalize lv cs bs b k = Z at *
            generalize hVV : blkS cs bs k b = V at *
            generalize hUU : idlS cs bs k b = U at *
            have HVU := Lib.hid (And.intro hVV hUU)
            clear hVV hUU
            have H1 : Hid (Bk w cs bs oa g cs.length m qb qi k b b (wr.alloc (.cells #[.int .i64 X, .int .i64 Y, .int .i64 Z] 99)) ∧ (wr.alloc (.cells #[.int .i64 X, .int .i64 Y, .int .i64 Z] 99)).heap[wr.heap.size]? = some (.cells #[.int .i64 X, .int .i64 Y, .int .i64 Z] 99 (0, 0)) ∧ wr.heap.size ≠ qb ∧ wr.heap.size ≠ qi) :=
              ⟨HS.out.then_ ((Below.refl _ _).alloc (Nat.le_refl _) _), blk_new wr _ rfl, fun h => by have := lt_of_blk HS.out.kb; omega, fun h => by have := lt_of_blk HS.out.ki; omega⟩
            go_upto_region 11 with (fail)
            generalize wr.alloc (.cells #[.int .i64 X, .int .i64 Y, .int .i64 Z] 99) = wx at *
            generalize wr.heap.size = gp at *
            clear d5 d6 d7 hgl HS hwz
            have wk1 : IntKind.i64.wrap (Z - Y) = Z - Y := by rw [IntKind.wrap_i64]; omega
            have wk2 : IntKind.i64.wrap (V + (Z - Y)) = V + (Z - Y) := by rw [IntKind.wrap_i64]; omega
            refine Rg.rgL (fun a b => Below a.heap.size a b)
              [(fun vs u => vs 0 = .slice (some ⟨qb, 0, none⟩) cs.length cs.length), (fun vs u => vs 1 = .int .i64 k), (fun vs u => vs 2 = .pointer (some ⟨qb, k, none⟩)), (fun vs u => vs 3 = .int .i64 V), (fun vs u => vs 4 = .pointer (some ⟨gp, 2, none⟩)), (fun vs u => vs 5 = .int .i64 Z), (fun vs u => vs 6 = .pointer (some ⟨gp, 1, none⟩)), (fun vs u => vs 7 = .int .i64 Y), (fun vs u => vs 8 = .int .i64 (Z - Y))]
              [[], [], [0, 1], [0, 1, 2], [], [4], [], [6], [4, 5, 6, 7]] [some 46, some 47, some 48, some 49, some 50, some 51, some 52, some 53, some 54, some 55, some 56, none] [] (fun _ _ => True) [[], [], [0, 1], [0, 1, 2], [], [4], [], [6], [4, 5, 6, 7], [0, 1, 2, 3, 4, 5, 6, 7, 8], [0, 1, 2, 3, 4, 5, 6, 7, 8, 9], [0, 1, 2, 3, 4, 5, 6, 7, 8, 9, 10]]
              (by kernel_rfl) (by decide) (by kernel_rfl) (by kernel_rfl) (by kernel_rfl) (by kernel_rfl) (by kernel_rfl) (fun _ => Below.refl _ _) (fun _ _ _ h k => h.ext k) (fun _ _ h => h.size) ?_ trivial ?_ ?_
            · intro t ht vs w w' h hE
              simp only [List.mem_cons, List.not_mem_nil, or_false] at ht
              rcases ht with rfl | rfl | rfl | rfl | rfl | rfl | rfl | rfl | rfl
              · exact h
              · exact h
              · exact h
              · exact h
              · exact h
              · exact h
              · exact h
              · exact h
              · exact h
            ·
              refine Rg.cons 0 1 rfl (Rg.plain rfl ?_) ?_
              · intro vs W n hn hI hG hT hF K hK
                simp only [Rg.putsD, List.getD_cons_zero, List.getD_cons_succ, Act.put, List.setIfInBounds_toArray, List.set_cons_zero, List.set_cons_succ] at hK ⊢
                clear hn
                clear hF hI
                have H := Lib.hid hK
                clear hK hT
                go_simp
                exact H.out _ _ (Below.refl _ _) rfl (fun h => by cases h) trivial
              refine Rg.cons 1 2 rfl (Rg.plain rfl ?_) ?_
              · intro vs W n hn hI hG hT hF K hK
                simp only [Rg.putsD, List.getD_cons_zero, List.getD_cons_succ, Act.put, List.setIfInBounds_toArray, List.set_cons_zero, List.set_cons_succ] at hK ⊢
                clear hn
                clear hF hI
                have H := Lib.hid hK
                clear hK hT
                go_simp
                exact H.out _ _ (Below.refl _ _) rfl (fun h => by cases h) trivial
              refine Rg.cons 2 3 rfl (Rg.plain rfl ?_) ?_
              · intro vs W n hn hI hG hT hF K hK
                simp only [Rg.putsD, List.getD_cons_zero, List.getD_cons_succ, Act.put, List.setIfInBounds_toArray, List.set_cons_zero, List.set_cons_succ] at hK ⊢
                clear hn
                clear hF hI
                have t0 : vs 0 = .slice (some ⟨qb, 0, none⟩) cs.length cs.length := hT 0 (by decide)
                have t1 : vs 1 = .int .i64 k := hT 1 (by decide)
                simp only [t0, t1] at hK
                have H := Lib.hid hK
                clear hK hT
                go_simp
                exact H.out _ _ (Below.refl _ _) rfl (fun h => by cases h) trivial
              refine Rg.cons 3 4 rfl (Rg.plain rfl ?_) ?_
              · intro vs W n hn hI hG hT hF K hK
                simp only [Rg.putsD, List.getD_cons_zero, List.getD_cons_succ, Act.put, List.setIfInBounds_toArray, List.set_cons_zero, List.set_cons_succ] at hK ⊢
                clear hn
                clear hF hI
                have t0 : vs 0 = .slice (some ⟨qb, 0, none⟩) cs.length cs.length := hT 0 (by decide)
                have t1 : vs 1 = .int .i64 k := hT 1 (by decide)
                have t2 : vs 2 = .pointer (some ⟨qb, k, none⟩) := hT 2 (by decide)
                have d1 := cell_of_blk (blk_below hG H1.out.1.kb) k
                rw [sumR_at (blkS cs bs) m b hlt, HVU.out.1] at d1
                have ld1 := lt_of_blk (blk_below hG H1.out.1.kb)
                simp only [t0, t1, t2] at hK
                have H := Lib.hid hK
                clear hK hT
                go_simp
                exact H.out _ _ (Below.refl _ _) rfl (fun h => by cases h) trivial
              refine Rg.cons 4 5 rfl (Rg.plain rfl ?_) ?_
              · intro vs W n hn hI hG hT hF K hK
                simp only [Rg.putsD, List.getD_cons_zero, List.getD_cons_succ, Act.put, List.setIfInBounds_toArray, List.set_cons_zero, List.set_cons_succ] at hK ⊢
                clear hn
                clear hF hI
                have H := Lib.hid hK
                clear hK hT
                go_simp
                exact H.out _ _ (Below.refl _ _) rfl (fun h => by cases h) trivial
              refine Rg.cons 5 6 rfl (Rg.plain rfl ?_) ?_
              · intro vs W n hn hI hG hT hF K hK
                simp only [Rg.putsD, List.getD_cons_zero, List.getD_cons_succ, Act.put, List.setIfInBounds_toArray, List.set_cons_zero, List.set_cons_succ] at hK ⊢
                clear hn
                clear hF hI
                have t4 : vs 4 = .pointer (some ⟨gp, 2, none⟩) := hT 4 (by decide)
                obtain ⟨d2, d3, d4⟩ := blk3 (blk_below hG H1.out.2.1)
                have ld2 := lt_of_blk (blk_below hG H1.out.2.1)
                simp only [t4] at hK
                have H := Lib.hid hK
                clear hK hT
                go_simp
                exact H.out _ _ (Below.refl _ _) rfl (fun h => by cases h) trivial
              refine Rg.cons 6 7 rfl (Rg.plain rfl ?_) ?_
              · intro vs W n hn hI hG hT hF K hK
                simp only [Rg.putsD, List.getD_cons_zero, List.getD_cons_succ, Act.put, List.setIfInBounds_toArray, List.set_cons_zero, List.set_cons_succ] at hK ⊢
                clear hn
                clear hF hI
                have H := Lib.hid hK
                clear hK hT
                go_simp
                exact H.out _ _ (Below.refl _ _) rfl (fun h => by cases h) trivial
              refine Rg.cons 7 8 rfl (Rg.plain rfl ?_) ?_
              · intro vs W n hn hI hG hT hF K hK
                simp only [Rg.putsD, List.getD_cons_zero, List.getD_cons_succ, Act.put, List.setIfInBounds_toArray, List.set_cons_zero, List.set_cons_succ] at hK ⊢
                clear hn
                clear hF hI
                have t6 : vs 6 = .pointer (some ⟨gp, 1, none⟩) := hT 6 (by decide)
                obtain ⟨d2, d3, d4⟩ := blk3 (blk_below hG H1.out.2.1)
                have ld2 := lt_of_blk (blk_below hG H1.out.2.1)
                simp only [t6] at hK
                have H := Lib.hid hK
                clear hK hT
                go_simp
                exact H.out _ _ (Below.refl _ _) rfl (fun h => by cases h) trivial
              refine Rg.cons 8 9 rfl (Rg.plain rfl ?_) ?_
              · intro vs W n hn hI hG hT hF K hK
                simp only [Rg.putsD, List.getD_cons_zero, List.getD_cons_succ, Act.put, List.setIfInBounds_toArray, List.set_cons_zero, List.set_cons_succ] at hK ⊢
                clear hn
                clear hF hI
                have t4 : vs 4 = .pointer (some ⟨gp, 2, none⟩) := hT 4 (by decide)
                have t5 : vs 5 = .int .i64 Z := hT 5 (by decide)
                have t6 : vs 6 = .pointer (some ⟨gp, 1, none⟩) := hT 6 (by decide)
                have t7 : vs 7 = .int .i64 Y := hT 7 (by decide)
                simp only [t4, t5, t6, t7] at hK
                have H := Lib.hid hK
                clear hK hT
                go_simp
                exact H.out _ _ (Below.refl _ _) rfl (fun h => by cases h) trivial
              exact Rg.nil
            · intro vs W hG hI hT hF
              have t0 : vs 0 = .slice (some ⟨qb, 0, none⟩) cs.length cs.length := hT 0 (by decide)
              have t1 : vs 1 = .int .i64 k := hT 1 (by decide)
              have t2 : vs 2 = .pointer (some ⟨qb, k, none⟩) := hT 2 (by decide)
              have t3 : vs 3 = .int .i64 V := hT 3 (by decide)
              have t4 : vs 4 = .pointer (some ⟨gp, 2, none⟩) := hT 4 (by decide)
              have t5 : vs 5 = .int .i64 Z := hT 5 (by decide)
              have t6 : vs 6 = .pointer (some ⟨gp, 1, none⟩) := hT 6 (by decide)
              have t7 : vs 7 = .int .i64 Y := hT 7 (by decide)
              have t8 : vs 8 = .int .i64 (Z - Y) := hT 8 (by decide)
              simp only [List.length_cons, List.length_nil, Nat.reduceAdd, List.range, List.range.loop, List.drop_succ_cons, List.drop_zero, Rg.putsD, List.getD_cons_zero, List.getD_cons_succ, Act.put, List.setIfInBounds_toArray, List.set_cons_zero, List.set_cons_succ, t0, t1, t2, t3, t4, t5, t6, t7, t8]
              clear hT t0 t1 t2 t3 t4 t5 t6 t7 t8
              have HG1 : Hid (Below wx.heap.size wx W) := (Below.refl _ _).drew.then_below hG (Nat.le_refl _)
              have H2 : Hid (Bk w cs bs oa g cs.length m qb qi k b b W ∧ W.heap[gp]? = some (.cells #[.int .i64 X, .int .i64 Y, .int .i64 Z] 99 (0, 0))) := ⟨H1.out.1.then_ HG1.out, blk_below HG1.out H1.out.2.1⟩
              clear hG hI hF
              have d1 := cell_of_blk H2.out.1.kb k
              rw [sumR_at (blkS cs bs) m b hlt, HVU.out.1] at d1
              have ld1 := lt_of_blk H2.out.1.kb
              have f1 := frozen_of_blk H2.out.1.kb k
              have H3 : Hid (Bk w cs bs oa g cs.length m qb qi k (b + 1) b (W.setCell ⟨qb, k, none⟩ (.int .i64 (V + (Z - Y)))) ∧ (W.setCell ⟨qb, k, none⟩ (.int .i64 (V + (Z - Y)))).heap[gp]? = some (.cells #[.int .i64 X, .int .i64 Y, .int .i64 Z] 99 (0, 0))) :=
                ⟨H2.out.1.setB hlt HFR.out.1 HFR.out.2.2.1 HFR.out.2.2.2.2.1 (Ne.symm HFR.out.2.2.2.2.2.2) HVB.out.symm, blk_far H2.out.2 H1.out.2.2.1 _⟩
              go_upto_region 12 with (fail)
              generalize W.setCell ⟨qb, k, none⟩ (.int .i64 (V + (Z - Y))) = w5 at *
              clear d1 ld1 f1 H2 HG1 H1 wk1 wk2
              have hz5 := H3.out.1.bel.size
              rcases Nat.eq_zero_or_pos b with hb0 | hb0
              · subst hb0
                have H4 := Lib.hid H3.out.1.skipI
                go_wp2_with fail
                go_roundw
                case rel => exact ⟨1, by omega, by go_num, hz5, H4⟩
                case measure => simp [intOf]; omega
              · obtain ⟨b', rfl⟩ : ∃ b', b = b' + 1 := ⟨b - 1, by omega⟩
                have hpos : (0 : Int) < ((b' + 1 : Nat) : Int) := by omega
                have HVI2 := Lib.hid (HVI.out b' rfl)
                clear HVI
                obtain ⟨p1, p2, p3⟩ := pRow_done cs bs m 0 k (show b' < m by omega) (.inl (show b' < m by omega))
                have bp1 := lv_bd bs HC.out b' k
                generalize lv cs bs b' k = P at *
                have HP3 := Lib.hid p3
                clear p1 p2 p3
                go_upto_region 13 with (fail)
                have wk1 : IntKind.i64.wrap (X - P) = X - P := by rw [IntKind.wrap_i64]; omega
                have wk2 : IntKind.i64.wrap (U + (X - P)) = U + (X - P) := by rw [IntKind.wrap_i64]; omega
                have wk3 : IntKind.i64.wrap ((b' : Int) + 1 - 1) = (b' : Int) := by rw [IntKind.wrap_i64]; omega
                have wk4 : IntKind.i64.wrap (((b' + 1 : Nat) : Int) - 1) = (b' : Int) := by rw [IntKind.wrap_i64]; omega
                have wk5 : IntKind.i64.wrap (b' : Int) = (b' : Int) := by rw [IntKind.wrap_i64]; omega
                have i5 : (0 : Int) ≤ (b' : Int) := by omega
                have i6 : (b' : Int) < (m : Int) := by omega
                refine Rg.rgL (fun a b => Below a.heap.size a b)
                  [(fun vs u => vs 0 = .slice (some ⟨qi, 0, none⟩) cs.length cs.length), (fun vs u => vs 1 = .int .i64 k), (fun vs u => vs 2 = .pointer (some ⟨qi, k, none⟩)), (fun vs u => vs 3 = .int .i64 U), (fun vs u => vs 4 = .pointer (some ⟨gp, 0, none⟩)), (fun vs u => vs 5 = .int .i64 X), (fun vs u => vs 6 = .slice (some ⟨g k, 0, none⟩) m m), (fun vs u => vs 7 = .int .i64 ((b' + 1 : Nat) : Int)), (fun vs u => vs 8 = .int .i64 (b' : Int)), (fun vs u => vs 9 = .pointer (some ⟨g k, b' * 3, none⟩)), (fun vs u => vs 10 = .pointer (some ⟨g k, b' * 3 + 2, none⟩)), (fun vs u => vs 11 = .int .i64 P), (fun vs u => vs 12 = .int .i64 (X - P))]
                  [[], [], [0, 1], [0, 1, 2], [], [4], [], [], [7], [6, 7, 8], [6, 7, 8, 9], [6, 7, 8, 9, 10], [4, 5, 6, 7, 8, 9, 10, 11]] [some 59, some 60, some 61, some 62, some 63, some 64, some 65, some 66, some 67, some 68, some 69, some 70, some 71, some 72, some 73, none] [] (fun _ _ => True) [[], [], [0, 1], [0, 1, 2], [], [4], [], [], [7], [6, 7, 8], [6, 7, 8, 9], [6, 7, 8, 9, 10], [4, 5, 6, 7, 8, 9, 10, 11], [0, 1, 2, 3, 4, 5, 6, 7, 8, 9, 10, 11, 12], [0, 1, 2, 3, 4, 5, 6, 7, 8, 9, 10, 11, 12, 13], [0, 1, 2, 3, 4, 5, 6, 7, 8, 9, 10, 11, 12, 13, 14]]
                  (by kernel_rfl) (by decide) (by kernel_rfl) (by kernel_rfl) (by kernel_rfl) (by kernel_rfl) (by kernel_rfl) (fun _ => Below.refl _ _) (fun _ _ _ h k => h.ext k) (fun _ _ h => h.size) ?_ trivial ?_ ?_
                · intro t ht vs w w' h hE
                  simp only [List.mem_cons, List.not_mem_nil, or_false] at ht
                  rcases ht with rfl | rfl | rfl | rfl | rfl | rfl | rfl | rfl | rfl | rfl | rfl | rfl | rfl
                  · exact h
                  · exact h
                  · exact h
                  · exact h
                  · exact h
                  · exact h
                  · exact h
                  · exact h
                  · exact h
                  · exact h
                  · exact h
                  · exact h
                  · exact h
                ·
                  refine Rg.cons 0 1 rfl (Rg.plain rfl ?_) ?_
                  · intro vs W n hn hI hG hT hF K hK
                    simp only [Rg.putsD, List.getD_cons_zero, List.getD_cons_succ, Act.put, List.setIfInBounds_toArray, List.set_cons_zero, List.set_cons_succ] at hK ⊢
                    clear hn
                    clear hF hI
                    have H := Lib.hid hK
                    clear hK hT
                    go_simp
                    exact H.out _ _ (Below.refl _ _) rfl (fun h => by cases h) trivial
                  refine Rg.cons 1 2 rfl (Rg.plain rfl ?_) ?_
                  · intro vs W n hn hI hG hT hF K hK
                    simp only [Rg.putsD, List.getD_cons_zero, List.getD_cons_succ, Act.put, List.setIfInBounds_toArray, List.set_cons_zero, List.set_cons_succ] at hK ⊢
                    clear hn
                    clear hF hI
                    have H := Lib.hid hK
                    clear hK hT
                    go_simp
                    exact H.out _ _ (Below.refl _ _) rfl (fun h => by cases h) trivial
                  refine Rg.cons 2 3 rfl (Rg.plain rfl ?_) ?_
                  · intro vs W n hn hI hG hT hF K hK
                    simp only [Rg.putsD, List.getD_cons_zero, List.getD_cons_succ, Act.put, List.setIfInBounds_toArray, List.set_cons_zero, List.set_cons_succ] at hK ⊢
                    clear hn
                    clear hF hI
                    have t0 : vs 0 = .slice (some ⟨qi, 0, none⟩) cs.length cs.length := hT 0 (by decide)
                    have t1 : vs 1 = .int .i64 k := hT 1 (by decide)
                    simp only [t0, t1] at hK
                    have H := Lib.hid hK
                    clear hK hT
                    go_simp
                    exact H.out _ _ (Below.refl _ _) rfl (fun h => by cases h) trivial
                  refine Rg.cons 3 4 rfl (Rg.plain rfl ?_) ?_
                  · intro vs W n hn hI hG hT hF K hK
                    simp only [Rg.putsD, List.getD_cons_zero, List.getD_cons_succ, Act.put, List.setIfInBounds_toArray, List.set_cons_zero, List.set_cons_succ] at hK ⊢
                    clear hn
                    clear hF hI
                    have t0 : vs 0 = .slice (some ⟨qi, 0, none⟩) cs.length cs.length := hT 0 (by decide)
                    have t1 : vs 1 = .int .i64 k := hT 1 (by decide)
                    have t2 : vs 2 = .pointer (some ⟨qi, k, none⟩) := hT 2 (by decide)
                    have d1 := cell_of_blk (blk_below hG H3.out.1.ki) k
                    rw [sumR_at (idlS cs bs) m (b' + 1) hlt, HVU.out.2] at d1
                    have ld1 := lt_of_blk (blk_below hG H3.out.1.ki)
                    simp only [t0, t1, t2] at hK
                    have H := Lib.hid hK
                    clear hK hT
                    go_simp
                    exact H.out _ _ (Below.refl _ _) rfl (fun h => by cases h) trivial
                  refine Rg.cons 4 5 rfl (Rg.plain rfl ?_) ?_
                  · intro vs W n hn hI hG hT hF K hK
                    simp only [Rg.putsD, List.getD_cons_zero, List.getD_cons_succ, Act.put, List.setIfInBounds_toArray, List.set_cons_zero, List.set_cons_succ] at hK ⊢
                    clear hn
                    clear hF hI
                    have H := Lib.hid hK
                    clear hK hT
                    go_simp
                    exact H.out _ _ (Below.refl _ _) rfl (fun h => by cases h) trivial
                  refine Rg.cons 5 6 rfl (Rg.plain rfl ?_) ?_
                  · intro vs W n hn hI hG hT hF K hK
                    simp only [Rg.putsD, List.getD_cons_zero, List.getD_cons_succ, Act.put, List.setIfInBounds_toArray, List.set_cons_zero, List.set_cons_succ] at hK ⊢
                    clear hn
                    clear hF hI
                    have t4 : vs 4 = .pointer (some ⟨gp, 0, none⟩) := hT 4 (by decide)
                    obtain ⟨d2, d3, d4⟩ := blk3 (blk_below hG H3.out.2)
                    have ld2 := lt_of_blk (blk_below hG H3.out.2)
                    simp only [t4] at hK
                    have H := Lib.hid hK
                    clear hK hT
                    go_simp
                    exact H.out _ _ (Below.refl _ _) rfl (fun h => by cases h) trivial
                  refine Rg.cons 6 7 rfl (Rg.plain rfl ?_) ?_
                  · intro vs W n hn hI hG hT hF K hK
                    simp only [Rg.putsD, List.getD_cons_zero, List.getD_cons_succ, Act.put, List.setIfInBounds_toArray, List.set_cons_zero, List.set_cons_succ] at hK ⊢
                    clear hn
                    clear hF hI
                    have H := Lib.hid hK
                    clear hK hT
                    go_simp
                    exact H.out _ _ (Below.refl _ _) rfl (fun h => by cases h) trivial
                  refine Rg.cons 7 8 rfl (Rg.plain rfl ?_) ?_
                  · intro vs W n hn hI hG hT hF K hK
                    simp only [Rg.putsD, List.getD_cons_zero, List.getD_cons_succ, Act.put, List.setIfInBounds_toArray, List.set_cons_zero, List.set_cons_succ] at hK ⊢
                    clear hn
                    clear hF hI
                    have H := Lib.hid hK
                    clear hK hT
                    go_simp
                    exact H.out _ _ (Below.refl _ _) rfl (fun h => by cases h) trivial
                  refine Rg.cons 8 9 rfl (Rg.plain rfl ?_) ?_
                  · intro vs W n hn hI hG hT hF K hK
                    simp only [Rg.putsD, List.getD_cons_zero, List.getD_cons_succ, Act.put, List.setIfInBounds_toArray, List.set_cons_zero, List.set_cons_succ] at hK ⊢
                    clear hn
                    clear hF hI
                    have t7 : vs 7 = .int .i64 ((b' + 1 : Nat) : Int) := hT 7 (by decide)
                    simp only [t7] at hK
                    have H := Lib.hid hK
                    clear hK hT
                    go_simp
                    exact H.out _ _ (Below.refl _ _) rfl (fun h => by cases h) trivial
                  refine Rg.cons 9 10 rfl (Rg.plain rfl ?_) ?_
                  · intro vs W n hn hI hG hT hF K hK
                    simp only [Rg.putsD, List.getD_cons_zero, List.getD_cons_succ, Act.put, List.setIfInBounds_toArray, List.set_cons_zero, List.set_cons_succ] at hK ⊢
                    clear hn
                    clear hF hI
                    have t6 : vs 6 = .slice (some ⟨g k, 0, none⟩) m m := hT 6 (by decide)
                    have t7 : vs 7 = .int .i64 ((b' + 1 : Nat) : Int) := hT 7 (by decide)
                    have t8 : vs 8 = .int .i64 (b' : Int) := hT 8 (by decide)
                    simp only [t6, t7, t8] at hK
                    have H := Lib.hid hK
                    clear hK hT
                    go_simp
                    exact H.out _ _ (Below.refl _ _) rfl (fun h => by cases h) trivial
                  refine Rg.cons 10 11 rfl (Rg.plain rfl ?_) ?_
                  · intro vs W n hn hI hG hT hF K hK
                    simp only [Rg.putsD, List.getD_cons_zero, List.getD_cons_succ, Act.put, List.setIfInBounds_toArray, List.set_cons_zero, List.set_cons_succ] at hK ⊢
                    clear hn
                    clear hF hI
                    have t6 : vs 6 = .slice (some ⟨g k, 0, none⟩) m m := hT 6 (by decide)
                    have t7 : vs 7 = .int .i64 ((b' + 1 : Nat) : Int) := hT 7 (by decide)
                    have t8 : vs 8 = .int .i64 (b' : Int) := hT 8 (by decide)
                    have t9 : vs 9 = .pointer (some ⟨g k, b' * 3, none⟩) := hT 9 (by decide)
                    simp only [t6, t7, t8, t9] at hK
                    have H := Lib.hid hK
                    clear hK hT
                    go_simp
                    exact H.out _ _ (Below.refl _ _) rfl (fun h => by cases h) trivial
                  refine Rg.cons 11 12 rfl (Rg.plain rfl ?_) ?_
                  · intro vs W n hn hI hG hT hF K hK
                    simp only [Rg.putsD, List.getD_cons_zero, List.getD_cons_succ, Act.put, List.setIfInBounds_toArray, List.set_cons_zero, List.set_cons_succ] at hK ⊢
                    clear hn
                    clear hF hI
                    have t6 : vs 6 = .slice (some ⟨g k, 0, none⟩) m m := hT 6 (by decide)
                    have t7 : vs 7 = .int .i64 ((b' + 1 : Nat) : Int) := hT 7 (by decide)
                    have t8 : vs 8 = .int .i64 (b' : Int) := hT 8 (by decide)
                    have t9 : vs 9 = .pointer (some ⟨g k, b' * 3, none⟩) := hT 9 (by decide)
                    have t10 : vs 10 = .pointer (some ⟨g k, b' * 3 + 2, none⟩) := hT 10 (by decide)
                    have hrk := blk_below hG (H3.out.1.pa.rows k hlt)
                    have d5 : W.cell? ⟨g k, b' * 3 + 2, none⟩ = some (.int .i64 P) := (cell_of_blk hrk (b' * 3 + 2)).trans (List.getElem?_toArray.trans HP3.out)
                    have hgl := lt_of_blk hrk
                    clear hrk
                    simp only [t6, t7, t8, t9, t10] at hK
                    have H := Lib.hid hK
                    clear hK hT
                    go_simp
                    exact H.out _ _ (Below.refl _ _) rfl (fun h => by cases h) trivial
                  refine Rg.cons 12 13 rfl (Rg.plain rfl ?_) ?_
                  · intro vs W n hn hI hG hT hF K hK
                    simp only [Rg.putsD, List.getD_cons_zero, List.getD_cons_succ, Act.put, List.setIfInBounds_toArray, List.set_cons_zero, List.set_cons_succ] at hK ⊢
                    clear hn
                    clear hF hI
                    have t4 : vs 4 = .pointer (some ⟨gp, 0, none⟩) := hT 4 (by decide)
                    have t5 : vs 5 = .int .i64 X := hT 5 (by decide)
                    have t6 : vs 6 = .slice (some ⟨g k, 0, none⟩) m m := hT 6 (by decide)
                    have t7 : vs 7 = .int .i64 ((b' + 1 : Nat) : Int) := hT 7 (by decide)
                    have t8 : vs 8 = .int .i64 (b' : Int) := hT 8 (by decide)
                    have t9 : vs 9 = .pointer (some ⟨g k, b' * 3, none⟩) := hT 9 (by decide)
                    have t10 : vs 10 = .pointer (some ⟨g k, b' * 3 + 2, none⟩) := hT 10 (by decide)
                    have t11 : vs 11 = .int .i64 P := hT 11 (by decide)
                    simp only [t4, t5, t6, t7, t8, t9, t10, t11] at hK
                    have H := Lib.hid hK
                    clear hK hT
                    go_simp
                    exact H.out _ _ (Below.refl _ _) rfl (fun h => by cases h) trivial
                  exact Rg.nil
                · intro vs W hG hI hT hF
                  have t0 : vs 0 = .slice (some ⟨qi, 0, none⟩) cs.length cs.length := hT 0 (by decide)
                  have t1 : vs 1 = .int .i64 k := hT 1 (by decide)
                  have t2 : vs 2 = .pointer (some ⟨qi, k, none⟩) := hT 2 (by decide)
                  have t3 : vs 3 = .int .i64 U := hT 3 (by decide)
                  have t4 : vs 4 = .pointer (some ⟨gp, 0, none⟩) := hT 4 (by decide)
                  have t5 : vs 5 = .int .i64 X := hT 5 (by decide)
                  have t6 : vs 6 = .slice (some ⟨g k, 0, none⟩) m m := hT 6 (by decide)
                  have t7 : vs 7 = .int .i64 ((b' + 1 : Nat) : Int) := hT 7 (by decide)
                  have t8 : vs 8 = .int .i64 (b' : Int) := hT 8 (by decide)
                  have t9 : vs 9 = .pointer (some ⟨g k, b' * 3, none⟩) := hT 9 (by decide)
                  have t10 : vs 10 = .pointer (some ⟨g k, b' * 3 + 2, none⟩) := hT 10 (by decide)
                  have t11 : vs 11 = .int .i64 P := hT 11 (by decide)
                  have t12 : vs 12 = .int .i64 (X - P) := hT 12 (by decide)
                  simp only [List.length_cons, List.length_nil, Nat.reduceAdd, List.range, List.range.loop, List.drop_succ_cons, List.drop_zero, Rg.putsD, List.getD_cons_zero, List.getD_cons_succ, Act.put, List.setIfInBounds_toArray, List.set_cons_zero, List.set_cons_succ, t0, t1, t2, t3, t4, t5, t6, t7, t8, t9, t10, t11, t12]
                  clear hT t0 t1 t2 t3 t4 t5 t6 t7 t8 t9 t10 t11 t12
                  have HG1 : Hid (Below w5.heap.size w5 W) := (Below.refl _ _).drew.then_below hG (Nat.le_refl _)
                  have H4 := Lib.hid (H3.out.1.then_ HG1.out)
                  clear hG hI hF
                  have d1 := cell_of_blk H4.out.ki k
                  rw [sumR_at (idlS cs bs) m (b' + 1) hlt, HVU.out.2] at d1
                  have ld1 := lt_of_blk H4.out.ki
                  have f1 := frozen_of_blk H4.out.ki k
                  have H6 := Lib.hid (H4.out.setI hlt HFR.out.2.1 HFR.out.2.2.2.1 HFR.out.2.2.2.2.2.1 HFR.out.2.2.2.2.2.2 HVI2.out.symm)
                  have hz6 := H6.out.bel.size
                  go_wp2_with fail
                  go_roundw
                  case rel => exact ⟨b' + 1 + 1, by omega, by go_num, hz6, H6⟩
                  case measure => simp [intOf]; omega
          · obtain rfl : b = m := by omega
            have H9 := Lib.hid HS.out.next
            go_wp2_with fail
            go_roundw
            case rel => exact ⟨k + 1, by omega, by go_num, hwz, H9⟩
            case measure => simp [intOf]; omega
      · obtain rfl : k = cs.length := by omega
        go_wp2_with fail
        refine bodyPost_ret (v := .tuple #[.slice (some ⟨qb, 0, none⟩) cs.length cs.length, .slice (some ⟨qi, 0, none⟩) cs.length cs.length, .int .i64 0]) (by unfold results; simp only [Try.results26]; go_simp) rfl ⟨_, _, rfl, ?_, ?_, HS.out.bel⟩
        · rw [HV.out.1]
          have h := HS.out.kb
          rw [sumR_all] at h
          exact reads_ints (allR_len _ _ _).symm h
        · rw [HV.out.2]
          have h := HS.out.ki
          rw [sumR_all] at h
          exact reads_ints (allR_len _ _ _).symm h
end Go.Proofs.Ytiooimfkobjpkaa
