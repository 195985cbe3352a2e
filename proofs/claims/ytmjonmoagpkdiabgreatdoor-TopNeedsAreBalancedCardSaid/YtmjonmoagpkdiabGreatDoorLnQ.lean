/-
  When each board passes each machine: the program's loops.
-/
import Derived.Test.YtmjonmoagpkdiabGreatDoorLnP
namespace Go.Proofs.YtmjonmoagpkdiabGreatDoor
open Go.RowKit
set_option linter.unusedSimpArgs false
set_option linter.unusedVariables false

theorem blk1 {w : World} {g : Nat} {a : Value} {t : TypeId} (h : w.heap[g]? = some (.cells #[a] t (0, 0))) : w.cell? ⟨g, 0, none⟩ = some a ∧ w.frozen? ⟨g, 0, none⟩ = false ∧ g < w.heap.size :=
  ⟨blk_cell0 h, frozen_of_blk h 0, lt_of_blk h⟩
theorem blk3 {w : World} {g : Nat} {a b c : Value} {t : TypeId} (h : w.heap[g]? = some (.cells #[a, b, c] t (0, 0))) : w.cell? ⟨g, 0, none⟩ = some a ∧ w.cell? ⟨g, 1, none⟩ = some b ∧ w.cell? ⟨g, 2, none⟩ = some c :=
  ⟨by rw [cell_of_blk h]; rfl, by rw [cell_of_blk h]; rfl, by rw [cell_of_blk h]; rfl⟩
/-- The rows that passes makes. -/
structure PassAt (cs bs : List Int) (oa : Nat) (g : Nat → Nat) (n m : Nat) (W : World) : Prop where
  ho : W.heap[oa]? = some (.cells (oaR n m n g).toArray 98 (0, 0))
  rows : ∀ j, j < n → W.heap[g j]? = some (.cells (pRow cs bs m m 0 j).toArray 100 (0, 0))
theorem PassAt.below {cs bs : List Int} {oa : Nat} {g : Nat → Nat} {n m : Nat} {W W' : World} (h : PassAt cs bs oa g n m W) (hb : Below W.heap.size W W') : PassAt cs bs oa g n m W' :=
  ⟨blk_below hb h.ho, fun j hj => blk_below hb (h.rows j hj)⟩

theorem lfV_from (cs bs : List Int) (b k : Nat) : lfV cs bs ((k : Int) - 1) b = from_ cs bs b k := by
  unfold lfV from_
  by_cases h : k = 0
  · rw [if_pos (by omega), if_pos h]
  · rw [if_neg (by omega), if_neg h, show ((k : Int) - 1).toNat = k - 1 by omega, show ((b : Int)).toNat = b from rfl]
theorem lfV_bef (cs bs : List Int) (b k : Nat) : lfV cs bs k ((b : Int) - 1) = bef cs bs b k := by
  unfold lfV bef
  by_cases h : b = 0
  · rw [if_pos (by omega), if_pos h]
  · rw [if_neg (by omega), if_neg h, show ((b : Int) - 1).toNat = b - 1 by omega, show ((k : Int)).toNat = k from rfl]
theorem lfV_rm (cs bs : List Int) (b k : Nat) {x : Int} (hk : k + 1 < cs.length) (hx : bs.getD k 0 = x) (h0 : 0 ≤ x) : lfV cs bs ((k : Int) + 1) ((b : Int) - 1 - x) = rm cs bs b k := by
  unfold lfV rm bufN
  rw [hx]
  by_cases h : x.toNat < b
  · rw [if_neg (by omega), if_pos ⟨hk, h⟩, show ((b : Int) - 1 - x).toNat = b - 1 - x.toNat by omega, show ((k : Int) + 1).toNat = k + 1 by omega]
  · rw [if_pos (by omega), if_neg (by omega)]

set_option maxRecDepth 100000 in
set_option maxHeartbeats 8000000 in
theorem passes_any (cs bs : List Int) (m : Nat) (hcs : CsOk cs) (h1 : 1 ≤ cs.length) (h6 : cs.length ≤ 6) (hb : (bs.length : Int) = (cs.length : Int) - 1) (hbs : ∀ x ∈ bs, 0 ≤ x ∧ x ≤ 2000) (hm : m ≤ 2000) {v1 v2 : Value} {w : World} (r1 : Reads encN v1 cs w) (r2 : Reads encN v2 bs w) :
    Calls Tryz.prog 46 #[v1, v2, .int .i64 m] w fun e w' => ∃ (oa : Nat) (g : Nat → Nat), e = .returned (.slice (some ⟨oa, 0, none⟩) cs.length cs.length) ∧ PassAt cs bs oa g cs.length m w' ∧ Below w.heap.size w w' ∧ w.heap.size ≤ oa ∧ (∀ j, j < cs.length → w.heap.size ≤ g j) := by
  have HR := Lib.hid (And.intro r1 r2)
  have HC := Lib.hid (And.intro hcs hbs)
  have hbl1 : bs.length < cs.length := by omega
  have hbl2 : cs.length ≤ bs.length + 1 := by omega
  clear hb
  obtain ⟨A1, c1, rfl, _⟩ := r1
  obtain ⟨A2, c2, rfl, _⟩ := r2
  clear hcs hbs
  have hmk := run_makePasses cs.length (by omega)
  go_enter Tryz.func46, Tryz.ntmps46
  go_upto_region 2 with (fail)
  have H0 : Hid (L1 w (w.heap.size + 1) w.heap.size cs.length m 0 (fun _ => 0) ((w.alloc (.cells (Array.replicate cs.length (.slice none 0 0)) 98)).alloc (.cells #[.slice (some ⟨w.heap.size, 0, none⟩) cs.length cs.length] 96))) := by
    refine ⟨((Below.refl _ _).alloc (Nat.le_refl _) _).alloc (by simp) _, blk_new _ _ (by simp), ?_, fun j hj => by omega, fun j hj => by omega, fun j l hj => by omega⟩
    rw [oaR_zero, List.toArray_replicate]
    exact blk_alloc (blk_new w _ rfl) _
  generalize (w.alloc (.cells (Array.replicate cs.length (.slice none 0 0)) 98)).alloc (.cells #[.slice (some ⟨w.heap.size, 0, none⟩) cs.length cs.length] 96) = w2 at *
  have hz2 := H0.out.bel.size
  clear hmk
  obtain ⟨c0, _, _⟩ := blk1 H0.out.va
  have hl0 := lt_of_blk H0.out.va
  have hmk := run_makePass m (by omega)
  go_wp2_with fail
  clear c0 hl0
  go_loopw [20] (fun kk wr => ∃ (k : Nat) (g : Nat → Nat), k ≤ cs.length ∧ kk = .int .i64 k ∧ w.heap.size ≤ wr.heap.size ∧ Hid (L1 w (w.heap.size + 1) w.heap.size cs.length m k g wr)) (fun kk _ => cs.length - (intOf kk).toNat)
  case atStart => exact ⟨0, _, by omega, rfl, hz2, H0⟩
  case round =>
    obtain ⟨k, g, hk, rfl, hwz, HL⟩ := hrel
    by_cases hlt : k < cs.length
    · obtain ⟨c0, _, _⟩ := blk1 HL.out.va
      have hl0 := lt_of_blk HL.out.va
      have hl1 := lt_of_blk HL.out.ho
      go_upto_region 5 with (fail)
      clear c0 hl0
      refine Rg.rgL (fun a b => Below a.heap.size a b)
        [(fun vs u => vs 0 = .slice (some ⟨w.heap.size, 0, none⟩) cs.length cs.length), (fun vs u => vs 1 = .int .i64 k), (fun vs u => vs 2 = .int .i64 m), (fun vs u => ∃ b : Nat, vs 3 = .slice (some ⟨b, 0, none⟩) m m ∧ u.heap[b]? = some (.cells (List.replicate (m * 3) (Value.int .i64 0)).toArray 100 (0, 0)))]
        [[], [], [], [2]] [some 23, some 24, some 25, some 26, some 27, none] [3] (fun _ _ => True) [[], [], [], [2], [0, 1, 2, 3], [0, 1, 2, 3, 4]]
        (by kernel_rfl) (by decide) (by kernel_rfl) (by kernel_rfl) (by kernel_rfl) (by kernel_rfl) (by kernel_rfl) (fun _ => Below.refl _ _) (fun _ _ _ h k => h.ext k) (fun _ _ h => h.size) ?_ trivial ?_ ?_
      · intro t ht vs w w' h hE
        simp only [List.mem_cons, List.not_mem_nil, or_false] at ht
        rcases ht with rfl | rfl | rfl | rfl
        · exact h
        · exact h
        · exact h
        · obtain ⟨b, e, k⟩ := h
          exact ⟨b, e, blk_below hE k⟩
      ·
        refine Rg.cons 0 1 rfl (Rg.plain rfl ?_) ?_
        · intro vs W n hn hI hG hT hF K hK
          simp only [Rg.putsD, List.getD_cons_zero, List.getD_cons_succ, Act.put, List.setIfInBounds_toArray, List.set_cons_zero, List.set_cons_succ] at hK ⊢
          clear hn
          clear hF hI
          obtain ⟨c0, _, _⟩ := blk1 (blk_below hG HL.out.va)
          have hl0 := lt_of_blk (blk_below hG HL.out.va)
          have H := Lib.hid hK
          clear hK hT
          go_simp
          exact H.out _ _ (Below.refl _ _) rfl (fun h => by cases h) trivial
        refine Rg.cons 1 2 rfl (Rg.plain rfl ?_) ?_
        · intro vs W n hn hI hG hT hF K hK
          simp only [Rg.putsD, List.getD_cons_zero, List.getD_cons_succ, Act.put, List.setIfInBounds_toArray, List.set_cons_zero, List.set_cons_succ] at hK ⊢
          clear hn
          clear hF hI
          have H := Lib.hid hK
          clear hK hT
          go_simp
          exact H.out _ _ (Below.refl _ _) rfl (fun h => by cases h) trivial
        refine Rg.cons 2 3 rfl (Rg.plain rfl ?_) ?_
        · intro vs W n hn hI hG hT hF K hK
          simp only [Rg.putsD, List.getD_cons_zero, List.getD_cons_succ, Act.put, List.setIfInBounds_toArray, List.set_cons_zero, List.set_cons_succ] at hK ⊢
          clear hn
          clear hF hI
          have H := Lib.hid hK
          clear hK hT
          go_simp
          exact H.out _ _ (Below.refl _ _) rfl (fun h => by cases h) trivial
        refine Rg.cons 3 4 rfl (Rg.plain rfl ?_) ?_
        · intro vs W n hn hI hG hT hF K hK
          simp only [Rg.putsD, List.getD_cons_zero, List.getD_cons_succ, Act.put, List.setIfInBounds_toArray, List.set_cons_zero, List.set_cons_succ] at hK ⊢
          clear hn
          clear hF hI
          have t2 : vs 2 = .int .i64 m := hT 2 (by decide)
          simp only [t2] at hK
          have H := Lib.hid hK
          clear hK hT
          go_simp
          exact H.out _ _ ((Below.refl _ _).alloc (Nat.le_refl _) _) (show ∃ b : Nat, _ = _ ∧ _ = _ from ⟨_, rfl, by simpa using blk_new W (.cells (List.replicate (m * 3) (Value.int .i64 0)).toArray 100) rfl⟩) (fun _ => ⟨W.heap.size, rfl, Nat.le_refl _, by simp⟩) trivial
        exact Rg.nil
      · intro vs W hG hI hT hF
        have t0 : vs 0 = .slice (some ⟨w.heap.size, 0, none⟩) cs.length cs.length := hT 0 (by decide)
        have t1 : vs 1 = .int .i64 k := hT 1 (by decide)
        have t2 : vs 2 = .int .i64 m := hT 2 (by decide)
        have t3 : ∃ b : Nat, vs 3 = .slice (some ⟨b, 0, none⟩) m m ∧ W.heap[b]? = some (.cells (List.replicate (m * 3) (Value.int .i64 0)).toArray 100 (0, 0)) := hT 3 (by decide)
        simp only [List.length_cons, List.length_nil, Nat.reduceAdd, List.range, List.range.loop, List.drop_succ_cons, List.drop_zero, Rg.putsD, List.getD_cons_zero, List.getD_cons_succ, Act.put, List.setIfInBounds_toArray, List.set_cons_zero, List.set_cons_succ, t0, t1, t2]
        clear hT t0 t1 t2
        obtain ⟨b, e3, k3⟩ := t3
        obtain ⟨_, q1, l1, _⟩ := hF.1 3 (by decide) (by decide)
        simp only [e3, Rg.blockOf, Option.some.injEq] at q1
        subst q1
        simp only [e3]
        have hGW : Below wr.heap.size wr W := (Below.refl _ _).drew.then_below hG (Nat.le_refl _)
        have H3 := Lib.hid (HL.out.step hlt (Nat.le_refl _) (by omega) hGW l1 k3)
        have hz3 := H3.out.bel.size
        have hl3 := lt_of_blk (blk_below hGW HL.out.ho)
        have f3 := frozen_of_blk (blk_below hGW HL.out.ho) k
        have q5 := cell_of_blk (blk_below hGW HL.out.ho) k
        rw [oaR_at m k g hlt, if_neg (by omega)] at q5
        have i1 : (0 : Int) ≤ (k : Int) := by omega
        have i2 : (k : Int) < (cs.length : Int) := by omega
        clear e3 k3 hF hG hI l1 hGW HL
        go_wp2_with fail
        go_roundw
        case rel => exact ⟨k + 1, _, by omega, by go_num, hz3, H3⟩
        case measure => simp [intOf]; omega
    · obtain rfl : k = cs.length := by omega
      have HFI := Lib.hid (And.intro HL.out.far HL.out.inj)
      have HP := Lib.hid (HL.out.start cs bs)
      clear HL hlt hk hmk H0 hz2
      obtain ⟨c0, _, _⟩ := blk1 HP.out.va
      have hl0 := lt_of_blk HP.out.va
      go_wp2_with fail
      clear c0 hl0
      go_loopw [31] (fun kk wr => ∃ (b : Nat), b ≤ m ∧ kk = .int .i64 b ∧ w.heap.size ≤ wr.heap.size ∧ Hid (Pz w cs bs (w.heap.size + 1) w.heap.size g cs.length m b 0 wr)) (fun kk _ => m - (intOf kk).toNat)
      case atStart => exact ⟨0, by omega, rfl, hwz, HP⟩
      case round =>
        clear HP hwz
        obtain ⟨b, hb, rfl, hwz, HP⟩ := hrel
        by_cases hbm : b < m
        · go_wp2_with fail
          obtain ⟨wo, hwo⟩ : ∃ wo : World, wo = wr := ⟨_, rfl⟩
          rw [← hwo]
          rw [← hwo] at HP hwz
          clear hwo
          go_loopw [36] (fun kk wr => ∃ (k : Nat), k ≤ cs.length ∧ kk = .int .i64 k ∧ w.heap.size ≤ wr.heap.size ∧ Hid (Pz w cs bs (w.heap.size + 1) w.heap.size g cs.length m b k wr)) (fun kk _ => cs.length - (intOf kk).toNat)
          case atStart => exact ⟨0, by omega, rfl, hwz, HP⟩
          case round =>
            clear HP hwz
            obtain ⟨k, hk, rfl, hwz, HP⟩ := hrel
            by_cases hlt : k < cs.length
            · have hck := cs_at HC.out.1 k
              obtain ⟨c, hc⟩ : ∃ c, cs.getD k 0 = c := ⟨_, rfl⟩
              rw [hc] at hck
              obtain ⟨A', c', e, hr⟩ := HR.out.1.below HP.out.bel
              cases e
              rcases hr with rfl | ⟨gc, rfl, hrow⟩
              · simp at hlt
              have q0 := row_n hrow hlt
              rw [show cs[k] = c by rw [← hc, List.getD_eq_getElem?_getD, List.getElem?_eq_getElem hlt]; rfl] at q0
              have hgc := hrow.1
              have HCK := Lib.hid hc
              have i1 : (0 : Int) ≤ (k : Int) := by omega
              have i2 : (k : Int) < (cs.length : Int) := by omega
              clear hrow hc
              have bF := from_bd bs HC.out.1 b k
              have bB := bef_bd bs HC.out.1 b k
              have bR := rm_bd bs HC.out.1 b k
              have EF := Lib.hid (lfV_from cs bs b k)
              have EB := Lib.hid (lfV_bef cs bs b k)
              have HV : Hid (cm cs bs b k = max (from_ cs bs b k) (bef cs bs b k) ∧ dn cs bs b k = cm cs bs b k + c ∧ lv cs bs b k = max (dn cs bs b k) (rm cs bs b k)) := ⟨rfl, by rw [← HCK.out]; rfl, lv_eq _ _ _ _⟩
              have HRM := Lib.hid (fun x h1 h2 h3 => @lfV_rm cs bs b k x h1 h2 h3)
              have HPL := Lib.hid (fun h => @lv_plain cs bs HC.out.1 b k h)
              generalize hF : from_ cs bs b k = F at *
              generalize hB : bef cs bs b k = B at *
              generalize hM : rm cs bs b k = M at *
              clear hF hB hM
              go_wp2_with fail
              refine (left_any HP.out h6 hm ((k : Int) - 1) b (by intros; omega)).mono ?_
              rintro e wa ⟨rfl, rfl⟩
              rw [EF.out]
              go_wp2_with fail
              refine (left_any HP.out h6 hm k ((b : Int) - 1) (by intros; omega)).mono ?_
              rintro e wb ⟨rfl, rfl⟩
              rw [EB.out]
              obtain ⟨X, hX⟩ : ∃ X, max F B = X := ⟨_, rfl⟩
              have bX : 0 ≤ X ∧ X ≤ ((b : Int) + k) * 10000000 := by omega
              rw [hX] at HV
              have q4 := pRow_at cs bs (m := m) b k k hbm (i := 0) (by omega)
              have q5 := pRow_at cs bs (m := m) b k k hbm (i := 1) (by omega)
              have q6 := pRow_at cs bs (m := m) b k k hbm (i := 2) (by omega)
              rw [show pC cs bs b k k b = [.int .i64 0, .int .i64 0, .int .i64 0] from if_neg (by omega)] at q4 q5 q6
              have HQ : Hid ((pRow cs bs m b k k)[b * 3]? = some (.int .i64 0) ∧ (pRow cs bs m b k k)[b * 3 + 1]? = some (.int .i64 0) ∧ (pRow cs bs m b k k)[b * 3 + 2]? = some (.int .i64 0)) := ⟨q4, q5, q6⟩
              clear q4 q5 q6
              have HX := Lib.hid hX
              go_upto_if 63 with (fail)
              have H5 : Hid (Pz w cs bs (w.heap.size + 1) w.heap.size g cs.length m b k (wb.alloc (.cells #[.int .i64 X, .int .i64 (X + c), .int .i64 (X + c)] 100)) ∧ (wb.alloc (.cells #[.int .i64 X, .int .i64 (X + c), .int .i64 (X + c)] 100)).heap[wb.heap.size]? = some (.cells #[.int .i64 X, .int .i64 (X + c), .int .i64 (X + c)] 100 (0, 0)) ∧ wb.heap.size ≠ w.heap.size + 1 ∧ wb.heap.size ≠ w.heap.size ∧ (∀ j, j < cs.length → g j ≠ wb.heap.size) ∧ w.heap.size ≤ wb.heap.size) :=
                ⟨HP.out.then_ ((Below.refl _ _).alloc (Nat.le_refl _) _), blk_new wb _ rfl, fun h => by have := lt_of_blk HP.out.va; omega, fun h => by have := lt_of_blk HP.out.ho; omega, fun j hj h => by have := lt_of_blk (HP.out.rows j hj); omega, hwz⟩
              generalize wb.alloc (.cells #[.int .i64 X, .int .i64 (X + c), .int .i64 (X + c)] 100) = wx at *
              generalize wb.heap.size = gp at *
              clear HP q0 hgc hwz hX EF EB bF bB
              go_cut [] (fun wc => ∃ Z : Int, Z = lv cs bs b k ∧ Hid (Pz w cs bs (w.heap.size + 1) w.heap.size g cs.length m b k wc ∧ wc.heap[gp]? = some (.cells #[.int .i64 X, .int .i64 (X + c), .int .i64 Z] 100 (0, 0))))
              case first => as_aux_lemma =>
                by_cases hkb : k < bs.length
                · have hx0 := HC.out.2 bs[k] (List.getElem_mem hkb)
                  have hr2 := HR.out.2.below H5.out.1.bel
                  obtain ⟨x, hx⟩ : ∃ x, bs[k] = x := ⟨_, rfl⟩
                  rw [hx] at hx0
                  obtain ⟨A', c', e, hr⟩ := hr2
                  cases e
                  rcases hr with rfl | ⟨gb, rfl, hrow⟩
                  · simp at hkb
                  have q0 := row_n hrow hkb
                  rw [hx] at q0
                  have HXB : Hid (bs.getD k 0 = x) := by
                    show _ = _
                    rw [List.getD_eq_getElem?_getD, List.getElem?_eq_getElem hkb]
                    exact hx
                  have HG0 : Hid (wx.cell? ⟨gb, k, none⟩ = some (.int .i64 x) ∧ gb < wx.heap.size) := ⟨q0, hrow.1⟩
                  have EM := Lib.hid (HRM.out x (by omega) HXB.out hx0.1)
                  clear q0 hrow hx
                  go_upto_region 17 with (fail)
                  have wk1 : IntKind.i64.wrap ((k : Int) + 1) = (k : Int) + 1 := by rw [IntKind.wrap_i64]; omega
                  have wk2 : IntKind.i64.wrap ((b : Int) - 1) = (b : Int) - 1 := by rw [IntKind.wrap_i64]; omega
                  have wk3 : IntKind.i64.wrap ((b : Int) - 1 - x) = (b : Int) - 1 - x := by rw [IntKind.wrap_i64]; omega
                  try simp only [Int.ofNat_lt, hkb, decide_true]
                  have i5 : (k : Int) < (bs.length : Int) := by omega
                  refine Rg.rgL (fun a b => Below a.heap.size a b)
                    [(fun vs u => vs 0 = .pointer (some ⟨gp, 2, none⟩)), (fun vs u => vs 1 = .int .i64 (X + c)), (fun vs u => vs 2 = .func (.func 76) #[] #[.pointer (some ⟨w.heap.size + 1, 0, none⟩)]), (fun vs u => vs 3 = .int .i64 k), (fun vs u => vs 4 = .int .i64 ((k : Int) + 1)), (fun vs u => vs 5 = .int .i64 b), (fun vs u => vs 6 = .int .i64 ((b : Int) - 1)), (fun vs u => vs 7 = .slice (some ⟨gb, 0, none⟩) bs.length c2), (fun vs u => vs 8 = .int .i64 k), (fun vs u => vs 9 = .pointer (some ⟨gb, k, none⟩)), (fun vs u => vs 10 = .int .i64 x), (fun vs u => vs 11 = .int .i64 ((b : Int) - 1 - x)), (fun vs u => vs 12 = .int .i64 M)]
                    [[], [0], [], [], [3], [], [5], [], [], [7, 8], [7, 8, 9], [5, 6, 7, 8, 9, 10], [2, 3, 4, 5, 6, 7, 8, 9, 10, 11]] [some 64, some 65, some 66, some 67, some 68, some 69, some 70, some 71, some 72, some 73, some 74, some 75, some 76, some 77, some 78, none] [] (fun _ _ => True) [[], [0], [], [], [3], [], [5], [], [], [7, 8], [7, 8, 9], [5, 6, 7, 8, 9, 10], [2, 3, 4, 5, 6, 7, 8, 9, 10, 11], [0, 1, 2, 3, 4, 5, 6, 7, 8, 9, 10, 11, 12], [0, 1, 2, 3, 4, 5, 6, 7, 8, 9, 10, 11, 12, 13], [0, 1, 2, 3, 4, 5, 6, 7, 8, 9, 10, 11, 12, 13, 14]]
                    (by kernel_rfl) (by decide) (by kernel_rfl) (by kernel_rfl) (by kernel_rfl) (by kernel_rfl) (by kernel_rfl) (fun _ => Below.refl _ _) (fun _ _ _ h k => h.ext k) (fun _ _ h => h.size) ?_ trivial ?_ ?_
                  · intro t ht vs w w' h hE
                    simp only [List.mem_cons, List.not_mem_nil, or_false] at ht
                    rcases ht with rfl | rfl | rfl | rfl | rfl | rfl | rfl | rfl | rfl | rfl | rfl | rfl | rfl
                    · exact h
                    · exact h
                    · exact h
                    · exact h
                    · exact h
                    · exact h
                    · exact h
                    · exact h
                    · exact h
                    · exact h
                    · exact h
                    · exact h
                    · exact h
                  ·
                    refine Rg.cons 0 1 rfl (Rg.plain rfl ?_) ?_
                    · intro vs W n hn hI hG hT hF K hK
                      simp only [Rg.putsD, List.getD_cons_zero, List.getD_cons_succ, Act.put, List.setIfInBounds_toArray, List.set_cons_zero, List.set_cons_succ] at hK ⊢
                      clear hn
                      clear hF hI
                      have H := Lib.hid hK
                      clear hK hT
                      go_simp
                      exact H.out _ _ (Below.refl _ _) rfl (fun h => by cases h) trivial
                    refine Rg.cons 1 2 rfl (Rg.plain rfl ?_) ?_
                    · intro vs W n hn hI hG hT hF K hK
                      simp only [Rg.putsD, List.getD_cons_zero, List.getD_cons_succ, Act.put, List.setIfInBounds_toArray, List.set_cons_zero, List.set_cons_succ] at hK ⊢
                      clear hn
                      clear hF hI
                      have t0 : vs 0 = .pointer (some ⟨gp, 2, none⟩) := hT 0 (by decide)
                      obtain ⟨d2, d3, d4⟩ := blk3 (blk_below hG H5.out.2.1)
                      have ld2 := lt_of_blk (blk_below hG H5.out.2.1)
                      simp only [t0] at hK
                      have H := Lib.hid hK
                      clear hK hT
                      go_simp
                      exact H.out _ _ (Below.refl _ _) rfl (fun h => by cases h) trivial
                    refine Rg.cons 2 3 rfl (Rg.plain rfl ?_) ?_
                    · intro vs W n hn hI hG hT hF K hK
                      simp only [Rg.putsD, List.getD_cons_zero, List.getD_cons_succ, Act.put, List.setIfInBounds_toArray, List.set_cons_zero, List.set_cons_succ] at hK ⊢
                      clear hn
                      clear hF hI
                      have H := Lib.hid hK
                      clear hK hT
                      go_simp
                      exact H.out _ _ (Below.refl _ _) rfl (fun h => by cases h) trivial
                    refine Rg.cons 3 4 rfl (Rg.plain rfl ?_) ?_
                    · intro vs W n hn hI hG hT hF K hK
                      simp only [Rg.putsD, List.getD_cons_zero, List.getD_cons_succ, Act.put, List.setIfInBounds_toArray, List.set_cons_zero, List.set_cons_succ] at hK ⊢
                      clear hn
                      clear hF hI
                      have H := Lib.hid hK
                      clear hK hT
                      go_simp
                      exact H.out _ _ (Below.refl _ _) rfl (fun h => by cases h) trivial
                    refine Rg.cons 4 5 rfl (Rg.plain rfl ?_) ?_
                    · intro vs W n hn hI hG hT hF K hK
                      simp only [Rg.putsD, List.getD_cons_zero, List.getD_cons_succ, Act.put, List.setIfInBounds_toArray, List.set_cons_zero, List.set_cons_succ] at hK ⊢
                      clear hn
                      clear hF hI
                      have t3 : vs 3 = .int .i64 k := hT 3 (by decide)
                      simp only [t3] at hK
                      have H := Lib.hid hK
                      clear hK hT
                      go_simp
                      exact H.out _ _ (Below.refl _ _) rfl (fun h => by cases h) trivial
                    refine Rg.cons 5 6 rfl (Rg.plain rfl ?_) ?_
                    · intro vs W n hn hI hG hT hF K hK
                      simp only [Rg.putsD, List.getD_cons_zero, List.getD_cons_succ, Act.put, List.setIfInBounds_toArray, List.set_cons_zero, List.set_cons_succ] at hK ⊢
                      clear hn
                      clear hF hI
                      have H := Lib.hid hK
                      clear hK hT
                      go_simp
                      exact H.out _ _ (Below.refl _ _) rfl (fun h => by cases h) trivial
                    refine Rg.cons 6 7 rfl (Rg.plain rfl ?_) ?_
                    · intro vs W n hn hI hG hT hF K hK
                      simp only [Rg.putsD, List.getD_cons_zero, List.getD_cons_succ, Act.put, List.setIfInBounds_toArray, List.set_cons_zero, List.set_cons_succ] at hK ⊢
                      clear hn
                      clear hF hI
                      have t5 : vs 5 = .int .i64 b := hT 5 (by decide)
                      simp only [t5] at hK
                      have H := Lib.hid hK
                      clear hK hT
                      go_simp
                      exact H.out _ _ (Below.refl _ _) rfl (fun h => by cases h) trivial
                    refine Rg.cons 7 8 rfl (Rg.plain rfl ?_) ?_
                    · intro vs W n hn hI hG hT hF K hK
                      simp only [Rg.putsD, List.getD_cons_zero, List.getD_cons_succ, Act.put, List.setIfInBounds_toArray, List.set_cons_zero, List.set_cons_succ] at hK ⊢
                      clear hn
                      clear hF hI
                      have H := Lib.hid hK
                      clear hK hT
                      go_simp
                      exact H.out _ _ (Below.refl _ _) rfl (fun h => by cases h) trivial
                    refine Rg.cons 8 9 rfl (Rg.plain rfl ?_) ?_
                    · intro vs W n hn hI hG hT hF K hK
                      simp only [Rg.putsD, List.getD_cons_zero, List.getD_cons_succ, Act.put, List.setIfInBounds_toArray, List.set_cons_zero, List.set_cons_succ] at hK ⊢
                      clear hn
                      clear hF hI
                      have H := Lib.hid hK
                      clear hK hT
                      go_simp
                      exact H.out _ _ (Below.refl _ _) rfl (fun h => by cases h) trivial
                    refine Rg.cons 9 10 rfl (Rg.plain rfl ?_) ?_
                    · intro vs W n hn hI hG hT hF K hK
                      simp only [Rg.putsD, List.getD_cons_zero, List.getD_cons_succ, Act.put, List.setIfInBounds_toArray, List.set_cons_zero, List.set_cons_succ] at hK ⊢
                      clear hn
                      clear hF hI
                      have t7 : vs 7 = .slice (some ⟨gb, 0, none⟩) bs.length c2 := hT 7 (by decide)
                      have t8 : vs 8 = .int .i64 k := hT 8 (by decide)
                      simp only [t7, t8] at hK
                      have H := Lib.hid hK
                      clear hK hT
                      go_simp
                      exact H.out _ _ (Below.refl _ _) rfl (fun h => by cases h) trivial
                    refine Rg.cons 10 11 rfl (Rg.plain rfl ?_) ?_
                    · intro vs W n hn hI hG hT hF K hK
                      simp only [Rg.putsD, List.getD_cons_zero, List.getD_cons_succ, Act.put, List.setIfInBounds_toArray, List.set_cons_zero, List.set_cons_succ] at hK ⊢
                      clear hn
                      clear hF hI
                      have t7 : vs 7 = .slice (some ⟨gb, 0, none⟩) bs.length c2 := hT 7 (by decide)
                      have t8 : vs 8 = .int .i64 k := hT 8 (by decide)
                      have t9 : vs 9 = .pointer (some ⟨gb, k, none⟩) := hT 9 (by decide)
                      have d5 : W.cell? ⟨gb, k, none⟩ = some (.int .i64 x) := (hG.cell HG0.out.2).trans HG0.out.1
                      have ld5 : gb < W.heap.size := Nat.lt_of_lt_of_le HG0.out.2 hG.size
                      simp only [t7, t8, t9] at hK
                      have H := Lib.hid hK
                      clear hK hT
                      go_simp
                      exact H.out _ _ (Below.refl _ _) rfl (fun h => by cases h) trivial
                    refine Rg.cons 11 12 rfl (Rg.plain rfl ?_) ?_
                    · intro vs W n hn hI hG hT hF K hK
                      simp only [Rg.putsD, List.getD_cons_zero, List.getD_cons_succ, Act.put, List.setIfInBounds_toArray, List.set_cons_zero, List.set_cons_succ] at hK ⊢
                      clear hn
                      clear hF hI
                      have t5 : vs 5 = .int .i64 b := hT 5 (by decide)
                      have t6 : vs 6 = .int .i64 ((b : Int) - 1) := hT 6 (by decide)
                      have t7 : vs 7 = .slice (some ⟨gb, 0, none⟩) bs.length c2 := hT 7 (by decide)
                      have t8 : vs 8 = .int .i64 k := hT 8 (by decide)
                      have t9 : vs 9 = .pointer (some ⟨gb, k, none⟩) := hT 9 (by decide)
                      have t10 : vs 10 = .int .i64 x := hT 10 (by decide)
                      simp only [t5, t6, t7, t8, t9, t10] at hK
                      have H := Lib.hid hK
                      clear hK hT
                      go_simp
                      exact H.out _ _ (Below.refl _ _) rfl (fun h => by cases h) trivial
                    refine Rg.cons 12 13 rfl (Rg.plain rfl ?_) ?_
                    · intro vs W n hn hI hG hT hF K hK
                      simp only [Rg.putsD, List.getD_cons_zero, List.getD_cons_succ, Act.put, List.setIfInBounds_toArray, List.set_cons_zero, List.set_cons_succ] at hK ⊢
                      clear hn
                      clear hF hI
                      have t2 : vs 2 = .func (.func 76) #[] #[.pointer (some ⟨w.heap.size + 1, 0, none⟩)] := hT 2 (by decide)
                      have t3 : vs 3 = .int .i64 k := hT 3 (by decide)
                      have t4 : vs 4 = .int .i64 ((k : Int) + 1) := hT 4 (by decide)
                      have t5 : vs 5 = .int .i64 b := hT 5 (by decide)
                      have t6 : vs 6 = .int .i64 ((b : Int) - 1) := hT 6 (by decide)
                      have t7 : vs 7 = .slice (some ⟨gb, 0, none⟩) bs.length c2 := hT 7 (by decide)
                      have t8 : vs 8 = .int .i64 k := hT 8 (by decide)
                      have t9 : vs 9 = .pointer (some ⟨gb, k, none⟩) := hT 9 (by decide)
                      have t10 : vs 10 = .int .i64 x := hT 10 (by decide)
                      have t11 : vs 11 = .int .i64 ((b : Int) - 1 - x) := hT 11 (by decide)
                      have HPW := Lib.hid (H5.out.1.then_ ((Below.refl _ _).drew.then_below hG (Nat.le_refl _)))
                      simp only [t2, t3, t4, t5, t6, t7, t8, t9, t10, t11] at hK
                      have H := Lib.hid hK
                      clear hK hT
                      go_simp
                      refine (left_any HPW.out h6 hm ((k : Int) + 1) ((b : Int) - 1 - x) (by intros; omega)).mono ?_
                      rintro e wa ⟨rfl, rfl⟩
                      rw [EM.out]
                      exact H.out _ _ (Below.refl _ _) rfl (fun h => by cases h) trivial
                    exact Rg.nil
                  · intro vs W hG hI hT hF
                    have t0 : vs 0 = .pointer (some ⟨gp, 2, none⟩) := hT 0 (by decide)
                    have t1 : vs 1 = .int .i64 (X + c) := hT 1 (by decide)
                    have t2 : vs 2 = .func (.func 76) #[] #[.pointer (some ⟨w.heap.size + 1, 0, none⟩)] := hT 2 (by decide)
                    have t3 : vs 3 = .int .i64 k := hT 3 (by decide)
                    have t4 : vs 4 = .int .i64 ((k : Int) + 1) := hT 4 (by decide)
                    have t5 : vs 5 = .int .i64 b := hT 5 (by decide)
                    have t6 : vs 6 = .int .i64 ((b : Int) - 1) := hT 6 (by decide)
                    have t7 : vs 7 = .slice (some ⟨gb, 0, none⟩) bs.length c2 := hT 7 (by decide)
                    have t8 : vs 8 = .int .i64 k := hT 8 (by decide)
                    have t9 : vs 9 = .pointer (some ⟨gb, k, none⟩) := hT 9 (by decide)
                    have t10 : vs 10 = .int .i64 x := hT 10 (by decide)
                    have t11 : vs 11 = .int .i64 ((b : Int) - 1 - x) := hT 11 (by decide)
                    have t12 : vs 12 = .int .i64 M := hT 12 (by decide)
                    simp only [List.length_cons, List.length_nil, Nat.reduceAdd, List.range, List.range.loop, List.drop_succ_cons, List.drop_zero, Rg.putsD, List.getD_cons_zero, List.getD_cons_succ, Act.put, List.setIfInBounds_toArray, List.set_cons_zero, List.set_cons_succ, t0, t1, t2, t3, t4, t5, t6, t7, t8, t9, t10, t11, t12]
                    clear hT t0 t1 t2 t3 t4 t5 t6 t7 t8 t9 t10 t11 t12
                    have HG1 : Hid (Below w.heap.size w W ∧ Below wx.heap.size wx W) := ⟨H5.out.1.bel.then_below ((Below.refl _ _).drew.then_below hG (Nat.le_refl _)) H5.out.1.bel.size, (Below.refl _ _).drew.then_below hG (Nat.le_refl _)⟩
                    have H6 : Hid (Pz w cs bs (w.heap.size + 1) w.heap.size g cs.length m b k W ∧ W.heap[gp]? = some (.cells #[.int .i64 X, .int .i64 (X + c), .int .i64 (X + c)] 100 (0, 0))) := ⟨H5.out.1.then_ HG1.out.2, blk_below HG1.out.2 H5.out.2.1⟩
                    obtain ⟨d2, d3, d4⟩ := blk3 H6.out.2
                    have ld2 := lt_of_blk H6.out.2
                    have f2 := frozen_of_blk H6.out.2 2
                    clear hG hI hF wk1 wk2 wk3
                    go_wp2_with fail
                    go_meet
                    refine ⟨max (X + c) M, ?_, ?_, ?_⟩
                    · have h2 := HV.out
                      omega
                    · exact ⟨H6.out.1.bel.setCell (by show _ ≤ gp; exact H5.out.2.2.2.2.2) _, blk_far H6.out.1.va H5.out.2.2.1.symm _, blk_far H6.out.1.ho H5.out.2.2.2.1.symm _, fun j hj => blk_far (H6.out.1.rows j hj) (H5.out.2.2.2.2.1 j hj) _⟩
                    · exact blk_set H6.out.2 _
                · have HZ : lv cs bs b k = X + c := by
                    have h1 := HPL.out (by omega)
                    have h2 := HV.out
                    omega
                  go_wp2_with fail
                  go_meet
                  exact ⟨X + c, HZ.symm, H5.out.1, H5.out.2.1⟩
              case rest => as_aux_lemma =>
                obtain ⟨Z, hZ, H7⟩ := hcut
                have HZ := Lib.hid hZ
                clear hZ H5
                go_upto_region 18 with (fail)
                refine Rg.rgL (fun a b => Below a.heap.size a b)
                  [(fun vs u => vs 0 = .slice (some ⟨w.heap.size, 0, none⟩) cs.length cs.length), (fun vs u => vs 1 = .int .i64 k), (fun vs u => vs 2 = .pointer (some ⟨w.heap.size, k, none⟩)), (fun vs u => vs 3 = .slice (some ⟨g k, 0, none⟩) m m), (fun vs u => vs 4 = .int .i64 b), (fun vs u => vs 5 = .agg #[.int .i64 X, .int .i64 (X + c), .int .i64 Z])]
                  [[], [], [0, 1], [0, 1, 2], [], []] [some 79, some 80, some 81, some 82, some 83, some 84, some 85, none] [] (fun _ _ => True) [[], [], [0, 1], [0, 1, 2], [], [], [0, 1, 2, 3, 4, 5], [0, 1, 2, 3, 4, 5, 6]]
                  (by kernel_rfl) (by decide) (by kernel_rfl) (by kernel_rfl) (by kernel_rfl) (by kernel_rfl) (by kernel_rfl) (fun _ => Below.refl _ _) (fun _ _ _ h k => h.ext k) (fun _ _ h => h.size) ?_ trivial ?_ ?_
                · intro t ht vs w w' h hE
                  simp only [List.mem_cons, List.not_mem_nil, or_false] at ht
                  rcases ht with rfl | rfl | rfl | rfl | rfl | rfl
                  · exact h
                  · exact h
                  · exact h
                  · exact h
                  · exact h
                  · exact h
                ·
                  refine Rg.cons 0 1 rfl (Rg.plain rfl ?_) ?_
                  · intro vs W n hn hI hG hT hF K hK
                    simp only [Rg.putsD, List.getD_cons_zero, List.getD_cons_succ, Act.put, List.setIfInBounds_toArray, List.set_cons_zero, List.set_cons_succ] at hK ⊢
                    clear hn
                    clear hF hI
                    obtain ⟨d0, _, ld0⟩ := blk1 (blk_below hG H7.out.1.va)
                    have H := Lib.hid hK
                    clear hK hT
                    go_simp
                    exact H.out _ _ (Below.refl _ _) rfl (fun h => by cases h) trivial
                  refine Rg.cons 1 2 rfl (Rg.plain rfl ?_) ?_
                  · intro vs W n hn hI hG hT hF K hK
                    simp only [Rg.putsD, List.getD_cons_zero, List.getD_cons_succ, Act.put, List.setIfInBounds_toArray, List.set_cons_zero, List.set_cons_succ] at hK ⊢
                    clear hn
                    clear hF hI
                    have H := Lib.hid hK
                    clear hK hT
                    go_simp
                    exact H.out _ _ (Below.refl _ _) rfl (fun h => by cases h) trivial
                  refine Rg.cons 2 3 rfl (Rg.plain rfl ?_) ?_
                  · intro vs W n hn hI hG hT hF K hK
                    simp only [Rg.putsD, List.getD_cons_zero, List.getD_cons_succ, Act.put, List.setIfInBounds_toArray, List.set_cons_zero, List.set_cons_succ] at hK ⊢
                    clear hn
                    clear hF hI
                    have t0 : vs 0 = .slice (some ⟨w.heap.size, 0, none⟩) cs.length cs.length := hT 0 (by decide)
                    have t1 : vs 1 = .int .i64 k := hT 1 (by decide)
                    simp only [t0, t1] at hK
                    have H := Lib.hid hK
                    clear hK hT
                    go_simp
                    exact H.out _ _ (Below.refl _ _) rfl (fun h => by cases h) trivial
                  refine Rg.cons 3 4 rfl (Rg.plain rfl ?_) ?_
                  · intro vs W n hn hI hG hT hF K hK
                    simp only [Rg.putsD, List.getD_cons_zero, List.getD_cons_succ, Act.put, List.setIfInBounds_toArray, List.set_cons_zero, List.set_cons_succ] at hK ⊢
                    clear hn
                    clear hF hI
                    have t0 : vs 0 = .slice (some ⟨w.heap.size, 0, none⟩) cs.length cs.length := hT 0 (by decide)
                    have t1 : vs 1 = .int .i64 k := hT 1 (by decide)
                    have t2 : vs 2 = .pointer (some ⟨w.heap.size, k, none⟩) := hT 2 (by decide)
                    have d1 := cell_of_blk (blk_below hG H7.out.1.ho) k
                    rw [oaR_at m cs.length g hlt, if_pos hlt] at d1
                    have ld1 := lt_of_blk (blk_below hG H7.out.1.ho)
                    simp only [t0, t1, t2] at hK
                    have H := Lib.hid hK
                    clear hK hT
                    go_simp
                    exact H.out _ _ (Below.refl _ _) rfl (fun h => by cases h) trivial
                  refine Rg.cons 4 5 rfl (Rg.plain rfl ?_) ?_
                  · intro vs W n hn hI hG hT hF K hK
                    simp only [Rg.putsD, List.getD_cons_zero, List.getD_cons_succ, Act.put, List.setIfInBounds_toArray, List.set_cons_zero, List.set_cons_succ] at hK ⊢
                    clear hn
                    clear hF hI
                    have H := Lib.hid hK
                    clear hK hT
                    go_simp
                    exact H.out _ _ (Below.refl _ _) rfl (fun h => by cases h) trivial
                  refine Rg.cons 5 6 rfl (Rg.plain rfl ?_) ?_
                  · intro vs W n hn hI hG hT hF K hK
                    simp only [Rg.putsD, List.getD_cons_zero, List.getD_cons_succ, Act.put, List.setIfInBounds_toArray, List.set_cons_zero, List.set_cons_succ] at hK ⊢
                    clear hn
                    clear hF hI
                    obtain ⟨d2, d3, d4⟩ := blk3 (blk_below hG H7.out.2)
                    have ld2 := lt_of_blk (blk_below hG H7.out.2)
                    have H := Lib.hid hK
                    clear hK hT
                    go_simp
                    exact H.out _ _ (Below.refl _ _) rfl (fun h => by cases h) trivial
                  exact Rg.nil
                · intro vs W hG hI hT hF
                  have t0 : vs 0 = .slice (some ⟨w.heap.size, 0, none⟩) cs.length cs.length := hT 0 (by decide)
                  have t1 : vs 1 = .int .i64 k := hT 1 (by decide)
                  have t2 : vs 2 = .pointer (some ⟨w.heap.size, k, none⟩) := hT 2 (by decide)
                  have t3 : vs 3 = .slice (some ⟨g k, 0, none⟩) m m := hT 3 (by decide)
                  have t4 : vs 4 = .int .i64 b := hT 4 (by decide)
                  have t5 : vs 5 = .agg #[.int .i64 X, .int .i64 (X + c), .int .i64 Z] := hT 5 (by decide)
                  simp only [List.length_cons, List.length_nil, Nat.reduceAdd, List.range, List.range.loop, List.drop_succ_cons, List.drop_zero, Rg.putsD, List.getD_cons_zero, List.getD_cons_succ, Act.put, List.setIfInBounds_toArray, List.set_cons_zero, List.set_cons_succ, t0, t1, t2, t3, t4, t5]
                  clear hT t0 t1 t2 t3 t4 t5
                  have HG1 : Hid (Below wc.heap.size wc W) := (Below.refl _ _).drew.then_below hG (Nat.le_refl _)
                  have H8 := Lib.hid (H7.out.1.then_ HG1.out)
                  clear hG hI hF
                  have hrk := H8.out.rows k hlt
                  have ld3 := lt_of_blk hrk
                  have d5 : W.cell? ⟨g k, b * 3, none⟩ = some (.int .i64 0) := (cell_of_blk hrk (b * 3)).trans (List.getElem?_toArray.trans HQ.out.1)
                  have d6 : (W.setCell ⟨g k, b * 3, none⟩ (.int .i64 X)).cell? ⟨g k, b * 3 + 1, none⟩ = some (.int .i64 0) := (World.cell?_setCell_other _ _ _ _ (by simp)).trans ((cell_of_blk hrk (b * 3 + 1)).trans (List.getElem?_toArray.trans HQ.out.2.1))
                  have d7 : ((W.setCell ⟨g k, b * 3, none⟩ (.int .i64 X)).setCell ⟨g k, b * 3 + 1, none⟩ (.int .i64 (X + c))).cell? ⟨g k, b * 3 + 2, none⟩ = some (.int .i64 0) := (World.cell?_setCell_other _ _ _ _ (by simp)).trans ((World.cell?_setCell_other _ _ _ _ (by simp)).trans ((cell_of_blk hrk (b * 3 + 2)).trans (List.getElem?_toArray.trans HQ.out.2.2)))
                  have d8 := frozen_of_blk hrk (b * 3)
                  have d9 := frozen_of_blk (blk_set hrk (i := b * 3) (.int .i64 X)) (b * 3 + 1)
                  have d10 := frozen_of_blk (blk_set (blk_set hrk (i := b * 3) (.int .i64 X)) (i := b * 3 + 1) (.int .i64 (X + c))) (b * 3 + 2)
                  have i3 : (0 : Int) ≤ (b : Int) := by omega
                  have i4 : (b : Int) < (m : Int) := by omega
                  have H9 := Lib.hid (H8.out.step hlt hbm HFI.out.1 HFI.out.2 HV.out.1.symm (show X + c = _ by rw [HV.out.2.1, HV.out.1]) HZ.out)
                  have hz9 := H9.out.bel.size
                  clear hrk HQ
                  go_wp2_with fail
                  go_roundw
                  case rel => exact ⟨k + 1, by omega, by go_num, hz9, H9⟩
                  case measure => simp [intOf]; omega
            · obtain rfl : k = cs.length := by omega
              have H9 := Lib.hid HP.out.next
              go_wp2_with fail
              go_roundw
              case rel => exact ⟨b + 1, by omega, by go_num, hwz, H9⟩
              case measure => simp [intOf]; omega
        · obtain rfl : b = m := by omega
          obtain ⟨c0, _, _⟩ := blk1 HP.out.va
          have hl0 := lt_of_blk HP.out.va
          go_wp2_with fail
          go_ret
          exact ⟨w.heap.size, g, rfl, ⟨HP.out.ho, HP.out.rows⟩, HP.out.bel, Nat.le_refl _, fun j hj => (HFI.out.1 j hj).1⟩
end Go.Proofs.YtmjonmoagpkdiabGreatDoor
