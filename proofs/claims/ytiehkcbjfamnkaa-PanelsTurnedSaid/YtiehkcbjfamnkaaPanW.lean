/-
  The walk of the reference's Overlaps.
-/
import Derived.Test.YtiehkcbjfamnkaaPanV
import Derived.Test.YtiehkcbjfamnkaaReadF
import Derived.Deep.DrawnRows
namespace Go.Proofs.Ytiehkcbjfamnkaa
open Go.RowKit

/-- The state at the heads of both loops. -/
def OvSt (B : Nat) (w1 : World) (acc : List (Nat × Nat)) (v : Value) (W : World) : Prop := Below B w1 W ∧ W.ownsRow B 75 2 v acc.length (acc.flatMap natP)
theorem OvSt.ext {w1 : World} {acc : List (Nat × Nat)} {v : Value} {W W' : World} (h : OvSt w1.heap.size w1 acc v W) (hb : Below W.heap.size W W') : OvSt w1.heap.size w1 acc v W' := ⟨h.1.ext hb, own_below h.2 hb⟩

theorem near_ov {a b : Ar} (ha : a.xf < a.xt ∧ a.yf < a.yt) (hb : b.xf < b.xt ∧ b.yf < b.yt) : nearA 0 a b = (decide (max a.xf b.xf < min a.xt b.xt) && decide (max a.yf b.yf < min a.yt b.yt)) := by
  unfold nearA
  rw [Bool.eq_iff_iff]
  simp only [Bool.and_eq_true, decide_eq_true_eq]
  omega

set_option maxRecDepth 100000 in
set_option maxHeartbeats 4000000 in
theorem overlapsOf_any (key : ByteArray) (Wd Hg : Int) (A : Option Addr) (c : Nat) (l : List Pl) (PW PH : Int) (B : Option Addr) (d : Nat) (s : List Sl) (w : World) (hB : SlAt w B s) (ho : PanOk Wd Hg PW PH l s) :
    Calls Try.prog 31 #[prod key Wd Hg A l.length c, pan PW PH B s.length d] w fun e w' => ∃ v, e = .returned v ∧ Below w.heap.size w w' ∧ ReadsF w.heap.size natP v (nearIdx 0 (s.map (slAr Wd Hg)) s.length) w' := by
  have hsl2 := ho.slen
  have HO := Lib.hid ho
  have HGD : Hid (∀ k (h : k < s.length), (s.map (slAr Wd Hg)).getD k dA = slAr Wd Hg (s[k]'h)) := fun k h => by rw [List.getD_eq_getElem?_getD, List.getElem?_map, List.getElem?_eq_getElem h]; rfl
  have hLL : (s.map (slAr Wd Hg)).length = s.length := by simp
  have HLL := Lib.hid hLL
  have HPOS : Hid (∀ k (h : k < s.length), (slAr Wd Hg (s[k]'h)).xf < (slAr Wd Hg (s[k]'h)).xt ∧ (slAr Wd Hg (s[k]'h)).yf < (slAr Wd Hg (s[k]'h)).yt) := fun k h => by
    obtain ⟨⟨t0, t1⟩, t2, t3⟩ := turn_pos (q := (s[k]'h).q) ho.w ho.h
    unfold slAr
    simp only
    omega
  have hNX := fun i => nearIdx_next 0 (s.map (slAr Wd Hg)) i
  have hRX := fun i j (h : i < j) => rowIdx_next 0 (s.map (slAr Wd Hg)) h
  have hR0 := fun i => rowIdx_start 0 (s.map (slAr Wd Hg)) i
  have hNL := fun i => nearIdx_len 0 (s.map (slAr Wd Hg)) i
  have hRL := fun i j => rowIdx_len 0 (s.map (slAr Wd Hg)) i j
  have hN0 : nearIdx 0 (s.map (slAr Wd Hg)) 0 = [] := rfl
  simp only [hLL] at hNX hNL
  generalize nearIdx 0 (s.map (slAr Wd Hg)) = NI at *
  have HNX := Lib.hid hNX
  have HRX := Lib.hid hRX
  have HR0 := Lib.hid hR0
  have HNL := Lib.hid hNL
  have HRL := Lib.hid hRL
  have HN0 := Lib.hid hN0
  clear ho hLL hNX hRX hR0 hNL hRL hN0
  go_enter Try.func31, Try.ntmps31
  go_wp2_with fail
  have kP : PanB w ((w.alloc (Obj.cells #[.string key, .int .i64 Wd, .int .i64 Hg, .slice A l.length c] 28)).alloc (Obj.cells #[.int .i64 PW, .int .i64 PH, .slice B s.length d] 32)) key Wd Hg A l.length c PW PH B s.length d := ⟨blk_alloc (blk_new w _ rfl) _, blk_new _ _ (by simp), ((Below.refl _ _).alloc (Nat.le_refl _) _).alloc (by simp) _, by simp⟩
  generalize ((w.alloc (Obj.cells #[.string key, .int .i64 Wd, .int .i64 Hg, .slice A l.length c] 28)).alloc (Obj.cells #[.int .i64 PW, .int .i64 PH, .slice B s.length d] 32)) = w1 at *
  have KQ := Lib.hid kP
  clear kP
  go_loopw [5, 13] (fun v kk wr => ∃ i : Nat, i ≤ s.length ∧ kk = .int .i64 i ∧ w.heap.size + 1 < wr.heap.size ∧ Hid (OvSt w1.heap.size w1 (NI i) v wr)) (fun _ kk _ => s.length - (intOf kk).toNat)
  case atStart => exact ⟨0, by omega, rfl, KQ.out.2.2.2, by rw [HN0.out]; exact ⟨Below.refl _ _, World.ownsRow_nil _ _ _ _⟩⟩
  case round =>
    obtain ⟨i, hi, rfl, hsz, HS⟩ := hrel
    obtain ⟨A7, k7, rfl, _⟩ := own_form HS.out.2
    by_cases hlt : i < s.length
    · have HIN : Hid (NI i = NI i ++ rowIdx 0 (s.map (slAr Wd Hg)) i (i + 1)) := by
        show _ = _
        rw [HR0.out, List.append_nil]
      have HSS : Hid (OvSt w1.heap.size w1 (NI i) (.slice A7 (NI i).length k7) wr) := HS.out
      clear HS
      go_wp2_with fail
      go_loopw [5, 7] (fun v kk wr => ∃ (j : Nat) (acc : List (Nat × Nat)), i < j ∧ j ≤ s.length ∧ kk = .int .i64 j ∧ w.heap.size + 1 < wr.heap.size ∧ Hid (acc = NI i ++ rowIdx 0 (s.map (slAr Wd Hg)) i j) ∧ Hid (OvSt w1.heap.size w1 acc v wr)) (fun _ kk _ => s.length - (intOf kk).toNat)
      case atStart => exact ⟨i + 1, NI i, by omega, by omega, by go_num, hsz, HIN, HSS⟩
      case round =>
        clear HIN HSS hsz
        obtain ⟨j, acc, hij, hj, rfl, hsz, HAC, HS⟩ := hrel
        obtain ⟨A8, k8, rfl, _⟩ := own_form HS.out.2
        obtain ⟨e0, e1, e2, _⟩ := blk3 (blk_below HS.out.1 KQ.out.2.1)
        by_cases hlj : j < s.length
        · have hx := HO.out.sl _ (List.getElem_mem hlt)
          have hy := HO.out.sl _ (List.getElem_mem hlj)
          have hno := near_ov (HPOS.out i hlt) (HPOS.out j hlj)
          have hrx := HRX.out i j hij
          rw [HGD.out i hlt, HGD.out j hlj, hno] at hrx
          have C1 := Lib.hid (fun W' => boardBox_any key Wd Hg A l.length c _ W' HO.out.w HO.out.h hx.1 hx.2.1 hx.2.2)
          have C2 := Lib.hid (fun W' => boardBox_any key Wd Hg A l.length c _ W' HO.out.w HO.out.h hy.1 hy.2.1 hy.2.2)
          rcases hB with rfl | ⟨g, rfl, hrow⟩
          · simp at hlt
          have hr2 := (hrow.below KQ.out.2.2.1).below HS.out.1
          have hq1 := row_sl hr2 hlt
          have hq2 := row_sl hr2 hlj
          have hg := hr2.1
          have hdl : acc.length ≤ 20000 := by
            rw [HAC.out, List.length_append]
            have a1 := HNL.out i
            have a2 := HRL.out i j
            have a3 : i * s.length ≤ 100 * 100 := Nat.mul_le_mul (by omega) (by omega)
            omega
          generalize slAr Wd Hg s[i] = a at *
          generalize slAr Wd Hg s[j] = b at *
          generalize s[i] = p at *
          generalize s[j] = p2 at *
          have HQ1 := Lib.hid hq1
          have HQ2 := Lib.hid hq2
          have HRXX := Lib.hid hrx
          have HROW := Lib.hid hrow
          clear hx hy hno hrx hq1 hq2 hr2 hrow e0 e1 e2
          obtain ⟨x, y, q, sk⟩ := p
          obtain ⟨x2, y2, q2, sk2⟩ := p2
          obtain ⟨axf, axt, ayf, ayt⟩ := a
          obtain ⟨bxf, bxt, byf, byt⟩ := b
          dsimp only at *
          have i1 : (0 : Int) ≤ (i : Int) := by omega
          have i2 : (i : Int) < (s.length : Int) := by omega
          have j1 : (0 : Int) ≤ (j : Int) := by omega
          have j2 : (j : Int) < (s.length : Int) := by omega
          have hsz0 : w.heap.size < wr.heap.size := by omega
          obtain ⟨wo, rfl⟩ : ∃ wo : World, wo = wr := ⟨_, rfl⟩
          obtain ⟨e0, e1, e2, _⟩ := blk3 (blk_below HS.out.1 KQ.out.2.1)
          go_wp2_with fail
          clear e0 e1 e2
          refine Rg.rgL (fun a b => Below a.heap.size a b)
            [(fun vs u => vs 0 = prod key Wd Hg A l.length c), (fun vs u => vs 1 = .pointer (some ⟨w.heap.size + 1, 2, none⟩)), (fun vs u => vs 2 = .slice (some ⟨g, 0, none⟩) s.length d), (fun vs u => vs 3 = .int .i64 i), (fun vs u => vs 4 = .pointer (some ⟨g, i * 4, none⟩)), (fun vs u => vs 5 = .agg #[.int .i64 x, .int .i64 y, .int .i64 q, .bool sk]), (fun vs u => vs 6 = .agg #[.int .i64 axf, .int .i64 ayf, .int .i64 axt, .int .i64 ayt]), (fun vs u => vs 7 = prod key Wd Hg A l.length c), (fun vs u => vs 8 = .pointer (some ⟨w.heap.size + 1, 2, none⟩)), (fun vs u => vs 9 = .slice (some ⟨g, 0, none⟩) s.length d), (fun vs u => vs 10 = .int .i64 j), (fun vs u => vs 11 = .pointer (some ⟨g, j * 4, none⟩)), (fun vs u => vs 12 = .agg #[.int .i64 x2, .int .i64 y2, .int .i64 q2, .bool sk2]), (fun vs u => vs 13 = .agg #[.int .i64 bxf, .int .i64 byf, .int .i64 bxt, .int .i64 byt]), (fun vs u => ∃ b : Nat, vs 14 = .pointer (some ⟨b, 0, none⟩) ∧ u.heap[b]? = some (.cells #[.int .i64 0, .int .i64 0, .int .i64 0, .int .i64 0] 141 (0, 0))), (fun vs u => ∃ b : Nat, vs 15 = .pointer (some ⟨b, 0, none⟩) ∧ u.heap[b]? = some (.cells #[.int .i64 0, .int .i64 0, .int .i64 0, .int .i64 0] 141 (0, 0)))]
            [[], [], [1], [], [1, 2, 3], [1, 2, 3, 4], [0, 1, 2, 3, 4, 5], [], [], [8], [], [8, 9, 10], [8, 9, 10, 11], [0, 1, 2, 3, 4, 5, 6, 7, 8, 9, 10, 11, 12], [], []] [some 25, some 26, some 27, some 28, some 29, some 30, some 31, some 32, some 33, some 34, some 35, some 36, some 37, some 38, some 8, some 9, none, none] [14, 15] (fun _ _ => True) [[], [], [1], [], [1, 2, 3], [1, 2, 3, 4], [0, 1, 2, 3, 4, 5], [], [], [8], [], [8, 9, 10], [8, 9, 10, 11], [0, 1, 2, 3, 4, 5, 6, 7, 8, 9, 10, 11, 12], [], [], [0, 1, 2, 3, 4, 5, 6, 7, 8, 9, 10, 11, 12, 13, 14, 15], [0, 1, 2, 3, 4, 5, 6, 7, 8, 9, 10, 11, 12, 13, 14, 15, 16]]
            (by kernel_rfl) (by decide) (by kernel_rfl) (by kernel_rfl) (by kernel_rfl) (by kernel_rfl) (by kernel_rfl) (fun _ => Below.refl _ _) (fun _ _ _ h k => h.ext k) (fun _ _ h => h.size) ?_ trivial ?_ ?_
          · intro t ht vs w w' h hE
            simp only [List.mem_cons, List.not_mem_nil, or_false] at ht
            rcases ht with rfl | rfl | rfl | rfl | rfl | rfl | rfl | rfl | rfl | rfl | rfl | rfl | rfl | rfl | rfl | rfl
            · exact h
            · exact h
            · exact h
            · exact h
            · exact h
            · exact h
            · exact h
            · exact h
            · exact h
            · exact h
            · exact h
            · exact h
            · exact h
            · exact h
            · obtain ⟨b, e, k⟩ := h
              exact ⟨b, e, blk_below hE k⟩
            · obtain ⟨b, e, k⟩ := h
              exact ⟨b, e, blk_below hE k⟩
          ·
            refine Rg.cons 0 1 rfl (Rg.plain rfl ?_) ?_
            · intro vs W n hn hI hG hT hF K hK
              simp only [Rg.putsD, List.getD_cons_zero, List.getD_cons_succ, Act.put, List.setIfInBounds_toArray, List.set_cons_zero, List.set_cons_succ] at hK ⊢
              clear hn
              clear hF hI
              obtain ⟨c0, c1, c2, c3⟩ := blk4 (blk_below hG (blk_below HS.out.1 KQ.out.1))
              have H := Lib.hid hK
              clear hK hT
              go_simp
              exact H.out _ _ (Below.refl _ _) rfl (fun h => by cases h) trivial
            refine Rg.cons 1 2 rfl (Rg.plain rfl ?_) ?_
            · intro vs W n hn hI hG hT hF K hK
              simp only [Rg.putsD, List.getD_cons_zero, List.getD_cons_succ, Act.put, List.setIfInBounds_toArray, List.set_cons_zero, List.set_cons_succ] at hK ⊢
              clear hn
              clear hF hI
              have H := Lib.hid hK
              clear hK hT
              go_simp
              exact H.out _ _ (Below.refl _ _) rfl (fun h => by cases h) trivial
            refine Rg.cons 2 3 rfl (Rg.plain rfl ?_) ?_
            · intro vs W n hn hI hG hT hF K hK
              simp only [Rg.putsD, List.getD_cons_zero, List.getD_cons_succ, Act.put, List.setIfInBounds_toArray, List.set_cons_zero, List.set_cons_succ] at hK ⊢
              clear hn
              clear hF hI
              have t1 : vs 1 = .pointer (some ⟨w.heap.size + 1, 2, none⟩) := hT 1 (by decide)
              obtain ⟨c0, c1, c2, _⟩ := blk3 (blk_below hG (blk_below HS.out.1 KQ.out.2.1))
              simp only [t1] at hK
              have H := Lib.hid hK
              clear hK hT
              go_simp
              exact H.out _ _ (Below.refl _ _) rfl (fun h => by cases h) trivial
            refine Rg.cons 3 4 rfl (Rg.plain rfl ?_) ?_
            · intro vs W n hn hI hG hT hF K hK
              simp only [Rg.putsD, List.getD_cons_zero, List.getD_cons_succ, Act.put, List.setIfInBounds_toArray, List.set_cons_zero, List.set_cons_succ] at hK ⊢
              clear hn
              clear hF hI
              have H := Lib.hid hK
              clear hK hT
              go_simp
              exact H.out _ _ (Below.refl _ _) rfl (fun h => by cases h) trivial
            refine Rg.cons 4 5 rfl (Rg.plain rfl ?_) ?_
            · intro vs W n hn hI hG hT hF K hK
              simp only [Rg.putsD, List.getD_cons_zero, List.getD_cons_succ, Act.put, List.setIfInBounds_toArray, List.set_cons_zero, List.set_cons_succ] at hK ⊢
              clear hn
              clear hF hI
              have t1 : vs 1 = .pointer (some ⟨w.heap.size + 1, 2, none⟩) := hT 1 (by decide)
              have t2 : vs 2 = .slice (some ⟨g, 0, none⟩) s.length d := hT 2 (by decide)
              have t3 : vs 3 = .int .i64 i := hT 3 (by decide)
              simp only [t1, t2, t3] at hK
              have H := Lib.hid hK
              clear hK hT
              go_simp
              exact H.out _ _ (Below.refl _ _) rfl (fun h => by cases h) trivial
            refine Rg.cons 5 6 rfl (Rg.plain rfl ?_) ?_
            · intro vs W n hn hI hG hT hF K hK
              simp only [Rg.putsD, List.getD_cons_zero, List.getD_cons_succ, Act.put, List.setIfInBounds_toArray, List.set_cons_zero, List.set_cons_succ] at hK ⊢
              clear hn
              clear hF hI
              have t1 : vs 1 = .pointer (some ⟨w.heap.size + 1, 2, none⟩) := hT 1 (by decide)
              have t2 : vs 2 = .slice (some ⟨g, 0, none⟩) s.length d := hT 2 (by decide)
              have t3 : vs 3 = .int .i64 i := hT 3 (by decide)
              have t4 : vs 4 = .pointer (some ⟨g, i * 4, none⟩) := hT 4 (by decide)
              have c0 := (hG.cell (p := ⟨g, i * 4, none⟩) hg).trans HQ1.out.1
              have c1 := (hG.cell (p := ⟨g, i * 4 + 1, none⟩) hg).trans HQ1.out.2.1
              have c2 := (hG.cell (p := ⟨g, i * 4 + 2, none⟩) hg).trans HQ1.out.2.2.1
              have c3 := (hG.cell (p := ⟨g, i * 4 + 3, none⟩) hg).trans HQ1.out.2.2.2
              simp only [t1, t2, t3, t4] at hK
              have H := Lib.hid hK
              clear hK hT
              go_simp
              exact H.out _ _ (Below.refl _ _) rfl (fun h => by cases h) trivial
            refine Rg.cons 6 7 rfl (Rg.plain rfl ?_) ?_
            · intro vs W n hn hI hG hT hF K hK
              simp only [Rg.putsD, List.getD_cons_zero, List.getD_cons_succ, Act.put, List.setIfInBounds_toArray, List.set_cons_zero, List.set_cons_succ] at hK ⊢
              clear hn
              clear hF hI
              have t0 : vs 0 = prod key Wd Hg A l.length c := hT 0 (by decide)
              have t1 : vs 1 = .pointer (some ⟨w.heap.size + 1, 2, none⟩) := hT 1 (by decide)
              have t2 : vs 2 = .slice (some ⟨g, 0, none⟩) s.length d := hT 2 (by decide)
              have t3 : vs 3 = .int .i64 i := hT 3 (by decide)
              have t4 : vs 4 = .pointer (some ⟨g, i * 4, none⟩) := hT 4 (by decide)
              have t5 : vs 5 = .agg #[.int .i64 x, .int .i64 y, .int .i64 q, .bool sk] := hT 5 (by decide)
              simp only [t0, t1, t2, t3, t4, t5] at hK
              have H := Lib.hid hK
              clear hK hT
              go_simp
              refine (C1.out _).mono ?_
              rintro e w6 ⟨rfl, b6⟩
              exact H.out _ _ b6 rfl (fun h => by cases h) trivial
            refine Rg.cons 7 8 rfl (Rg.plain rfl ?_) ?_
            · intro vs W n hn hI hG hT hF K hK
              simp only [Rg.putsD, List.getD_cons_zero, List.getD_cons_succ, Act.put, List.setIfInBounds_toArray, List.set_cons_zero, List.set_cons_succ] at hK ⊢
              clear hn
              clear hF hI
              obtain ⟨c0, c1, c2, c3⟩ := blk4 (blk_below hG (blk_below HS.out.1 KQ.out.1))
              have H := Lib.hid hK
              clear hK hT
              go_simp
              exact H.out _ _ (Below.refl _ _) rfl (fun h => by cases h) trivial
            refine Rg.cons 8 9 rfl (Rg.plain rfl ?_) ?_
            · intro vs W n hn hI hG hT hF K hK
              simp only [Rg.putsD, List.getD_cons_zero, List.getD_cons_succ, Act.put, List.setIfInBounds_toArray, List.set_cons_zero, List.set_cons_succ] at hK ⊢
              clear hn
              clear hF hI
              have H := Lib.hid hK
              clear hK hT
              go_simp
              exact H.out _ _ (Below.refl _ _) rfl (fun h => by cases h) trivial
            refine Rg.cons 9 10 rfl (Rg.plain rfl ?_) ?_
            · intro vs W n hn hI hG hT hF K hK
              simp only [Rg.putsD, List.getD_cons_zero, List.getD_cons_succ, Act.put, List.setIfInBounds_toArray, List.set_cons_zero, List.set_cons_succ] at hK ⊢
              clear hn
              clear hF hI
              have t8 : vs 8 = .pointer (some ⟨w.heap.size + 1, 2, none⟩) := hT 8 (by decide)
              obtain ⟨c0, c1, c2, _⟩ := blk3 (blk_below hG (blk_below HS.out.1 KQ.out.2.1))
              simp only [t8] at hK
              have H := Lib.hid hK
              clear hK hT
              go_simp
              exact H.out _ _ (Below.refl _ _) rfl (fun h => by cases h) trivial
            refine Rg.cons 10 11 rfl (Rg.plain rfl ?_) ?_
            · intro vs W n hn hI hG hT hF K hK
              simp only [Rg.putsD, List.getD_cons_zero, List.getD_cons_succ, Act.put, List.setIfInBounds_toArray, List.set_cons_zero, List.set_cons_succ] at hK ⊢
              clear hn
              clear hF hI
              have H := Lib.hid hK
              clear hK hT
              go_simp
              exact H.out _ _ (Below.refl _ _) rfl (fun h => by cases h) trivial
            refine Rg.cons 11 12 rfl (Rg.plain rfl ?_) ?_
            · intro vs W n hn hI hG hT hF K hK
              simp only [Rg.putsD, List.getD_cons_zero, List.getD_cons_succ, Act.put, List.setIfInBounds_toArray, List.set_cons_zero, List.set_cons_succ] at hK ⊢
              clear hn
              clear hF hI
              have t8 : vs 8 = .pointer (some ⟨w.heap.size + 1, 2, none⟩) := hT 8 (by decide)
              have t9 : vs 9 = .slice (some ⟨g, 0, none⟩) s.length d := hT 9 (by decide)
              have t10 : vs 10 = .int .i64 j := hT 10 (by decide)
              simp only [t8, t9, t10] at hK
              have H := Lib.hid hK
              clear hK hT
              go_simp
              exact H.out _ _ (Below.refl _ _) rfl (fun h => by cases h) trivial
            refine Rg.cons 12 13 rfl (Rg.plain rfl ?_) ?_
            · intro vs W n hn hI hG hT hF K hK
              simp only [Rg.putsD, List.getD_cons_zero, List.getD_cons_succ, Act.put, List.setIfInBounds_toArray, List.set_cons_zero, List.set_cons_succ] at hK ⊢
              clear hn
              clear hF hI
              have t8 : vs 8 = .pointer (some ⟨w.heap.size + 1, 2, none⟩) := hT 8 (by decide)
              have t9 : vs 9 = .slice (some ⟨g, 0, none⟩) s.length d := hT 9 (by decide)
              have t10 : vs 10 = .int .i64 j := hT 10 (by decide)
              have t11 : vs 11 = .pointer (some ⟨g, j * 4, none⟩) := hT 11 (by decide)
              have c0 := (hG.cell (p := ⟨g, j * 4, none⟩) hg).trans HQ2.out.1
              have c1 := (hG.cell (p := ⟨g, j * 4 + 1, none⟩) hg).trans HQ2.out.2.1
              have c2 := (hG.cell (p := ⟨g, j * 4 + 2, none⟩) hg).trans HQ2.out.2.2.1
              have c3 := (hG.cell (p := ⟨g, j * 4 + 3, none⟩) hg).trans HQ2.out.2.2.2
              simp only [t8, t9, t10, t11] at hK
              have H := Lib.hid hK
              clear hK hT
              go_simp
              exact H.out _ _ (Below.refl _ _) rfl (fun h => by cases h) trivial
            refine Rg.cons 13 14 rfl (Rg.plain rfl ?_) ?_
            · intro vs W n hn hI hG hT hF K hK
              simp only [Rg.putsD, List.getD_cons_zero, List.getD_cons_succ, Act.put, List.setIfInBounds_toArray, List.set_cons_zero, List.set_cons_succ] at hK ⊢
              clear hn
              clear hF hI
              have t0 : vs 0 = prod key Wd Hg A l.length c := hT 0 (by decide)
              have t1 : vs 1 = .pointer (some ⟨w.heap.size + 1, 2, none⟩) := hT 1 (by decide)
              have t2 : vs 2 = .slice (some ⟨g, 0, none⟩) s.length d := hT 2 (by decide)
              have t3 : vs 3 = .int .i64 i := hT 3 (by decide)
              have t4 : vs 4 = .pointer (some ⟨g, i * 4, none⟩) := hT 4 (by decide)
              have t5 : vs 5 = .agg #[.int .i64 x, .int .i64 y, .int .i64 q, .bool sk] := hT 5 (by decide)
              have t6 : vs 6 = .agg #[.int .i64 axf, .int .i64 ayf, .int .i64 axt, .int .i64 ayt] := hT 6 (by decide)
              have t7 : vs 7 = prod key Wd Hg A l.length c := hT 7 (by decide)
              have t8 : vs 8 = .pointer (some ⟨w.heap.size + 1, 2, none⟩) := hT 8 (by decide)
              have t9 : vs 9 = .slice (some ⟨g, 0, none⟩) s.length d := hT 9 (by decide)
              have t10 : vs 10 = .int .i64 j := hT 10 (by decide)
              have t11 : vs 11 = .pointer (some ⟨g, j * 4, none⟩) := hT 11 (by decide)
              have t12 : vs 12 = .agg #[.int .i64 x2, .int .i64 y2, .int .i64 q2, .bool sk2] := hT 12 (by decide)
              simp only [t0, t1, t2, t3, t4, t5, t6, t7, t8, t9, t10, t11, t12] at hK
              have H := Lib.hid hK
              clear hK hT
              go_simp
              refine (C2.out _).mono ?_
              rintro e w6 ⟨rfl, b6⟩
              exact H.out _ _ b6 rfl (fun h => by cases h) trivial
            refine Rg.cons 14 15 rfl (Rg.plain rfl ?_) ?_
            · intro vs W n hn hI hG hT hF K hK
              simp only [Rg.putsD, List.getD_cons_zero, List.getD_cons_succ, Act.put, List.setIfInBounds_toArray, List.set_cons_zero, List.set_cons_succ] at hK ⊢
              clear hn
              clear hF hI
              have H := Lib.hid hK
              clear hK hT
              go_simp
              exact H.out _ _ ((Below.refl _ _).alloc (Nat.le_refl _) _) (show ∃ b : Nat, _ = _ ∧ _ = _ from ⟨_, rfl, blk_new W _ rfl⟩) (fun _ => ⟨W.heap.size, rfl, Nat.le_refl _, by simp⟩) trivial
            refine Rg.cons 15 16 rfl (Rg.plain rfl ?_) ?_
            · intro vs W n hn hI hG hT hF K hK
              simp only [Rg.putsD, List.getD_cons_zero, List.getD_cons_succ, Act.put, List.setIfInBounds_toArray, List.set_cons_zero, List.set_cons_succ] at hK ⊢
              clear hn
              clear hF hI
              have H := Lib.hid hK
              clear hK hT
              go_simp
              exact H.out _ _ ((Below.refl _ _).alloc (Nat.le_refl _) _) (show ∃ b : Nat, _ = _ ∧ _ = _ from ⟨_, rfl, blk_new W _ rfl⟩) (fun _ => ⟨W.heap.size, rfl, Nat.le_refl _, by simp⟩) trivial
            exact Rg.nil
          · intro vs W hG hI hT hF
            have t0 : vs 0 = prod key Wd Hg A l.length c := hT 0 (by decide)
            have t1 : vs 1 = .pointer (some ⟨w.heap.size + 1, 2, none⟩) := hT 1 (by decide)
            have t2 : vs 2 = .slice (some ⟨g, 0, none⟩) s.length d := hT 2 (by decide)
            have t3 : vs 3 = .int .i64 i := hT 3 (by decide)
            have t4 : vs 4 = .pointer (some ⟨g, i * 4, none⟩) := hT 4 (by decide)
            have t5 : vs 5 = .agg #[.int .i64 x, .int .i64 y, .int .i64 q, .bool sk] := hT 5 (by decide)
            have t6 : vs 6 = .agg #[.int .i64 axf, .int .i64 ayf, .int .i64 axt, .int .i64 ayt] := hT 6 (by decide)
            have t7 : vs 7 = prod key Wd Hg A l.length c := hT 7 (by decide)
            have t8 : vs 8 = .pointer (some ⟨w.heap.size + 1, 2, none⟩) := hT 8 (by decide)
            have t9 : vs 9 = .slice (some ⟨g, 0, none⟩) s.length d := hT 9 (by decide)
            have t10 : vs 10 = .int .i64 j := hT 10 (by decide)
            have t11 : vs 11 = .pointer (some ⟨g, j * 4, none⟩) := hT 11 (by decide)
            have t12 : vs 12 = .agg #[.int .i64 x2, .int .i64 y2, .int .i64 q2, .bool sk2] := hT 12 (by decide)
            have t13 : vs 13 = .agg #[.int .i64 bxf, .int .i64 byf, .int .i64 bxt, .int .i64 byt] := hT 13 (by decide)
            have t14 : ∃ b : Nat, vs 14 = .pointer (some ⟨b, 0, none⟩) ∧ W.heap[b]? = some (.cells #[.int .i64 0, .int .i64 0, .int .i64 0, .int .i64 0] 141 (0, 0)) := hT 14 (by decide)
            have t15 : ∃ b : Nat, vs 15 = .pointer (some ⟨b, 0, none⟩) ∧ W.heap[b]? = some (.cells #[.int .i64 0, .int .i64 0, .int .i64 0, .int .i64 0] 141 (0, 0)) := hT 15 (by decide)
            simp only [List.length_cons, List.length_nil, Nat.reduceAdd, List.range, List.range.loop, List.drop_succ_cons, List.drop_zero, Rg.putsD, List.getD_cons_zero, List.getD_cons_succ, Act.put, List.setIfInBounds_toArray, List.set_cons_zero, List.set_cons_succ, t0, t1, t2, t3, t4, t5, t6, t7, t8, t9, t10, t11, t12, t13]
            clear hT t0 t1 t2 t3 t4 t5 t6 t7 t8 t9 t10 t11 t12 t13
            obtain ⟨b5, e5, k5⟩ := t14
            obtain ⟨b6, e6, k6⟩ := t15
            have hne := hF.2 14 (by decide) 15 (by decide) (by decide) (by decide) (by decide)
            obtain ⟨_, q5, l5, m5⟩ := hF.1 14 (by decide) (by decide)
            obtain ⟨_, q6, l6, m6⟩ := hF.1 15 (by decide) (by decide)
            simp only [e5, e6, Rg.blockOf, ne_eq, Option.some.injEq] at hne q5 q6
            subst q5 q6
            have hbb : Below wo.heap.size wo W := (Below.refl wo.heap.size wo).drew.ext hG
            have hl5 : wo.heap.size ≤ b5 := l5
            have hl6 : wo.heap.size ≤ b6 := l6
            obtain ⟨wF, hwFe⟩ : ∃ wF, (((((((W.setCell ⟨b5, 0, none⟩ (.int .i64 axf)).setCell ⟨b5, 1, none⟩ (.int .i64 ayf)).setCell ⟨b5, 2, none⟩ (.int .i64 axt)).setCell ⟨b5, 3, none⟩ (.int .i64 ayt)).setCell ⟨b6, 0, none⟩ (.int .i64 bxf)).setCell ⟨b6, 1, none⟩ (.int .i64 byf)).setCell ⟨b6, 2, none⟩ (.int .i64 bxt)).setCell ⟨b6, 3, none⟩ (.int .i64 byt) = wF := ⟨_, rfl⟩
            have HWF := Lib.hid hwFe
            have k5F : wF.heap[b5]? = some (.cells #[.int .i64 axf, .int .i64 ayf, .int .i64 axt, .int .i64 ayt] 141 (0, 0)) := by
              rw [← hwFe]
              exact blk_far (blk_far (blk_far (blk_far (blk_set (blk_set (blk_set (blk_set k5 _) _) _) _) (by simpa using hne) _) (by simpa using hne) _) (by simpa using hne) _) (by simpa using hne) _
            have hne' : ¬ b6 = b5 := fun e => hne e.symm
            have k6F : wF.heap[b6]? = some (.cells #[.int .i64 bxf, .int .i64 byf, .int .i64 bxt, .int .i64 byt] 141 (0, 0)) := by
              rw [← hwFe]
              exact blk_set (blk_set (blk_set (blk_set (blk_far (blk_far (blk_far (blk_far k6 (by simpa using hne') _) (by simpa using hne') _) (by simpa using hne') _) (by simpa using hne') _) _) _) _) _
            have hbF : Below wo.heap.size wo wF := by
              rw [← hwFe]
              exact (((((((hbb.setCell (by simpa using hl5) _).setCell (by simpa using hl5) _).setCell (by simpa using hl5) _).setCell (by simpa using hl5) _).setCell (by simpa using hl6) _).setCell (by simpa using hl6) _).setCell (by simpa using hl6) _).setCell (by simpa using hl6) _
            have HOV := Lib.hid (HS.out.ext hbF)
            have hwF : w.heap.size + 1 < wF.heap.size := Nat.lt_of_lt_of_le hsz hbF.size
            have hmF5 := lt_of_blk k5F
            have hmF6 := lt_of_blk k6F
            obtain ⟨c0, c1, c2, c3⟩ := blk4 k5
            obtain ⟨d0, d1, d2, d3⟩ := blk4 k6
            have f0 := frozen_of_blk k5 0
            have f1 := frozen_of_blk k5 1
            have f2 := frozen_of_blk k5 2
            have f3 := frozen_of_blk k5 3
            have g0 := frozen_of_blk k6 0
            have g1 := frozen_of_blk k6 1
            have g2 := frozen_of_blk k6 2
            have g3 := frozen_of_blk k6 3
            have E56 := Lib.hid (And.intro e5 e6)
            have KF := Lib.hid (And.intro k5F k6F)
            clear hwFe hF hG hI hbb hbF k5 k6 e5 e6 k5F k6F HS
            simp only [E56.out.1, E56.out.2]
            go_upto_region 9 with (fail)
            rw [HWF.out]
            clear c0 c1 c2 c3 d0 d1 d2 d3 f0 f1 f2 f3 g0 g1 g2 g3
            obtain ⟨c0, c1, c2, c3⟩ := blk4 KF.out.1
            obtain ⟨d0, d1, d2, d3⟩ := blk4 KF.out.2
            by_cases h1 : max axf bxf < min axt bxt
            · by_cases h2 : max ayf byf < min ayt byt
              · have HF : Hid (rowIdx 0 (s.map (slAr Wd Hg)) i (j + 1) = rowIdx 0 (s.map (slAr Wd Hg)) i j ++ [(i, j)]) := HRXX.out.trans (by simp [h1, h2])
                go_wp2_with (at_builtin; refine hold ?_)
                refine loose ?_
                obtain ⟨i0, hi0, hz0, hz1, hz2⟩ := info_parts two_info
                refine wpList_append_own _ rfl _ _ 66 rfl w1.heap.size 75 i0 _ 2 16 Try.underlying66 hi0 hz0 hz1 hz2 rfl (by omega) _ acc.length (acc.flatMap natP) rfl (HOV.out.2.alloc _) ⟨wF.heap.size, 0, none⟩ 1 1 (natP (i, j)) rfl rfl ?_ (by intro u hu; simp [natP] at hu; rcases hu with rfl | rfl <;> rfl) (by unfold maxLen; omega) (by omega) (by have := HOV.out.1.size; simp; omega) ?_
                · intro q u hu
                  rw [addr_new, cell_of_blk (blk_new (g := wF.heap.size) _ _ rfl)]
                  simpa [natP] using hu
                intro v' w' hown' hg' _
                have hsz' := hg'.size
                simp at hsz'
                have HAC2 : Hid (acc ++ [(i, j)] = NI i ++ rowIdx 0 (s.map (slAr Wd Hg)) i (j + 1)) := by
                  show _ = _
                  rw [HF.out, HAC.out, List.append_assoc]
                have HG2 : Hid (OvSt w1.heap.size w1 (acc ++ [(i, j)]) v' w') := by
                  refine ⟨(HOV.out.1.alloc HOV.out.1.size _).grown hg' (by have := HOV.out.1.size; simp; omega) (fun q e => own_row HOV.out.2 q e), ?_⟩
                  have e1 : (acc ++ [(i, j)]).flatMap natP = acc.flatMap natP ++ natP (i, j) := by rw [List.flatMap_append]; simp
                  rw [e1, List.length_append]
                  exact hown'
                have hwF2 : w.heap.size + 1 < w'.heap.size := by omega
                clear hown' hg' hi0 hz0 hz1 hz2
                go_wp2_with fail
                go_roundw
                case rel => exact ⟨j + 1, _, by omega, by omega, by go_num, hwF2, HAC2, HG2⟩
                case measure => simp [intOf]; omega
              · have HF : Hid (rowIdx 0 (s.map (slAr Wd Hg)) i (j + 1) = rowIdx 0 (s.map (slAr Wd Hg)) i j) := HRXX.out.trans (by simp [h2])
                have HAC2 : Hid (acc = NI i ++ rowIdx 0 (s.map (slAr Wd Hg)) i (j + 1)) := by
                  show _ = _
                  rw [HF.out]
                  exact HAC.out
                go_wp2_with fail
                go_roundw
                case rel => exact ⟨j + 1, acc, by omega, by omega, by go_num, hwF, HAC2, HOV⟩
                case measure => simp [intOf]; omega
            · have HF : Hid (rowIdx 0 (s.map (slAr Wd Hg)) i (j + 1) = rowIdx 0 (s.map (slAr Wd Hg)) i j) := HRXX.out.trans (by simp [h1])
              have HAC2 : Hid (acc = NI i ++ rowIdx 0 (s.map (slAr Wd Hg)) i (j + 1)) := by
                show _ = _
                rw [HF.out]
                exact HAC.out
              go_wp2_with fail
              go_roundw
              case rel => exact ⟨j + 1, acc, by omega, by omega, by go_num, hwF, HAC2, HOV⟩
              case measure => simp [intOf]; omega
        · obtain rfl : j = s.length := by omega
          have HF : Hid (OvSt w1.heap.size w1 (NI (i + 1)) (.slice A8 acc.length k8) wr) := by
            rw [HNX.out, ← HAC.out]
            exact HS.out
          go_wp2_with fail
          go_roundw
          case rel => exact ⟨i + 1, by omega, by go_num, hsz, HF⟩
          case measure => simp [intOf]; omega
    · obtain rfl : i = s.length := by omega
      go_wp2_with fail
      go_ret
      exact ⟨_, rfl, KQ.out.2.2.1.then_below HS.out.1 KQ.out.2.2.1.size, (readsF_own HS.out.2).least KQ.out.2.2.1.size⟩
end Go.Proofs.Ytiehkcbjfamnkaa
