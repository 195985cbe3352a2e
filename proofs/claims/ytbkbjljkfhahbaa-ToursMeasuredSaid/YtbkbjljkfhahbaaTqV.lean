/-
  The shortest tour: the reference's recursion.
-/
import Derived.Test.YtbkbjljkfhahbaaTqU
namespace Go.Proofs.Ytbkbjljkfhahbaa
open Go.RowKit
set_option linter.unusedSimpArgs false
set_option linter.unusedVariables false

theorem own_kept2 {sb g : Nat} {w w' : World} {base : Nat} {e : TypeId} {size n : Nat} {v : Value} {xs : List Value} (h : w.ownsRow base e size v n xs) (hk : Kept2 sb g w w') (h1 : sb < base) (h2 : g < base) : w'.ownsRow base e size v n xs := by
  refine ⟨h.1, h.2.imp_right ?_⟩
  rintro ⟨q, cap, cur, hv, hg, hc, rest⟩
  exact ⟨q, cap, cur, hv, hg, (hk.old _ (lt_of_blk hc) (by omega) (by omega)).trans hc, rest⟩
theorem lv_neg {x : Int} (h : x = maxI) : lv x = -1 := if_pos h
theorem lv_pos {x : Int} (h : ¬ x = maxI) : lv x = x := if_neg h
/-- A region's relation: nothing has turned below its beginning. -/
def GZ (Z : Nat) (a b : World) : Prop := a.heap.size ≤ b.heap.size ∧ (Z ≤ a.heap.size → Below Z a b)
theorem GZ.refl (Z : Nat) (a : World) : GZ Z a a := ⟨Nat.le_refl _, fun _ => Below.refl _ _⟩
theorem GZ.trans {Z : Nat} {a b c : World} (h : GZ Z a b) (k : GZ Z b c) : GZ Z a c := ⟨Nat.le_trans h.1 k.1, fun hz => (h.2 hz).trans (k.2 (Nat.le_trans hz h.1))⟩
theorem GZ.of_below {Z : Nat} {a b : World} (h : Below a.heap.size a b) : GZ Z a b := ⟨h.size, fun hz => h.mono hz⟩
theorem GZ.of_SA {Z n : Nat} {xs : List Value} {a b : World} (h : SA Z n xs a b) : GZ Z a b := ⟨h.1.size, fun _ => h.1⟩
/-- What stands in memory in a call. -/
structure TS (w : World) (s : Int × Int) (pv : Value) (st : List Int × Int) (w0 : World) (a1 a2 : Int) (ov : Value) (o : List Int) (W : World) : Prop where
  vr : VR w s pv st W
  at_ : W.heap[w0.heap.size]? = some (.cells #[.int .i64 a1, .int .i64 a2] 27 (0, 0))
  kept : Kept2 (w.heap.size + 2) (w.heap.size + 3) w0 W
  row : W.ownsRow (w.heap.size + 5) 3 1 ov o.length (o.map (Value.int .i64))
theorem TS.below {w : World} {s : Int × Int} {pv : Value} {st : List Int × Int} {w0 : World} {a1 a2 : Int} {ov : Value} {o : List Int} {W W' : World} (h : TS w s pv st w0 a1 a2 ov o W) (hb : Below W.heap.size W W') : TS w s pv st w0 a1 a2 ov o W' :=
  ⟨h.vr.below hb, blk_below hb h.at_, h.kept.then_ (Kept2.of_below hb), own_below h.row hb⟩
theorem TS.drew {w : World} {s : Int × Int} {pv : Value} {st : List Int × Int} {w0 : World} {a1 a2 : Int} {ov : Value} {o : List Int} {W : World} (h : TS w s pv st w0 a1 a2 ov o W) : TS w s pv st w0 a1 a2 ov o W.drew := h.below (Below.refl _ _).drew

set_option maxRecDepth 100000 in
set_option maxHeartbeats 32000000 in
theorem try_any (s : Int × Int) (l : List (Int × Int)) (hs : okPt s = true) (hl : ∀ p ∈ l, okPt p = true) (hln : l.length ≤ 1000) (Ap : Option Addr) (cp : Nat) (w : World) (h1 : Reads encP (.slice Ap l.length cp) l w) :
    ∀ (f : Nat) (o : List Int) (gone : Int) (st : List Int × Int) (w0 : World) (A : Option Addr) (c : Nat), o.length + f = l.length → 0 ≤ gone → gone ≤ (o.length : Int) * 1000000 → 0 ≤ st.2 → VR w s (.slice Ap l.length cp) st w0 →
      w0.ownsRow (w.heap.size + 5) 3 1 (.slice A o.length c) o.length (o.map (Value.int .i64)) → (o.length = 0 → A = none ∧ c = 0) →
    Calls Try.prog 42 #[.slice A o.length c, .agg #[.int .i64 (atOf s l o).1, .int .i64 (atOf s l o).2], .int .i64 gone, .pointer (some ⟨w.heap.size + 3, 0, none⟩), .pointer (some ⟨w.heap.size, 0, none⟩), .pointer (some ⟨w.heap.size + 1, 0, none⟩), .pointer (some ⟨w.heap.size + 2, 0, none⟩), .pointer (some ⟨w.heap.size + 4, 0, none⟩)] w0
      fun e w' => e = .returned (.tuple #[]) ∧ VR w s (.slice Ap l.length cp) (vis s l f o gone st) w' ∧ Kept2 (w.heap.size + 2) (w.heap.size + 3) w0 w' := by
  have HEN := enters_of Try.func42 (by kernel_rfl) rfl
  intro f
  induction f with
  | zero =>
    intro o gone st w0 A c hof hg0 hg1 hst0 hV hown hA
    have HR := Lib.hid h1
    have HL := Lib.hid hl
    have HSP := Lib.hid hs
    skip
    have CD := Lib.hid (fun a b ha hb W => apart_any a b ha hb W)
    have hAO := atOf_ok (s := s) (l := l) hs hl o
    obtain ⟨hap0, hap1⟩ := apart_bd hAO hs
    have CD0 := Lib.hid (fun W => CD.out (atOf s l o) s hAO hs W)
    have HCUT := Lib.hid (@vis_cut s l (0) o gone st)
    have HMORE := Lib.hid (@vis_end s l o gone st)
    skip
    clear h1 hl
    obtain ⟨a, ha⟩ : ∃ a, atOf s l o = a := ⟨_, rfl⟩
    rw [ha] at CD0 HCUT HMORE hap0 hap1 hAO ⊢
    have HAT := Lib.hid ha
    clear ha
    obtain ⟨a1, a2⟩ := a
    dsimp only
    have H0 : Hid (TS w s (.slice Ap l.length cp) st w0 a1 a2 (.slice A o.length c) o (w0.alloc (.cells #[.int .i64 a1, .int .i64 a2] 27))) :=
      ⟨hV.below ((Below.refl _ _).alloc (Nat.le_refl _) _), blk_new w0 _ rfl, Kept2.of_below ((Below.refl _ _).alloc (Nat.le_refl _) _), hown.alloc _⟩
    obtain ⟨s1, s2⟩ := s
    dsimp only at CD0
    generalize apart (a1, a2) (s1, s2) = ap at *
    have hbig := hV.big
    have HON := Lib.hid hown
    go_enter Try.func42, Try.ntmps42
    go_upto_region 1 with (fail)
    clear hV hown
    generalize w0.alloc (.cells #[.int .i64 a1, .int .i64 a2] 27) = wx at *
    have hxl := lt_of_blk H0.out.at_
    obtain ⟨ls, hls⟩ : ∃ x, st.2 = x := ⟨_, rfl⟩
    have HKL : Hid (wx.heap[w.heap.size + 3]? = some (.cells #[.int .i64 (lv ls)] 3 (0, 0))) := by have := H0.out.vr.kl; rw [hls] at this; exact this
    rw [hls] at HCUT HMORE hst0
    have HLS := Lib.hid hls
    clear hls
    have hgb : gone ≤ 1000000000 := by omega
    go_cut [23] (fun v23 wc => v23 = .bool (decide (ls ≤ gone + ap)) ∧ Hid (TS w (s1, s2) (.slice Ap l.length cp) st w0 a1 a2 (.slice A o.length c) o wc))
    case first =>
      by_cases hmx : ls = maxI
      · rw [lv_neg hmx] at HKL
        have hd : decide (ls ≤ gone + ap) = false := by
          rw [decide_eq_false_iff_not, hmx]
          unfold maxI
          omega
        have HD := Lib.hid hd
        clear hd
        refine Rg.rgL (fun a b => Below a.heap.size a b)
          [(fun vs u => vs 0 = .int .i64 (-1)), (fun vs u => vs 1 = .bool false), (fun vs u => vs 2 = .bool false), (fun vs u => vs 3 = undef), (fun vs u => vs 4 = undef), (fun vs u => vs 5 = undef), (fun vs u => vs 6 = undef), (fun vs u => vs 7 = undef), (fun vs u => vs 8 = undef)]
          [[], [0], [0, 1], [0, 1, 2], [0, 1, 2], [0, 1, 2], [0, 1, 2, 4, 5], [0, 1, 2, 3, 4, 5, 6], [0, 1, 2]] [some 13, some 14, some 15, some 16, some 17, some 18, some 19, some 20, some 21, some 22, some 23] [] (fun _ _ => True) [[], [0], [0, 1], [0, 1, 2], [0, 1, 2], [0, 1, 2], [0, 1, 2, 4, 5], [0, 1, 2, 3, 4, 5, 6], [0, 1, 2], [0, 1, 2, 3, 4, 5, 6, 7, 8], [0, 1, 2, 3, 4, 5, 6, 7, 8, 9]]
          (by kernel_rfl) (by decide) (by kernel_rfl) (by kernel_rfl) (by kernel_rfl) (by kernel_rfl) (by kernel_rfl) (fun _ => Below.refl _ _) (fun _ _ _ h k => h.ext k) (fun _ _ h => h.size) ?_ trivial ?_ ?_
        · intro t ht vs w w' h hE
          simp only [List.mem_cons, List.not_mem_nil, or_false] at ht
          rcases ht with rfl | rfl | rfl | rfl | rfl | rfl | rfl | rfl | rfl
          · exact h
          · exact h
          · exact h
          · exact h
          · exact h
          · exact h
          · exact h
          · exact h
          · exact h
        ·
          refine Rg.cons 0 1 rfl (Rg.plain rfl ?_) ?_
          · intro vs W n hn hI hG hT hF K hK
            simp only [Rg.putsD, List.getD_cons_zero, List.getD_cons_succ, Act.put, List.setIfInBounds_toArray, List.set_cons_zero, List.set_cons_succ] at hK ⊢
            clear hn
            clear hF hI
            have c0 := cell_of_blk (blk_below hG HKL.out) 0
            simp at c0
            have H := Lib.hid hK
            clear hK hT
            go_simp
            exact H.out _ _ (Below.refl _ _) rfl (fun h => by cases h) trivial
          refine Rg.cons 1 2 rfl (Rg.plain rfl ?_) ?_
          · intro vs W n hn hI hG hT hF K hK
            simp only [Rg.putsD, List.getD_cons_zero, List.getD_cons_succ, Act.put, List.setIfInBounds_toArray, List.set_cons_zero, List.set_cons_succ] at hK ⊢
            clear hn
            clear hF hI
            have t0 : vs 0 = .int .i64 (-1) := hT 0 (by decide)
            simp only [t0] at hK
            have H := Lib.hid hK
            clear hK hT
            go_simp
            exact H.out _ _ (Below.refl _ _) rfl (fun h => by cases h) trivial
          refine Rg.cons 2 3 rfl (Rg.plain rfl ?_) ?_
          · intro vs W n hn hI hG hT hF K hK
            simp only [Rg.putsD, List.getD_cons_zero, List.getD_cons_succ, Act.put, List.setIfInBounds_toArray, List.set_cons_zero, List.set_cons_succ] at hK ⊢
            clear hn
            clear hF hI
            have t0 : vs 0 = .int .i64 (-1) := hT 0 (by decide)
            have t1 : vs 1 = .bool false := hT 1 (by decide)
            simp only [t0, t1] at hK
            have H := Lib.hid hK
            clear hK hT
            go_simp
            exact H.out _ _ (Below.refl _ _) rfl (fun h => by cases h) trivial
          refine Rg.cons 3 4 rfl (Rg.skipped (fun _ => Below.refl _ _) (fun _ _ => rfl) (by decide) (fun _ _ h => h) ?_) ?_
          · intro vs W hT
            have tg : vs 2 = .bool false := hT 2 (by decide)
            simp only [Rg.putsD, List.getD_cons_zero, List.getD_cons_succ, Act.put, List.setIfInBounds_toArray, List.set_cons_zero, List.set_cons_succ, tg]
            rfl
          refine Rg.cons 4 5 rfl (Rg.skipped (fun _ => Below.refl _ _) (fun _ _ => rfl) (by decide) (fun _ _ h => h) ?_) ?_
          · intro vs W hT
            have tg : vs 2 = .bool false := hT 2 (by decide)
            simp only [Rg.putsD, List.getD_cons_zero, List.getD_cons_succ, Act.put, List.setIfInBounds_toArray, List.set_cons_zero, List.set_cons_succ, tg]
            rfl
          refine Rg.cons 5 6 rfl (Rg.skipped (fun _ => Below.refl _ _) (fun _ _ => rfl) (by decide) (fun _ _ h => h) ?_) ?_
          · intro vs W hT
            have tg : vs 2 = .bool false := hT 2 (by decide)
            simp only [Rg.putsD, List.getD_cons_zero, List.getD_cons_succ, Act.put, List.setIfInBounds_toArray, List.set_cons_zero, List.set_cons_succ, tg]
            rfl
          refine Rg.cons 6 7 rfl (Rg.skipped (fun _ => Below.refl _ _) (fun _ _ => rfl) (by decide) (fun _ _ h => h) ?_) ?_
          · intro vs W hT
            have tg : vs 2 = .bool false := hT 2 (by decide)
            simp only [Rg.putsD, List.getD_cons_zero, List.getD_cons_succ, Act.put, List.setIfInBounds_toArray, List.set_cons_zero, List.set_cons_succ, tg]
            rfl
          refine Rg.cons 7 8 rfl (Rg.skipped (fun _ => Below.refl _ _) (fun _ _ => rfl) (by decide) (fun _ _ h => h) ?_) ?_
          · intro vs W hT
            have tg : vs 2 = .bool false := hT 2 (by decide)
            simp only [Rg.putsD, List.getD_cons_zero, List.getD_cons_succ, Act.put, List.setIfInBounds_toArray, List.set_cons_zero, List.set_cons_succ, tg]
            rfl
          refine Rg.cons 8 9 rfl (Rg.skipped (fun _ => Below.refl _ _) (fun _ _ => rfl) (by decide) (fun _ _ h => h) ?_) ?_
          · intro vs W hT
            have tg : vs 2 = .bool false := hT 2 (by decide)
            simp only [Rg.putsD, List.getD_cons_zero, List.getD_cons_succ, Act.put, List.setIfInBounds_toArray, List.set_cons_zero, List.set_cons_succ, tg]
            rfl
          exact Rg.nil
        · intro vs W hG hI hT hF
          have t0 : vs 0 = .int .i64 (-1) := hT 0 (by decide)
          have t1 : vs 1 = .bool false := hT 1 (by decide)
          have t2 : vs 2 = .bool false := hT 2 (by decide)
          have t3 : vs 3 = undef := hT 3 (by decide)
          have t4 : vs 4 = undef := hT 4 (by decide)
          have t5 : vs 5 = undef := hT 5 (by decide)
          have t6 : vs 6 = undef := hT 6 (by decide)
          have t7 : vs 7 = undef := hT 7 (by decide)
          have t8 : vs 8 = undef := hT 8 (by decide)
          simp only [List.length_cons, List.length_nil, Nat.reduceAdd, List.range, List.range.loop, List.drop_succ_cons, List.drop_zero, Rg.putsD, List.getD_cons_zero, List.getD_cons_succ, Act.put, List.setIfInBounds_toArray, List.set_cons_zero, List.set_cons_succ, t0, t1, t2, t3, t4, t5, t6, t7, t8]
          clear hT t0 t1 t2 t3 t4 t5 t6 t7 t8
          have H1 := Lib.hid (H0.out.drew.below hG)
          clear hF hI hG H0 HKL CD0
          go_wp2_with fail
          go_meet
          exact ⟨by rw [HD.out], H1⟩
      · rw [lv_pos hmx] at HKL
        have hge : (ls ≥ 0) := hst0
        refine Rg.rgL (fun a b => Below a.heap.size a b)
          [(fun vs u => vs 0 = .int .i64 ls), (fun vs u => vs 1 = .bool true), (fun vs u => vs 2 = .bool true), (fun vs u => vs 3 = .int .i64 gone), (fun vs u => vs 4 = .agg #[.int .i64 a1, .int .i64 a2]), (fun vs u => vs 5 = .agg #[.int .i64 s1, .int .i64 s2]), (fun vs u => vs 6 = .int .i64 ap), (fun vs u => vs 7 = .int .i64 (gone + ap)), (fun vs u => vs 8 = .int .i64 ls)]
          [[], [0], [0, 1], [0, 1, 2], [0, 1, 2], [0, 1, 2], [0, 1, 2, 4, 5], [0, 1, 2, 3, 4, 5, 6], [0, 1, 2]] [some 13, some 14, some 15, some 16, some 17, some 18, some 19, some 20, some 21, some 22, some 23] [] (fun _ _ => True) [[], [0], [0, 1], [0, 1, 2], [0, 1, 2], [0, 1, 2], [0, 1, 2, 4, 5], [0, 1, 2, 3, 4, 5, 6], [0, 1, 2], [0, 1, 2, 3, 4, 5, 6, 7, 8], [0, 1, 2, 3, 4, 5, 6, 7, 8, 9]]
          (by kernel_rfl) (by decide) (by kernel_rfl) (by kernel_rfl) (by kernel_rfl) (by kernel_rfl) (by kernel_rfl) (fun _ => Below.refl _ _) (fun _ _ _ h k => h.ext k) (fun _ _ h => h.size) ?_ trivial ?_ ?_
        · intro t ht vs w w' h hE
          simp only [List.mem_cons, List.not_mem_nil, or_false] at ht
          rcases ht with rfl | rfl | rfl | rfl | rfl | rfl | rfl | rfl | rfl
          · exact h
          · exact h
          · exact h
          · exact h
          · exact h
          · exact h
          · exact h
          · exact h
          · exact h
        ·
          refine Rg.cons 0 1 rfl (Rg.plain rfl ?_) ?_
          · intro vs W n hn hI hG hT hF K hK
            simp only [Rg.putsD, List.getD_cons_zero, List.getD_cons_succ, Act.put, List.setIfInBounds_toArray, List.set_cons_zero, List.set_cons_succ] at hK ⊢
            clear hn
            clear hF hI
            have c0 := cell_of_blk (blk_below hG HKL.out) 0
            simp at c0
            have H := Lib.hid hK
            clear hK hT
            go_simp
            exact H.out _ _ (Below.refl _ _) rfl (fun h => by cases h) trivial
          refine Rg.cons 1 2 rfl (Rg.plain rfl ?_) ?_
          · intro vs W n hn hI hG hT hF K hK
            simp only [Rg.putsD, List.getD_cons_zero, List.getD_cons_succ, Act.put, List.setIfInBounds_toArray, List.set_cons_zero, List.set_cons_succ] at hK ⊢
            clear hn
            clear hF hI
            have t0 : vs 0 = .int .i64 ls := hT 0 (by decide)
            simp only [t0] at hK
            have H := Lib.hid hK
            clear hK hT
            go_simp
            exact H.out _ _ (Below.refl _ _) rfl (fun h => by cases h) trivial
          refine Rg.cons 2 3 rfl (Rg.plain rfl ?_) ?_
          · intro vs W n hn hI hG hT hF K hK
            simp only [Rg.putsD, List.getD_cons_zero, List.getD_cons_succ, Act.put, List.setIfInBounds_toArray, List.set_cons_zero, List.set_cons_succ] at hK ⊢
            clear hn
            clear hF hI
            have t0 : vs 0 = .int .i64 ls := hT 0 (by decide)
            have t1 : vs 1 = .bool true := hT 1 (by decide)
            simp only [t0, t1] at hK
            have H := Lib.hid hK
            clear hK hT
            go_simp
            exact H.out _ _ (Below.refl _ _) rfl (fun h => by cases h) trivial
          refine Rg.cons 3 4 rfl (Rg.guarded ?_ ?_) ?_
          · intro vs W hT
            have tg : vs 2 = .bool true := hT 2 (by decide)
            simp only [Rg.putsD, List.getD_cons_zero, List.getD_cons_succ, Act.put, List.setIfInBounds_toArray, List.set_cons_zero, List.set_cons_succ, tg]
            rfl
          · intro vs W n hn hI hG hT hF K hK
            simp only [Rg.putsD, List.getD_cons_zero, List.getD_cons_succ, Act.put, List.setIfInBounds_toArray, List.set_cons_zero, List.set_cons_succ] at hK ⊢
            clear hn
            clear hF hI
            have t0 : vs 0 = .int .i64 ls := hT 0 (by decide)
            have t1 : vs 1 = .bool true := hT 1 (by decide)
            have t2 : vs 2 = .bool true := hT 2 (by decide)
            simp only [t0, t1, t2] at hK
            have H := Lib.hid hK
            clear hK hT
            go_simp
            exact H.out _ _ (Below.refl _ _) rfl (fun h => by cases h) trivial
          refine Rg.cons 4 5 rfl (Rg.guarded ?_ ?_) ?_
          · intro vs W hT
            have tg : vs 2 = .bool true := hT 2 (by decide)
            simp only [Rg.putsD, List.getD_cons_zero, List.getD_cons_succ, Act.put, List.setIfInBounds_toArray, List.set_cons_zero, List.set_cons_succ, tg]
            rfl
          · intro vs W n hn hI hG hT hF K hK
            simp only [Rg.putsD, List.getD_cons_zero, List.getD_cons_succ, Act.put, List.setIfInBounds_toArray, List.set_cons_zero, List.set_cons_succ] at hK ⊢
            clear hn
            clear hF hI
            have t0 : vs 0 = .int .i64 ls := hT 0 (by decide)
            have t1 : vs 1 = .bool true := hT 1 (by decide)
            have t2 : vs 2 = .bool true := hT 2 (by decide)
            obtain ⟨c0, c1, _, _⟩ := blk2 (blk_below hG H0.out.at_)
            have hgl := lt_of_blk (blk_below hG H0.out.at_)
            simp only [t0, t1, t2] at hK
            have H := Lib.hid hK
            clear hK hT
            go_simp
            exact H.out _ _ (Below.refl _ _) rfl (fun h => by cases h) trivial
          refine Rg.cons 5 6 rfl (Rg.guarded ?_ ?_) ?_
          · intro vs W hT
            have tg : vs 2 = .bool true := hT 2 (by decide)
            simp only [Rg.putsD, List.getD_cons_zero, List.getD_cons_succ, Act.put, List.setIfInBounds_toArray, List.set_cons_zero, List.set_cons_succ, tg]
            rfl
          · intro vs W n hn hI hG hT hF K hK
            simp only [Rg.putsD, List.getD_cons_zero, List.getD_cons_succ, Act.put, List.setIfInBounds_toArray, List.set_cons_zero, List.set_cons_succ] at hK ⊢
            clear hn
            clear hF hI
            have t0 : vs 0 = .int .i64 ls := hT 0 (by decide)
            have t1 : vs 1 = .bool true := hT 1 (by decide)
            have t2 : vs 2 = .bool true := hT 2 (by decide)
            obtain ⟨c0, c1, _, _⟩ := blk2 (blk_below hG H0.out.vr.k0)
            simp only [t0, t1, t2] at hK
            have H := Lib.hid hK
            clear hK hT
            go_simp
            exact H.out _ _ (Below.refl _ _) rfl (fun h => by cases h) trivial
          refine Rg.cons 6 7 rfl (Rg.guarded ?_ ?_) ?_
          · intro vs W hT
            have tg : vs 2 = .bool true := hT 2 (by decide)
            simp only [Rg.putsD, List.getD_cons_zero, List.getD_cons_succ, Act.put, List.setIfInBounds_toArray, List.set_cons_zero, List.set_cons_succ, tg]
            rfl
          · intro vs W n hn hI hG hT hF K hK
            simp only [Rg.putsD, List.getD_cons_zero, List.getD_cons_succ, Act.put, List.setIfInBounds_toArray, List.set_cons_zero, List.set_cons_succ] at hK ⊢
            clear hn
            clear hF hI
            have t0 : vs 0 = .int .i64 ls := hT 0 (by decide)
            have t1 : vs 1 = .bool true := hT 1 (by decide)
            have t2 : vs 2 = .bool true := hT 2 (by decide)
            have t4 : vs 4 = .agg #[.int .i64 a1, .int .i64 a2] := hT 4 (by decide)
            have t5 : vs 5 = .agg #[.int .i64 s1, .int .i64 s2] := hT 5 (by decide)
            have HG := Lib.hid hG
            clear hG
            simp only [t0, t1, t2, t4, t5] at hK
            have H := Lib.hid hK
            clear hK hT
            go_simp
            refine (CD0.out _).mono ?_
            rintro e w6 ⟨rfl, b6⟩
            exact H.out _ _ b6 rfl (fun h => by cases h) trivial
          refine Rg.cons 7 8 rfl (Rg.guarded ?_ ?_) ?_
          · intro vs W hT
            have tg : vs 2 = .bool true := hT 2 (by decide)
            simp only [Rg.putsD, List.getD_cons_zero, List.getD_cons_succ, Act.put, List.setIfInBounds_toArray, List.set_cons_zero, List.set_cons_succ, tg]
            rfl
          · intro vs W n hn hI hG hT hF K hK
            simp only [Rg.putsD, List.getD_cons_zero, List.getD_cons_succ, Act.put, List.setIfInBounds_toArray, List.set_cons_zero, List.set_cons_succ] at hK ⊢
            clear hn
            clear hF hI
            have t0 : vs 0 = .int .i64 ls := hT 0 (by decide)
            have t1 : vs 1 = .bool true := hT 1 (by decide)
            have t2 : vs 2 = .bool true := hT 2 (by decide)
            have t3 : vs 3 = .int .i64 gone := hT 3 (by decide)
            have t4 : vs 4 = .agg #[.int .i64 a1, .int .i64 a2] := hT 4 (by decide)
            have t5 : vs 5 = .agg #[.int .i64 s1, .int .i64 s2] := hT 5 (by decide)
            have t6 : vs 6 = .int .i64 ap := hT 6 (by decide)
            simp only [t0, t1, t2, t3, t4, t5, t6] at hK
            have H := Lib.hid hK
            clear hK hT
            go_simp
            have hw : IntKind.i64.wrap (gone + ap) = gone + ap := IntWalk.i64_in _ (by omega)
            rw [hw]
            exact H.out _ _ (Below.refl _ _) rfl (fun h => by cases h) trivial
          refine Rg.cons 8 9 rfl (Rg.guarded ?_ ?_) ?_
          · intro vs W hT
            have tg : vs 2 = .bool true := hT 2 (by decide)
            simp only [Rg.putsD, List.getD_cons_zero, List.getD_cons_succ, Act.put, List.setIfInBounds_toArray, List.set_cons_zero, List.set_cons_succ, tg]
            rfl
          · intro vs W n hn hI hG hT hF K hK
            simp only [Rg.putsD, List.getD_cons_zero, List.getD_cons_succ, Act.put, List.setIfInBounds_toArray, List.set_cons_zero, List.set_cons_succ] at hK ⊢
            clear hn
            clear hF hI
            have t0 : vs 0 = .int .i64 ls := hT 0 (by decide)
            have t1 : vs 1 = .bool true := hT 1 (by decide)
            have t2 : vs 2 = .bool true := hT 2 (by decide)
            have c0 := cell_of_blk (blk_below hG HKL.out) 0
            simp at c0
            simp only [t0, t1, t2] at hK
            have H := Lib.hid hK
            clear hK hT
            go_simp
            exact H.out _ _ (Below.refl _ _) rfl (fun h => by cases h) trivial
          exact Rg.nil
        · intro vs W hG hI hT hF
          have t0 : vs 0 = .int .i64 ls := hT 0 (by decide)
          have t1 : vs 1 = .bool true := hT 1 (by decide)
          have t2 : vs 2 = .bool true := hT 2 (by decide)
          have t3 : vs 3 = .int .i64 gone := hT 3 (by decide)
          have t4 : vs 4 = .agg #[.int .i64 a1, .int .i64 a2] := hT 4 (by decide)
          have t5 : vs 5 = .agg #[.int .i64 s1, .int .i64 s2] := hT 5 (by decide)
          have t6 : vs 6 = .int .i64 ap := hT 6 (by decide)
          have t7 : vs 7 = .int .i64 (gone + ap) := hT 7 (by decide)
          have t8 : vs 8 = .int .i64 ls := hT 8 (by decide)
          simp only [List.length_cons, List.length_nil, Nat.reduceAdd, List.range, List.range.loop, List.drop_succ_cons, List.drop_zero, Rg.putsD, List.getD_cons_zero, List.getD_cons_succ, Act.put, List.setIfInBounds_toArray, List.set_cons_zero, List.set_cons_succ, t0, t1, t2, t3, t4, t5, t6, t7, t8]
          clear hT t0 t1 t2 t3 t4 t5 t6 t7 t8
          have H1 := Lib.hid (H0.out.drew.below hG)
          clear hF hI hG H0 HKL CD0
          go_wp2_with fail
          go_meet
          exact ⟨by simp, H1⟩
    case rest =>
      obtain ⟨rfl, H1⟩ := hcut
      clear H0 HKL
      by_cases hcut : ls ≤ gone + ap
      · have HF := Lib.hid (HCUT.out hcut)
        have hd : decide (ls ≤ gone + ap) = true := decide_eq_true hcut
        simp only [hd]
        go_wp2_with fail
        refine bodyPost_ret (v := .tuple #[]) (by unfold results; simp only [Try.results42]; go_simp) rfl ⟨rfl, by rw [HF.out]; exact H1.out.vr, H1.out.kept⟩
      have HF := Lib.hid (HMORE.out hcut)
      have hd : decide (ls ≤ gone + ap) = false := decide_eq_false hcut
      simp only [hd]
      clear hd
      have hne : ((o.length : Int) == (l.length : Int)) = true := beq_iff_eq.mpr (by omega)
      have c1 := cell_of_blk H1.out.vr.k1 0
      simp at c1
      obtain ⟨c0, c00, _, _⟩ := blk2 H1.out.at_
      obtain ⟨d0, d00, _, _⟩ := blk2 H1.out.vr.k0
      have hla := lt_of_blk H1.out.at_
      have hl0 := lt_of_blk H1.out.vr.k0
      clear HLS HMORE HCUT
      go_wp2_with fail
      refine (CD0.out _).mono ?_
      rintro e w6 ⟨rfl, b6⟩
      have H6 := Lib.hid (H1.out.below b6)
      clear b6 H1 c0 c00 d0 d00 hla hl0 c1
      obtain ⟨Ab, cb, r1, r2⟩ := H6.out.vr.rows
      have kl := H6.out.vr.kl
      have f2 := frozen_of_blk r1 0
      have f3 := frozen_of_blk kl 0
      have l2 := lt_of_blk r1
      have l3 := lt_of_blk kl
      have c2 := cell_of_blk r1 0
      have c3 := cell_of_blk kl 0
      simp at c2 c3
      have HE : Hid (VR w (s1, s2) (.slice Ap l.length cp) (o, gone + ap) ((w6.setCell ⟨w.heap.size + 2, 0, none⟩ (.slice A o.length c)).setCell ⟨w.heap.size + 3, 0, none⟩ (.int .i64 (gone + ap))) ∧ Kept2 (w.heap.size + 2) (w.heap.size + 3) w0 ((w6.setCell ⟨w.heap.size + 2, 0, none⟩ (.slice A o.length c)).setCell ⟨w.heap.size + 3, 0, none⟩ (.int .i64 (gone + ap)))) := by
        have hm : ¬ gone + ap = maxI := by unfold maxI; omega
        refine ⟨⟨(H6.out.vr.bel.setCell (by show _ ≤ w.heap.size + 2; omega) _).setCell (by show _ ≤ w.heap.size + 3; omega) _, ?_, ?_, ?_, ?_, ⟨A, c, ?_, ?_⟩, ?_⟩, ?_⟩
        · exact blk_far (blk_far H6.out.vr.k0 (by show _ ≠ w.heap.size + 2; omega) _) (by show _ ≠ w.heap.size + 3; omega) _
        · exact blk_far (blk_far H6.out.vr.k1 (by show _ ≠ w.heap.size + 2; omega) _) (by show _ ≠ w.heap.size + 3; omega) _
        · exact blk_far (blk_far H6.out.vr.kv (by show _ ≠ w.heap.size + 2; omega) _) (by show _ ≠ w.heap.size + 3; omega) _
        · rw [lv_pos hm]
          exact blk_set (blk_far kl (by show _ ≠ w.heap.size + 2; omega) _) _
        · exact blk_far (blk_set r1 _) (by show _ ≠ w.heap.size + 3; omega) _
        · exact own_far (own_far H6.out.row (by show w.heap.size + 2 < _; omega) _) (by show w.heap.size + 3 < _; omega) _
        · have := H6.out.vr.big
          simpa [World.setCell] using this
        · obtain ⟨k1, k2, k3⟩ := H6.out.kept
          refine ⟨k1, by simpa [World.setCell] using k2, fun i hi h1 h2 => ?_⟩
          rw [← k3 i hi h1 h2]
          rw [Below.heap_setCell _ _ _ _ (by show i ≠ w.heap.size + 3; exact h2), Below.heap_setCell _ _ _ _ (by show i ≠ w.heap.size + 2; exact h1)]
      clear r1 r2 kl H6
      go_wp2_with fail
      generalize (w6.setCell ⟨w.heap.size + 2, 0, none⟩ (.slice A o.length c)).setCell ⟨w.heap.size + 3, 0, none⟩ (.int .i64 (gone + ap)) = w7 at *
      refine bodyPost_ret (v := .tuple #[]) (by unfold results; simp only [Try.results42]; go_simp) rfl ⟨rfl, by rw [HF.out]; exact HE.out.1, HE.out.2⟩
  | succ f ih =>
    intro o gone st w0 A c hof hg0 hg1 hst0 hV hown hA
    have HR := Lib.hid h1
    have HL := Lib.hid hl
    have HSP := Lib.hid hs
    have IH := Lib.hid ih
    have CD := Lib.hid (fun a b ha hb W => apart_any a b ha hb W)
    have hAO := atOf_ok (s := s) (l := l) hs hl o
    obtain ⟨hap0, hap1⟩ := apart_bd hAO hs
    have CD0 := Lib.hid (fun W => CD.out (atOf s l o) s hAO hs W)
    have HCUT := Lib.hid (@vis_cut s l (f + 1) o gone st)
    have HMORE := Lib.hid (@vis_more s l f o gone st)
    have HTN := Lib.hid (fun k => visT_nn hs hl f o gone st hg0 hst0 k)
    have HTS := Lib.hid (fun k => visT_succ s l f o gone st k)
    clear h1 hl ih
    obtain ⟨a, ha⟩ : ∃ a, atOf s l o = a := ⟨_, rfl⟩
    rw [ha] at CD0 HCUT HMORE hap0 hap1 hAO ⊢
    have HAT := Lib.hid ha
    clear ha
    obtain ⟨a1, a2⟩ := a
    dsimp only
    have H0 : Hid (TS w s (.slice Ap l.length cp) st w0 a1 a2 (.slice A o.length c) o (w0.alloc (.cells #[.int .i64 a1, .int .i64 a2] 27))) :=
      ⟨hV.below ((Below.refl _ _).alloc (Nat.le_refl _) _), blk_new w0 _ rfl, Kept2.of_below ((Below.refl _ _).alloc (Nat.le_refl _) _), hown.alloc _⟩
    obtain ⟨s1, s2⟩ := s
    dsimp only at CD0
    generalize apart (a1, a2) (s1, s2) = ap at *
    have hbig := hV.big
    have HON := Lib.hid hown
    go_enter Try.func42, Try.ntmps42
    go_upto_region 1 with (fail)
    clear hV hown
    generalize w0.alloc (.cells #[.int .i64 a1, .int .i64 a2] 27) = wx at *
    have hxl := lt_of_blk H0.out.at_
    obtain ⟨ls, hls⟩ : ∃ x, st.2 = x := ⟨_, rfl⟩
    have HKL : Hid (wx.heap[w.heap.size + 3]? = some (.cells #[.int .i64 (lv ls)] 3 (0, 0))) := by have := H0.out.vr.kl; rw [hls] at this; exact this
    rw [hls] at HCUT HMORE hst0
    have HLS := Lib.hid hls
    clear hls
    have hgb : gone ≤ 1000000000 := by omega
    go_cut [23] (fun v23 wc => v23 = .bool (decide (ls ≤ gone + ap)) ∧ Hid (TS w (s1, s2) (.slice Ap l.length cp) st w0 a1 a2 (.slice A o.length c) o wc))
    case first =>
      by_cases hmx : ls = maxI
      · rw [lv_neg hmx] at HKL
        have hd : decide (ls ≤ gone + ap) = false := by
          rw [decide_eq_false_iff_not, hmx]
          unfold maxI
          omega
        have HD := Lib.hid hd
        clear hd
        refine Rg.rgL (fun a b => Below a.heap.size a b)
          [(fun vs u => vs 0 = .int .i64 (-1)), (fun vs u => vs 1 = .bool false), (fun vs u => vs 2 = .bool false), (fun vs u => vs 3 = undef), (fun vs u => vs 4 = undef), (fun vs u => vs 5 = undef), (fun vs u => vs 6 = undef), (fun vs u => vs 7 = undef), (fun vs u => vs 8 = undef)]
          [[], [0], [0, 1], [0, 1, 2], [0, 1, 2], [0, 1, 2], [0, 1, 2, 4, 5], [0, 1, 2, 3, 4, 5, 6], [0, 1, 2]] [some 13, some 14, some 15, some 16, some 17, some 18, some 19, some 20, some 21, some 22, some 23] [] (fun _ _ => True) [[], [0], [0, 1], [0, 1, 2], [0, 1, 2], [0, 1, 2], [0, 1, 2, 4, 5], [0, 1, 2, 3, 4, 5, 6], [0, 1, 2], [0, 1, 2, 3, 4, 5, 6, 7, 8], [0, 1, 2, 3, 4, 5, 6, 7, 8, 9]]
          (by kernel_rfl) (by decide) (by kernel_rfl) (by kernel_rfl) (by kernel_rfl) (by kernel_rfl) (by kernel_rfl) (fun _ => Below.refl _ _) (fun _ _ _ h k => h.ext k) (fun _ _ h => h.size) ?_ trivial ?_ ?_
        · intro t ht vs w w' h hE
          simp only [List.mem_cons, List.not_mem_nil, or_false] at ht
          rcases ht with rfl | rfl | rfl | rfl | rfl | rfl | rfl | rfl | rfl
          · exact h
          · exact h
          · exact h
          · exact h
          · exact h
          · exact h
          · exact h
          · exact h
          · exact h
        ·
          refine Rg.cons 0 1 rfl (Rg.plain rfl ?_) ?_
          · intro vs W n hn hI hG hT hF K hK
            simp only [Rg.putsD, List.getD_cons_zero, List.getD_cons_succ, Act.put, List.setIfInBounds_toArray, List.set_cons_zero, List.set_cons_succ] at hK ⊢
            clear hn
            clear hF hI
            have c0 := cell_of_blk (blk_below hG HKL.out) 0
            simp at c0
            have H := Lib.hid hK
            clear hK hT
            go_simp
            exact H.out _ _ (Below.refl _ _) rfl (fun h => by cases h) trivial
          refine Rg.cons 1 2 rfl (Rg.plain rfl ?_) ?_
          · intro vs W n hn hI hG hT hF K hK
            simp only [Rg.putsD, List.getD_cons_zero, List.getD_cons_succ, Act.put, List.setIfInBounds_toArray, List.set_cons_zero, List.set_cons_succ] at hK ⊢
            clear hn
            clear hF hI
            have t0 : vs 0 = .int .i64 (-1) := hT 0 (by decide)
            simp only [t0] at hK
            have H := Lib.hid hK
            clear hK hT
            go_simp
            exact H.out _ _ (Below.refl _ _) rfl (fun h => by cases h) trivial
          refine Rg.cons 2 3 rfl (Rg.plain rfl ?_) ?_
          · intro vs W n hn hI hG hT hF K hK
            simp only [Rg.putsD, List.getD_cons_zero, List.getD_cons_succ, Act.put, List.setIfInBounds_toArray, List.set_cons_zero, List.set_cons_succ] at hK ⊢
            clear hn
            clear hF hI
            have t0 : vs 0 = .int .i64 (-1) := hT 0 (by decide)
            have t1 : vs 1 = .bool false := hT 1 (by decide)
            simp only [t0, t1] at hK
            have H := Lib.hid hK
            clear hK hT
            go_simp
            exact H.out _ _ (Below.refl _ _) rfl (fun h => by cases h) trivial
          refine Rg.cons 3 4 rfl (Rg.skipped (fun _ => Below.refl _ _) (fun _ _ => rfl) (by decide) (fun _ _ h => h) ?_) ?_
          · intro vs W hT
            have tg : vs 2 = .bool false := hT 2 (by decide)
            simp only [Rg.putsD, List.getD_cons_zero, List.getD_cons_succ, Act.put, List.setIfInBounds_toArray, List.set_cons_zero, List.set_cons_succ, tg]
            rfl
          refine Rg.cons 4 5 rfl (Rg.skipped (fun _ => Below.refl _ _) (fun _ _ => rfl) (by decide) (fun _ _ h => h) ?_) ?_
          · intro vs W hT
            have tg : vs 2 = .bool false := hT 2 (by decide)
            simp only [Rg.putsD, List.getD_cons_zero, List.getD_cons_succ, Act.put, List.setIfInBounds_toArray, List.set_cons_zero, List.set_cons_succ, tg]
            rfl
          refine Rg.cons 5 6 rfl (Rg.skipped (fun _ => Below.refl _ _) (fun _ _ => rfl) (by decide) (fun _ _ h => h) ?_) ?_
          · intro vs W hT
            have tg : vs 2 = .bool false := hT 2 (by decide)
            simp only [Rg.putsD, List.getD_cons_zero, List.getD_cons_succ, Act.put, List.setIfInBounds_toArray, List.set_cons_zero, List.set_cons_succ, tg]
            rfl
          refine Rg.cons 6 7 rfl (Rg.skipped (fun _ => Below.refl _ _) (fun _ _ => rfl) (by decide) (fun _ _ h => h) ?_) ?_
          · intro vs W hT
            have tg : vs 2 = .bool false := hT 2 (by decide)
            simp only [Rg.putsD, List.getD_cons_zero, List.getD_cons_succ, Act.put, List.setIfInBounds_toArray, List.set_cons_zero, List.set_cons_succ, tg]
            rfl
          refine Rg.cons 7 8 rfl (Rg.skipped (fun _ => Below.refl _ _) (fun _ _ => rfl) (by decide) (fun _ _ h => h) ?_) ?_
          · intro vs W hT
            have tg : vs 2 = .bool false := hT 2 (by decide)
            simp only [Rg.putsD, List.getD_cons_zero, List.getD_cons_succ, Act.put, List.setIfInBounds_toArray, List.set_cons_zero, List.set_cons_succ, tg]
            rfl
          refine Rg.cons 8 9 rfl (Rg.skipped (fun _ => Below.refl _ _) (fun _ _ => rfl) (by decide) (fun _ _ h => h) ?_) ?_
          · intro vs W hT
            have tg : vs 2 = .bool false := hT 2 (by decide)
            simp only [Rg.putsD, List.getD_cons_zero, List.getD_cons_succ, Act.put, List.setIfInBounds_toArray, List.set_cons_zero, List.set_cons_succ, tg]
            rfl
          exact Rg.nil
        · intro vs W hG hI hT hF
          have t0 : vs 0 = .int .i64 (-1) := hT 0 (by decide)
          have t1 : vs 1 = .bool false := hT 1 (by decide)
          have t2 : vs 2 = .bool false := hT 2 (by decide)
          have t3 : vs 3 = undef := hT 3 (by decide)
          have t4 : vs 4 = undef := hT 4 (by decide)
          have t5 : vs 5 = undef := hT 5 (by decide)
          have t6 : vs 6 = undef := hT 6 (by decide)
          have t7 : vs 7 = undef := hT 7 (by decide)
          have t8 : vs 8 = undef := hT 8 (by decide)
          simp only [List.length_cons, List.length_nil, Nat.reduceAdd, List.range, List.range.loop, List.drop_succ_cons, List.drop_zero, Rg.putsD, List.getD_cons_zero, List.getD_cons_succ, Act.put, List.setIfInBounds_toArray, List.set_cons_zero, List.set_cons_succ, t0, t1, t2, t3, t4, t5, t6, t7, t8]
          clear hT t0 t1 t2 t3 t4 t5 t6 t7 t8
          have H1 := Lib.hid (H0.out.drew.below hG)
          clear hF hI hG H0 HKL CD0
          go_wp2_with fail
          go_meet
          exact ⟨by rw [HD.out], H1⟩
      · rw [lv_pos hmx] at HKL
        have hge : (ls ≥ 0) := hst0
        refine Rg.rgL (fun a b => Below a.heap.size a b)
          [(fun vs u => vs 0 = .int .i64 ls), (fun vs u => vs 1 = .bool true), (fun vs u => vs 2 = .bool true), (fun vs u => vs 3 = .int .i64 gone), (fun vs u => vs 4 = .agg #[.int .i64 a1, .int .i64 a2]), (fun vs u => vs 5 = .agg #[.int .i64 s1, .int .i64 s2]), (fun vs u => vs 6 = .int .i64 ap), (fun vs u => vs 7 = .int .i64 (gone + ap)), (fun vs u => vs 8 = .int .i64 ls)]
          [[], [0], [0, 1], [0, 1, 2], [0, 1, 2], [0, 1, 2], [0, 1, 2, 4, 5], [0, 1, 2, 3, 4, 5, 6], [0, 1, 2]] [some 13, some 14, some 15, some 16, some 17, some 18, some 19, some 20, some 21, some 22, some 23] [] (fun _ _ => True) [[], [0], [0, 1], [0, 1, 2], [0, 1, 2], [0, 1, 2], [0, 1, 2, 4, 5], [0, 1, 2, 3, 4, 5, 6], [0, 1, 2], [0, 1, 2, 3, 4, 5, 6, 7, 8], [0, 1, 2, 3, 4, 5, 6, 7, 8, 9]]
          (by kernel_rfl) (by decide) (by kernel_rfl) (by kernel_rfl) (by kernel_rfl) (by kernel_rfl) (by kernel_rfl) (fun _ => Below.refl _ _) (fun _ _ _ h k => h.ext k) (fun _ _ h => h.size) ?_ trivial ?_ ?_
        · intro t ht vs w w' h hE
          simp only [List.mem_cons, List.not_mem_nil, or_false] at ht
          rcases ht with rfl | rfl | rfl | rfl | rfl | rfl | rfl | rfl | rfl
          · exact h
          · exact h
          · exact h
          · exact h
          · exact h
          · exact h
          · exact h
          · exact h
          · exact h
        ·
          refine Rg.cons 0 1 rfl (Rg.plain rfl ?_) ?_
          · intro vs W n hn hI hG hT hF K hK
            simp only [Rg.putsD, List.getD_cons_zero, List.getD_cons_succ, Act.put, List.setIfInBounds_toArray, List.set_cons_zero, List.set_cons_succ] at hK ⊢
            clear hn
            clear hF hI
            have c0 := cell_of_blk (blk_below hG HKL.out) 0
            simp at c0
            have H := Lib.hid hK
            clear hK hT
            go_simp
            exact H.out _ _ (Below.refl _ _) rfl (fun h => by cases h) trivial
          refine Rg.cons 1 2 rfl (Rg.plain rfl ?_) ?_
          · intro vs W n hn hI hG hT hF K hK
            simp only [Rg.putsD, List.getD_cons_zero, List.getD_cons_succ, Act.put, List.setIfInBounds_toArray, List.set_cons_zero, List.set_cons_succ] at hK ⊢
            clear hn
            clear hF hI
            have t0 : vs 0 = .int .i64 ls := hT 0 (by decide)
            simp only [t0] at hK
            have H := Lib.hid hK
            clear hK hT
            go_simp
            exact H.out _ _ (Below.refl _ _) rfl (fun h => by cases h) trivial
          refine Rg.cons 2 3 rfl (Rg.plain rfl ?_) ?_
          · intro vs W n hn hI hG hT hF K hK
            simp only [Rg.putsD, List.getD_cons_zero, List.getD_cons_succ, Act.put, List.setIfInBounds_toArray, List.set_cons_zero, List.set_cons_succ] at hK ⊢
            clear hn
            clear hF hI
            have t0 : vs 0 = .int .i64 ls := hT 0 (by decide)
            have t1 : vs 1 = .bool true := hT 1 (by decide)
            simp only [t0, t1] at hK
            have H := Lib.hid hK
            clear hK hT
            go_simp
            exact H.out _ _ (Below.refl _ _) rfl (fun h => by cases h) trivial
          refine Rg.cons 3 4 rfl (Rg.guarded ?_ ?_) ?_
          · intro vs W hT
            have tg : vs 2 = .bool true := hT 2 (by decide)
            simp only [Rg.putsD, List.getD_cons_zero, List.getD_cons_succ, Act.put, List.setIfInBounds_toArray, List.set_cons_zero, List.set_cons_succ, tg]
            rfl
          · intro vs W n hn hI hG hT hF K hK
            simp only [Rg.putsD, List.getD_cons_zero, List.getD_cons_succ, Act.put, List.setIfInBounds_toArray, List.set_cons_zero, List.set_cons_succ] at hK ⊢
            clear hn
            clear hF hI
            have t0 : vs 0 = .int .i64 ls := hT 0 (by decide)
            have t1 : vs 1 = .bool true := hT 1 (by decide)
            have t2 : vs 2 = .bool true := hT 2 (by decide)
            simp only [t0, t1, t2] at hK
            have H := Lib.hid hK
            clear hK hT
            go_simp
            exact H.out _ _ (Below.refl _ _) rfl (fun h => by cases h) trivial
          refine Rg.cons 4 5 rfl (Rg.guarded ?_ ?_) ?_
          · intro vs W hT
            have tg : vs 2 = .bool true := hT 2 (by decide)
            simp only [Rg.putsD, List.getD_cons_zero, List.getD_cons_succ, Act.put, List.setIfInBounds_toArray, List.set_cons_zero, List.set_cons_succ, tg]
            rfl
          · intro vs W n hn hI hG hT hF K hK
            simp only [Rg.putsD, List.getD_cons_zero, List.getD_cons_succ, Act.put, List.setIfInBounds_toArray, List.set_cons_zero, List.set_cons_succ] at hK ⊢
            clear hn
            clear hF hI
            have t0 : vs 0 = .int .i64 ls := hT 0 (by decide)
            have t1 : vs 1 = .bool true := hT 1 (by decide)
            have t2 : vs 2 = .bool true := hT 2 (by decide)
            obtain ⟨c0, c1, _, _⟩ := blk2 (blk_below hG H0.out.at_)
            have hgl := lt_of_blk (blk_below hG H0.out.at_)
            simp only [t0, t1, t2] at hK
            have H := Lib.hid hK
            clear hK hT
            go_simp
            exact H.out _ _ (Below.refl _ _) rfl (fun h => by cases h) trivial
          refine Rg.cons 5 6 rfl (Rg.guarded ?_ ?_) ?_
          · intro vs W hT
            have tg : vs 2 = .bool true := hT 2 (by decide)
            simp only [Rg.putsD, List.getD_cons_zero, List.getD_cons_succ, Act.put, List.setIfInBounds_toArray, List.set_cons_zero, List.set_cons_succ, tg]
            rfl
          · intro vs W n hn hI hG hT hF K hK
            simp only [Rg.putsD, List.getD_cons_zero, List.getD_cons_succ, Act.put, List.setIfInBounds_toArray, List.set_cons_zero, List.set_cons_succ] at hK ⊢
            clear hn
            clear hF hI
            have t0 : vs 0 = .int .i64 ls := hT 0 (by decide)
            have t1 : vs 1 = .bool true := hT 1 (by decide)
            have t2 : vs 2 = .bool true := hT 2 (by decide)
            obtain ⟨c0, c1, _, _⟩ := blk2 (blk_below hG H0.out.vr.k0)
            simp only [t0, t1, t2] at hK
            have H := Lib.hid hK
            clear hK hT
            go_simp
            exact H.out _ _ (Below.refl _ _) rfl (fun h => by cases h) trivial
          refine Rg.cons 6 7 rfl (Rg.guarded ?_ ?_) ?_
          · intro vs W hT
            have tg : vs 2 = .bool true := hT 2 (by decide)
            simp only [Rg.putsD, List.getD_cons_zero, List.getD_cons_succ, Act.put, List.setIfInBounds_toArray, List.set_cons_zero, List.set_cons_succ, tg]
            rfl
          · intro vs W n hn hI hG hT hF K hK
            simp only [Rg.putsD, List.getD_cons_zero, List.getD_cons_succ, Act.put, List.setIfInBounds_toArray, List.set_cons_zero, List.set_cons_succ] at hK ⊢
            clear hn
            clear hF hI
            have t0 : vs 0 = .int .i64 ls := hT 0 (by decide)
            have t1 : vs 1 = .bool true := hT 1 (by decide)
            have t2 : vs 2 = .bool true := hT 2 (by decide)
            have t4 : vs 4 = .agg #[.int .i64 a1, .int .i64 a2] := hT 4 (by decide)
            have t5 : vs 5 = .agg #[.int .i64 s1, .int .i64 s2] := hT 5 (by decide)
            have HG := Lib.hid hG
            clear hG
            simp only [t0, t1, t2, t4, t5] at hK
            have H := Lib.hid hK
            clear hK hT
            go_simp
            refine (CD0.out _).mono ?_
            rintro e w6 ⟨rfl, b6⟩
            exact H.out _ _ b6 rfl (fun h => by cases h) trivial
          refine Rg.cons 7 8 rfl (Rg.guarded ?_ ?_) ?_
          · intro vs W hT
            have tg : vs 2 = .bool true := hT 2 (by decide)
            simp only [Rg.putsD, List.getD_cons_zero, List.getD_cons_succ, Act.put, List.setIfInBounds_toArray, List.set_cons_zero, List.set_cons_succ, tg]
            rfl
          · intro vs W n hn hI hG hT hF K hK
            simp only [Rg.putsD, List.getD_cons_zero, List.getD_cons_succ, Act.put, List.setIfInBounds_toArray, List.set_cons_zero, List.set_cons_succ] at hK ⊢
            clear hn
            clear hF hI
            have t0 : vs 0 = .int .i64 ls := hT 0 (by decide)
            have t1 : vs 1 = .bool true := hT 1 (by decide)
            have t2 : vs 2 = .bool true := hT 2 (by decide)
            have t3 : vs 3 = .int .i64 gone := hT 3 (by decide)
            have t4 : vs 4 = .agg #[.int .i64 a1, .int .i64 a2] := hT 4 (by decide)
            have t5 : vs 5 = .agg #[.int .i64 s1, .int .i64 s2] := hT 5 (by decide)
            have t6 : vs 6 = .int .i64 ap := hT 6 (by decide)
            simp only [t0, t1, t2, t3, t4, t5, t6] at hK
            have H := Lib.hid hK
            clear hK hT
            go_simp
            have hw : IntKind.i64.wrap (gone + ap) = gone + ap := IntWalk.i64_in _ (by omega)
            rw [hw]
            exact H.out _ _ (Below.refl _ _) rfl (fun h => by cases h) trivial
          refine Rg.cons 8 9 rfl (Rg.guarded ?_ ?_) ?_
          · intro vs W hT
            have tg : vs 2 = .bool true := hT 2 (by decide)
            simp only [Rg.putsD, List.getD_cons_zero, List.getD_cons_succ, Act.put, List.setIfInBounds_toArray, List.set_cons_zero, List.set_cons_succ, tg]
            rfl
          · intro vs W n hn hI hG hT hF K hK
            simp only [Rg.putsD, List.getD_cons_zero, List.getD_cons_succ, Act.put, List.setIfInBounds_toArray, List.set_cons_zero, List.set_cons_succ] at hK ⊢
            clear hn
            clear hF hI
            have t0 : vs 0 = .int .i64 ls := hT 0 (by decide)
            have t1 : vs 1 = .bool true := hT 1 (by decide)
            have t2 : vs 2 = .bool true := hT 2 (by decide)
            have c0 := cell_of_blk (blk_below hG HKL.out) 0
            simp at c0
            simp only [t0, t1, t2] at hK
            have H := Lib.hid hK
            clear hK hT
            go_simp
            exact H.out _ _ (Below.refl _ _) rfl (fun h => by cases h) trivial
          exact Rg.nil
        · intro vs W hG hI hT hF
          have t0 : vs 0 = .int .i64 ls := hT 0 (by decide)
          have t1 : vs 1 = .bool true := hT 1 (by decide)
          have t2 : vs 2 = .bool true := hT 2 (by decide)
          have t3 : vs 3 = .int .i64 gone := hT 3 (by decide)
          have t4 : vs 4 = .agg #[.int .i64 a1, .int .i64 a2] := hT 4 (by decide)
          have t5 : vs 5 = .agg #[.int .i64 s1, .int .i64 s2] := hT 5 (by decide)
          have t6 : vs 6 = .int .i64 ap := hT 6 (by decide)
          have t7 : vs 7 = .int .i64 (gone + ap) := hT 7 (by decide)
          have t8 : vs 8 = .int .i64 ls := hT 8 (by decide)
          simp only [List.length_cons, List.length_nil, Nat.reduceAdd, List.range, List.range.loop, List.drop_succ_cons, List.drop_zero, Rg.putsD, List.getD_cons_zero, List.getD_cons_succ, Act.put, List.setIfInBounds_toArray, List.set_cons_zero, List.set_cons_succ, t0, t1, t2, t3, t4, t5, t6, t7, t8]
          clear hT t0 t1 t2 t3 t4 t5 t6 t7 t8
          have H1 := Lib.hid (H0.out.drew.below hG)
          clear hF hI hG H0 HKL CD0
          go_wp2_with fail
          go_meet
          exact ⟨by simp, H1⟩
    case rest =>
      obtain ⟨rfl, H1⟩ := hcut
      clear H0 HKL
      by_cases hcut : ls ≤ gone + ap
      · have HF := Lib.hid (HCUT.out hcut)
        have hd : decide (ls ≤ gone + ap) = true := decide_eq_true hcut
        simp only [hd]
        go_wp2_with fail
        refine bodyPost_ret (v := .tuple #[]) (by unfold results; simp only [Try.results42]; go_simp) rfl ⟨rfl, by rw [HF.out]; exact H1.out.vr, H1.out.kept⟩
      have HF := Lib.hid (HMORE.out hcut)
      have hd : decide (ls ≤ gone + ap) = false := decide_eq_false hcut
      simp only [hd]
      clear hd
      have hne : ((o.length : Int) == (l.length : Int)) = false := beq_eq_false_iff_ne.mpr (by omega)
      have c1 := cell_of_blk H1.out.vr.k1 0
      simp at c1
      go_upto_region 4 with (fail)
      go_wp2_with fail
      have HV0 : Hid (TS w (s1, s2) (.slice Ap l.length cp) (visT (s1, s2) l f o gone st 0) w0 a1 a2 (.slice A o.length c) o wc) := H1.out
      clear H1 c1 HCUT hcut HMORE HLS hap0 hap1 CD0
      go_loopw [37] (fun kk wr => ∃ k : Nat, k ≤ l.length ∧ kk = .int .i64 k ∧ Hid (TS w (s1, s2) (.slice Ap l.length cp) (visT (s1, s2) l f o gone st k) w0 a1 a2 (.slice A o.length c) o wr)) (fun kk _ => l.length - (intOf kk).toNat)
      case atStart => exact ⟨0, by omega, rfl, HV0⟩
      case round =>
        obtain ⟨k, hk, rfl, HS⟩ := hrel
        by_cases hlt : k < l.length
        · obtain ⟨Ap', cp', ep, hrp⟩ := HR.out.below HS.out.vr.bel
          cases ep
          rcases hrp with rfl | ⟨gp, rfl, hrowp⟩
          · simp at hlt
          obtain ⟨q0, q1⟩ := row_pt hrowp hlt
          have hgp := hrowp.1
          have HPO := Lib.hid (ptAt_ok HL.out (k : Int))
          have HPN := Lib.hid (ptAt_nat l hlt)
          have HSC : Hid (o.contains (k : Int) = true → visT (s1, s2) l f o gone st (k + 1) = visT (s1, s2) l f o gone st k) := fun h => by
            show _ = _
            rw [HTS.out, if_pos h]
          have HSF : Hid (o.contains (k : Int) = false → visT (s1, s2) l f o gone st (k + 1) = vis (s1, s2) l f (o ++ [(k : Int)]) (gone + apart (a1, a2) l[k]) (visT (s1, s2) l f o gone st k)) := fun h => by
            show _ = _
            rw [HTS.out, if_neg (by rw [h]; simp), HAT.out, HPN.out]
          have HAS : Hid (atOf (s1, s2) l (o ++ [(k : Int)]) = l[k]) := by
            show _ = _
            rw [atOf_snoc, HPN.out]
          rw [HPN.out] at HPO
          clear hrowp
          generalize l[k] = p at *
          obtain ⟨x, y⟩ := p
          dsimp only at q0 q1
          have CD1 := Lib.hid (fun W => CD.out (a1, a2) (x, y) hAO HPO.out W)
          obtain ⟨hap0, hap1⟩ := apart_bd hAO HPO.out
          dsimp only at CD1
          generalize apart (a1, a2) (x, y) = ap2 at *
          have i1 : (0 : Int) ≤ (k : Int) := by omega
          have i2 : (k : Int) < (l.length : Int) := by omega
          have HJ : Hid (TS w (s1, s2) (.slice (some ⟨gp, 0, none⟩) l.length cp) (visT (s1, s2) l f o gone st k) w0 a1 a2 (.slice A o.length c) o (wr.alloc (.cells #[.int .i64 x, .int .i64 y] 27)) ∧ (wr.alloc (.cells #[.int .i64 x, .int .i64 y] 27)).heap[wr.heap.size]? = some (.cells #[.int .i64 x, .int .i64 y] 27 (0, 0))) :=
            ⟨HS.out.below ((Below.refl _ _).alloc (Nat.le_refl _) _), blk_new wr _ rfl⟩
          go_upto_region 7 with (fail)
          generalize wr.alloc (.cells #[.int .i64 x, .int .i64 y] 27) = wj at *
          have hnp : w.heap.size + 5 ≤ wr.heap.size := HS.out.vr.big
          generalize wr.heap.size = np at *
          clear q0 q1
          have hbj := HJ.out.1.vr.big
          have CK := Lib.hid (containsN_any o (by omega) o.length (Nat.le_refl _) (k : Int) (c := c) (readsN_own' HJ.out.1.row rfl : Reads encN (.slice A o.length c) o wj))
          rw [List.take_of_length_le (Nat.le_refl _)] at CK
          cases hct : o.contains (k : Int)
          rotate_left
          · rw [hct] at CK
            have HEQ := Lib.hid (HSC.out hct)
            clear hct HSC HSF
            go_wp2_with fail
            refine CK.out.mono ?_
            rintro e w9 ⟨rfl, rfl⟩
            go_wp2_with fail
            go_roundw
            case rel => exact ⟨k + 1, by omega, by go_num, by rw [HEQ.out]; exact HJ.out.1⟩
            case measure => simp [intOf]; omega
          · rw [hct] at CK
            have HEQ := Lib.hid (HSF.out hct)
            clear hct HSC HSF
            go_wp2_with fail
            refine CK.out.mono ?_
            rintro e w9 ⟨rfl, rfl⟩
            go_upto_region 8 with (fail)
            obtain ⟨i9, hi0, hz0, hzz1, hz20⟩ := info_parts int_infoN
            have HI := Lib.hid (And.intro hi0 (And.intro hz0 (And.intro hzz1 hz20)))
            clear hi0 hz0 hzz1 hz20 CK
            have CCL : Hid (∀ (U : World), U.ownsRow (w.heap.size + 5) 3 1 (.slice A o.length c) o.length (o.map (Value.int .i64)) → Calls Try.prog 36 #[.slice A o.length c] U fun e w' => ∃ v', e = .returned v' ∧ w'.ownsRow U.heap.size 3 1 v' o.length (o.map (Value.int .i64)) ∧ (o.length = 0 → v' = .slice none 0 0) ∧ Below U.heap.size U w') := fun U hU => by
              obtain ⟨A', c', e, h⟩ := readsN_own' hU rfl
              cases e
              rcases h with rfl | ⟨g, rfl, h⟩
              · obtain ⟨rfl, rfl⟩ := hA rfl
                refine (Try.slices_Clone_int_nil 0 0 U).mono ?_
                rintro e w' ⟨rfl, rfl⟩
                exact ⟨_, rfl, World.ownsRow_nil _ _ _ _, fun _ => rfl, Below.refl _ _⟩
              · have hpos : o.length ≠ 0 := fun h0 => by have := (hA h0).1; cases this
                refine (Try.slices_Clone_int g 0 o.length c o U (Nat.le_refl _) (by omega) (fun j hj => ?_)).mono ?_
                · rw [Nat.zero_add, row_n h hj, List.getD_eq_getElem?_getD, List.getElem?_eq_getElem hj]
                  rfl
                · rintro e w' ⟨v', rfl, h1, _, h2⟩
                  rw [List.take_of_length_le (Nat.le_refl _)] at h1
                  exact ⟨_, rfl, h1, fun h0 => absurd h0 hpos, h2⟩
            have hlp := lt_of_blk HJ.out.2
            have hla := lt_of_blk HJ.out.1.at_
            obtain ⟨Z, hZ⟩ : ∃ Z, w9.heap.size = Z := ⟨_, rfl⟩
            have HZ := Lib.hid hZ
            have HGZ : Hid (∀ W, GZ Z w9.drew W → Below w9.drew.heap.size w9.drew W) := fun W h => by have := h.2 (by show Z ≤ w9.heap.size; omega); rw [← hZ] at this; exact this
            refine Rg.rgS2 5 (GZ Z) (fun a b => Below a.heap.size a b) (SA Z o.length (o.map (Value.int .i64)))
              [(fun vs u => vs 0 = tryF w.heap.size), (fun vs u => vs 1 = .slice A o.length c), (fun vs u => ∃ v : Value, vs 2 = v ∧ u.ownsRow Z 3 1 v o.length (o.map (Value.int .i64)) ∧ (o.length = 0 → v = .slice none 0 0)), (fun vs u => vs 3 = .int .i64 k), (fun vs u => ∃ q : Nat, vs 4 = .slice (some ⟨q, 0, none⟩) 1 1 ∧ u.heap[q]? = some (.cells #[.int .i64 k] 3 (0, 0))), (fun vs u => ∃ v : Value, vs 5 = v ∧ u.ownsRow Z 3 1 v (o.length + 1) (o.map (Value.int .i64) ++ [.int .i64 k])), (fun vs u => vs 6 = .agg #[.int .i64 x, .int .i64 y]), (fun vs u => vs 7 = .int .i64 gone), (fun vs u => vs 8 = .agg #[.int .i64 a1, .int .i64 a2]), (fun vs u => vs 9 = .agg #[.int .i64 x, .int .i64 y]), (fun vs u => vs 10 = .int .i64 ap2), (fun vs u => vs 11 = .int .i64 (gone + ap2))]
              [[], [], [1], [], [3], [1, 2, 3, 4], [], [], [], [], [1, 2, 3, 4, 5, 8, 9], [1, 2, 3, 4, 5, 7, 8, 9, 10]] [some 46, some 47, some 48, some 49, some 50, some 51, some 52, some 53, some 54, some 55, some 56, some 57, some 58] [] (fun _ _ => True) [[], [], [1], [], [3], [1, 2, 3, 4], [], [], [], [], [1, 2, 3, 4, 5, 8, 9], [1, 2, 3, 4, 5, 7, 8, 9, 10], [0, 1, 2, 3, 4, 5, 6, 7, 8, 9, 10, 11]]
              (by kernel_rfl) (by decide) (by kernel_rfl) (by kernel_rfl) (by kernel_rfl) (by kernel_rfl) (by kernel_rfl) (fun _ => GZ.refl _ _) (fun _ _ _ h k => GZ.trans h k) (fun _ _ h => h.1) (fun _ _ h => GZ.of_below h) (fun _ _ h => GZ.of_SA h) ?_ ?_ trivial ?_ ?_
            · intro j vs w w' h hE
              match j, h with
              | 0, h => exact h
              | 1, h => exact h
              | 2, h =>
                have h : ∃ v : Value, vs 2 = v ∧ w.ownsRow Z 3 1 v o.length (o.map (Value.int .i64)) ∧ (o.length = 0 → v = .slice none 0 0) := h
                show ∃ v : Value, vs 2 = v ∧ w'.ownsRow Z 3 1 v o.length (o.map (Value.int .i64)) ∧ (o.length = 0 → v = .slice none 0 0)
                obtain ⟨v, e, k, n⟩ := h
                exact ⟨v, e, own_below k hE, n⟩
              | 3, h => exact h
              | 4, h =>
                have h : ∃ q : Nat, vs 4 = .slice (some ⟨q, 0, none⟩) 1 1 ∧ w.heap[q]? = some (.cells #[.int .i64 k] 3 (0, 0)) := h
                show ∃ q : Nat, vs 4 = .slice (some ⟨q, 0, none⟩) 1 1 ∧ w'.heap[q]? = some (.cells #[.int .i64 k] 3 (0, 0))
                obtain ⟨q, e, k⟩ := h
                exact ⟨q, e, blk_below hE k⟩
              | 5, h =>
                have h : ∃ v : Value, vs 5 = v ∧ w.ownsRow Z 3 1 v (o.length + 1) (o.map (Value.int .i64) ++ [.int .i64 k]) := h
                show ∃ v : Value, vs 5 = v ∧ w'.ownsRow Z 3 1 v (o.length + 1) (o.map (Value.int .i64) ++ [.int .i64 k])
                obtain ⟨v, e, k⟩ := h
                exact ⟨v, e, own_below k hE⟩
              | 6, h => exact h
              | 7, h => exact h
              | 8, h => exact h
              | 9, h => exact h
              | 10, h => exact h
              | 11, h => exact h
              | (j + 12), h => exact h
            · intro j hj hc vs w w' h hE
              match j, hj, hc, h with
              | 0, _, _, h => exact h
              | 1, _, _, h => exact h
              | 2, _, _, h =>
                have h : ∃ v : Value, vs 2 = v ∧ w.ownsRow Z 3 1 v o.length (o.map (Value.int .i64)) ∧ (o.length = 0 → v = .slice none 0 0) := h
                show ∃ v : Value, vs 2 = v ∧ w'.ownsRow Z 3 1 v o.length (o.map (Value.int .i64)) ∧ (o.length = 0 → v = .slice none 0 0)
                obtain ⟨v, e, k, n⟩ := h
                exact ⟨v, e, hE.2.2 v k, n⟩
              | 3, _, _, h => exact h
              | 4, _, _, h =>
                have h : ∃ q : Nat, vs 4 = .slice (some ⟨q, 0, none⟩) 1 1 ∧ w.heap[q]? = some (.cells #[.int .i64 k] 3 (0, 0)) := h
                show ∃ q : Nat, vs 4 = .slice (some ⟨q, 0, none⟩) 1 1 ∧ w'.heap[q]? = some (.cells #[.int .i64 k] 3 (0, 0))
                obtain ⟨q, e, k⟩ := h
                exact ⟨q, e, hE.2.1 q _ k⟩
              | 5, hj, _, _ => exact absurd rfl hj
              | 6, _, _, h => exact h
              | 7, _, _, h => exact h
              | 8, _, _, h => exact h
              | 9, _, _, h => exact h
              | 10, _, hc, _ => exact absurd hc (by decide)
              | 11, _, hc, _ => exact absurd hc (by decide)
              | (j + 12), _, _, h => exact h
            ·
              refine Rg.cons 0 1 rfl (Rg.plain rfl ?_) ?_
              · intro vs W n hn hI hG hT hF K hK
                simp only [Rg.putsD, List.getD_cons_zero, List.getD_cons_succ, Act.put, List.setIfInBounds_toArray, List.set_cons_zero, List.set_cons_succ] at hK ⊢
                clear hn
                clear hF
                have c0 := cell_of_blk (blk_below (HGZ.out W hG) HJ.out.1.vr.kv) 0
                simp at c0
                have H := Lib.hid hK
                clear hK hT
                go_simp
                exact H.out _ _ (Below.refl _ _) rfl (fun h => by cases h) hI
              refine Rg.cons 1 2 rfl (Rg.plain rfl ?_) ?_
              · intro vs W n hn hI hG hT hF K hK
                simp only [Rg.putsD, List.getD_cons_zero, List.getD_cons_succ, Act.put, List.setIfInBounds_toArray, List.set_cons_zero, List.set_cons_succ] at hK ⊢
                clear hn
                clear hF
                have H := Lib.hid hK
                clear hK hT
                go_simp
                exact H.out _ _ (Below.refl _ _) rfl (fun h => by cases h) hI
              refine Rg.cons 2 3 rfl (Rg.plain rfl ?_) ?_
              · intro vs W n hn hI hG hT hF K hK
                simp only [Rg.putsD, List.getD_cons_zero, List.getD_cons_succ, Act.put, List.setIfInBounds_toArray, List.set_cons_zero, List.set_cons_succ] at hK ⊢
                clear hn
                clear hF
                have t1 : vs 1 = .slice A o.length c := hT 1 (by decide)
                have HG := Lib.hid hG
                clear hG
                simp only [t1] at hK
                have H := Lib.hid hK
                clear hK hT
                go_simp
                refine (CCL.out _ (own_below (w := w9.drew) HJ.out.1.row.drew (HGZ.out W HG.out))).mono ?_
                rintro e w6 ⟨v9, rfl, o9, n9, b6⟩
                exact H.out _ _ b6 ⟨_, rfl, own_mono o9 (by have := HG.out.1; have h3 : w9.drew.heap.size = w9.heap.size := rfl; have := HZ.out; omega), n9⟩ (fun h => by cases h) trivial
              refine Rg.cons 3 4 rfl (Rg.plain rfl ?_) ?_
              · intro vs W n hn hI hG hT hF K hK
                simp only [Rg.putsD, List.getD_cons_zero, List.getD_cons_succ, Act.put, List.setIfInBounds_toArray, List.set_cons_zero, List.set_cons_succ] at hK ⊢
                clear hn
                clear hF
                have H := Lib.hid hK
                clear hK hT
                go_simp
                exact H.out _ _ (Below.refl _ _) rfl (fun h => by cases h) hI
              refine Rg.cons 4 5 rfl (Rg.plain rfl ?_) ?_
              · intro vs W n hn hI hG hT hF K hK
                simp only [Rg.putsD, List.getD_cons_zero, List.getD_cons_succ, Act.put, List.setIfInBounds_toArray, List.set_cons_zero, List.set_cons_succ] at hK ⊢
                clear hn
                clear hF
                have t3 : vs 3 = .int .i64 k := hT 3 (by decide)
                simp only [t3] at hK
                have H := Lib.hid hK
                clear hK hT
                go_simp
                exact H.out _ _ ((Below.refl _ _).alloc (Nat.le_refl _) _) (show ∃ q : Nat, _ = _ ∧ _ = _ from ⟨_, rfl, blk_new W _ rfl⟩) (fun h => by cases h) trivial
              refine Rg.cons 5 6 rfl (Rg.plain rfl ?_) ?_
              · intro vs W n hn hI hG hT hF K hK
                simp only [Rg.putsD, List.getD_cons_zero, List.getD_cons_succ, Act.put, List.setIfInBounds_toArray, List.set_cons_zero, List.set_cons_succ] at hK ⊢
                clear hn
                clear hF
                have t1 : vs 1 = .slice A o.length c := hT 1 (by decide)
                have t2 : ∃ v : Value, vs 2 = v ∧ W.ownsRow Z 3 1 v o.length (o.map (Value.int .i64)) ∧ (o.length = 0 → v = .slice none 0 0) := hT 2 (by decide)
                have t3 : vs 3 = .int .i64 k := hT 3 (by decide)
                have t4 : ∃ q : Nat, vs 4 = .slice (some ⟨q, 0, none⟩) 1 1 ∧ W.heap[q]? = some (.cells #[.int .i64 k] 3 (0, 0)) := hT 4 (by decide)
                obtain ⟨v2, e2, o2, n2⟩ := t2
                obtain ⟨q4, e4, k4⟩ := t4
                simp only [e2, e4] at hK
                have hZW : Z ≤ W.heap.size := by have := hG.1; have h3 : w9.drew.heap.size = w9.heap.size := rfl; have := HZ.out; omega
                simp only [t1, t3] at hK
                have H := Lib.hid hK
                clear hK hT
                simp only [t1, t3, e2, e4]
                refine wp_append_keep _ _ _ 22 rfl Z 3 i9 _ 1 8 Try.underlying22 HI.out.1 HI.out.2.1 HI.out.2.2.1 HI.out.2.2.2 rfl (by omega) v2 o.length (o.map (Value.int .i64)) rfl o2 ⟨q4, 0, none⟩ 1 1 [.int .i64 k] rfl rfl (fun j u hu => by rw [addr_new, cell_of_blk k4]; simpa using hu) (by intro u hu; simp at hu; subst hu; rfl) (by unfold maxLen; omega) (by omega) hZW ?_
                intro v' w2 hown' hg' hk'
                exact H.out _ _ (SA.append hZW o2 hk' hg' n2) ⟨_, rfl, hown'⟩ (fun h => by cases h) trivial
              refine Rg.cons 6 7 rfl (Rg.plain rfl ?_) ?_
              · intro vs W n hn hI hG hT hF K hK
                simp only [Rg.putsD, List.getD_cons_zero, List.getD_cons_succ, Act.put, List.setIfInBounds_toArray, List.set_cons_zero, List.set_cons_succ] at hK ⊢
                clear hn
                clear hF
                obtain ⟨c0, c1, _, _⟩ := blk2 (blk_below (HGZ.out W hG) HJ.out.2)
                have hgl := lt_of_blk (blk_below (HGZ.out W hG) HJ.out.2)
                have H := Lib.hid hK
                clear hK hT
                go_simp
                exact H.out _ _ (Below.refl _ _) rfl (fun h => by cases h) hI
              refine Rg.cons 7 8 rfl (Rg.plain rfl ?_) ?_
              · intro vs W n hn hI hG hT hF K hK
                simp only [Rg.putsD, List.getD_cons_zero, List.getD_cons_succ, Act.put, List.setIfInBounds_toArray, List.set_cons_zero, List.set_cons_succ] at hK ⊢
                clear hn
                clear hF
                have H := Lib.hid hK
                clear hK hT
                go_simp
                exact H.out _ _ (Below.refl _ _) rfl (fun h => by cases h) hI
              refine Rg.cons 8 9 rfl (Rg.plain rfl ?_) ?_
              · intro vs W n hn hI hG hT hF K hK
                simp only [Rg.putsD, List.getD_cons_zero, List.getD_cons_succ, Act.put, List.setIfInBounds_toArray, List.set_cons_zero, List.set_cons_succ] at hK ⊢
                clear hn
                clear hF
                obtain ⟨c0, c1, _, _⟩ := blk2 (blk_below (HGZ.out W hG) HJ.out.1.at_)
                have hgl := lt_of_blk (blk_below (HGZ.out W hG) HJ.out.1.at_)
                have H := Lib.hid hK
                clear hK hT
                go_simp
                exact H.out _ _ (Below.refl _ _) rfl (fun h => by cases h) hI
              refine Rg.cons 9 10 rfl (Rg.plain rfl ?_) ?_
              · intro vs W n hn hI hG hT hF K hK
                simp only [Rg.putsD, List.getD_cons_zero, List.getD_cons_succ, Act.put, List.setIfInBounds_toArray, List.set_cons_zero, List.set_cons_succ] at hK ⊢
                clear hn
                clear hF
                obtain ⟨c0, c1, _, _⟩ := blk2 (blk_below (HGZ.out W hG) HJ.out.2)
                have hgl := lt_of_blk (blk_below (HGZ.out W hG) HJ.out.2)
                have H := Lib.hid hK
                clear hK hT
                go_simp
                exact H.out _ _ (Below.refl _ _) rfl (fun h => by cases h) hI
              refine Rg.cons 10 11 rfl (Rg.plain rfl ?_) ?_
              · intro vs W n hn hI hG hT hF K hK
                simp only [Rg.putsD, List.getD_cons_zero, List.getD_cons_succ, Act.put, List.setIfInBounds_toArray, List.set_cons_zero, List.set_cons_succ] at hK ⊢
                clear hn
                clear hF
                have t1 : vs 1 = .slice A o.length c := hT 1 (by decide)
                have t2 : ∃ v : Value, vs 2 = v ∧ W.ownsRow Z 3 1 v o.length (o.map (Value.int .i64)) ∧ (o.length = 0 → v = .slice none 0 0) := hT 2 (by decide)
                have t3 : vs 3 = .int .i64 k := hT 3 (by decide)
                have t4 : ∃ q : Nat, vs 4 = .slice (some ⟨q, 0, none⟩) 1 1 ∧ W.heap[q]? = some (.cells #[.int .i64 k] 3 (0, 0)) := hT 4 (by decide)
                have t5 : ∃ v : Value, vs 5 = v ∧ W.ownsRow Z 3 1 v (o.length + 1) (o.map (Value.int .i64) ++ [.int .i64 k]) := hT 5 (by decide)
                have t8 : vs 8 = .agg #[.int .i64 a1, .int .i64 a2] := hT 8 (by decide)
                have t9 : vs 9 = .agg #[.int .i64 x, .int .i64 y] := hT 9 (by decide)
                have HG := Lib.hid hG
                clear hG
                simp only [t1, t3, t8, t9] at hK
                have H := Lib.hid hK
                clear hK hT
                go_simp
                refine (CD1.out _).mono ?_
                rintro e w6 ⟨rfl, b6⟩
                exact H.out _ _ b6 rfl (fun h => by cases h) trivial
              refine Rg.cons 11 12 rfl (Rg.plain rfl ?_) ?_
              · intro vs W n hn hI hG hT hF K hK
                simp only [Rg.putsD, List.getD_cons_zero, List.getD_cons_succ, Act.put, List.setIfInBounds_toArray, List.set_cons_zero, List.set_cons_succ] at hK ⊢
                clear hn
                clear hF
                have t1 : vs 1 = .slice A o.length c := hT 1 (by decide)
                have t2 : ∃ v : Value, vs 2 = v ∧ W.ownsRow Z 3 1 v o.length (o.map (Value.int .i64)) ∧ (o.length = 0 → v = .slice none 0 0) := hT 2 (by decide)
                have t3 : vs 3 = .int .i64 k := hT 3 (by decide)
                have t4 : ∃ q : Nat, vs 4 = .slice (some ⟨q, 0, none⟩) 1 1 ∧ W.heap[q]? = some (.cells #[.int .i64 k] 3 (0, 0)) := hT 4 (by decide)
                have t5 : ∃ v : Value, vs 5 = v ∧ W.ownsRow Z 3 1 v (o.length + 1) (o.map (Value.int .i64) ++ [.int .i64 k]) := hT 5 (by decide)
                have t7 : vs 7 = .int .i64 gone := hT 7 (by decide)
                have t8 : vs 8 = .agg #[.int .i64 a1, .int .i64 a2] := hT 8 (by decide)
                have t9 : vs 9 = .agg #[.int .i64 x, .int .i64 y] := hT 9 (by decide)
                have t10 : vs 10 = .int .i64 ap2 := hT 10 (by decide)
                simp only [t1, t3, t7, t8, t9, t10] at hK
                have H := Lib.hid hK
                clear hK hT
                go_simp
                have hw : IntKind.i64.wrap (gone + ap2) = gone + ap2 := IntWalk.i64_in _ (by omega)
                rw [hw]
                exact H.out _ _ (Below.refl _ _) rfl (fun h => by cases h) trivial
              exact Rg.nil
            · intro vs W hG hI hT hF
              have t0 : vs 0 = tryF w.heap.size := hT 0 (by decide)
              have t1 : vs 1 = .slice A o.length c := hT 1 (by decide)
              have t2 : ∃ v : Value, vs 2 = v ∧ W.ownsRow Z 3 1 v o.length (o.map (Value.int .i64)) ∧ (o.length = 0 → v = .slice none 0 0) := hT 2 (by decide)
              have t3 : vs 3 = .int .i64 k := hT 3 (by decide)
              have t4 : ∃ q : Nat, vs 4 = .slice (some ⟨q, 0, none⟩) 1 1 ∧ W.heap[q]? = some (.cells #[.int .i64 k] 3 (0, 0)) := hT 4 (by decide)
              have t5 : ∃ v : Value, vs 5 = v ∧ W.ownsRow Z 3 1 v (o.length + 1) (o.map (Value.int .i64) ++ [.int .i64 k]) := hT 5 (by decide)
              have t6 : vs 6 = .agg #[.int .i64 x, .int .i64 y] := hT 6 (by decide)
              have t7 : vs 7 = .int .i64 gone := hT 7 (by decide)
              have t8 : vs 8 = .agg #[.int .i64 a1, .int .i64 a2] := hT 8 (by decide)
              have t9 : vs 9 = .agg #[.int .i64 x, .int .i64 y] := hT 9 (by decide)
              have t10 : vs 10 = .int .i64 ap2 := hT 10 (by decide)
              have t11 : vs 11 = .int .i64 (gone + ap2) := hT 11 (by decide)
              simp only [List.length_cons, List.length_nil, Nat.reduceAdd, List.range, List.range.loop, List.drop_succ_cons, List.drop_zero, Rg.putsD, List.getD_cons_zero, List.getD_cons_succ, Act.put, List.setIfInBounds_toArray, List.set_cons_zero, List.set_cons_succ, t0, t1, t3, t6, t7, t8, t9, t10, t11]
              clear hT t0 t1 t3 t6 t7 t8 t9 t10 t11
              obtain ⟨v5, e5, o5⟩ := t5
              obtain ⟨A5, c5, rfl, h5⟩ := own_form o5
              have H4 := Lib.hid (HJ.out.1.drew.below (HGZ.out W hG))
              have hbW := H4.out.vr.big
              have hlo : (o ++ [(k : Int)]).length = o.length + 1 := by rw [List.length_append]; rfl
              have CI := IH.out (o ++ [(k : Int)]) (gone + ap2) (visT (s1, s2) l f o gone st k) W A5 c5 (by rw [hlo]; omega) (by omega) (by rw [hlo]; push_cast; omega) (HTN.out k) H4.out.vr (by rw [hlo, List.map_append]; exact own_mono o5 (by have := HZ.out; omega)) (fun h => by rw [hlo] at h; omega)
              rw [HAS.out, ← HEQ.out, hlo] at CI
              dsimp only at CI
              have CI1 := Lib.hid CI
              simp only [e5, tryF]
              clear hF hI hG o5 h5 HJ IH CD1 CCL CI t2 t4 e5 HGZ HZ
              go_wp2_with fail
              refine CI1.out.mono ?_
              rintro e w5 ⟨rfl, hV5, hP5⟩
              have H5 : Hid (TS w (s1, s2) (.slice (some ⟨gp, 0, none⟩) l.length cp) (visT (s1, s2) l f o gone st (k + 1)) w0 a1 a2 (.slice A o.length c) o w5) := ⟨hV5, hP5.blk H4.out.at_ (by omega) (by omega), H4.out.kept.then_ hP5, own_kept2 H4.out.row hP5 (by omega) (by omega)⟩
              clear hV5 hP5 H4 CI1
              go_wp2_with fail
              go_roundw
              case rel => exact ⟨k + 1, by omega, by go_num, H5⟩
              case measure => simp [intOf]; omega
        · obtain rfl : k = l.length := by omega
          go_wp2_with fail
          refine bodyPost_end (v := .tuple #[]) (by unfold results; simp only [Try.results42]; go_simp) rfl ⟨rfl, by rw [HF.out]; exact HS.out.vr, HS.out.kept⟩
end Go.Proofs.Ytbkbjljkfhahbaa
