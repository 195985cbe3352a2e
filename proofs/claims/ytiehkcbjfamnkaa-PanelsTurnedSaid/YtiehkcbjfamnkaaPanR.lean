/-
  The walk of the reference's Outside.
-/
import Derived.Test.YtiehkcbjfamnkaaPanO
import Derived.Test.YtiehkcbjfamnkaaReadF
namespace Go.Proofs.Ytiehkcbjfamnkaa
open Go.RowKit

set_option maxRecDepth 100000 in
set_option maxHeartbeats 4000000 in
theorem outsideOf_any (key : ByteArray) (W H : Int) (A : Option Addr) (c : Nat) (l : List Pl) (PW PH : Int) (B : Option Addr) (d : Nat) (s : List Sl) (w : World) (hB : SlAt w B s) (ho : PanOk W H PW PH l s) :
    Calls Try.prog 30 #[prod key W H A l.length c, pan PW PH B s.length d] w fun e w' => ∃ v, e = .returned v ∧ Below w.heap.size w w' ∧ ReadsF w.heap.size natC v (outs W H PW PH s s.length) w' := by
  have hsl2 := ho.slen
  have HO := Lib.hid ho
  clear ho
  go_enter Try.func30, Try.ntmps30
  go_wp2_with fail
  have kP : PanB w ((w.alloc (Obj.cells #[.string key, .int .i64 W, .int .i64 H, .slice A l.length c] 28)).alloc (Obj.cells #[.int .i64 PW, .int .i64 PH, .slice B s.length d] 32)) key W H A l.length c PW PH B s.length d := ⟨blk_alloc (blk_new w _ rfl) _, blk_new _ _ (by simp), ((Below.refl _ _).alloc (Nat.le_refl _) _).alloc (by simp) _, by simp⟩
  generalize ((w.alloc (Obj.cells #[.string key, .int .i64 W, .int .i64 H, .slice A l.length c] 28)).alloc (Obj.cells #[.int .i64 PW, .int .i64 PH, .slice B s.length d] 32)) = wP at *
  have KP := Lib.hid kP
  clear kP
  have KQ := KP
  clear KP
  obtain ⟨w1, rfl⟩ : ∃ w1 : World, w1 = wP := ⟨_, rfl⟩
  go_loopw [5, 12] (fun v kk wr => ∃ i : Nat, i ≤ s.length ∧ kk = .int .i64 i ∧ Hid (Below w1.heap.size w1 wr ∧ wr.ownsRow w1.heap.size 3 1 v (outs W H PW PH s i).length (flatNat (outs W H PW PH s i)))) (fun _ kk _ => s.length - (intOf kk).toNat)
  case atStart => exact ⟨0, by omega, rfl, Below.refl _ _, World.ownsRow_nil _ _ _ _⟩
  case round =>
    obtain ⟨i, hi, rfl, HS⟩ := hrel
    have hac := outs_len W H PW PH s i
    by_cases hlt : i < s.length
    · obtain ⟨p, hp⟩ : ∃ p, s[i] = p := ⟨_, rfl⟩
      obtain ⟨hx, hy, hq0, hq1⟩ := HO.out.sl p (by rw [← hp]; exact List.getElem_mem hlt)
      have hnx := outs_next W H PW PH s hlt
      rw [hp] at hnx
      rcases hB with rfl | ⟨g, rfl, hrow⟩
      · simp at hlt
      have hr2 := (hrow.below KQ.out.2.2.1).below HS.out.1
      obtain ⟨p0, p1, p2, p3⟩ := row_sl hr2 hlt
      rw [hp] at p0 p1 p2 p3
      have hg := hr2.1
      obtain ⟨b0, b1, b2, b3⟩ := blk4 (blk_below HS.out.1 KQ.out.1)
      have hwP : w.heap.size + 1 < wr.heap.size := Nat.lt_of_lt_of_le KQ.out.2.2.2 HS.out.1.size
      have hwP0 : w.heap.size < wr.heap.size := by omega
      have CA := Lib.hid (fun W' => boardBox_any key W H A l.length c p W' HO.out.w HO.out.h hx hy ⟨hq0, hq1⟩)
      have HNX := Lib.hid hnx
      have HROW := Lib.hid hrow
      have HOB : Hid (outB W H PW PH p = (decide (PW < (slAr W H p).xt) || decide (PH < (slAr W H p).yt))) := rfl
      have hxf : 0 ≤ (slAr W H p).xf := hx.1
      have hyf : 0 ≤ (slAr W H p).yf := hy.1
      clear hp hnx hrow hr2 hx hy hq0 hq1
      generalize slAr W H p = a at *
      obtain ⟨x, y, q, sk⟩ := p
      obtain ⟨axf, axt, ayf, ayt⟩ := a
      dsimp only at *
      obtain ⟨A7, k7, rfl, _⟩ := own_form HS.out.2
      go_wp2_with fail
      refine (CA.out _).mono ?_
      rintro e w2 ⟨rfl, b2⟩
      have hal : Below wr.heap.size wr w2 := ((Below.refl _ _).alloc (Nat.le_refl _) _).then_below b2
      have HS2 : Hid (Below w1.heap.size w1 w2 ∧ w2.ownsRow w1.heap.size 3 1 (.slice A7 (outs W H PW PH s i).length k7) (outs W H PW PH s i).length (flatNat (outs W H PW PH s i))) := ⟨HS.out.1.ext hal, own_below HS.out.2 hal⟩
      obtain ⟨e0, e1, e2, _⟩ := blk3 (blk_below HS2.out.1 KQ.out.2.1)
      have hs2 : w.heap.size + 1 < w2.heap.size := Nat.lt_of_lt_of_le hwP hal.size
      clear hal b2 HS p0 p1 p2 p3 b0 b1
      by_cases hxx : PW < axt
      · have HT : Hid (outs W H PW PH s (i + 1) = outs W H PW PH s i ++ [i]) := HNX.out.trans (by rw [HOB.out]; simp [hxx])
        go_wp2_with (at_builtin; refine hold ?_)
        refine loose ?_
        obtain ⟨i0, hi0, hz0, hz1, hz2⟩ := info_parts int_info
        refine wpList_append_own _ rfl _ _ 22 rfl w1.heap.size 3 i0 _ 1 8 Try.underlying22 hi0 hz0 hz1 hz2 rfl (by omega) _ (outs W H PW PH s i).length (flatNat (outs W H PW PH s i)) rfl ((HS2.out.2.alloc _).alloc _) ⟨w2.heap.size + 1, 0, none⟩ 1 1 (natC i) rfl rfl ?_ (by intro u hu; simp [natC] at hu; subst hu; rfl) (by unfold maxLen; omega) (by omega) (by have := HS2.out.1.size; simp; omega) ?_
        · intro j u hu
          rw [addr_new, cell_of_blk (blk_new (g := w2.heap.size + 1) _ _ (by simp))]
          simpa [natC] using hu
        intro v' w' hown' hg' _
        have HF : Hid (Below w1.heap.size w1 w' ∧ w'.ownsRow w1.heap.size 3 1 v' (outs W H PW PH s (i + 1)).length (flatNat (outs W H PW PH s (i + 1)))) := by
          refine ⟨((HS2.out.1.alloc HS2.out.1.size _).alloc (by have := HS2.out.1.size; simp; omega) _).grown hg' (by have := HS2.out.1.size; simp; omega) (fun j e => own_row HS2.out.2 j e), ?_⟩
          rw [HT.out, List.length_append]
          have e1 : flatNat (outs W H PW PH s i ++ [i]) = flatNat (outs W H PW PH s i) ++ natC i := by simp [flatNat]
          rw [e1]
          exact hown'
        clear hown' hg' hi0 hz0 hz1 hz2
        go_wp2_with fail
        go_roundw
        case rel => exact ⟨i + 1, by omega, by go_num, HF⟩
        case measure => simp [intOf]; omega
      · by_cases hyy : PH < ayt
        · have HT : Hid (outs W H PW PH s (i + 1) = outs W H PW PH s i ++ [i]) := HNX.out.trans (by rw [HOB.out]; simp [hxx, hyy])
          go_wp2_with (at_builtin; refine hold ?_)
          refine loose ?_
          obtain ⟨i0, hi0, hz0, hz1, hz2⟩ := info_parts int_info
          refine wpList_append_own _ rfl _ _ 22 rfl w1.heap.size 3 i0 _ 1 8 Try.underlying22 hi0 hz0 hz1 hz2 rfl (by omega) _ (outs W H PW PH s i).length (flatNat (outs W H PW PH s i)) rfl ((HS2.out.2.alloc _).alloc _) ⟨w2.heap.size + 1, 0, none⟩ 1 1 (natC i) rfl rfl ?_ (by intro u hu; simp [natC] at hu; subst hu; rfl) (by unfold maxLen; omega) (by omega) (by have := HS2.out.1.size; simp; omega) ?_
          · intro j u hu
            rw [addr_new, cell_of_blk (blk_new (g := w2.heap.size + 1) _ _ (by simp))]
            simpa [natC] using hu
          intro v' w' hown' hg' _
          have HF : Hid (Below w1.heap.size w1 w' ∧ w'.ownsRow w1.heap.size 3 1 v' (outs W H PW PH s (i + 1)).length (flatNat (outs W H PW PH s (i + 1)))) := by
            refine ⟨((HS2.out.1.alloc HS2.out.1.size _).alloc (by have := HS2.out.1.size; simp; omega) _).grown hg' (by have := HS2.out.1.size; simp; omega) (fun j e => own_row HS2.out.2 j e), ?_⟩
            rw [HT.out, List.length_append]
            have e1 : flatNat (outs W H PW PH s i ++ [i]) = flatNat (outs W H PW PH s i) ++ natC i := by simp [flatNat]
            rw [e1]
            exact hown'
          clear hown' hg' hi0 hz0 hz1 hz2
          go_wp2_with fail
          go_roundw
          case rel => exact ⟨i + 1, by omega, by go_num, HF⟩
          case measure => simp [intOf]; omega
        · have HT : Hid (outs W H PW PH s (i + 1) = outs W H PW PH s i) := HNX.out.trans (by rw [HOB.out]; simp [hxx, hyy])
          have HF : Hid (Below w1.heap.size w1 (w2.alloc (.cells #[.int .i64 axf, .int .i64 ayf, .int .i64 axt, .int .i64 ayt] 141)) ∧ (w2.alloc (.cells #[.int .i64 axf, .int .i64 ayf, .int .i64 axt, .int .i64 ayt] 141)).ownsRow w1.heap.size 3 1 (.slice A7 (outs W H PW PH s i).length k7) (outs W H PW PH s (i + 1)).length (flatNat (outs W H PW PH s (i + 1)))) := by
            rw [HT.out]
            exact ⟨HS2.out.1.alloc HS2.out.1.size _, HS2.out.2.alloc _⟩
          go_wp2_with fail
          go_roundw
          case rel => exact ⟨i + 1, by omega, by go_num, HF⟩
          case measure => simp [intOf]; omega
    · obtain rfl : i = s.length := by omega
      obtain ⟨A7, k7, rfl, _⟩ := own_form HS.out.2
      go_wp2_with fail
      go_ret
      exact ⟨_, rfl, KQ.out.2.2.1.then_below HS.out.1 KQ.out.2.2.1.size, (readsF_own HS.out.2).least KQ.out.2.2.1.size⟩
end Go.Proofs.Ytiehkcbjfamnkaa
