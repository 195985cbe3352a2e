/-
  The walk of the reference's Turned.
-/
import Derived.Test.YtiehkcbjfamnkaaPanT
import Derived.Test.YtiehkcbjfamnkaaReadF
namespace Go.Proofs.Ytiehkcbjfamnkaa
open Go.RowKit

def TuPostF (key : ByteArray) (W H : Int) (l : List Pl) (PW PH : Int) (s : List Sl) (w : World) (e : Ending) (w' : World) : Prop :=
  ∃ v, e = .returned (.tuple #[.agg #[.int .i64 (if turnE key W H l PW PH s = 0 then PH else 0), .int .i64 (if turnE key W H l PW PH s = 0 then PW else 0), v], .int .i64 (turnE key W H l PW PH s)]) ∧ Below w.heap.size w w' ∧
    ReadsF w.heap.size Sl.cells v (if turnE key W H l PW PH s = 0 then tSls W H PH s else []) w'

theorem pn_one {key : ByteArray} {W H PW PH : Int} {l : List Pl} {s : List Sl} (h : panErr key W H l PW PH s = 0) : ¬ pnErr PH PW (tSls W H PH s) = 0 → pnErr PH PW (tSls W H PH s) = 1 := by
  obtain ⟨_, _, ho⟩ := pan_ok h
  have hl : (tSls W H PH s).length = s.length := by unfold tSls; rw [List.length_map]
  have := ho.slen
  unfold pnErr
  split
  · exact fun _ => rfl
  split
  · omega
  split
  · exact fun h => absurd rfl h
  · exact fun _ => rfl

set_option maxRecDepth 100000 in
set_option maxHeartbeats 4000000 in
theorem turnedOf_any (key : ByteArray) (W H : Int) (A : Option Addr) (c : Nat) (l : List Pl) (PW PH : Int) (B : Option Addr) (d : Nat) (s : List Sl) (w : World) (hB : SlAt w B s) (h1 : panErr key W H l PW PH s = 0) :
    Calls Try.prog 32 #[prod key W H A l.length c, pan PW PH B s.length d] w (TuPostF key W H l PW PH s w) := by
  have HTF : Hid (turnE key W H l PW PH s = if pnErr PH PW (tSls W H PH s) = 0 then 0 else 1) := if_pos h1
  have HP1 := Lib.hid (pn_one h1)
  obtain ⟨hpe, _, ho⟩ := pan_ok h1
  have hsl2 := ho.slen
  have hlen := ho.len
  have HO := Lib.hid ho
  have HPE := Lib.hid hpe
  obtain ⟨pw0, pw1⟩ := ho.pw
  obtain ⟨ph0, ph1⟩ := ho.ph
  clear h1 ho hpe
  go_enter Try.func32, Try.ntmps32
  go_wp2_with fail
  have kP : PanB w (((w.alloc (Obj.cells #[.string key, .int .i64 W, .int .i64 H, .slice A l.length c] 28)).alloc (Obj.cells #[.int .i64 PW, .int .i64 PH, .slice B s.length d] 32)).alloc (Obj.cells #[.int .i64 0, .int .i64 0, .slice none 0 0] 32)) key W H A l.length c PW PH B s.length d := ⟨blk_alloc (blk_alloc (blk_new w _ rfl) _) _, blk_alloc (blk_new _ _ (by simp)) _, (((Below.refl _ _).alloc (Nat.le_refl _) _).alloc (by simp) _).alloc (by simp; omega) _, by simp⟩
  have kT : (((w.alloc (Obj.cells #[.string key, .int .i64 W, .int .i64 H, .slice A l.length c] 28)).alloc (Obj.cells #[.int .i64 PW, .int .i64 PH, .slice B s.length d] 32)).alloc (Obj.cells #[.int .i64 0, .int .i64 0, .slice none 0 0] 32)).heap[w.heap.size + 1 + 1]? = some (.cells #[.int .i64 0, .int .i64 0, .slice none 0 0] 32 (0, 0)) := blk_new _ _ (by simp)
  have sP : (((w.alloc (Obj.cells #[.string key, .int .i64 W, .int .i64 H, .slice A l.length c] 28)).alloc (Obj.cells #[.int .i64 PW, .int .i64 PH, .slice B s.length d] 32)).alloc (Obj.cells #[.int .i64 0, .int .i64 0, .slice none 0 0] 32)).heap.size = w.heap.size + 1 + 1 + 1 := by simp
  generalize (((w.alloc (Obj.cells #[.string key, .int .i64 W, .int .i64 H, .slice A l.length c] 28)).alloc (Obj.cells #[.int .i64 PW, .int .i64 PH, .slice B s.length d] 32)).alloc (Obj.cells #[.int .i64 0, .int .i64 0, .slice none 0 0] 32)) = w1 at *
  rw [← sP]
  have KQ := Lib.hid (And.intro kP kT)
  have hP2 := lt_of_blk KQ.out.2
  have hPl := KQ.out.1.2.2.2
  clear kP kT sP
  go_loopw [23] (fun kk wr => ∃ (i : Nat) (v : Value), i ≤ s.length ∧ kk = .int .i64 i ∧ w1.heap.size < wr.heap.size ∧ Hid (TuSt w1 PH PW (tSls W H PH (s.take i)) v wr)) (fun kk _ => s.length - (intOf kk).toNat)
  case atStart => exact ⟨0, _, by omega, rfl, by simp, (Below.refl _ _).alloc (Nat.le_refl _) _, blk_new w1 _ rfl, World.ownsRow_nil _ _ _ _⟩
  case round =>
    obtain ⟨i, v, hi, rfl, hsz, HS⟩ := hrel
    have htl : (tSls W H PH (s.take i)).length = i := by unfold tSls; rw [List.length_map, List.length_take]; omega
    obtain ⟨A7, k7, rfl, _⟩ := own_form HS.out.2.2
    have HTL := Lib.hid htl
    clear htl
    have hB1 := HS.out.1.size
    by_cases hlt : i < s.length
    · obtain ⟨p, hp⟩ : ∃ p, s[i] = p := ⟨_, rfl⟩
      obtain ⟨hx, hy, hq0, hq1⟩ := HO.out.sl p (by rw [← hp]; exact List.getElem_mem hlt)
      have hnx : tSls W H PH (s.take (i + 1)) = tSls W H PH (s.take i) ++ [tSl W H PH p] := by unfold tSls; rw [List.take_succ_eq_append_getElem hlt, hp, List.map_append]; rfl
      rcases hB with rfl | ⟨g, rfl, hrow⟩
      · simp at hlt
      have hr2 := (hrow.below KQ.out.1.2.2.1).below HS.out.1
      obtain ⟨p0, p1, p2, p3⟩ := row_sl hr2 hlt
      rw [hp] at p0 p1 p2 p3
      have hg := hr2.1
      obtain ⟨b0, b1, b2, b3⟩ := blk4 (blk_below HS.out.1 KQ.out.1.1)
      have hwP0 : w.heap.size < wr.heap.size := by omega
      have CA := Lib.hid (fun W' => boardBox_any key W H A l.length c p W' HO.out.w HO.out.h hx hy ⟨hq0, hq1⟩)
      have HTS : Hid (tSl W H PH p = ⟨PH - (slAr W H p).yt, p.x, (p.q + 1) % 4, p.skip⟩) := rfl
      have hyt : (0 ≤ (slAr W H p).xf ∧ (slAr W H p).xt ≤ 1000000) ∧ (0 ≤ (slAr W H p).yf ∧ (slAr W H p).yt ≤ 1000000) ∧ (slAr W H p).xf ≤ (slAr W H p).xt ∧ (slAr W H p).yf ≤ (slAr W H p).yt ∧ (slAr W H p).xf = p.x := by
        obtain ⟨⟨t0, t1⟩, t2, t3⟩ := turn_pos (q := p.q) HO.out.w HO.out.h
        obtain ⟨y0, y1⟩ := hy
        obtain ⟨x0, x1⟩ := hx
        refine ⟨⟨?_, ?_⟩, ⟨?_, ?_⟩, ?_, ?_, rfl⟩ <;> simp only [slAr] <;> omega
      have HNX := Lib.hid hnx
      have HROW := Lib.hid hrow
      clear hp hnx hrow hr2 hx hy
      generalize slAr W H p = a at *
      generalize tSl W H PH p = tp at *
      generalize tSls W H PH (s.take i) = acc at *
      obtain ⟨x, y, q, sk⟩ := p
      obtain ⟨axf, axt, ayf, ayt⟩ := a
      dsimp only at *
      obtain ⟨⟨a0, a1⟩, ⟨a2, a3⟩, a4, a5, a6⟩ := hyt
      have HTS2 : Hid (tp = ⟨min (PH - ayf) (PH - ayt), min axf axt, (q + 1) % 4, sk⟩) := by
        show _ = _
        rw [HTS.out]
        congr 1 <;> omega
      clear HTS a6
      go_wp2_with fail
      refine (CA.out _).mono ?_
      rintro e w2 ⟨rfl, b2⟩
      have hal : Below wr.heap.size wr w2 := ((Below.refl _ _).alloc (Nat.le_refl _) _).then_below b2
      have hsb := b2.size
      simp at hsb
      have hw2a : w.heap.size + 1 < w2.heap.size := by have := KQ.out.1.2.2.2; omega
      have hw2b : wr.heap.size < w2.heap.size := by omega
      have hw2c : w1.heap.size < w2.heap.size := by omega
      have HS2 := Lib.hid (HS.out.ext hal)
      obtain ⟨d0, d1, d2, d3⟩ := blk4 (blk_below b2 (blk_new wr _ rfl))
      obtain ⟨e0, e1, e2, _⟩ := blk3 HS2.out.2.1
      obtain ⟨g0, g1, g2, _⟩ := blk3 (blk_below HS2.out.1 KQ.out.1.2.1)
      clear hal b2 HS p0 p1 p2 p3 b0 b1 b3
      go_wp2_with fail
      refine (quarter_any axf ayf PH _ ⟨by omega, by omega⟩ ⟨by omega, by omega⟩).mono ?_
      rintro e w3 ⟨rfl, rfl⟩
      go_wp2_with fail
      refine (quarter_any axt ayt PH _ ⟨by omega, by omega⟩ ⟨by omega, by omega⟩).mono ?_
      rintro e w3 ⟨rfl, rfl⟩
      go_wp2_with (at_builtin; refine hold ?_)
      refine loose ?_
      obtain ⟨i0, hi0, hz0, hz1, hz2⟩ := info_parts slot_info
      refine wpList_append_own _ rfl _ _ 30 rfl (w1.heap.size + 1) 112 i0 _ 4 32 Try.underlying30 hi0 hz0 hz1 hz2 rfl (by omega) _ acc.length (flatSl acc) rfl ((HS2.out.2.2.alloc _).alloc _) ⟨w2.heap.size + 1, 0, none⟩ 1 1 (Sl.cells ⟨min (PH - ayf) (PH - ayt), min axf axt, (q + 1) % 4, sk⟩) rfl rfl ?_ (by intro u hu; simp [Sl.cells] at hu; rcases hu with rfl | rfl | rfl | rfl <;> rfl) (by rw [HTL.out]; unfold maxLen; omega) (by rw [HTL.out]; omega) (by simp; omega) ?_
      · intro j u hu
        rw [addr_new, cell_of_blk (blk_new (g := w2.heap.size + 1) _ _ (by simp))]
        simpa [Sl.cells] using hu
      intro vv w' hown' hg' _
      obtain ⟨gv, cap2, rfl, _⟩ := own_read hown' (by omega)
      have hsw' := hg'.size
      simp at hsw'
      have hr := own_row HS2.out.2.2
      have kb := (hg'.block w1.heap.size (by simp; omega) (fun e => by have := hr _ e.symm; omega)).trans (blk_alloc (blk_alloc HS2.out.2.1 _) _)
      have HF : Hid (TuSt w1 PH PW (tSls W H PH (s.take (i + 1))) (.slice (some ⟨gv, 0, none⟩) (acc.length + 1) cap2) (w'.setCell ⟨w1.heap.size, 2, none⟩ (.slice (some ⟨gv, 0, none⟩) (acc.length + 1) cap2))) := by
        show TuSt _ _ _ _ _ _
        rw [HNX.out, HTS2.out]
        refine ⟨(((HS2.out.1.alloc HS2.out.1.size _).alloc (by simp; omega) _).grown hg' (by simp; omega) (fun j e => by have := hr j e; omega)).setCell (by simp) _, blk_set kb _, ?_⟩
        have e1 : flatSl (acc ++ [⟨min (PH - ayf) (PH - ayt), min axf axt, (q + 1) % 4, sk⟩]) = flatSl acc ++ Sl.cells ⟨min (PH - ayf) (PH - ayt), min axf axt, (q + 1) % 4, sk⟩ := by simp [flatSl]
        rw [e1, List.length_append]
        exact own_far hown' (by simp) _
      have hc3 : w'.cell? ⟨w1.heap.size, 2, none⟩ = some (.slice A7 acc.length k7) := by rw [cell_of_blk kb]; rfl
      have hf3 : w'.frozen? ⟨w1.heap.size, 2, none⟩ = false := frozen_of_blk kb _
      have HSZ : Hid (w1.heap.size < (w'.setCell ⟨w1.heap.size, 2, none⟩ (.slice (some ⟨gv, 0, none⟩) (acc.length + 1) cap2)).heap.size) := by show _ < _; simp [World.setCell]; omega
      clear hown' hg' hi0 hz0 hz1 hz2 kb hr
      go_wp2_with fail
      go_roundw
      case rel => exact ⟨i + 1, _, by omega, by go_num, HSZ.out, HF⟩
      case measure => simp [intOf]; omega
    · obtain rfl : i = s.length := by omega
      have hts : tSls W H PH (s.take s.length) = tSls W H PH s := by rw [List.take_length]
      have HST : Hid (TuSt w1 PH PW (tSls W H PH s) (.slice A7 (tSls W H PH s).length k7) wr) := by
        have := HS.out
        rw [hts] at this
        exact this
      clear HS HTL hts
      obtain ⟨A8, k8, he8, hSA⟩ := slat_own HST.out.2.2
      obtain ⟨rfl, rfl⟩ : A7 = A8 ∧ k7 = k8 := by simpa using he8
      have htl : (tSls W H PH s).length = s.length := by unfold tSls; rw [List.length_map]
      have CQ := Lib.hid (fun (W' : World) (h2 : SlAt W' A7 (tSls W H PH s)) => panelFault1_any PH PW A7 k7 (tSls W H PH s) (by omega) W' h2)
      have HPB := Lib.hid hSA
      obtain ⟨e0, e1, e2, _⟩ := blk3 HST.out.2.1
      have HTL := Lib.hid htl
      clear hSA he8 htl
      generalize htse : tSls W H PH s = ts at *
      have HTSE := Lib.hid htse
      clear htse
      generalize pnErr PH PW ts = E2 at *
      have hwP0 : w.heap.size < wr.heap.size := by omega
      go_wp2_with fail
      refine (CQ.out _ HPB.out).mono ?_
      rintro e w2 ⟨rfl, bb2⟩
      have kt := blk_below bb2 (blk_below HST.out.1 KQ.out.2)
      obtain ⟨c0, c1, c2, _⟩ := blk3 kt
      have f0 := frozen_of_blk kt 0
      have f1 := frozen_of_blk kt 1
      have f2 := frozen_of_blk kt 2
      have HST2 := Lib.hid (HST.out.ext bb2)
      have HBW : Hid (Below w.heap.size w w2) := KQ.out.1.2.2.1.then_below HST2.out.1 KQ.out.1.2.2.1.size
      clear bb2 kt e0 e1 e2 HST HPB
      cases h2 : (E2 == 0)
      · have h3 : (E2 != 0) = true := by simpa using h2
        have HT1 : Hid (turnE key W H l PW PH s = 1) := HTF.out.trans (if_neg (by simpa using h2))
        obtain rfl : E2 = 1 := HP1.out (by simpa using h2)
        clear h2
        go_wp2_with fail
        refine bodyPost_ret (v := .tuple #[.agg #[.int .i64 0, .int .i64 0, .slice none 0 0], .int .i64 1]) (by unfold results; simp only [Try.results32]; go_simp) rfl ?_
        unfold TuPostF
        rw [HT1.out]
        refine ⟨_, rfl, ?_, none, 0, rfl, .inl rfl⟩
        exact ((HBW.out.setCell (by simp; omega) _).setCell (by simp; omega) _).setCell (by simp; omega) _
      · obtain rfl : E2 = 0 := by simpa using h2
        have HT1 : Hid (turnE key W H l PW PH s = 0) := HTF.out.trans (if_pos rfl)
        obtain ⟨e0, e1, e2, _⟩ := blk3 HST2.out.2.1
        clear h2
        go_wp2_with fail
        refine bodyPost_ret (v := .tuple #[.agg #[.int .i64 PH, .int .i64 PW, .slice A7 ts.length k7], .int .i64 0]) (by unfold results; simp only [Try.results32]; go_simp) rfl ?_
        unfold TuPostF
        rw [HT1.out]
        refine ⟨_, rfl, ?_, ?_⟩
        · exact ((HBW.out.setCell (by simp; omega) _).setCell (by simp; omega) _).setCell (by simp; omega) _
        · rw [if_pos rfl, HTSE.out]
          refine ReadsF.least (readsF_own (own_far (p := ⟨w.heap.size + 1 + 1, 2, none⟩) (own_far (p := ⟨w.heap.size + 1 + 1, 1, none⟩) (own_far (p := ⟨w.heap.size + 1 + 1, 0, none⟩) HST2.out.2.2 (by show w.heap.size + 1 + 1 < w1.heap.size + 1; omega) _) (by show w.heap.size + 1 + 1 < w1.heap.size + 1; omega) _) (by show w.heap.size + 1 + 1 < w1.heap.size + 1; omega) _)) (by omega)
end Go.Proofs.Ytiehkcbjfamnkaa
