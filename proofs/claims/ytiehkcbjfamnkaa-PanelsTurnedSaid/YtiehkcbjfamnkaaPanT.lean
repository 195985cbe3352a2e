/-
  The walk of Turned.
-/
import Derived.Test.YtiehkcbjfamnkaaPanO
import Derived.Test.YtiehkcbjfamnkaaGenP
namespace Go.Proofs.Ytiehkcbjfamnkaa
open Go.RowKit

def tSl (W H PH : Int) (s : Sl) : Sl := ⟨PH - (slAr W H s).yt, s.x, (s.q + 1) % 4, s.skip⟩
def tSls (W H PH : Int) (s : List Sl) : List Sl := s.map (tSl W H PH)
def turnE (key : ByteArray) (W H : Int) (l : List Pl) (PW PH : Int) (s : List Sl) : Int :=
  if panErr key W H l PW PH s = 0 then (if pnErr PH PW (tSls W H PH s) = 0 then 0 else 1) else panErr key W H l PW PH s

theorem slat_own {w : World} {base : Nat} {T : TypeId} {v : Value} {l : List Sl} (h : w.ownsRow base T 4 v l.length (flatSl l)) : ∃ A c, v = .slice A l.length c ∧ SlAt w A l := by
  obtain ⟨A, c, rfl, _⟩ := own_form h
  refine ⟨A, c, rfl, ?_⟩
  by_cases h0 : l.length = 0
  · exact .inl (List.length_eq_zero_iff.mp h0)
  · obtain ⟨g', _, hv, _, hlt, _, _, hrd⟩ := own_read h (by omega)
    simp only [Value.slice.injEq, true_and] at hv
    exact .inr ⟨g', hv.1, hlt, hrd⟩

/-- What is known at the head of the loop of Turned. -/
def TuSt (w1 : World) (PH PW : Int) (ts : List Sl) (v : Value) (W : World) : Prop :=
  Below w1.heap.size w1 W ∧ W.heap[w1.heap.size]? = some (.cells #[.int .i64 PH, .int .i64 PW, v] 32 (0, 0)) ∧ W.ownsRow (w1.heap.size + 1) 112 4 v ts.length (flatSl ts)
theorem TuSt.ext {w1 : World} {PH PW : Int} {ts : List Sl} {v : Value} {W W' : World} (h : TuSt w1 PH PW ts v W) (hb : Below W.heap.size W W') : TuSt w1 PH PW ts v W' := ⟨h.1.ext hb, blk_below hb h.2.1, own_below h.2.2 hb⟩

def TuPost (key : ByteArray) (W H : Int) (l : List Pl) (PW PH : Int) (s : List Sl) (w : World) (e : Ending) (w' : World) : Prop :=
  ∃ v, e = .returned (.tuple #[.agg #[.int .i64 (if turnE key W H l PW PH s = 0 then PH else 0), .int .i64 (if turnE key W H l PW PH s = 0 then PW else 0), v], .int .i64 (turnE key W H l PW PH s)]) ∧ Below w.heap.size w w' ∧
    Reads Sl.cells v (if turnE key W H l PW PH s = 0 then tSls W H PH s else []) w'

set_option maxRecDepth 100000 in
set_option maxHeartbeats 4000000 in
theorem turnedP_any (key : ByteArray) (W H : Int) (A : Option Addr) (c : Nat) (l : List Pl) (hl : l.length ≤ 4611686018427387904) (PW PH : Int) (B : Option Addr) (d : Nat) (s : List Sl) (hsl : s.length ≤ 4611686018427387904) (w : World) (hA : PlAt w A l) (hB : SlAt w B s) :
    Calls Try.prog 29 #[prod key W H A l.length c, pan PW PH B s.length d] w (TuPost key W H l PW PH s w) := by
  have CP := Lib.hid (fun (W' : World) (h : PlAt W' A l) (h2 : SlAt W' B s) => checkPanel_any key W H A c l hl PW PH B d s hsl W' h h2)
  have HTE : Hid (turnE key W H l PW PH s = if panErr key W H l PW PH s = 0 then (if pnErr PH PW (tSls W H PH s) = 0 then 0 else 1) else panErr key W H l PW PH s) := rfl
  by_cases h1 : panErr key W H l PW PH s = 0
  rotate_left
  · have HTF : Hid (turnE key W H l PW PH s = panErr key W H l PW PH s) := HTE.out.trans (if_neg h1)
    have HPO : Hid (∀ w e w', TuPost key W H l PW PH s w e w' ↔ ∃ v, e = .returned (.tuple #[.agg #[.int .i64 0, .int .i64 0, v], .int .i64 (panErr key W H l PW PH s)]) ∧ Below w.heap.size w w' ∧ Reads Sl.cells v [] w') := fun w e w' => by
      unfold TuPost
      rw [HTF.out, if_neg h1, if_neg h1, if_neg h1]
    clear HTE HTF
    generalize panErr key W H l PW PH s = E at *
    have h2 : (E != 0) = true := by simpa using h1
    clear h1
    go_enter Try.func29, Try.ntmps29
    go_wp2_with fail
    have kP : PanB w (((w.alloc (Obj.cells #[.string key, .int .i64 W, .int .i64 H, .slice A l.length c] 28)).alloc (Obj.cells #[.int .i64 PW, .int .i64 PH, .slice B s.length d] 32)).alloc (Obj.cells #[.int .i64 0, .int .i64 0, .slice none 0 0] 32)) key W H A l.length c PW PH B s.length d := ⟨blk_alloc (blk_alloc (blk_new w _ rfl) _) _, blk_alloc (blk_new _ _ (by simp)) _, (((Below.refl _ _).alloc (Nat.le_refl _) _).alloc (by simp) _).alloc (by simp; omega) _, by simp⟩
    have kT : (((w.alloc (Obj.cells #[.string key, .int .i64 W, .int .i64 H, .slice A l.length c] 28)).alloc (Obj.cells #[.int .i64 PW, .int .i64 PH, .slice B s.length d] 32)).alloc (Obj.cells #[.int .i64 0, .int .i64 0, .slice none 0 0] 32)).heap[w.heap.size + 1 + 1]? = some (.cells #[.int .i64 0, .int .i64 0, .slice none 0 0] 32 (0, 0)) := blk_new _ _ (by simp)
    generalize (((w.alloc (Obj.cells #[.string key, .int .i64 W, .int .i64 H, .slice A l.length c] 28)).alloc (Obj.cells #[.int .i64 PW, .int .i64 PH, .slice B s.length d] 32)).alloc (Obj.cells #[.int .i64 0, .int .i64 0, .slice none 0 0] 32)) = wP at *
    have KP := Lib.hid kP
    have KT := Lib.hid kT
    clear kP kT
    refine (CP.out _ (hA.below KP.out.2.2.1) (hB.below KP.out.2.2.1)).mono ?_
    rintro e w1 ⟨rfl, b1⟩
    have HB1 := Lib.hid (KP.out.2.2.1.then_below b1 KP.out.2.2.1.size)
    have kt := blk_below b1 KT.out
    obtain ⟨c0, c1, c2, _⟩ := blk3 kt
    have f0 := frozen_of_blk kt 0
    have f1 := frozen_of_blk kt 1
    have f2 := frozen_of_blk kt 2
    clear b1 kt
    go_wp2_with fail
    refine bodyPost_ret (v := .tuple #[.agg #[.int .i64 0, .int .i64 0, .slice none 0 0], .int .i64 E]) (by unfold results; simp only [Try.results29]; go_simp) rfl ((HPO.out _ _ _).mpr ⟨_, rfl, ?_, none, 0, rfl, .inl rfl⟩)
    exact ((HB1.out.setCell (by simp; omega) _).setCell (by simp; omega) _).setCell (by simp; omega) _
  · have HTF : Hid (turnE key W H l PW PH s = if pnErr PH PW (tSls W H PH s) = 0 then 0 else 1) := HTE.out.trans (if_pos h1)
    clear HTE
    obtain ⟨hpe, _, ho⟩ := pan_ok h1
    rw [h1] at CP
    have hsl2 := ho.slen
    have hlen := ho.len
    have HO := Lib.hid ho
    have HPE := Lib.hid hpe
    obtain ⟨pw0, pw1⟩ := ho.pw
    obtain ⟨ph0, ph1⟩ := ho.ph
    clear h1 ho hpe
    go_enter Try.func29, Try.ntmps29
    go_wp2_with fail
    have kP : PanB w (((w.alloc (Obj.cells #[.string key, .int .i64 W, .int .i64 H, .slice A l.length c] 28)).alloc (Obj.cells #[.int .i64 PW, .int .i64 PH, .slice B s.length d] 32)).alloc (Obj.cells #[.int .i64 0, .int .i64 0, .slice none 0 0] 32)) key W H A l.length c PW PH B s.length d := ⟨blk_alloc (blk_alloc (blk_new w _ rfl) _) _, blk_alloc (blk_new _ _ (by simp)) _, (((Below.refl _ _).alloc (Nat.le_refl _) _).alloc (by simp) _).alloc (by simp; omega) _, by simp⟩
    have kT : (((w.alloc (Obj.cells #[.string key, .int .i64 W, .int .i64 H, .slice A l.length c] 28)).alloc (Obj.cells #[.int .i64 PW, .int .i64 PH, .slice B s.length d] 32)).alloc (Obj.cells #[.int .i64 0, .int .i64 0, .slice none 0 0] 32)).heap[w.heap.size + 1 + 1]? = some (.cells #[.int .i64 0, .int .i64 0, .slice none 0 0] 32 (0, 0)) := blk_new _ _ (by simp)
    generalize (((w.alloc (Obj.cells #[.string key, .int .i64 W, .int .i64 H, .slice A l.length c] 28)).alloc (Obj.cells #[.int .i64 PW, .int .i64 PH, .slice B s.length d] 32)).alloc (Obj.cells #[.int .i64 0, .int .i64 0, .slice none 0 0] 32)) = wP at *
    have KP := Lib.hid kP
    have KT := Lib.hid kT
    clear kP kT
    refine (CP.out _ (hA.below KP.out.2.2.1) (hB.below KP.out.2.2.1)).mono ?_
    rintro e w1 ⟨rfl, b1⟩
    have KQ : Hid (PanB w w1 key W H A l.length c PW PH B s.length d ∧ w1.heap[w.heap.size + 1 + 1]? = some (.cells #[.int .i64 0, .int .i64 0, .slice none 0 0] 32 (0, 0))) := ⟨⟨blk_below b1 KP.out.1, blk_below b1 KP.out.2.1, KP.out.2.2.1.then_below b1 KP.out.2.2.1.size, Nat.lt_of_lt_of_le KP.out.2.2.2 b1.size⟩, blk_below b1 KT.out⟩
    clear b1 KP KT
    obtain ⟨e0, e1, e2, hPl⟩ := blk3 KQ.out.1.2.1
    have hP2 := lt_of_blk KQ.out.2
    go_wp2_with fail
    clear e0 e1 e2
    go_loopw [26] (fun kk wr => ∃ (i : Nat) (v : Value), i ≤ s.length ∧ kk = .int .i64 i ∧ w1.heap.size < wr.heap.size ∧ Hid (TuSt w1 PH PW (tSls W H PH (s.take i)) v wr)) (fun kk _ => s.length - (intOf kk).toNat)
    case atStart => exact ⟨0, _, by omega, rfl, by simp, (Below.refl _ _).alloc (Nat.le_refl _) _, blk_new w1 _ rfl, World.ownsRow_nil _ _ _ _⟩
    case round =>
      obtain ⟨i, v, hi, rfl, hsz, HS⟩ := hrel
      have htl : (tSls W H PH (s.take i)).length = i := by unfold tSls; rw [List.length_map, List.length_take]; omega
      obtain ⟨A7, k7, rfl, _⟩ := own_form HS.out.2.2
      have HTL := Lib.hid htl
      clear htl
      have hB1 := HS.out.1.size
      by_cases hlt : i < s.length
      · obtain ⟨p, hp⟩ : ∃ p, s[i] = p := ⟨_, rfl⟩
        obtain ⟨hx, hy, hq0, hq1⟩ := HO.out.sl p (by rw [← hp]; exact List.getElem_mem hlt)
        have hnx : tSls W H PH (s.take (i + 1)) = tSls W H PH (s.take i) ++ [tSl W H PH p] := by unfold tSls; rw [List.take_succ_eq_append_getElem hlt, hp, List.map_append]; rfl
        rcases hB with rfl | ⟨g, rfl, hrow⟩
        · simp at hlt
        have hr2 := (hrow.below KQ.out.1.2.2.1).below HS.out.1
        obtain ⟨p0, p1, p2, p3⟩ := row_sl hr2 hlt
        rw [hp] at p0 p1 p2 p3
        have hg := hr2.1
        obtain ⟨b0, b1, b2, b3⟩ := blk4 (blk_below HS.out.1 KQ.out.1.1)
        have hwP0 : w.heap.size < wr.heap.size := by omega
        have CA := Lib.hid (fun W' => boardArea_any key W H A l.length c p W' HO.out.w HO.out.h hx hy hq0)
        have HTS : Hid (tSl W H PH p = ⟨PH - (slAr W H p).yt, p.x, (p.q + 1) % 4, p.skip⟩) := rfl
        have hyt : 0 ≤ (slAr W H p).yt ∧ (slAr W H p).yt ≤ 1000000 := by
          obtain ⟨⟨t0, t1⟩, t2, t3⟩ := turn_pos (q := p.q) HO.out.w HO.out.h
          obtain ⟨y0, y1⟩ := hy
          unfold slAr
          simp only
          omega
        have HNX := Lib.hid hnx
        have HROW := Lib.hid hrow
        clear hp hnx hrow hr2 hx hy
        generalize slAr W H p = a at *
        generalize tSl W H PH p = tp at *
        generalize tSls W H PH (s.take i) = acc at *
        obtain ⟨x, y, q, sk⟩ := p
        obtain ⟨axf, axt, ayf, ayt⟩ := a
        dsimp only at *
        have hfd1 : ∀ W' : World, (Instr.field 135 (.agg #[.int .i64 axf, .int .i64 axt, .int .i64 ayf, .int .i64 ayt]) 1).run Try.prog W' = .ok (.agg #[.int .i64 ayf, .int .i64 ayt]) W' := fun _ => by kernel_rfl
        have hfd2 : ∀ W' : World, (Instr.field 133 (.agg #[.int .i64 ayf, .int .i64 ayt]) 1).run Try.prog W' = .ok (.int .i64 ayt) W' := fun _ => by kernel_rfl
        go_wp2_with fail
        refine (CA.out _).mono ?_
        rintro e w2 ⟨rfl, b2⟩
        have hal : Below wr.heap.size wr w2 := ((Below.refl _ _).alloc (Nat.le_refl _) _).then_below b2
        have hsb := b2.size
        simp at hsb
        have hw2a : w.heap.size + 1 < w2.heap.size := by have := KQ.out.1.2.2.2; omega
        have hw2b : wr.heap.size < w2.heap.size := by omega
        have hw2c : w1.heap.size < w2.heap.size := by omega
        have HS2 := Lib.hid (HS.out.ext hal)
        obtain ⟨d0, d1, d2, d3⟩ := blk4 (blk_below b2 (blk_new wr _ rfl))
        obtain ⟨e0, e1, e2, _⟩ := blk3 HS2.out.2.1
        obtain ⟨g0, g1, g2, _⟩ := blk3 (blk_below HS2.out.1 KQ.out.1.2.1)
        clear hal b2 HS p0 p1 p2 p3 b0 b1 b3
        go_wp2_with (at_builtin; refine hold ?_)
        refine loose ?_
        obtain ⟨i0, hi0, hz0, hz1, hz2⟩ := info_parts slot_info
        refine wpList_append_own _ rfl _ _ 30 rfl (w1.heap.size + 1) 112 i0 _ 4 32 Try.underlying30 hi0 hz0 hz1 hz2 rfl (by omega) _ acc.length (flatSl acc) rfl (HS2.out.2.2.alloc _) ⟨w2.heap.size, 0, none⟩ 1 1 (Sl.cells ⟨PH - ayt, x, (q + 1) % 4, sk⟩) rfl rfl ?_ (by intro u hu; simp [Sl.cells] at hu; rcases hu with rfl | rfl | rfl | rfl <;> rfl) (by rw [HTL.out]; unfold maxLen; omega) (by rw [HTL.out]; omega) (by simp; omega) ?_
        · intro j u hu
          rw [addr_new, cell_of_blk (blk_new (g := w2.heap.size) _ _ rfl)]
          simpa [Sl.cells] using hu
        intro vv w' hown' hg' _
        obtain ⟨gv, cap2, rfl, _⟩ := own_read hown' (by omega)
        have hsw' := hg'.size
        simp at hsw'
        have hr := own_row HS2.out.2.2
        have kb := (hg'.block w1.heap.size (by simp; omega) (fun e => by have := hr _ e.symm; omega)).trans (blk_alloc HS2.out.2.1 _)
        have HF : Hid (TuSt w1 PH PW (tSls W H PH (s.take (i + 1))) (.slice (some ⟨gv, 0, none⟩) (acc.length + 1) cap2) (w'.setCell ⟨w1.heap.size, 2, none⟩ (.slice (some ⟨gv, 0, none⟩) (acc.length + 1) cap2))) := by
          show TuSt _ _ _ _ _ _
          rw [HNX.out, HTS.out]
          refine ⟨((HS2.out.1.alloc HS2.out.1.size _).grown hg' (by simp; omega) (fun j e => by have := hr j e; omega)).setCell (by simp) _, blk_set kb _, ?_⟩
          have e1 : flatSl (acc ++ [⟨PH - ayt, x, (q + 1) % 4, sk⟩]) = flatSl acc ++ Sl.cells ⟨PH - ayt, x, (q + 1) % 4, sk⟩ := by simp [flatSl]
          rw [e1, List.length_append]
          exact own_far hown' (by simp) _
        have hc3 : w'.cell? ⟨w1.heap.size, 2, none⟩ = some (.slice A7 acc.length k7) := by rw [cell_of_blk kb]; rfl
        have hf3 : w'.frozen? ⟨w1.heap.size, 2, none⟩ = false := frozen_of_blk kb _
        have HSZ : Hid (w1.heap.size < (w'.setCell ⟨w1.heap.size, 2, none⟩ (.slice (some ⟨gv, 0, none⟩) (acc.length + 1) cap2)).heap.size) := by show _ < _; simp [World.setCell]; omega
        clear hown' hg' hi0 hz0 hz1 hz2 kb hr
        go_wp2_with fail
        go_roundw
        case rel => exact ⟨i + 1, _, by omega, by go_num, HSZ.out, HF⟩
        case measure => simp [intOf]; omega
      · obtain rfl : i = s.length := by omega
        have hts : tSls W H PH (s.take s.length) = tSls W H PH s := by rw [List.take_length]
        have HST : Hid (TuSt w1 PH PW (tSls W H PH s) (.slice A7 (tSls W H PH s).length k7) wr) := by
          have := HS.out
          rw [hts] at this
          exact this
        clear HS HTL hts
        obtain ⟨A8, k8, he8, hSA⟩ := slat_own HST.out.2.2
        obtain ⟨rfl, rfl⟩ : A7 = A8 ∧ k7 = k8 := by simpa using he8
        have htl : (tSls W H PH s).length = s.length := by unfold tSls; rw [List.length_map]
        have CQ := Lib.hid (fun (W' : World) (h : PlAt W' A l) (h2 : SlAt W' A7 (tSls W H PH s)) => checkPanel_any key W H A c l (by omega) PH PW A7 k7 (tSls W H PH s) (by omega) W' h h2)
        have hpan : panErr key W H l PH PW (tSls W H PH s) = pnErr PH PW (tSls W H PH s) := if_pos HPE.out
        rw [hpan] at CQ
        have hPB := (hA.below KQ.out.1.2.2.1).below HST.out.1
        have HPB := Lib.hid (And.intro hPB hSA)
        obtain ⟨b0, b1, b2, b3⟩ := blk4 (blk_below HST.out.1 KQ.out.1.1)
        obtain ⟨e0, e1, e2, _⟩ := blk3 HST.out.2.1
        have HTL := Lib.hid htl
        clear hPB hSA he8 hpan htl
        generalize htse : tSls W H PH s = ts at *
        have HTSE := Lib.hid htse
        clear htse
        generalize pnErr PH PW ts = E2 at *
        have hwP0 : w.heap.size < wr.heap.size := by omega
        go_wp2_with fail
        refine (CQ.out _ HPB.out.1 HPB.out.2).mono ?_
        rintro e w2 ⟨rfl, bb2⟩
        have kt := blk_below bb2 (blk_below HST.out.1 KQ.out.2)
        obtain ⟨c0, c1, c2, _⟩ := blk3 kt
        have f0 := frozen_of_blk kt 0
        have f1 := frozen_of_blk kt 1
        have f2 := frozen_of_blk kt 2
        have HST2 := Lib.hid (HST.out.ext bb2)
        have HBW : Hid (Below w.heap.size w w2) := KQ.out.1.2.2.1.then_below HST2.out.1 KQ.out.1.2.2.1.size
        clear bb2 kt b0 b1 b2 b3 e0 e1 e2 HST HPB
        cases h2 : (E2 == 0)
        · have h3 : (E2 != 0) = true := by simpa using h2
          have HT1 : Hid (turnE key W H l PW PH s = 1) := HTF.out.trans (if_neg (by simpa using h2))
          clear h2
          go_wp2_with fail
          refine bodyPost_ret (v := .tuple #[.agg #[.int .i64 0, .int .i64 0, .slice none 0 0], .int .i64 1]) (by unfold results; simp only [Try.results29]; go_simp) rfl ?_
          unfold TuPost
          rw [HT1.out]
          refine ⟨_, rfl, ?_, none, 0, rfl, .inl rfl⟩
          exact ((HBW.out.setCell (by simp; omega) _).setCell (by simp; omega) _).setCell (by simp; omega) _
        · obtain rfl : E2 = 0 := by simpa using h2
          have HT1 : Hid (turnE key W H l PW PH s = 0) := HTF.out.trans (if_pos rfl)
          obtain ⟨e0, e1, e2, _⟩ := blk3 HST2.out.2.1
          clear h2
          go_wp2_with fail
          refine bodyPost_ret (v := .tuple #[.agg #[.int .i64 PH, .int .i64 PW, .slice A7 ts.length k7], .int .i64 0]) (by unfold results; simp only [Try.results29]; go_simp) rfl ?_
          unfold TuPost
          rw [HT1.out]
          refine ⟨_, rfl, ?_, ?_⟩
          · exact ((HBW.out.setCell (by simp; omega) _).setCell (by simp; omega) _).setCell (by simp; omega) _
          · rw [if_pos rfl, HTSE.out]
            exact reads_own (own_far (p := ⟨w.heap.size + 1 + 1, 2, none⟩) (own_far (p := ⟨w.heap.size + 1 + 1, 1, none⟩) (own_far (p := ⟨w.heap.size + 1 + 1, 0, none⟩) HST2.out.2.2 (by show w.heap.size + 1 + 1 < w1.heap.size + 1; omega) _) (by show w.heap.size + 1 + 1 < w1.heap.size + 1; omega) _) (by show w.heap.size + 1 + 1 < w1.heap.size + 1; omega) _)
end Go.Proofs.Ytiehkcbjfamnkaa
