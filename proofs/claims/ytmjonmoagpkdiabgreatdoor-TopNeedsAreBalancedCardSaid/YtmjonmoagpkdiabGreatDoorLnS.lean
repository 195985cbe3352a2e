/-
  When each board leaves the line: the program's answer.
-/
import Derived.Test.YtmjonmoagpkdiabGreatDoorLnQ
namespace Go.Proofs.YtmjonmoagpkdiabGreatDoor
open Go.RowKit
set_option linter.unusedSimpArgs false
set_option linter.unusedVariables false

/-- When each board leaves the last machine. -/
def leaveL (cs bs : List Int) (m : Nat) : List Int := (List.range m).map fun b => lv cs bs b (cs.length - 1)
theorem leaveL_snoc (cs bs : List Int) (b : Nat) : leaveL cs bs (b + 1) = leaveL cs bs b ++ [lv cs bs b (cs.length - 1)] := by
  unfold leaveL
  rw [List.range_succ, List.map_append]
  rfl
theorem leaveL_len (cs bs : List Int) (m : Nat) : (leaveL cs bs m).length = m := by
  unfold leaveL
  simp
theorem cell_one_new (w : World) (v : Value) (t : TypeId) : ∀ (j : Nat) (u : Value), [v][j]? = some u → (w.alloc (.cells #[v] t)).cell? ((⟨w.heap.size, 0, none⟩ : Addr).add j) = some u := by
  intro j u hu
  rw [addr_new, cell_of_blk (blk_new w _ rfl)]
  simpa using hu
/-- What Leave gives. -/
def leaveV (cs bs : List Int) (n : Int) : List Int := if bErr cs bs n = 0 then leaveL cs bs n.toNat else []

set_option maxRecDepth 100000 in
set_option maxHeartbeats 8000000 in
theorem leave_any (cs bs : List Int) (n : Int) (hl : cs.length ≤ 1000000) (hb : bs.length ≤ 1000000) {v1 v2 : Value} {w : World} (r1 : Reads encN v1 cs w) (r2 : Reads encN v2 bs w) :
    Calls Tryz.prog 20 #[v1, v2, .int .i64 n] w fun e w' => ∃ v, e = .returned (.tuple #[v, .int .i64 (bErr cs bs n)]) ∧ ReadsF w.heap.size encN v (leaveV cs bs n) w' ∧ Below w.heap.size w w' := by
  have CC := Lib.hid (checkBoards_any cs bs n hl hb r1 r2)
  have HR := Lib.hid (And.intro r1 r2)
  have CP := Lib.hid (fun (m : Nat) (W : World) h0 h1 h2 h3 h4 h5 h6 h7 => @passes_any cs bs m h0 h1 h2 h3 h4 h5 v1 v2 W h6 h7)
  obtain ⟨A1, c1, rfl, _⟩ := r1
  obtain ⟨A2, c2, rfl, _⟩ := r2
  by_cases h0 : bErr cs bs n = 0
  rotate_left
  · have HV : Hid (leaveV cs bs n = []) := if_neg h0
    have hne : (bErr cs bs n != 0) = true := by simp [h0]
    generalize bErr cs bs n = E at *
    generalize leaveV cs bs n = LV at *
    clear h0
    go_enter Tryz.func20, Tryz.ntmps20
    go_wp2_with fail
    refine CC.out.mono ?_
    rintro e w2 ⟨rfl, b2⟩
    have HB := Lib.hid b2
    clear b2 CC
    go_wp2_with fail
    refine bodyPost_ret (v := .tuple #[.slice none 0 0, .int .i64 E]) (by unfold results; simp only [Tryz.results20]; go_simp) rfl ⟨_, rfl, ?_, HB.out⟩
    rw [HV.out]
    exact readsF_nil _ _ _
  obtain ⟨hc0, hbl, hbs, hn1, hn2⟩ := bErr_ok h0
  obtain ⟨hc1, hc6, hcs⟩ := cErr_ok hc0
  have HV : Hid (leaveV cs bs n = leaveL cs bs n.toNat) := if_pos h0
  rw [h0] at CC ⊢
  clear h0
  generalize leaveV cs bs n = LV at *
  obtain ⟨m, rfl⟩ := Int.eq_ofNat_of_zero_le (show 0 ≤ n by omega)
  have CP2 := Lib.hid (fun W h6 h7 => CP.out m W hcs hc1 hc6 hbl hbs (by omega) h6 h7)
  have HC := Lib.hid hcs
  have hbl2 : bs.length < 6 := by omega
  clear CP hbl hbs hcs hc0
  have hm2 : m ≤ 2000 := by omega
  clear hn2
  go_enter Tryz.func20, Tryz.ntmps20
  go_wp2_with fail
  refine CC.out.mono ?_
  rintro e w2 ⟨rfl, b2⟩
  have HB := Lib.hid b2
  clear b2 CC
  go_wp2_with fail
  refine (CP2.out w2 (HR.out.1.below HB.out) (HR.out.2.below HB.out)).mono ?_
  rintro e w3 ⟨oa, g, rfl, hp, b3, _, _⟩
  have HP : Hid (PassAt cs bs oa g cs.length m w3 ∧ Below w.heap.size w w3) := ⟨hp, HB.out.then_below b3 HB.out.size⟩
  clear hp b3 HB CP2
  have hn0 : cs.length - 1 < cs.length := by omega
  have hcast : ((cs.length : Int) - 1) = ((cs.length - 1 : Nat) : Int) := by omega
  have q1 := cell_of_blk HP.out.1.ho (cs.length - 1)
  rw [oaR_at m cs.length g hn0, if_pos hn0] at q1
  have hl1 := lt_of_blk HP.out.1.ho
  have hz3 := HP.out.2.size
  have HL6 : Hid (cs.length ≤ 6) := hc6
  obtain ⟨last, hlast⟩ : ∃ last, cs.length - 1 = last := ⟨_, rfl⟩
  have hlast6 : last < 6 := by omega
  have HLA := Lib.hid hlast
  rw [hlast] at hcast q1 hn0
  clear hlast
  have i1 : (0 : Int) ≤ (last : Int) := by omega
  have i2 : (last : Int) < (cs.length : Int) := by omega
  go_wp2_with fail
  clear q1 hcast
  go_loopw [10, 31] (fun v10 kk wr => ∃ (b : Nat), b ≤ m ∧ kk = .int .i64 b ∧ w.heap.size ≤ wr.heap.size ∧ Hid (Below w3.heap.size w3 wr ∧ wr.ownsRow w3.heap.size 3 1 v10 b ((leaveL cs bs b).map (Value.int .i64)))) (fun _ kk _ => m - (intOf kk).toNat)
  case atStart => exact ⟨0, by omega, rfl, hz3, Below.refl _ _, World.ownsRow_nil _ _ _ _⟩
  case round =>
    obtain ⟨b, hb2, rfl, hwz, HS⟩ := hrel
    obtain ⟨A5, c5, rfl, _⟩ := own_form HS.out.2
    have HLN : Hid (leaveL cs bs (b + 1) = leaveL cs bs b ++ [lv cs bs b last]) := by rw [← HLA.out]; exact leaveL_snoc cs bs b
    by_cases hbm : b < m
    · have hrk := blk_below HS.out.1 (HP.out.1.rows last hn0)
      obtain ⟨p1, p2, p3⟩ := pRow_done cs bs m 0 last hbm (.inl hbm)
      have d5 : wr.cell? ⟨g last, b * 3, none⟩ = some (.int .i64 (cm cs bs b last)) := (cell_of_blk hrk (b * 3)).trans (List.getElem?_toArray.trans p1)
      have d6 : wr.cell? ⟨g last, b * 3 + 1, none⟩ = some (.int .i64 (dn cs bs b last)) := (cell_of_blk hrk (b * 3 + 1)).trans (List.getElem?_toArray.trans p2)
      have d7 : wr.cell? ⟨g last, b * 3 + 2, none⟩ = some (.int .i64 (lv cs bs b last)) := (cell_of_blk hrk (b * 3 + 2)).trans (List.getElem?_toArray.trans p3)
      have hgl := lt_of_blk hrk
      have i3 : (0 : Int) ≤ (b : Int) := by omega
      have i4 : (b : Int) < (m : Int) := by omega
      clear hrk p1 p2 p3
      generalize cm cs bs b last = X at *
      generalize dn cs bs b last = Y at *
      generalize lv cs bs b last = Z at *
      obtain ⟨i0, hi0, hz0, hzz1, hz20⟩ := info_parts int_infoN
      have HI := Lib.hid (And.intro hi0 (And.intro hz0 (And.intro hzz1 hz20)))
      clear hi0 hz0 hzz1 hz20
      have H1 : Hid (Below w3.heap.size w3 (wr.alloc (.cells #[.int .i64 X, .int .i64 Y, .int .i64 Z] 100)) ∧ (wr.alloc (.cells #[.int .i64 X, .int .i64 Y, .int .i64 Z] 100)).ownsRow w3.heap.size 3 1 (.slice A5 b c5) b ((leaveL cs bs b).map (Value.int .i64)) ∧ (wr.alloc (.cells #[.int .i64 X, .int .i64 Y, .int .i64 Z] 100)).heap[wr.heap.size]? = some (.cells #[.int .i64 X, .int .i64 Y, .int .i64 Z] 100 (0, 0))) :=
        ⟨HS.out.1.alloc HS.out.1.size _, HS.out.2.alloc _, blk_new wr _ rfl⟩
      go_upto_region 9 with (fail)
      generalize wr.alloc (.cells #[.int .i64 X, .int .i64 Y, .int .i64 Z] 100) = wx at *
      generalize wr.heap.size = gp at *
      obtain ⟨e1, e2, e3⟩ := blk3 H1.out.2.2
      have hle := lt_of_blk H1.out.2.2
      have hz1 := H1.out.1.size
      clear d5 d6 d7 hgl HS
      go_wp2_with (at_builtin; refine hold ?_)
      refine loose ?_
      refine wpList_append_own _ rfl _ _ 22 rfl w3.heap.size 3 i0 _ 1 8 Tryz.underlying22 HI.out.1 HI.out.2.1 HI.out.2.2.1 HI.out.2.2.2 rfl (by omega) _ b ((leaveL cs bs b).map (Value.int .i64)) rfl (H1.out.2.1.alloc _) ⟨wx.heap.size, 0, none⟩ 1 1 [.int .i64 Z] rfl rfl (cell_one_new _ _ _) (by intro u hu; simp at hu; subst hu; rfl) (by unfold maxLen; omega) (by omega) (by simp; omega) ?_
      intro v' w4 hown' hg' _
      have H4 : Hid (Below w3.heap.size w3 w4 ∧ w4.ownsRow w3.heap.size 3 1 v' (b + 1) ((leaveL cs bs (b + 1)).map (Value.int .i64))) := by
        refine ⟨(H1.out.1.alloc H1.out.1.size _).grown hg' (by simp; omega) (own_row H1.out.2.1), ?_⟩
        rw [HLN.out, List.map_append]
        exact hown'
      have hz4 : w.heap.size ≤ w4.heap.size := by have := H4.out.1.size; omega
      clear hown' hg' H1 e1 e2 e3 hle
      go_wp2_with fail
      go_roundw
      case rel => exact ⟨b + 1, by omega, by go_num, hz4, H4⟩
      case measure => simp [intOf]; omega
    · obtain rfl : b = m := by omega
      have hz4 := HS.out.1.size
      go_wp2_with fail
      refine bodyPost_ret (v := .tuple #[.slice A5 b c5, .int .i64 0]) (by unfold results; simp only [Tryz.results20]; go_simp) rfl ⟨_, rfl, ?_, HP.out.2.trans (HS.out.1.mono hz3)⟩
      rw [HV.out]
      have h := HS.out.2
      show ReadsF w.heap.size encN _ (leaveL cs bs b) wr
      refine (readsF_own (base := w3.heap.size) (T := 3) (size := 1) ?_).least hz3
      rw [flatN_map, leaveL_len]
      exact h
end Go.Proofs.YtmjonmoagpkdiabGreatDoor
