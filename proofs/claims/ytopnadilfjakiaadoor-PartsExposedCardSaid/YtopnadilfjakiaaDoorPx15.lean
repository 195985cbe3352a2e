/-
  The reference's faults of a catalogue of one part, and of a part and where it lies.
-/
import Derived.Test.YtopnadilfjakiaaDoorPx14
import Derived.Test.YtopnadilfjakiaaDoorRg
namespace Go.Proofs.YtopnadilfjakiaaDoor
open Go.RowKit


set_option maxRecDepth 100000 in
set_option maxHeartbeats 4000000 in
theorem catFault_one (key pk : ByteArray) (lv bk : Int) (g : Nat) (w : World) (hk1 : key.size ≤ 1000) (hk2 : pk.size ≤ 1000) (hp : PartB w g key pk lv bk) :
    Calls Tryd.prog 36 #[.agg #[.slice (some ⟨g, 0, none⟩) 1 1, .slice none 0 0]] w fun e w' => e = .returned (.int .i64 (partE key pk lv bk)) ∧ Below w.heap.size w w' := by
  have HE : Hid (partE key pk lv bk = if (keyB key && keyB pk) = false then 5 else if (inR lv 1 6 && inR bk 0 720000000) = false then 1 else 0) := rfl
  have CK := Lib.hid (fun W => keyR_any key W (by omega))
  have CP := Lib.hid (fun W => keyR_any pk W (by omega))
  have CL := Lib.hid (fun W => in1_any lv 1 6 W)
  have CB := Lib.hid (fun W => in1_any bk 0 720000000 W)
  generalize partE key pk lv bk = E at *
  go_enter Tryd.func36, Tryd.ntmps36
  go_wp2_with fail
  have bw1 : Below w.heap.size w (w.alloc (Obj.cells #[.slice (some ⟨g, 0, none⟩) 1 1, .slice none 0 0] 71)) := ((Below.refl _ _).alloc (Nat.le_refl _) _)
  have kC : (w.alloc (Obj.cells #[.slice (some ⟨g, 0, none⟩) 1 1, .slice none 0 0] 71)).heap[w.heap.size]? = some (.cells #[.slice (some ⟨g, 0, none⟩) 1 1, .slice none 0 0] 71 (0, 0)) := (blk_new w _ rfl)
  generalize (w.alloc (Obj.cells #[.slice (some ⟨g, 0, none⟩) 1 1, .slice none 0 0] 71)) = w1 at *
  have H0 : Hid (Below w.heap.size w w1 ∧ w1.heap[w.heap.size]? = some (.cells #[.slice (some ⟨g, 0, none⟩) 1 1, .slice none 0 0] 71 (0, 0))) := ⟨bw1, kC⟩
  obtain ⟨d0, d1, _, _⟩ := blk2 kC
  have hz := lt_of_blk kC
  clear bw1 kC hk1 hk2
  go_wp2_with fail
  clear d0 d1 hz
  go_loopw [19] (fun kk wr => ∃ k : Nat, k ≤ 1 ∧ kk = .int .i64 k ∧ Hid (Below w.heap.size w wr ∧ wr.heap[w.heap.size]? = some (.cells #[.slice (some ⟨g, 0, none⟩) 1 1, .slice none 0 0] 71 (0, 0)) ∧ (k = 1 → E = 0))) (fun kk _ => 1 - (intOf kk).toNat)
  case atStart => exact ⟨0, by omega, rfl, H0.out.1, H0.out.2, fun h => by cases h⟩
  case round =>
    clear H0
    obtain ⟨k, hk, rfl, HS⟩ := hrel
    by_cases hlt : k < 1
    · obtain ⟨p0, p1, p2, p3⟩ := blk4 (blk_below HS.out.1 hp)
      have hgl := lt_of_blk (blk_below HS.out.1 hp)
      have c0 : wr.cell? ⟨g, k * 4, none⟩ = some (.string key) := by rw [show k * 4 = 0 by omega]; exact p0
      have c1 : wr.cell? ⟨g, k * 4 + 1, none⟩ = some (.string pk) := by rw [show k * 4 + 1 = 1 by omega]; exact p1
      have c2 : wr.cell? ⟨g, k * 4 + 2, none⟩ = some (.int .i64 lv) := by rw [show k * 4 + 2 = 2 by omega]; exact p2
      have c3 : wr.cell? ⟨g, k * 4 + 3, none⟩ = some (.int .i64 bk) := by rw [show k * 4 + 3 = 3 by omega]; exact p3
      have i1 : (0 : Int) ≤ (k : Int) := by omega
      have i2 : (k : Int) < 1 := by omega
      have hd0 : decide (0 < k) = false := decide_eq_false (by omega)
      have HB := Lib.hid (And.intro HS.out.1 HS.out.2.1)
      have hwr : w.heap.size < wr.heap.size := lt_of_blk HB.out.2
      clear p0 p1 p2 p3 HS
      go_upto_region 6 with (fail)
      have HB1 : Hid (Below w.heap.size w (wr.alloc (.cells #[.string key, .string pk, .int .i64 lv, .int .i64 bk] 27)) ∧ (wr.alloc (.cells #[.string key, .string pk, .int .i64 lv, .int .i64 bk] 27)).heap[w.heap.size]? = some (.cells #[.slice (some ⟨g, 0, none⟩) 1 1, .slice none 0 0] 71 (0, 0)) ∧ (wr.alloc (.cells #[.string key, .string pk, .int .i64 lv, .int .i64 bk] 27)).heap[wr.heap.size]? = some (.cells #[.string key, .string pk, .int .i64 lv, .int .i64 bk] 27 (0, 0))) := ⟨HB.out.1.alloc HB.out.1.size _, blk_alloc HB.out.2 _, blk_new _ _ rfl⟩
      generalize wr.alloc (.cells #[.string key, .string pk, .int .i64 lv, .int .i64 bk] 27) = wa at *
      generalize wr.heap.size = hq at *
      clear c0 c1 c2 c3 hgl HB
      obtain ⟨m0, m1, m2, m3⟩ := blk4 HB1.out.2.2
      have hmz := lt_of_blk HB1.out.2.2
      cases hk1 : keyB key
      · have HF : Hid (E = 5) := HE.out.trans (if_pos (by simp [hk1]))
        rw [hk1] at CK
        clear hk1
        go_wp2_with fail
        (refine (CK.out _).mono ?_; rintro e w5 ⟨rfl, b5⟩)
        have HB5 := Lib.hid (HB1.out.1.then_below b5 HB1.out.1.size)
        clear b5 m0 m1 m2 m3
        go_wp2_with fail
        go_ret
        exact ⟨ret_int HF.out.symm, HB5.out⟩
      rw [hk1] at CK
      cases hk2 : keyB pk
      · have HF : Hid (E = 5) := HE.out.trans (if_pos (by simp [hk2]))
        rw [hk2] at CP
        clear hk1 hk2
        go_wp2_with fail
        (refine (CK.out _).mono ?_; rintro e w5 ⟨rfl, b5⟩)
        have HB5 := Lib.hid (And.intro (HB1.out.1.then_below b5 HB1.out.1.size) (blk_below b5 HB1.out.2.2))
        clear b5 m0 m1 m2 m3 hmz
        obtain ⟨m0, m1, m2, m3⟩ := blk4 HB5.out.2
        have hmz := lt_of_blk HB5.out.2
        go_wp2_with fail
        (refine (CP.out _).mono ?_; rintro e w6 ⟨rfl, b6⟩)
        have HB6 := Lib.hid (HB5.out.1.then_below b6 HB5.out.1.size)
        clear b6 m0 m1 m2 m3
        go_wp2_with fail
        go_ret
        exact ⟨ret_int HF.out.symm, HB6.out⟩
      rw [hk2] at CP
      have HE2 : Hid (E = if (inR lv 1 6 && inR bk 0 720000000) = false then 1 else 0) := HE.out.trans (if_neg (by simp [hk1, hk2]))
      clear hk1 hk2
      go_upto_region 6 with (fail)
      go_wp2_with fail
      (refine (CK.out _).mono ?_; rintro e w5 ⟨rfl, b5⟩)
      have HB5 := Lib.hid (And.intro (HB1.out.1.then_below b5 HB1.out.1.size) (And.intro (blk_below b5 HB1.out.2.1) (blk_below b5 HB1.out.2.2)))
      clear b5 m0 m1 m2 m3 hmz HB1
      obtain ⟨m0, m1, m2, m3⟩ := blk4 HB5.out.2.2
      have hmz := lt_of_blk HB5.out.2.2
      go_wp2_with fail
      (refine (CP.out _).mono ?_; rintro e w6 ⟨rfl, b6⟩)
      have HB6 := Lib.hid (And.intro (HB5.out.1.then_below b6 HB5.out.1.size) (And.intro (blk_below b6 HB5.out.2.1) (blk_below b6 HB5.out.2.2)))
      clear b6 m0 m1 m2 m3 hmz HB5
      obtain ⟨m0, m1, m2, m3⟩ := blk4 HB6.out.2.2
      have hmz := lt_of_blk HB6.out.2.2
      cases hl : inR lv 1 6
      · have HF : Hid (E = 1) := HE2.out.trans (if_pos (by simp [hl]))
        rw [hl] at CL
        clear hl
        go_wp2_with fail
        (refine (CL.out _).mono ?_; rintro e w' ⟨rfl, rfl⟩; go_wp2_with fail)
        go_ret
        exact ⟨ret_int HF.out.symm, HB6.out.1⟩
      rw [hl] at CL
      cases hb : inR bk 0 720000000
      · have HF : Hid (E = 1) := HE2.out.trans (if_pos (by simp [hb]))
        rw [hb] at CB
        clear hl hb
        go_wp2_with fail
        (refine (CL.out _).mono ?_; rintro e w' ⟨rfl, rfl⟩; go_wp2_with fail)
        (refine (CB.out _).mono ?_; rintro e w' ⟨rfl, rfl⟩; go_wp2_with fail)
        go_ret
        exact ⟨ret_int HF.out.symm, HB6.out.1⟩
      rw [hb] at CB
      have HF : Hid (E = 0) := HE2.out.trans (if_neg (by simp [hl, hb]))
      clear hl hb
      go_wp2_with fail
      (refine (CL.out _).mono ?_; rintro e w' ⟨rfl, rfl⟩; go_wp2_with fail)
      (refine (CB.out _).mono ?_; rintro e w' ⟨rfl, rfl⟩; go_wp2_with fail)
      go_quiet (fail)
      go_wp2_with fail
      go_roundw
      case rel => exact ⟨k + 1, by omega, by go_num, HB6.out.1.drawN _, HB6.out.2.1, fun _ => HF.out⟩
      case measure => simp [intOf]; omega
    · have HF : Hid (E = 0) := HS.out.2.2 (by omega)
      have H1 : Hid (Below w.heap.size w wr ∧ wr.heap[w.heap.size]? = some (.cells #[.slice (some ⟨g, 0, none⟩) 1 1, .slice none 0 0] 71 (0, 0))) := ⟨HS.out.1, HS.out.2.1⟩
      obtain ⟨d0, d1, _, _⟩ := blk2 H1.out.2
      have hz := lt_of_blk H1.out.2
      clear HS
      go_wp2_with fail
      clear d0 d1 hz
      go_loopw [69] (fun kk wr => kk = .int .i64 0 ∧ Hid (Below w.heap.size w wr ∧ wr.heap[w.heap.size]? = some (.cells #[.slice (some ⟨g, 0, none⟩) 1 1, .slice none 0 0] 71 (0, 0)))) (fun _ _ => 0)
      case atStart => exact ⟨rfl, H1⟩
      case round =>
        clear H1
        obtain ⟨rfl, H1⟩ := hrel
        obtain ⟨d0, d1, _, _⟩ := blk2 H1.out.2
        have hz := lt_of_blk H1.out.2
        have hmm := @run_makeMap Tryd.prog
        go_wp2_with fail
        clear hmm
        go_loopw [112] (fun kk wr => kk = .int .i64 0 ∧ Hid (Below w.heap.size w wr)) (fun _ _ => 0)
        case atStart => exact ⟨rfl, H1.out.1.alloc H1.out.1.size _⟩
        case round =>
          clear H1 d0 d1 hz
          obtain ⟨rfl, H2⟩ := hrel
          go_wp2_with fail
          go_ret
          exact ⟨ret_int HF.out.symm, H2.out⟩

theorem ly_errs (key pk : ByteArray) (lv bk : Int) (l : List Sy) : errsL [partE key pk lv bk, staysErr l] = lyE key pk lv bk l := by
  unfold lyE
  rw [errsL, errsL, errsL]
  by_cases h : partE key pk lv bk = 0
  · rw [if_pos h, if_pos h]
    split
    · rename_i h2; exact h2.symm
    · rfl
  · rw [if_neg h, if_neg h]
set_option maxRecDepth 100000 in
set_option maxHeartbeats 4000000 in
theorem livedFault_any (key pk : ByteArray) (lv bk : Int) (A : Option Addr) (c : Nat) (l : List Sy) (hl : l.length ≤ 4611686018427387904) (w : World) (hA : SyAt w A l) (hk1 : key.size ≤ 1000) (hk2 : pk.size ≤ 1000) :
    Calls Tryd.prog 14 #[.agg #[.string key, .string pk, .int .i64 lv, .int .i64 bk], .slice A l.length c] w fun e w' => e = .returned (.int .i64 (lyE key pk lv bk l)) ∧ Below w.heap.size w w' := by
  have CF := Lib.hid (fun W g (h : PartB W g key pk lv bk) => catFault_one key pk lv bk g W hk1 hk2 h)
  have CS := Lib.hid (fun W (h : SyAt W A l) => staysFault_any A c l hl W h)
  have HE := Lib.hid (ly_errs key pk lv bk l)
  generalize partE key pk lv bk = E1 at *
  generalize staysErr l = E2 at *
  generalize lyE key pk lv bk l = E at *
  clear hk1 hk2
  have CO := Lib.hid (fun W g (h : LineAt W g ([E1, E2].map (Value.int .i64))) => or_any [E1, E2] (by simp) g 2 W h)
  rw [HE.out] at CO
  go_enter Tryd.func14, Tryd.ntmps14
  go_wp2_with fail
  have bw1 : Below w.heap.size w ((w.alloc (Obj.cells #[.string key, .string pk, .int .i64 lv, .int .i64 bk] 27)).alloc (Obj.cells #[.string key, .string pk, .int .i64 lv, .int .i64 bk] 27)) := (((Below.refl _ _).alloc (Nat.le_refl _) _).alloc (by simp) _)
  have kB : ((w.alloc (Obj.cells #[.string key, .string pk, .int .i64 lv, .int .i64 bk] 27)).alloc (Obj.cells #[.string key, .string pk, .int .i64 lv, .int .i64 bk] 27)).heap[w.heap.size]? = some (.cells #[.string key, .string pk, .int .i64 lv, .int .i64 bk] 27 (0, 0)) := (blk_alloc (blk_new w _ rfl) _)
  have kC : ((w.alloc (Obj.cells #[.string key, .string pk, .int .i64 lv, .int .i64 bk] 27)).alloc (Obj.cells #[.string key, .string pk, .int .i64 lv, .int .i64 bk] 27)).heap[w.heap.size + 1]? = some (.cells #[.string key, .string pk, .int .i64 lv, .int .i64 bk] 27 (0, 0)) := (blk_new _ _ (by simp))
  generalize ((w.alloc (Obj.cells #[.string key, .string pk, .int .i64 lv, .int .i64 bk] 27)).alloc (Obj.cells #[.string key, .string pk, .int .i64 lv, .int .i64 bk] 27)) = w1 at *
  refine (CF.out _ _ kC).mono ?_
  rintro e w2 ⟨rfl, b2⟩
  have HB := Lib.hid (bw1.then_below b2 bw1.size)
  clear b2 kC bw1 kB
  go_wp2_with fail
  refine (CS.out _ (hA.below HB.out)).mono ?_
  rintro e w3 ⟨rfl, b3⟩
  have HB3 := Lib.hid (HB.out.then_below b3 HB.out.size)
  clear b3 HB
  go_wp2_with fail
  refine (CO.out _ _ ⟨by simp, fun j u hu => ?_⟩).mono ?_
  · rw [cell_of_blk (blk_new (g := w3.heap.size) _ _ rfl)]
    simpa using hu
  rintro e w4 ⟨rfl, rfl⟩
  go_wp2_with fail
  go_ret
  exact ⟨rfl, HB3.out.alloc HB3.out.size _⟩
end Go.Proofs.YtopnadilfjakiaaDoor
