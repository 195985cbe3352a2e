/-
  The program's answer on whether a part may be used in a window.
-/
import Derived.Test.YtopnadilfjakiaaDoorPx7
namespace Go.Proofs.YtopnadilfjakiaaDoor
open Go.RowKit
set_option linter.unusedSimpArgs false
set_option linter.unusedVariables false

/-- The error of Usable, and what it tells. -/
def usE (key pk : ByteArray) (lv bk : Int) (l : List Sy) (a b : Int) : Int := if lyE key pk lv bk l = 0 then (if (inR a 0 b && inR b 0 345686399999) = true then 0 else 1) else lyE key pk lv bk l
def usV (key pk : ByteArray) (lv bk : Int) (l : List Sy) (a b : Int) : Bool := if usE key pk lv bk l a b = 0 then (if limB lv = true then !((staysPh lv bk 0 l).any (badPh (lifeV lv) a b)) else true) else false

set_option maxRecDepth 100000 in
set_option maxHeartbeats 4000000 in
theorem usableP_any (key pk : ByteArray) (lv bk : Int) (A : Option Addr) (c : Nat) (l : List Sy) (hl : l.length ≤ 400) (a b : Int) (w : World) (hA : SyAt w A l) :
    Calls Tryd.prog 17 #[.agg #[.string key, .string pk, .int .i64 lv, .int .i64 bk], .slice A l.length c, .agg #[.int .i64 a, .int .i64 b]] w fun e w' => e = .returned (.tuple #[.bool (usV key pk lv bk l a b), .int .i64 (usE key pk lv bk l a b)]) ∧ Below w.heap.size w w' := by
  have CL := Lib.hid (fun W (h : SyAt W A l) => checkLying_any key pk lv bk A c l (by omega) W h)
  have HE : Hid (usE key pk lv bk l a b = if lyE key pk lv bk l = 0 then (if (inR a 0 b && inR b 0 345686399999) = true then 0 else 1) else lyE key pk lv bk l) := rfl
  have HV : Hid (usV key pk lv bk l a b = if usE key pk lv bk l a b = 0 then (if limB lv = true then !((staysPh lv bk 0 l).any (badPh (lifeV lv) a b)) else true) else false) := rfl
  generalize usE key pk lv bk l a b = ue at *
  generalize usV key pk lv bk l a b = uv at *
  by_cases h0 : lyE key pk lv bk l = 0
  rotate_left
  · have HE1 : Hid (ue = lyE key pk lv bk l) := HE.out.trans (if_neg h0)
    have HV1 : Hid (uv = false) := HV.out.trans (if_neg (by rw [HE1.out]; exact h0))
    generalize lyE key pk lv bk l = E at *
    have h1 : (E != 0) = true := by simpa using h0
    clear h0 HE HV
    go_enter Tryd.func17, Tryd.ntmps17
    go_wp2_with fail
    have bw1 : Below w.heap.size w ((w.alloc (Obj.cells #[.string key, .string pk, .int .i64 lv, .int .i64 bk] 27)).alloc (Obj.cells #[.int .i64 a, .int .i64 b] 34)) := (((Below.refl _ _).alloc (Nat.le_refl _) _).alloc (by simp) _)
    have kP : ((w.alloc (Obj.cells #[.string key, .string pk, .int .i64 lv, .int .i64 bk] 27)).alloc (Obj.cells #[.int .i64 a, .int .i64 b] 34)).heap[w.heap.size]? = some (.cells #[.string key, .string pk, .int .i64 lv, .int .i64 bk] 27 (0, 0)) := (blk_alloc (blk_new w _ rfl) _)
    have kW : ((w.alloc (Obj.cells #[.string key, .string pk, .int .i64 lv, .int .i64 bk] 27)).alloc (Obj.cells #[.int .i64 a, .int .i64 b] 34)).heap[w.heap.size + 1]? = some (.cells #[.int .i64 a, .int .i64 b] 34 (0, 0)) := (blk_new _ _ (by simp))
    generalize ((w.alloc (Obj.cells #[.string key, .string pk, .int .i64 lv, .int .i64 bk] 27)).alloc (Obj.cells #[.int .i64 a, .int .i64 b] 34)) = w1 at *
    refine (CL.out _ (hA.below bw1)).mono ?_
    rintro e w2 ⟨rfl, b2⟩
    have HB := Lib.hid (bw1.then_below b2 bw1.size)
    clear b2 bw1 kP kW
    go_wp2_with fail
    go_ret2
    exact ⟨by rw [HE1.out, HV1.out]; rfl, HB.out⟩
  · obtain ⟨_, hlv, hb0, hb1, hg, _⟩ := lyE_ok h0
    have CF := Lib.hid (fun W => life_ok lv hlv W)
    have CP := Lib.hid (fun W (h : SyAt W A l) => phases_any key pk lv bk A c l hl W h hg hb0 hb1)
    have HBD := Lib.hid (phs_bd0 (lv := lv) hb0 hg)
    have hpl : (staysPh lv bk 0 l).length ≤ 800 := by have := phs_len lv bk l 0; omega
    obtain ⟨hn0, hn1⟩ := lifeV_nn lv
    have HE1 : Hid (ue = if (inR a 0 b && inR b 0 345686399999) = true then 0 else 1) := HE.out.trans (if_pos h0)
    have CW := Lib.hid (fun W => withinR a 0 b W)
    have CM := Lib.hid (fun W => moment_any b W)
    rw [h0] at CL
    clear h0 hb0 hb1 hg hlv HE
    generalize staysPh lv bk 0 l = F at *
    cases hw1 : inR a 0 b
    · have HE2 : Hid (ue = 1) := HE1.out.trans (by rw [hw1]; rfl)
      have HV1 : Hid (uv = false) := HV.out.trans (if_neg (by rw [HE2.out]; decide))
      rw [hw1] at CW
      clear hw1 HE1 HV
      go_enter Tryd.func17, Tryd.ntmps17
      go_wp2_with fail
      have bw1 : Below w.heap.size w ((w.alloc (Obj.cells #[.string key, .string pk, .int .i64 lv, .int .i64 bk] 27)).alloc (Obj.cells #[.int .i64 a, .int .i64 b] 34)) := (((Below.refl _ _).alloc (Nat.le_refl _) _).alloc (by simp) _)
      have kP : ((w.alloc (Obj.cells #[.string key, .string pk, .int .i64 lv, .int .i64 bk] 27)).alloc (Obj.cells #[.int .i64 a, .int .i64 b] 34)).heap[w.heap.size]? = some (.cells #[.string key, .string pk, .int .i64 lv, .int .i64 bk] 27 (0, 0)) := (blk_alloc (blk_new w _ rfl) _)
      have kW : ((w.alloc (Obj.cells #[.string key, .string pk, .int .i64 lv, .int .i64 bk] 27)).alloc (Obj.cells #[.int .i64 a, .int .i64 b] 34)).heap[w.heap.size + 1]? = some (.cells #[.int .i64 a, .int .i64 b] 34 (0, 0)) := (blk_new _ _ (by simp))
      generalize ((w.alloc (Obj.cells #[.string key, .string pk, .int .i64 lv, .int .i64 bk] 27)).alloc (Obj.cells #[.int .i64 a, .int .i64 b] 34)) = w1 at *
      refine (CL.out _ (hA.below bw1)).mono ?_
      rintro e w2 ⟨rfl, b2⟩
      have HB := Lib.hid (And.intro (bw1.then_below b2 bw1.size) (And.intro (blk_below b2 kP) (blk_below b2 kW)))
      obtain ⟨q0, q1, q2, q3⟩ := blk4 HB.out.2.1
      obtain ⟨x0, x1, _, _⟩ := blk2 HB.out.2.2
      have hxz := lt_of_blk HB.out.2.2
      have hpz := lt_of_blk HB.out.2.1
      clear b2 bw1 kP kW
      go_wp2_with fail
      refine (CW.out _).mono ?_
      rintro e w3 ⟨rfl, rfl⟩
      go_wp2_with fail
      go_ret2
      exact ⟨by rw [HE2.out, HV1.out]; rfl, HB.out.1⟩
    rw [hw1] at CW
    cases hw2 : inR b 0 345686399999
    · have HE2 : Hid (ue = 1) := HE1.out.trans (by rw [hw1, hw2]; rfl)
      have HV1 : Hid (uv = false) := HV.out.trans (if_neg (by rw [HE2.out]; decide))
      rw [hw2] at CM
      clear hw1 hw2 HE1 HV
      go_enter Tryd.func17, Tryd.ntmps17
      go_wp2_with fail
      have bw1 : Below w.heap.size w ((w.alloc (Obj.cells #[.string key, .string pk, .int .i64 lv, .int .i64 bk] 27)).alloc (Obj.cells #[.int .i64 a, .int .i64 b] 34)) := (((Below.refl _ _).alloc (Nat.le_refl _) _).alloc (by simp) _)
      have kP : ((w.alloc (Obj.cells #[.string key, .string pk, .int .i64 lv, .int .i64 bk] 27)).alloc (Obj.cells #[.int .i64 a, .int .i64 b] 34)).heap[w.heap.size]? = some (.cells #[.string key, .string pk, .int .i64 lv, .int .i64 bk] 27 (0, 0)) := (blk_alloc (blk_new w _ rfl) _)
      have kW : ((w.alloc (Obj.cells #[.string key, .string pk, .int .i64 lv, .int .i64 bk] 27)).alloc (Obj.cells #[.int .i64 a, .int .i64 b] 34)).heap[w.heap.size + 1]? = some (.cells #[.int .i64 a, .int .i64 b] 34 (0, 0)) := (blk_new _ _ (by simp))
      generalize ((w.alloc (Obj.cells #[.string key, .string pk, .int .i64 lv, .int .i64 bk] 27)).alloc (Obj.cells #[.int .i64 a, .int .i64 b] 34)) = w1 at *
      refine (CL.out _ (hA.below bw1)).mono ?_
      rintro e w2 ⟨rfl, b2⟩
      have HB := Lib.hid (And.intro (bw1.then_below b2 bw1.size) (And.intro (blk_below b2 kP) (blk_below b2 kW)))
      obtain ⟨q0, q1, q2, q3⟩ := blk4 HB.out.2.1
      obtain ⟨x0, x1, _, _⟩ := blk2 HB.out.2.2
      have hxz := lt_of_blk HB.out.2.2
      have hpz := lt_of_blk HB.out.2.1
      clear b2 bw1 kP kW
      go_wp2_with fail
      refine (CW.out _).mono ?_
      rintro e w3 ⟨rfl, rfl⟩
      go_wp2_with fail
      refine (CM.out _).mono ?_
      rintro e w4 ⟨rfl, rfl⟩
      go_wp2_with fail
      go_ret2
      exact ⟨by rw [HE2.out, HV1.out]; rfl, HB.out.1⟩
    rw [hw2] at CM
    have HE2 : Hid (ue = 0) := HE1.out.trans (by rw [hw1, hw2]; rfl)
    have hab : 0 ≤ a ∧ a ≤ b ∧ b ≤ 345686399999 := by simp [inR] at hw1 hw2; omega
    obtain ⟨ha0, hab, hbf⟩ := hab
    have HV2 : Hid (uv = if limB lv = true then !(F.any (badPh (lifeV lv) a b)) else true) := HV.out.trans (if_pos HE2.out)
    clear hw1 hw2 HE1 HV
    cases hm : limB lv
    · have HV1 : Hid (uv = true) := HV2.out.trans (if_neg (by simp [hm]))
      rw [hm] at CF
      clear hm HV2
      generalize lifeV lv = lf at *
      go_enter Tryd.func17, Tryd.ntmps17
      go_wp2_with fail
      have bw1 : Below w.heap.size w ((w.alloc (Obj.cells #[.string key, .string pk, .int .i64 lv, .int .i64 bk] 27)).alloc (Obj.cells #[.int .i64 a, .int .i64 b] 34)) := (((Below.refl _ _).alloc (Nat.le_refl _) _).alloc (by simp) _)
      have kP : ((w.alloc (Obj.cells #[.string key, .string pk, .int .i64 lv, .int .i64 bk] 27)).alloc (Obj.cells #[.int .i64 a, .int .i64 b] 34)).heap[w.heap.size]? = some (.cells #[.string key, .string pk, .int .i64 lv, .int .i64 bk] 27 (0, 0)) := (blk_alloc (blk_new w _ rfl) _)
      have kW : ((w.alloc (Obj.cells #[.string key, .string pk, .int .i64 lv, .int .i64 bk] 27)).alloc (Obj.cells #[.int .i64 a, .int .i64 b] 34)).heap[w.heap.size + 1]? = some (.cells #[.int .i64 a, .int .i64 b] 34 (0, 0)) := (blk_new _ _ (by simp))
      generalize ((w.alloc (Obj.cells #[.string key, .string pk, .int .i64 lv, .int .i64 bk] 27)).alloc (Obj.cells #[.int .i64 a, .int .i64 b] 34)) = w1 at *
      refine (CL.out _ (hA.below bw1)).mono ?_
      rintro e w2 ⟨rfl, b2⟩
      have HB := Lib.hid (And.intro (bw1.then_below b2 bw1.size) (And.intro (blk_below b2 kP) (blk_below b2 kW)))
      obtain ⟨q0, q1, q2, q3⟩ := blk4 HB.out.2.1
      obtain ⟨x0, x1, _, _⟩ := blk2 HB.out.2.2
      have hxz := lt_of_blk HB.out.2.2
      have hpz := lt_of_blk HB.out.2.1
      clear b2 bw1 kP kW
      go_wp2_with fail
      refine (CW.out _).mono ?_
      rintro e w3 ⟨rfl, rfl⟩
      go_wp2_with fail
      refine (CM.out _).mono ?_
      rintro e w4 ⟨rfl, rfl⟩
      go_wp2_with fail
      refine (CF.out _).mono ?_
      rintro e w5 ⟨rfl, rfl⟩
      go_wp2_with fail
      go_ret2
      exact ⟨by rw [HE2.out, HV1.out]; rfl, HB.out.1⟩
    · have HV1 : Hid (uv = !(F.any (badPh (lifeV lv) a b))) := HV2.out.trans (if_pos hm)
      rw [hm] at CF
      clear hm HV2
      generalize lifeV lv = lf at *
      go_enter Tryd.func17, Tryd.ntmps17
      go_wp2_with fail
      have bw1 : Below w.heap.size w ((w.alloc (Obj.cells #[.string key, .string pk, .int .i64 lv, .int .i64 bk] 27)).alloc (Obj.cells #[.int .i64 a, .int .i64 b] 34)) := (((Below.refl _ _).alloc (Nat.le_refl _) _).alloc (by simp) _)
      have kP : ((w.alloc (Obj.cells #[.string key, .string pk, .int .i64 lv, .int .i64 bk] 27)).alloc (Obj.cells #[.int .i64 a, .int .i64 b] 34)).heap[w.heap.size]? = some (.cells #[.string key, .string pk, .int .i64 lv, .int .i64 bk] 27 (0, 0)) := (blk_alloc (blk_new w _ rfl) _)
      have kW : ((w.alloc (Obj.cells #[.string key, .string pk, .int .i64 lv, .int .i64 bk] 27)).alloc (Obj.cells #[.int .i64 a, .int .i64 b] 34)).heap[w.heap.size + 1]? = some (.cells #[.int .i64 a, .int .i64 b] 34 (0, 0)) := (blk_new _ _ (by simp))
      generalize ((w.alloc (Obj.cells #[.string key, .string pk, .int .i64 lv, .int .i64 bk] 27)).alloc (Obj.cells #[.int .i64 a, .int .i64 b] 34)) = w1 at *
      refine (CL.out _ (hA.below bw1)).mono ?_
      rintro e w2 ⟨rfl, b2⟩
      have HB := Lib.hid (And.intro (bw1.then_below b2 bw1.size) (And.intro (blk_below b2 kP) (blk_below b2 kW)))
      obtain ⟨q0, q1, q2, q3⟩ := blk4 HB.out.2.1
      obtain ⟨x0, x1, _, _⟩ := blk2 HB.out.2.2
      have hxz := lt_of_blk HB.out.2.2
      have hpz := lt_of_blk HB.out.2.1
      clear b2 bw1 kP kW
      go_wp2_with fail
      refine (CW.out _).mono ?_
      rintro e w3 ⟨rfl, rfl⟩
      go_wp2_with fail
      refine (CM.out _).mono ?_
      rintro e w4 ⟨rfl, rfl⟩
      go_wp2_with fail
      refine (CF.out _).mono ?_
      rintro e w5 ⟨rfl, rfl⟩
      go_wp2_with fail
      refine (CP.out _ (hA.below HB.out.1)).mono ?_
      rintro e w6 ⟨v, rfl, b6, hr⟩
      obtain ⟨A4, c4, rfl, hr4⟩ := hr
      have HB4 := Lib.hid (And.intro (HB.out.1.then_below b6 HB.out.1.size) (And.intro hr4 (blk_below b6 HB.out.2.2)))
      clear q0 q1 q2 q3 hpz b6 hr4 HB CP CF CL CW CM x0 x1 hxz
      go_wp2_with fail
      go_loopw [46] (fun kk wr => ∃ k : Nat, k ≤ F.length ∧ kk = .int .i64 k ∧ Hid (Below w6.heap.size w6 wr ∧ F.any (badPh lf a b) = (F.drop k).any (badPh lf a b))) (fun kk _ => F.length - (intOf kk).toNat)
      case atStart => exact ⟨0, by omega, rfl, Below.refl _ _, rfl⟩
      case round =>
        obtain ⟨k, hk, rfl, HS⟩ := hrel
        by_cases hlt : k < F.length
        · rcases HB4.out.2.1 with rfl | ⟨g, rfl, hrow⟩
          · simp at hlt
          have hr2 := hrow.below HS.out.1
          obtain ⟨p0, p1, p2, p3⟩ := row_ph hr2 hlt
          have hgl := hr2.1
          have hbd := HBD.out F[k] (List.getElem_mem hlt)
          have hfx : F.any (badPh lf a b) = (badPh lf a b F[k] || (F.drop (k + 1)).any (badPh lf a b)) := HS.out.2.trans (by rw [drop_at F hlt]; rfl)
          obtain ⟨f, hf⟩ : ∃ f, F[k] = f := ⟨_, rfl⟩
          rw [hf] at p0 p1 p2 p3 hbd hfx
          obtain ⟨p, q, ex, gr⟩ := f
          dsimp only at p0 p1 p2 p3
          have HFX : Hid (F.any (badPh lf a b) = (decide (max a p ≤ min b (q - 1)) && decide (lf < phAt ⟨p, q, ex, gr⟩ (min b (q - 1))) || (F.drop (k + 1)).any (badPh lf a b))) := hfx
          obtain ⟨hd0, hd1, hd2, hd3, hd4⟩ := hbd
          dsimp only at hd0 hd1 hd2 hd3 hd4
          have HBW : Hid (Below w6.heap.size w6 wr) := HS.out.1
          obtain ⟨x0, x1, _, _⟩ := blk2 (blk_below HBW.out HB4.out.2.2)
          have hxz := lt_of_blk (blk_below HBW.out HB4.out.2.2)
          have i1 : (0 : Int) ≤ (k : Int) := by omega
          have i2 : (k : Int) < (F.length : Int) := by omega
          clear hrow hr2 hf hfx HS
          by_cases hin : max a p ≤ min b (q - 1)
          · have CX := Lib.hid (fun W => exposed_any p q ex gr (min b (q - 1)) W ⟨hd0, by omega⟩ ⟨hd3, by omega⟩ ⟨by omega, by omega⟩)
            generalize phAt ⟨p, q, ex, gr⟩ (min b (q - 1)) = r at *
            by_cases hgt : lf < r
            · have HR : Hid (F.any (badPh lf a b) = true) := HFX.out.trans (by simp [hin, hgt])
              go_wp2_with fail
              refine (CX.out _).mono ?_
              rintro e w7 ⟨rfl, b7⟩
              have HB5 : Hid (Below w6.heap.size w6 w7) := (HBW.out.alloc HBW.out.size _).then_below b7 (by have := HBW.out.size; simp; omega)
              clear b7
              go_wp2_with fail
              go_ret2
              exact ⟨by rw [HE2.out, HV1.out, HR.out]; rfl, HB4.out.1.then_below HB5.out HB4.out.1.size⟩
            · have HR : Hid (F.any (badPh lf a b) = (F.drop (k + 1)).any (badPh lf a b)) := HFX.out.trans (by simp [hgt])
              go_wp2_with fail
              refine (CX.out _).mono ?_
              rintro e w7 ⟨rfl, b7⟩
              have HB5 : Hid (Below w6.heap.size w6 w7) := (HBW.out.alloc HBW.out.size _).then_below b7 (by have := HBW.out.size; simp; omega)
              clear b7
              go_wp2_with fail
              go_roundw
              case rel => exact ⟨k + 1, by omega, by go_num, HB5.out, HR.out⟩
              case measure => simp [intOf]; omega
          · have HR : Hid (F.any (badPh lf a b) = (F.drop (k + 1)).any (badPh lf a b)) := HFX.out.trans (by simp [hin])
            go_wp2_with fail
            go_roundw
            case rel => exact ⟨k + 1, by omega, by go_num, HBW.out.alloc HBW.out.size _, HR.out⟩
            case measure => simp [intOf]; omega
        · have HR : Hid (F.any (badPh lf a b) = false) := HS.out.2.trans (by rw [List.drop_eq_nil_of_le (by omega)]; rfl)
          go_wp2_with fail
          go_ret2
          exact ⟨by rw [HE2.out, HV1.out, HR.out]; rfl, HB4.out.1.then_below HS.out.1 HB4.out.1.size⟩
end Go.Proofs.YtopnadilfjakiaaDoor
