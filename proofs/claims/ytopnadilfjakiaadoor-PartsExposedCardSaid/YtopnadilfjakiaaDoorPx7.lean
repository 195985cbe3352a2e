/-
  The program's answers on what is left and on when a part expires.
-/
import Derived.Test.YtopnadilfjakiaaDoorPx6
namespace Go.Proofs.YtopnadilfjakiaaDoor
open Go.RowKit

theorem findEx_bd (t : Int) : ∀ (F : List Ph), (∀ f ∈ F, 0 ≤ f.frm ∧ f.frm < f.to ∧ f.to ≤ 345686400000 ∧ 0 ≤ f.ex ∧ f.ex ≤ 345686400000) → 0 ≤ findEx t F ∧ findEx t F ≤ 691372800000
  | [], _ => by show (0 : Int) ≤ 0 ∧ (0 : Int) ≤ _; omega
  | f :: r, h => by
    have ih := findEx_bd t r fun g hg => h g (by simp [hg])
    have hf := h f (by simp)
    unfold findEx
    split
    · unfold phAt; split <;> omega
    · exact ih
theorem exV_bd {key pk : ByteArray} {lv bk : Int} {l : List Sy} (t : Int) : 0 ≤ exV key pk lv bk l t ∧ exV key pk lv bk l t ≤ 691372800000 := by
  unfold exV
  split
  · rename_i h
    have h0 : lyE key pk lv bk l = 0 := by
      unfold exE at h
      split at h
      · assumption
      · exact h
    obtain ⟨_, _, hb0, _, hg, _⟩ := lyE_ok h0
    exact findEx_bd t _ (phs_bd0 hb0 hg)
  · omega
/-- What Left tells. -/
def lfV (key pk : ByteArray) (lv bk : Int) (l : List Sy) (t : Int) : Int := if exE key pk lv bk l t = 0 ∧ limB lv = true then max (lifeV lv - exV key pk lv bk l t) 0 else 0
def lfB (key pk : ByteArray) (lv bk : Int) (l : List Sy) (t : Int) : Bool := decide (exE key pk lv bk l t = 0) && limB lv
theorem exE_ok {key pk : ByteArray} {lv bk : Int} {l : List Sy} {t : Int} (h : exE key pk lv bk l t = 0) : lyE key pk lv bk l = 0 ∧ inR t 0 345686399999 = true := by
  unfold exE at h
  by_cases h0 : lyE key pk lv bk l = 0
  · rw [if_pos h0] at h
    refine ⟨h0, ?_⟩
    unfold spanE at h
    split at h
    · assumption
    · omega
  · rw [if_neg h0] at h; exact absurd h h0

set_option maxRecDepth 100000 in
set_option maxHeartbeats 4000000 in
theorem leftP_any (key pk : ByteArray) (lv bk : Int) (A : Option Addr) (c : Nat) (l : List Sy) (hl : l.length ≤ 400) (t : Int) (w : World) (hA : SyAt w A l) :
    Calls Tryd.prog 16 #[.agg #[.string key, .string pk, .int .i64 lv, .int .i64 bk], .slice A l.length c, .int .i64 t] w fun e w' => e = .returned (.tuple #[.int .i64 (lfV key pk lv bk l t), .bool (lfB key pk lv bk l t), .int .i64 (exE key pk lv bk l t)]) ∧ Below w.heap.size w w' := by
  have CE := Lib.hid (fun W (h : SyAt W A l) => exposedP_any key pk lv bk A c l hl t W h)
  have HV : Hid (lfV key pk lv bk l t = if exE key pk lv bk l t = 0 ∧ limB lv = true then max (lifeV lv - exV key pk lv bk l t) 0 else 0) := rfl
  have HBV : Hid (lfB key pk lv bk l t = (decide (exE key pk lv bk l t = 0) && limB lv)) := rfl
  have hvb := exV_bd (key := key) (pk := pk) (lv := lv) (bk := bk) (l := l) t
  obtain ⟨hv0, hv1⟩ := hvb
  by_cases h0 : exE key pk lv bk l t = 0
  · have hlv := (lyE_ok (exE_ok h0).1).2.1
    have CL := Lib.hid (fun W => life_ok lv hlv W)
    have hln := lifeV_nn lv
    obtain ⟨hn0, hn1⟩ := hln
    rw [h0] at CE
    have HE : Hid (exE key pk lv bk l t = 0) := h0
    clear h0 hlv
    cases hm : limB lv
    · have HV1 : Hid (lfV key pk lv bk l t = 0) := HV.out.trans (if_neg (by simp [hm]))
      have HB1 : Hid (lfB key pk lv bk l t = false) := HBV.out.trans (by rw [hm]; simp)
      rw [hm] at CL
      clear hm HV HBV
      generalize exV key pk lv bk l t = xv at *
      generalize lifeV lv = lf at *
      go_enter Tryd.func16, Tryd.ntmps16
      go_wp2_with fail
      have bw1 : Below w.heap.size w (w.alloc (Obj.cells #[.string key, .string pk, .int .i64 lv, .int .i64 bk] 27)) := ((Below.refl _ _).alloc (Nat.le_refl _) _)
      have kP : (w.alloc (Obj.cells #[.string key, .string pk, .int .i64 lv, .int .i64 bk] 27)).heap[w.heap.size]? = some (.cells #[.string key, .string pk, .int .i64 lv, .int .i64 bk] 27 (0, 0)) := (blk_new w _ rfl)
      generalize (w.alloc (Obj.cells #[.string key, .string pk, .int .i64 lv, .int .i64 bk] 27)) = w1 at *
      refine (CE.out _ (hA.below bw1)).mono ?_
      rintro e w2 ⟨rfl, b2⟩
      have HB := Lib.hid (And.intro (bw1.then_below b2 bw1.size) (blk_below b2 kP))
      obtain ⟨q0, q1, q2, q3⟩ := blk4 HB.out.2
      have hpz := lt_of_blk HB.out.2
      clear b2 bw1 kP
      go_wp2_with fail
      refine (CL.out _).mono ?_
      rintro e w3 ⟨rfl, rfl⟩
      go_wp2_with fail
      go_ret3
      exact ⟨by rw [HE.out, HV1.out, HB1.out]; rfl, HB.out.1⟩
    · have HV1 : Hid (lfV key pk lv bk l t = max (lifeV lv - exV key pk lv bk l t) 0) := HV.out.trans (if_pos ⟨HE.out, hm⟩)
      have HB1 : Hid (lfB key pk lv bk l t = true) := HBV.out.trans (by rw [hm, HE.out]; rfl)
      rw [hm] at CL
      clear hm HV HBV
      generalize exV key pk lv bk l t = xv at *
      generalize lifeV lv = lf at *
      go_enter Tryd.func16, Tryd.ntmps16
      go_wp2_with fail
      have bw1 : Below w.heap.size w (w.alloc (Obj.cells #[.string key, .string pk, .int .i64 lv, .int .i64 bk] 27)) := ((Below.refl _ _).alloc (Nat.le_refl _) _)
      have kP : (w.alloc (Obj.cells #[.string key, .string pk, .int .i64 lv, .int .i64 bk] 27)).heap[w.heap.size]? = some (.cells #[.string key, .string pk, .int .i64 lv, .int .i64 bk] 27 (0, 0)) := (blk_new w _ rfl)
      generalize (w.alloc (Obj.cells #[.string key, .string pk, .int .i64 lv, .int .i64 bk] 27)) = w1 at *
      refine (CE.out _ (hA.below bw1)).mono ?_
      rintro e w2 ⟨rfl, b2⟩
      have HB := Lib.hid (And.intro (bw1.then_below b2 bw1.size) (blk_below b2 kP))
      obtain ⟨q0, q1, q2, q3⟩ := blk4 HB.out.2
      have hpz := lt_of_blk HB.out.2
      clear b2 bw1 kP
      go_wp2_with fail
      refine (CL.out _).mono ?_
      rintro e w3 ⟨rfl, rfl⟩
      go_wp2_with fail
      go_ret3
      exact ⟨by rw [HE.out, HV1.out, HB1.out]; rfl, HB.out.1⟩
  · have HV1 : Hid (lfV key pk lv bk l t = 0) := HV.out.trans (if_neg fun h => h0 h.1)
    have HB1 : Hid (lfB key pk lv bk l t = false) := HBV.out.trans (by simp [h0])
    generalize exE key pk lv bk l t = E at *
    generalize exV key pk lv bk l t = xv at *
    have h1 : (E != 0) = true := by simpa using h0
    clear h0 HV HBV
    go_enter Tryd.func16, Tryd.ntmps16
    go_wp2_with fail
    have bw1 : Below w.heap.size w (w.alloc (Obj.cells #[.string key, .string pk, .int .i64 lv, .int .i64 bk] 27)) := ((Below.refl _ _).alloc (Nat.le_refl _) _)
    have kP : (w.alloc (Obj.cells #[.string key, .string pk, .int .i64 lv, .int .i64 bk] 27)).heap[w.heap.size]? = some (.cells #[.string key, .string pk, .int .i64 lv, .int .i64 bk] 27 (0, 0)) := (blk_new w _ rfl)
    generalize (w.alloc (Obj.cells #[.string key, .string pk, .int .i64 lv, .int .i64 bk] 27)) = w1 at *
    refine (CE.out _ (hA.below bw1)).mono ?_
    rintro e w2 ⟨rfl, b2⟩
    have HB := Lib.hid (bw1.then_below b2 bw1.size)
    clear b2 bw1 kP
    go_wp2_with fail
    go_ret3
    exact ⟨by rw [HV1.out, HB1.out]; rfl, HB.out⟩

/-- What Expires tells. -/
def epO (key pk : ByteArray) (lv bk : Int) (l : List Sy) : Option Int := if lyE key pk lv bk l = 0 ∧ limB lv = true then firstPh (lifeV lv) (staysPh lv bk 0 l) else none

set_option maxRecDepth 100000 in
set_option maxHeartbeats 4000000 in
theorem expiresP_any (key pk : ByteArray) (lv bk : Int) (A : Option Addr) (c : Nat) (l : List Sy) (hl : l.length ≤ 400) (w : World) (hA : SyAt w A l) :
    Calls Tryd.prog 18 #[.agg #[.string key, .string pk, .int .i64 lv, .int .i64 bk], .slice A l.length c] w fun e w' => e = .returned (.tuple #[.int .i64 ((epO key pk lv bk l).getD 0), .bool (epO key pk lv bk l).isSome, .int .i64 (lyE key pk lv bk l)]) ∧ Below w.heap.size w w' := by
  have CL := Lib.hid (fun W (h : SyAt W A l) => checkLying_any key pk lv bk A c l (by omega) W h)
  have HV : Hid (epO key pk lv bk l = if lyE key pk lv bk l = 0 ∧ limB lv = true then firstPh (lifeV lv) (staysPh lv bk 0 l) else none) := rfl
  by_cases h0 : lyE key pk lv bk l = 0
  rotate_left
  · have HV1 : Hid (epO key pk lv bk l = none) := HV.out.trans (if_neg fun h => h0 h.1)
    generalize lyE key pk lv bk l = E at *
    have h1 : (E != 0) = true := by simpa using h0
    clear h0
    go_enter Tryd.func18, Tryd.ntmps18
    go_wp2_with fail
    have bw1 : Below w.heap.size w (w.alloc (Obj.cells #[.string key, .string pk, .int .i64 lv, .int .i64 bk] 27)) := ((Below.refl _ _).alloc (Nat.le_refl _) _)
    have kP : (w.alloc (Obj.cells #[.string key, .string pk, .int .i64 lv, .int .i64 bk] 27)).heap[w.heap.size]? = some (.cells #[.string key, .string pk, .int .i64 lv, .int .i64 bk] 27 (0, 0)) := (blk_new w _ rfl)
    generalize (w.alloc (Obj.cells #[.string key, .string pk, .int .i64 lv, .int .i64 bk] 27)) = w1 at *
    refine (CL.out _ (hA.below bw1)).mono ?_
    rintro e w2 ⟨rfl, b2⟩
    have HB := Lib.hid (bw1.then_below b2 bw1.size)
    clear b2 bw1 kP
    go_wp2_with fail
    go_ret3
    exact ⟨by rw [HV1.out]; rfl, HB.out⟩
  · obtain ⟨_, hlv, hb0, hb1, hg, _⟩ := lyE_ok h0
    have CF := Lib.hid (fun W => life_ok lv hlv W)
    have CP := Lib.hid (fun W (h : SyAt W A l) => phases_any key pk lv bk A c l hl W h hg hb0 hb1)
    have HBD := Lib.hid (phs_bd0 (lv := lv) hb0 hg)
    have hpl : (staysPh lv bk 0 l).length ≤ 800 := by have := phs_len lv bk l 0; omega
    obtain ⟨hn0, hn1⟩ := lifeV_nn lv
    rw [h0] at CL
    have HE : Hid (lyE key pk lv bk l = 0) := h0
    clear h0 hb0 hb1 hg hlv
    generalize staysPh lv bk 0 l = F at *
    cases hm : limB lv
    · have HV1 : Hid (epO key pk lv bk l = none) := HV.out.trans (if_neg (by simp [hm]))
      rw [hm] at CF
      clear hm HV
      generalize lifeV lv = lf at *
      go_enter Tryd.func18, Tryd.ntmps18
      go_wp2_with fail
      have bw1 : Below w.heap.size w (w.alloc (Obj.cells #[.string key, .string pk, .int .i64 lv, .int .i64 bk] 27)) := ((Below.refl _ _).alloc (Nat.le_refl _) _)
      have kP : (w.alloc (Obj.cells #[.string key, .string pk, .int .i64 lv, .int .i64 bk] 27)).heap[w.heap.size]? = some (.cells #[.string key, .string pk, .int .i64 lv, .int .i64 bk] 27 (0, 0)) := (blk_new w _ rfl)
      generalize (w.alloc (Obj.cells #[.string key, .string pk, .int .i64 lv, .int .i64 bk] 27)) = w1 at *
      refine (CL.out _ (hA.below bw1)).mono ?_
      rintro e w2 ⟨rfl, b2⟩
      have HB := Lib.hid (And.intro (bw1.then_below b2 bw1.size) (blk_below b2 kP))
      obtain ⟨q0, q1, q2, q3⟩ := blk4 HB.out.2
      have hpz := lt_of_blk HB.out.2
      clear b2 bw1 kP
      go_wp2_with fail
      refine (CF.out _).mono ?_
      rintro e w3 ⟨rfl, rfl⟩
      go_wp2_with fail
      go_ret3
      exact ⟨by rw [HE.out, HV1.out]; rfl, HB.out.1⟩
    · have HV1 : Hid (epO key pk lv bk l = firstPh (lifeV lv) F) := HV.out.trans (if_pos ⟨HE.out, hm⟩)
      rw [hm] at CF
      clear hm HV
      generalize lifeV lv = lf at *
      go_enter Tryd.func18, Tryd.ntmps18
      go_wp2_with fail
      have bw1 : Below w.heap.size w (w.alloc (Obj.cells #[.string key, .string pk, .int .i64 lv, .int .i64 bk] 27)) := ((Below.refl _ _).alloc (Nat.le_refl _) _)
      have kP : (w.alloc (Obj.cells #[.string key, .string pk, .int .i64 lv, .int .i64 bk] 27)).heap[w.heap.size]? = some (.cells #[.string key, .string pk, .int .i64 lv, .int .i64 bk] 27 (0, 0)) := (blk_new w _ rfl)
      generalize (w.alloc (Obj.cells #[.string key, .string pk, .int .i64 lv, .int .i64 bk] 27)) = w1 at *
      refine (CL.out _ (hA.below bw1)).mono ?_
      rintro e w2 ⟨rfl, b2⟩
      have HB := Lib.hid (And.intro (bw1.then_below b2 bw1.size) (blk_below b2 kP))
      obtain ⟨q0, q1, q2, q3⟩ := blk4 HB.out.2
      have hpz := lt_of_blk HB.out.2
      clear b2 bw1 kP
      go_wp2_with fail
      refine (CF.out _).mono ?_
      rintro e w3 ⟨rfl, rfl⟩
      go_wp2_with fail
      refine (CP.out _ (hA.below HB.out.1)).mono ?_
      rintro e w4 ⟨v, rfl, b4, hr⟩
      obtain ⟨A4, c4, rfl, hr4⟩ := hr
      have HB4 := Lib.hid (And.intro (HB.out.1.then_below b4 HB.out.1.size) hr4)
      clear q0 q1 q2 q3 hpz b4 hr4 HB CP CF CL
      go_wp2_with fail
      go_loopw [32] (fun kk wr => ∃ k : Nat, k ≤ F.length ∧ kk = .int .i64 k ∧ Hid (Below w4.heap.size w4 wr ∧ firstPh lf F = firstPh lf (F.drop k))) (fun kk _ => F.length - (intOf kk).toNat)
      case atStart => exact ⟨0, by omega, rfl, Below.refl _ _, rfl⟩
      case round =>
        obtain ⟨k, hk, rfl, HS⟩ := hrel
        by_cases hlt : k < F.length
        · rcases HB4.out.2 with rfl | ⟨g, rfl, hrow⟩
          · simp at hlt
          have hr2 := hrow.below HS.out.1
          obtain ⟨p0, p1, p2, p3⟩ := row_ph hr2 hlt
          have hgl := hr2.1
          have hbd := HBD.out F[k] (List.getElem_mem hlt)
          have hfx : firstPh lf F = if lf < phAt F[k] (F[k].to - 1) then some (F[k].frm + max (lf + 1 - F[k].ex) 0) else firstPh lf (F.drop (k + 1)) := HS.out.2.trans (by rw [drop_at F hlt]; rfl)
          obtain ⟨f, hf⟩ : ∃ f, F[k] = f := ⟨_, rfl⟩
          rw [hf] at p0 p1 p2 p3 hbd hfx
          obtain ⟨a, b, ex, gr⟩ := f
          dsimp only at p0 p1 p2 p3 hfx
          have HFX := Lib.hid hfx
          obtain ⟨hd0, hd1, hd2, hd3, hd4⟩ := hbd
          dsimp only at hd0 hd1 hd2 hd3 hd4
          have HBW : Hid (Below w4.heap.size w4 wr) := HS.out.1
          have i1 : (0 : Int) ≤ (k : Int) := by omega
          have i2 : (k : Int) < (F.length : Int) := by omega
          clear hrow hr2 hf hfx HS
          have CX := Lib.hid (fun W => exposed_any a b ex gr (b - 1) W ⟨hd0, by omega⟩ ⟨hd3, by omega⟩ ⟨by omega, by omega⟩)
          generalize phAt ⟨a, b, ex, gr⟩ (b - 1) = r at *
          by_cases hin : lf < r
          · have HR : Hid (firstPh lf F = some (a + max (lf + 1 - ex) 0)) := HFX.out.trans (if_pos hin)
            go_wp2_with fail
            refine (CX.out _).mono ?_
            rintro e w5 ⟨rfl, b5⟩
            have HB5 : Hid (Below w4.heap.size w4 w5) := (HBW.out.alloc HBW.out.size _).then_below b5 (by have := HBW.out.size; simp; omega)
            have p6 := blk4 (blk_below b5 (blk_new wr (.cells #[.int .i64 a, .int .i64 b, .int .i64 ex, .bool gr] 75) rfl))
            have hz5 := b5.size
            simp only [World.size_alloc] at hz5
            obtain ⟨s0, s1, s2, s3⟩ := p6
            clear b5
            go_wp2_with fail
            go_ret3
            exact ⟨by rw [HE.out, HV1.out, HR.out]; rfl, HB4.out.1.then_below HB5.out HB4.out.1.size⟩
          · have HR : Hid (firstPh lf F = firstPh lf (F.drop (k + 1))) := HFX.out.trans (if_neg hin)
            go_wp2_with fail
            refine (CX.out _).mono ?_
            rintro e w5 ⟨rfl, b5⟩
            have HB5 : Hid (Below w4.heap.size w4 w5) := (HBW.out.alloc HBW.out.size _).then_below b5 (by have := HBW.out.size; simp; omega)
            clear b5
            go_wp2_with fail
            go_roundw
            case rel => exact ⟨k + 1, by omega, by go_num, HB5.out, HR.out⟩
            case measure => simp [intOf]; omega
        · have HR : Hid (firstPh lf F = none) := HS.out.2.trans (by rw [List.drop_eq_nil_of_le (by omega)]; rfl)
          go_wp2_with fail
          go_ret3
          exact ⟨by rw [HE.out, HV1.out, HR.out]; rfl, HB4.out.1.then_below HS.out.1 HB4.out.1.size⟩
end Go.Proofs.YtopnadilfjakiaaDoor
