/-
  The walks of the checks of bodies and distances.
-/
import Derived.Test.YtiehkcbjfamnkaaBodM
namespace Go.Proofs.Ytiehkcbjfamnkaa
open Go.RowKit

theorem vdist_any (a : Int) (w : World) : Calls Try.prog 71 #[.int .i64 a] w fun e w' => e = .returned (.bool (inR a 0 500000)) ∧ w = w' := by
  go_enter Try.func71, Try.ntmps71
  go_wp2_with fail
  refine (withinR _ _ _ _).mono ?_
  rintro e w' ⟨rfl, rfl⟩
  go_wp2_with fail
  go_ret
  exact ⟨rfl, rfl⟩


set_option maxHeartbeats 2000000 in
theorem checkBodies_any (A : Option Addr) (c : Nat) (l : List Bo) (hl : l.length ≤ 4611686018427387904) (w : World) (hA : BoAt w A l) :
    Calls Try.prog 105 #[.slice A l.length c] w fun e w' => e = .returned (.int .i64 (bodiesErr l)) ∧ Below w.heap.size w w' := by
  have HE : Hid (bodiesErr l = if 500 < l.length then 2 else bodyErr l none) := rfl
  by_cases hn : 500 < l.length
  · go_enter Try.func105, Try.ntmps105
    go_wp2_with fail
    go_ret
    exact ⟨ret_int (by rw [HE.out, if_pos hn]), Below.refl _ _⟩
  have HE2 : Hid (bodiesErr l = bodyErr l none) := HE.out.trans (if_neg hn)
  clear HE
  go_enter Try.func105, Try.ntmps105
  go_wp2_with fail
  go_loopw [10] (fun kk wr => ∃ k : Nat, k ≤ l.length ∧ kk = .int .i64 k ∧ Below w.heap.size w wr ∧ Hid (bodyErr l none = bodyErr (l.drop k) (prevB l k))) (fun kk _ => l.length - (intOf kk).toNat)
  case atStart => exact ⟨0, by omega, rfl, Below.refl _ _, rfl⟩
  case round =>
    obtain ⟨k, hk, rfl, hb, HO⟩ := hrel
    by_cases hlt : k < l.length
    · obtain ⟨p, hp⟩ : ∃ p, l[k] = p := ⟨_, rfl⟩
      have hD : bodyErr l none = bodyErr (p :: l.drop (k + 1)) (prevB l k) := HO.out.trans (by rw [drop_at l hlt, hp])
      have hN : prevB l (k + 1) = some p.part := by simp [prevB, hlt, hp]
      rcases hA with rfl | ⟨g, rfl, hrow⟩
      · simp at hlt
      obtain ⟨p0, p1, p2⟩ := row_bo (hrow.below hb) hlt
      rw [hp] at p0 p1 p2
      obtain ⟨pt, x, y⟩ := p
      dsimp only at p0 p1 p2 hN
      have hg1 : g < wr.heap.size := Nat.lt_of_lt_of_le hrow.1 hb.size
      have HD := Lib.hid hD
      have HN := Lib.hid hN
      have HP := Lib.hid hp
      have HROW := Lib.hid hrow
      have HBE := Lib.hid hb
      clear hD hN hp hrow
      cases hk1 : keyB pt
      · have HF : Hid (bodiesErr l = 5) := by
          refine HE2.out.trans (HD.out.trans ?_)
          rw [bodyErr, if_pos (by simp [hk1])]
        go_wp2_with fail
        (refine (key_any _ _).mono ?_; rintro e w' ⟨rfl, rfl⟩; go_wp2_with fail)
        go_ret
        exact ⟨ret_int HF.out.symm, HBE.out.alloc HBE.out.size _⟩
      cases hs : (inR x 1 500000 && inR y 1 500000)
      · have HS := Lib.hid hs
        have HF : Hid (bodiesErr l = 1) := by
          refine HE2.out.trans (HD.out.trans ?_)
          rw [bodyErr, if_neg (by simp [hk1]), if_pos (by simp only [hs])]
        clear hs
        go_wp2_with fail
        (refine (key_any _ _).mono ?_; rintro e w' ⟨rfl, rfl⟩; go_wp2_with fail)
        (refine (vsize_any _ _ _).mono ?_; rw [HS.out]; rintro e w' ⟨rfl, rfl⟩; go_wp2_with fail)
        go_ret
        exact ⟨ret_int HF.out.symm, HBE.out.alloc HBE.out.size _⟩
      have HS := Lib.hid hs
      clear hs
      have HK := Lib.hid hk1
      by_cases hk0 : k = 0
      · have HD1 : Hid (bodyErr l none = bodyErr (l.drop (k + 1)) (some pt)) := by
          refine HD.out.trans ?_
          rw [bodyErr, if_neg (by simp [HK.out]), if_neg (by simp only [HS.out]; simp), if_neg (by rw [hk0]; simp [prevB])]
        have hd0 : decide (0 < k) = false := decide_eq_false (by omega)
        clear hk0
        go_wp2_with fail
        (refine (key_any _ _).mono ?_; rintro e w' ⟨rfl, rfl⟩; go_wp2_with fail)
        (refine (vsize_any _ _ _).mono ?_; rw [HS.out]; rintro e w' ⟨rfl, rfl⟩; go_wp2_with fail)
        clear hk1
        go_quiet (fail)
        clear hd0
        go_wp2_with fail
        go_roundw
        case rel => exact ⟨k + 1, by omega, by go_num, (hb.alloc hb.size _).drawN _, HD1.out.trans (by rw [HN.out])⟩
        case measure => simp [intOf]; omega
      · obtain ⟨pm, hpm⟩ : ∃ p, l[k - 1] = p := ⟨_, rfl⟩
        have hwi : IntKind.i64.wrap ((k : Int) - 1) = (k : Int) - 1 := IntWalk.i64_in ((k : Int) - 1) (by omega)
        obtain ⟨m0, _⟩ := row_bo ((HROW.out).below HBE.out) (show k - 1 < l.length by omega)
        have hPV : prevB l k = some pm.part := by
          obtain ⟨m, rfl⟩ : ∃ m, k = m + 1 := ⟨k - 1, by omega⟩
          simp only [Nat.add_sub_cancel] at hpm
          simp [prevB, show m < l.length by omega, hpm]
        have HPV := Lib.hid hPV
        rw [hpm] at m0
        have hd0 : 0 < k := by omega
        obtain ⟨pn, hpn⟩ : ∃ n, pm.part = n := ⟨_, rfl⟩
        rw [hpn] at m0
        have HPN := Lib.hid hpn
        clear hpm hPV hpn
        go_wp2_with fail
        (refine (key_any _ _).mono ?_; rintro e w' ⟨rfl, rfl⟩; go_wp2_with fail)
        (refine (vsize_any _ _ _).mono ?_; rw [HS.out]; rintro e w' ⟨rfl, rfl⟩; go_wp2_with fail)
        clear hk1
        have HLES : leS pt pn = (Op.bytesLess pt.toList pn.toList || (pt.toList == pn.toList)) := rfl
        cases ho : leS pt pn
        · have HD1 : Hid (bodyErr l none = bodyErr (l.drop (k + 1)) (some pt)) := by
            refine HD.out.trans ?_
            rw [bodyErr, if_neg (by simp [HK.out]), if_neg (by simp only [HS.out]; simp), if_neg (by rw [HPV.out]; simp only [Option.any_some]; rw [HPN.out, ho]; simp)]
          rw [ho] at HLES
          obtain ⟨hl1, hl2⟩ := Bool.or_eq_false_iff.mp HLES.symm
          clear ho HLES
          go_quiet (fail)
          clear hd0 hl1 hl2
          go_wp2_with fail
          go_roundw
          case rel => exact ⟨k + 1, by omega, by go_num, (hb.alloc hb.size _).drawN _, HD1.out.trans (by rw [HN.out])⟩
          case measure => simp [intOf]; omega
        · have HF : Hid (bodiesErr l = 7) := by
            refine HE2.out.trans (HD.out.trans ?_)
            rw [bodyErr, if_neg (by simp [HK.out]), if_neg (by simp only [HS.out]; simp), if_pos (by rw [HPV.out]; simp only [Option.any_some]; rw [HPN.out, ho])]
          rw [ho] at HLES
          have hl1 := HLES.symm
          clear ho HLES
          go_quiet (fail)
          go_wp2_with fail
          go_ret
          exact ⟨ret_int HF.out.symm, (HBE.out.alloc HBE.out.size _).drawN _⟩
    · have HALL : Hid (bodiesErr l = 0) := by
        refine HE2.out.trans (HO.out.trans ?_)
        rw [List.drop_eq_nil_of_le (by omega)]
        rfl
      go_wp2_with fail
      go_ret
      exact ⟨ret_int HALL.out.symm, hb⟩

set_option maxHeartbeats 1000000 in
theorem checkDistance_any (key : ByteArray) (W H : Int) (A : Option Addr) (c : Nat) (l : List Pl) (hl : l.length ≤ 4611686018427387904) (B : Option Addr) (d : Nat) (b : List Bo) (hbl : b.length ≤ 4611686018427387904) (gap : Int) (w : World) (hA : PlAt w A l) (hB : BoAt w B b) :
    Calls Try.prog 78 #[prod key W H A l.length c, .slice B b.length d, .int .i64 gap] w fun e w' => e = .returned (.int .i64 (distErr key W H l b gap)) ∧ Below w.heap.size w w' := by
  have HE : Hid (distErr key W H l b gap = if prodErr key W H l = 0 then (if bodiesErr b = 0 then gapErr gap else bodiesErr b) else prodErr key W H l) := rfl
  have CP := Lib.hid (fun (W' : World) (h : PlAt W' A l) => checkProduct_any key W H A c l hl W' h)
  have CB := Lib.hid (fun (W' : World) (h : BoAt W' B b) => checkBodies_any B d b hbl W' h)
  generalize prodErr key W H l = e1 at *
  generalize bodiesErr b = e2 at *
  cases h1 : (e1 == 0)
  · go_enter Try.func78, Try.ntmps78
    go_wp2_with fail
    refine (CP.out _ (hA.below ((Below.refl _ _).alloc (Nat.le_refl _) _))).mono ?_
    rintro e w1 ⟨rfl, b1⟩
    have B1 := Lib.hid b1
    clear b1
    have h2 : (e1 != 0) = true := by simpa using h1
    go_wp2_with fail
    go_ret
    exact ⟨ret_int (by rw [HE.out, if_neg (by simpa using h1)]), ((Below.refl _ _).alloc (Nat.le_refl _) _).then_below B1.out⟩
  cases h2 : (e2 == 0)
  · obtain rfl : e1 = 0 := by simpa using h1
    go_enter Try.func78, Try.ntmps78
    go_wp2_with fail
    refine (CP.out _ (hA.below ((Below.refl _ _).alloc (Nat.le_refl _) _))).mono ?_
    rintro e w1 ⟨rfl, b1⟩
    have B1 := Lib.hid (((Below.refl w.heap.size w).alloc (Nat.le_refl _) _).then_below b1)
    clear b1
    have h3 : (e2 != 0) = true := by simpa using h2
    go_wp2_with fail
    refine (CB.out _ (hB.below B1.out)).mono ?_
    rintro e w2 ⟨rfl, b2⟩
    have B2 := Lib.hid (B1.out.then_below b2 B1.out.size)
    clear b2
    go_wp2_with fail
    go_ret
    refine ⟨ret_int ?_, B2.out⟩
    rw [HE.out]
    have h4 : ¬ e2 = 0 := by simpa using h2
    simp [h4]
  obtain rfl : e1 = 0 := by simpa using h1
  obtain rfl : e2 = 0 := by simpa using h2
  cases h3 : inR gap 0 500000
  all_goals
    have HI := Lib.hid h3
    clear h3
    go_enter Try.func78, Try.ntmps78
    go_wp2_with fail
    refine (CP.out _ (hA.below ((Below.refl _ _).alloc (Nat.le_refl _) _))).mono ?_
    rintro e w1 ⟨rfl, b1⟩
    have B1 := Lib.hid (((Below.refl w.heap.size w).alloc (Nat.le_refl _) _).then_below b1)
    clear b1
    go_wp2_with fail
    refine (CB.out _ (hB.below B1.out)).mono ?_
    rintro e w2 ⟨rfl, b2⟩
    have B2 := Lib.hid (B1.out.then_below b2 B1.out.size)
    clear b2
    go_wp2_with fail
    refine (vdist_any _ _).mono ?_
    rw [HI.out]
    rintro e w3 ⟨rfl, rfl⟩
    go_wp2_with fail
    go_ret
    exact ⟨ret_int (by rw [HE.out]; simp [gapErr, HI.out]), B2.out⟩
end Go.Proofs.Ytiehkcbjfamnkaa
