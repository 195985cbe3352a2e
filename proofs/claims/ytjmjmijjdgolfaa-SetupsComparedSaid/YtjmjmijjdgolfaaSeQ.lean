/-
  The walk of the reference's next setup.
-/
import Derived.Test.YtjmjmijjdgolfaaSeP
namespace Go.Proofs.Ytjmjmijjdgolfaa
open Go.RowKit
set_option linter.unusedSimpArgs false
set_option linter.unusedVariables false

def bI : Option Nat → Int
  | none => -1
  | some j => j
def gtS (a b : ByteArray) : Bool := !Op.bytesLess a.toList b.toList && !(a.toList == b.toList)
theorem gtS_eq (a b : ByteArray) : gtS a b = decide (bt b < bt a) := by
  unfold gtS
  rw [bytesLess_eq, Lib.toList_data, Lib.toList_data, Bool.eq_iff_iff]
  simp only [Bool.and_eq_true, Bool.not_eq_eq_eq_not, Bool.not_true, decide_eq_false_iff_not, beq_eq_false_iff_ne, decide_eq_true_eq, ne_eq]
  constructor
  · rintro ⟨h1, h2⟩
    rcases List.le_iff_lt_or_eq.mp (List.not_lt.mp h1) with h | h
    · exact h
    · exact absurd h.symm h2
  · intro h
    exact ⟨fun h2 => List.lt_irrefl _ (List.lt_trans h h2), fun e => by rw [bt, bt, e] at h; exact List.lt_irrefl _ h⟩
theorem better_gt {later : List (List ByteArray)} {y z : ByteArray} (h : whenOf z later < whenOf y later) : better later y z = true := by unfold better; simp [h]
theorem better_ne {later : List (List ByteArray)} {y z : ByteArray} (h : ¬ whenOf z later < whenOf y later) (h2 : ¬ whenOf y later = whenOf z later) : better later y z = false := by unfold better; simp [h, h2]
theorem better_eq {later : List (List ByteArray)} {y z : ByteArray} (h : ¬ whenOf z later < whenOf y later) (h2 : whenOf y later = whenOf z later) : better later y z = gtS y z := by
  rw [gtS_eq]
  unfold better
  rw [decide_eq_false h, decide_eq_true h2]
  rfl
theorem pickB_succ (parts : List ByteArray) (later : List (List ByteArray)) (out : List ByteArray) (k : Nat) : pickB parts later out (k + 1) = stepB parts later out (pickB parts later out k) k := rfl
theorem stepB_skip {parts : List ByteArray} {later : List (List ByteArray)} {out : List ByteArray} {b : Option Nat} {i : Nat} {y : ByteArray} (hy : nth out i = y) (h1 : has parts y = true) (h2 : em y = false) : stepB parts later out b i = b := by
  unfold stepB
  rw [hy, if_pos (by unfold cand; rw [h1, h2]; rfl)]
theorem stepB_none {parts : List ByteArray} {later : List (List ByteArray)} {out : List ByteArray} {i : Nat} {y : ByteArray} (hy : nth out i = y) (h : ¬ (has parts y = true ∧ em y = false)) : stepB parts later out none i = some i := by
  unfold stepB
  rw [hy, if_neg (by unfold cand; cases h1 : has parts y <;> cases h2 : em y <;> simp_all)]
theorem stepB_some {parts : List ByteArray} {later : List (List ByteArray)} {out : List ByteArray} {i j : Nat} {y z : ByteArray} (hy : nth out i = y) (hz : nth out j = z) (h : ¬ (has parts y = true ∧ em y = false)) : stepB parts later out (some j) i = if em z = true then some j else if em y = true then some i else if better later y z = true then some i else some j := by
  unfold stepB
  rw [hy, if_neg (by unfold cand; cases h1 : has parts y <;> cases h2 : em y <;> simp_all)]
  simp only [hz]


set_option maxRecDepth 100000 in
set_option maxHeartbeats 8000000 in
theorem nextR_any {b1 b2 b3 : Nat} {s parts : List ByteArray} {later : List (List ByteArray)} {v1 v2 v3 : Value} (hs : SetOk s) (hp : PaOk parts) (hps : parts.length ≤ s.length) (hL : later.length ≤ 1000000) (hLL : ∀ l ∈ later, l.length ≤ 1000000) (hLP : ∀ l ∈ later, PaOk l)
    {w : World} (h1 : ReadsF b1 encS v1 s w) (h2 : ReadsF b2 encS v2 parts w) (h3 : ListsF b3 v3 later w) :
    Calls Try.prog 47 #[v1, v2, v3] w fun e w' => ∃ u, e = .returned u ∧ Below w.heap.size w w' ∧ w'.ownsRow w.heap.size 9 1 u (nextOf s parts later).length ((nextOf s parts later).map Value.string) := by
  have hn100 := hs.2.1
  have HH := Lib.hid (And.intro h1 (And.intro h2 h3))
  have CC := Lib.hid (clone_any (by omega) h1)
  have CM := Lib.hid (fun (W : World) (h1 : ReadsF b1 encS v1 s W) (h2 : ReadsF b2 encS v2 parts W) => missOfR_any (by omega) (by omega) h1 h2)
  have CW := Lib.hid (fun (x : ByteArray) (W : World) (h : ListsF b3 v3 later W) => when_any x hL hLL h)
  have hs0 : 0 < s.length := by
    rcases Nat.eq_zero_or_pos s.length with h | h
    · exact absurd (List.length_eq_zero_iff.mp h) hs.1
    · exact h
  have HIN := Lib.hid (fun (k : Nat) (hk : k ≤ (missOf s parts).length) => outK_inv (parts := parts) (later := later) hs (missOf_nodup hp) (fun x hx => ⟨hp.1 x (missOf_mem hx).1, (missOf_mem hx).2⟩) k hk)
  have HPK : Hid (∀ k (hk : k < (missOf s parts).length), ∃ i, pickB parts later (outK parts later s (missOf s parts) k) s.length = some i ∧ i < s.length) := fun k hk => by
    have hi := HIN.out k (by omega)
    have hl := outK_length parts later s (missOf s parts) k
    have := pickB_some (later := later) hi.1 (by rw [hl]; exact hps) (missOf_mem (List.getElem_mem hk)).1 (hi.2 k hk (Nat.le_refl _))
    rw [hl] at this
    exact this
  have HFIN : Hid (nextOf s parts later = outK parts later s (missOf s parts) (missOf s parts).length) := nextGo_K _ _ _ _
  have hml : (missOf s parts).length ≤ parts.length := List.length_filter_le _ _
  have hnl : (nextOf s parts later).length = s.length := nextOf_length _ _ _
  rw [hnl, HFIN.out]
  clear hnl HFIN HIN
  obtain ⟨A1, c1, rfl, z1, z2⟩ := h1
  obtain ⟨A2, c2, rfl, z3, z4⟩ := h2
  obtain ⟨A3, c3, rfl, z5, z6⟩ := h3
  clear z1 z2 z3 z4 z5 z6
  have CX := Lib.hid (fun (x : ByteArray) (W : World) (h : ReadsF b2 encS (.slice A2 parts.length c2) parts W) => by
    have := contains_any x parts.length (Nat.le_refl _) (by omega) h c2
    rw [List.take_of_length_le (Nat.le_refl _)] at this
    exact this)
  obtain ⟨miss, hmiss⟩ : ∃ miss, missOf s parts = miss := ⟨_, rfl⟩
  rw [hmiss] at CM HPK hml ⊢
  clear hmiss
  go_enter Try.func47, Try.ntmps47
  go_wp2_with fail
  refine CC.out.mono ?_
  rintro e w1 ⟨u1, rfl, b1', o1⟩
  obtain ⟨gm, capm, rfl, hgb, hgl, hcap, _, _⟩ := own_read o1 hs0
  have H1 := Lib.hid (And.intro b1' o1)
  clear b1' o1 CC
  go_wp2_with fail
  refine (CM.out _ (HH.out.1.below H1.out.1) (HH.out.2.1.below H1.out.1)).mono ?_
  rintro e w2 ⟨u2, rfl, b2', hm⟩
  have H2 : Hid (Below w.heap.size w w2 ∧ w2.ownsRow w.heap.size 9 1 (.slice (some ⟨gm, 0, none⟩) s.length capm) s.length ((outK parts later s miss 0).map Value.string) ∧ ReadsF w1.heap.size encS u2 miss w2) := ⟨H1.out.1.then_below b2' H1.out.1.size, own_below H1.out.2 b2', hm⟩
  obtain ⟨Am, cm, rfl, z1, z2⟩ := hm
  clear b2' CM z1 z2 H1
  go_wp2_with fail
  go_loopw [20] (fun kk wr => ∃ k : Nat, k ≤ miss.length ∧ kk = .int .i64 k ∧ Hid (Below w.heap.size w wr ∧ wr.ownsRow w.heap.size 9 1 (.slice (some ⟨gm, 0, none⟩) s.length capm) s.length ((outK parts later s miss k).map Value.string) ∧ ReadsF w1.heap.size encS (.slice Am miss.length cm) miss wr)) (fun kk _ => miss.length - (intOf kk).toNat)
  case atStart => exact ⟨0, by omega, rfl, H2⟩
  case round =>
    obtain ⟨k, hk, rfl, HS⟩ := hrel
    by_cases hlt : k < miss.length
    · obtain ⟨A', c', e, z1, hr⟩ := HS.out.2.2
      cases e
      clear z1
      rcases hr with hr | ⟨gs, rfl, hgs, hrow2⟩
      · subst hr; simp at hlt
      have q2 := row_strg hrow2 hlt
      have hg2 := hrow2.1
      obtain ⟨pk, hpk, hpl⟩ := HPK.out k hlt
      have HOL : Hid ((outK parts later s miss k).length = s.length) := outK_length _ _ _ _ _
      have HNX : Hid (outK parts later s miss (k + 1) = stepN parts later (outK parts later s miss k) (nth miss k)) := rfl
      have HXK : Hid (nth miss k = miss[k]) := nth_at hlt
      generalize miss[k] = x at *
      rw [HXK.out] at HNX
      obtain ⟨out, hout⟩ : ∃ out, outK parts later s miss k = out := ⟨_, rfl⟩
      rw [hout] at HS hpk HOL HNX
      have HNX2 : Hid (outK parts later s miss (k + 1) = out.set pk x) := HNX.out.trans (by unfold stepN; rw [HOL.out, hpk])
      have HPKE := Lib.hid hpk
      have i1 : (0 : Int) ≤ (k : Int) := by omega
      have i2 : (k : Int) < (miss.length : Int) := by omega
      have hgmr : gm < wr.heap.size := own_lt HS.out.2.1 gm rfl
      have hcell : ∀ i, i < s.length → wr.cell? ⟨gm, i, none⟩ = some (.string (nth out i)) := fun i hi => by
        obtain ⟨g', cap', hv, _, _, _, _, hrd⟩ := own_read HS.out.2.1 hs0
        cases hv
        refine hrd i _ ?_
        rw [List.getElem?_map, List.getElem?_eq_getElem (show i < out.length by rw [HOL.out]; exact hi), nth_at (show i < out.length by rw [HOL.out]; exact hi)]
        rfl
      have HCL := Lib.hid hcell
      clear hrow2 hout hpk HNX hcell
      obtain ⟨wo, rfl⟩ : ∃ wo : World, wo = wr := ⟨_, rfl⟩
      go_wp2_with fail
      go_loopw [10, 26] (fun bv kk wq => ∃ i : Nat, i ≤ s.length ∧ kk = .int .i64 i ∧ bv = .int .i64 (bI (pickB parts later out i)) ∧ Hid (Below wo.heap.size wo wq)) (fun _ kk _ => s.length - (intOf kk).toNat)
      case atStart => exact ⟨0, by omega, rfl, rfl, Below.refl _ _⟩
      case round =>
        obtain ⟨i, hi, rfl, rfl, HB⟩ := hrel
        by_cases hli : i < s.length
        · have q1 := (HB.out.cell (p := ⟨gm, i, none⟩) hgmr).trans (HCL.out i hli)
          obtain ⟨y, hy⟩ : ∃ y, nth out i = y := ⟨_, rfl⟩
          rw [hy] at q1
          have HY := Lib.hid hy
          have HSB : Hid (pickB parts later out (i + 1) = stepB parts later out (pickB parts later out i) i) := rfl
          have hgmq : gm < wr.heap.size := Nat.lt_of_lt_of_le hgmr HB.out.size
          have HBW : Hid (Below w.heap.size w wr) := HS.out.1.then_below HB.out HS.out.1.size
          have HQ1 := Lib.hid (HH.out.2.1.below HBW.out)
          have j1 : (0 : Int) ≤ (i : Int) := by omega
          have j2 : (i : Int) < (s.length : Int) := by omega
          have CXY := Lib.hid (CX.out y wr HQ1.out)
          have HPL := Lib.hid (fun j (h : pickB parts later out i = some j) => (pickB_lt parts later out i j h).1)
          clear hy
          by_cases hsk : has parts y = true ∧ y.toList.isEmpty = false
          · obtain ⟨hh, he⟩ := hsk
            have HF : Hid (pickB parts later out (i + 1) = pickB parts later out i) := HSB.out.trans (stepB_skip HY.out hh he)
            rw [hh] at CXY
            clear hh
            generalize pickB parts later out i = b at *
            go_wp2_with fail
            refine CXY.out.mono ?_
            rintro e w' ⟨rfl, rfl⟩
            go_wp2_with fail
            go_roundw
            case rel => exact ⟨i + 1, by omega, by go_num, by rw [HF.out], HB⟩
            case measure => simp [intOf]; omega
          · have HSK : Hid (¬ (has parts y = true ∧ em y = false)) := hsk
            cases hb : pickB parts later out i with
            | none =>
              have e1 : bI none = -1 := rfl
              rw [hb] at HSB
              rw [e1]
              have HF : Hid (pickB parts later out (i + 1) = some i) := HSB.out.trans (stepB_none HY.out HSK.out)
              cases hh : has parts y
              · rw [hh] at CXY
                clear hh
                go_wp2_with fail
                refine CXY.out.mono ?_
                rintro e w' ⟨rfl, rfl⟩
                go_wp2_with fail
                go_roundw
                case rel => exact ⟨i + 1, by omega, by go_num, by rw [HF.out]; rfl, HB⟩
                case measure => simp [intOf]; omega
              · rw [hh] at CXY
                have he : y.toList.isEmpty = true := by
                  cases he : y.toList.isEmpty
                  · exact absurd ⟨hh, he⟩ HSK.out
                  · rfl
                clear hh
                go_wp2_with fail
                refine CXY.out.mono ?_
                rintro e w' ⟨rfl, rfl⟩
                go_wp2_with fail
                go_roundw
                case rel => exact ⟨i + 1, by omega, by go_num, by rw [HF.out]; rfl, HB⟩
                case measure => simp [intOf]; omega
            | some j =>
              have e1 : bI (some j) = (j : Int) := rfl
              rw [hb] at HSB
              have hji := HPL.out j hb
              rw [e1]
              have q3 := (HB.out.cell (p := ⟨gm, j, none⟩) hgmr).trans (HCL.out j (by omega))
              obtain ⟨z, hz0⟩ : ∃ z, nth out j = z := ⟨_, rfl⟩
              rw [hz0] at q3
              have HD := Lib.hid (HSB.out.trans (stepB_some HY.out hz0 HSK.out))
              have j3 : (0 : Int) ≤ (j : Int) := by omega
              have j4 : (j : Int) < (s.length : Int) := by omega
              clear hz0
              cases he : y.toList.isEmpty
              · have hh : has parts y = false := by
                  cases hh : has parts y
                  · rfl
                  · exact absurd ⟨hh, he⟩ HSK.out
                rw [hh] at CXY
                clear hh
                cases hz : z.toList.isEmpty
                · have HD2 := Lib.hid (HD.out.trans ((if_neg (show ¬ em z = true by unfold em; rw [hz]; simp)).trans (if_neg (show ¬ em y = true by unfold em; rw [he]; simp))))
                  have HA := Lib.hid (@better_gt later y z)
                  have HBN := Lib.hid (@better_ne later y z)
                  have HBE := Lib.hid (@better_eq later y z)
                  have CY := Lib.hid (fun (W : World) (h : ListsF b3 (.slice A3 later.length c3) later W) => CW.out y W h)
                  have CZ := Lib.hid (fun (W : World) (h : ListsF b3 (.slice A3 later.length c3) later W) => CW.out z W h)
                  generalize whenOf y later = wy at *
                  generalize whenOf z later = wz at *
                  by_cases hA : wz < wy
                  · have HF : Hid (pickB parts later out (i + 1) = some i) := HD2.out.trans (if_pos (HA.out hA))
                    go_wp2_with fail
                    refine CXY.out.mono ?_
                    rintro e w' ⟨rfl, rfl⟩
                    go_wp2_with fail
                    refine (CY.out _ (HH.out.2.2.below HBW.out)).mono ?_
                    rintro e w3 ⟨rfl, hb3⟩
                    have HB3 := Lib.hid (And.intro (HB.out.then_below hb3 HB.out.size) (HBW.out.then_below hb3 HBW.out.size))
                    clear hb3
                    go_wp2_with fail
                    refine (CZ.out _ (HH.out.2.2.below HB3.out.2)).mono ?_
                    rintro e w4 ⟨rfl, hb4⟩
                    have HB4 := Lib.hid (And.intro (HB3.out.1.then_below hb4 HB3.out.1.size) (HB3.out.2.then_below hb4 HB3.out.2.size))
                    clear hb4
                    go_wp2_with fail
                    go_roundw
                    case rel => exact ⟨i + 1, by omega, by go_num, by rw [HF.out]; rfl, HB4.out.1⟩
                    case measure => simp [intOf]; omega
                  · by_cases hE : wy = wz
                    · subst hE
                      have HG := Lib.hid (HBE.out hA rfl)
                      have HGT : gtS y z = (!Op.bytesLess y.toList z.toList && !(y.toList == z.toList)) := rfl
                      cases hg : gtS y z
                      · have HF : Hid (pickB parts later out (i + 1) = some j) := HD2.out.trans (if_neg (by rw [HG.out, hg]; simp))
                        rw [hg] at HGT
                        have hgt2 := HGT.symm
                        clear HGT hg hA
                        go_wp2_with fail
                        refine CXY.out.mono ?_
                        rintro e w' ⟨rfl, rfl⟩
                        go_wp2_with fail
                        refine (CY.out _ (HH.out.2.2.below HBW.out)).mono ?_
                        rintro e w3 ⟨rfl, hb3⟩
                        have HB3 := Lib.hid (And.intro (HB.out.then_below hb3 HB.out.size) (HBW.out.then_below hb3 HBW.out.size))
                        clear hb3
                        go_wp2_with fail
                        refine (CZ.out _ (HH.out.2.2.below HB3.out.2)).mono ?_
                        rintro e w4 ⟨rfl, hb4⟩
                        have HB4 := Lib.hid (And.intro (HB3.out.1.then_below hb4 HB3.out.1.size) (HB3.out.2.then_below hb4 HB3.out.2.size))
                        clear hb4
                        go_wp2_with fail
                        refine (CY.out _ (HH.out.2.2.below HB4.out.2)).mono ?_
                        rintro e w5 ⟨rfl, hb5⟩
                        have HB5 := Lib.hid (And.intro (HB4.out.1.then_below hb5 HB4.out.1.size) (HB4.out.2.then_below hb5 HB4.out.2.size))
                        clear hb5
                        go_wp2_with fail
                        refine (CZ.out _ (HH.out.2.2.below HB5.out.2)).mono ?_
                        rintro e w6 ⟨rfl, hb6⟩
                        have HB6 := Lib.hid (And.intro (HB5.out.1.then_below hb6 HB5.out.1.size) (HB5.out.2.then_below hb6 HB5.out.2.size))
                        clear hb6
                        go_wp2_with fail
                        go_roundw
                        case rel => exact ⟨i + 1, by omega, by go_num, by rw [HF.out]; rfl, HB6.out.1⟩
                        case measure => simp [intOf]; omega
                      · have HF : Hid (pickB parts later out (i + 1) = some i) := HD2.out.trans (if_pos (by rw [HG.out, hg]))
                        rw [hg] at HGT
                        have hgt2 := HGT.symm
                        clear HGT hg hA
                        go_wp2_with fail
                        refine CXY.out.mono ?_
                        rintro e w' ⟨rfl, rfl⟩
                        go_wp2_with fail
                        refine (CY.out _ (HH.out.2.2.below HBW.out)).mono ?_
                        rintro e w3 ⟨rfl, hb3⟩
                        have HB3 := Lib.hid (And.intro (HB.out.then_below hb3 HB.out.size) (HBW.out.then_below hb3 HBW.out.size))
                        clear hb3
                        go_wp2_with fail
                        refine (CZ.out _ (HH.out.2.2.below HB3.out.2)).mono ?_
                        rintro e w4 ⟨rfl, hb4⟩
                        have HB4 := Lib.hid (And.intro (HB3.out.1.then_below hb4 HB3.out.1.size) (HB3.out.2.then_below hb4 HB3.out.2.size))
                        clear hb4
                        go_wp2_with fail
                        refine (CY.out _ (HH.out.2.2.below HB4.out.2)).mono ?_
                        rintro e w5 ⟨rfl, hb5⟩
                        have HB5 := Lib.hid (And.intro (HB4.out.1.then_below hb5 HB4.out.1.size) (HB4.out.2.then_below hb5 HB4.out.2.size))
                        clear hb5
                        go_wp2_with fail
                        refine (CZ.out _ (HH.out.2.2.below HB5.out.2)).mono ?_
                        rintro e w6 ⟨rfl, hb6⟩
                        have HB6 := Lib.hid (And.intro (HB5.out.1.then_below hb6 HB5.out.1.size) (HB5.out.2.then_below hb6 HB5.out.2.size))
                        clear hb6
                        go_wp2_with fail
                        go_roundw
                        case rel => exact ⟨i + 1, by omega, by go_num, by rw [HF.out]; rfl, HB6.out.1⟩
                        case measure => simp [intOf]; omega
                    · have HF : Hid (pickB parts later out (i + 1) = some j) := HD2.out.trans (if_neg (by rw [HBN.out hA hE]; simp))
                      have hne : ((wy : Int) == (wz : Int)) = false := by simp; omega
                      go_wp2_with fail
                      refine CXY.out.mono ?_
                      rintro e w' ⟨rfl, rfl⟩
                      go_wp2_with fail
                      refine (CY.out _ (HH.out.2.2.below HBW.out)).mono ?_
                      rintro e w3 ⟨rfl, hb3⟩
                      have HB3 := Lib.hid (And.intro (HB.out.then_below hb3 HB.out.size) (HBW.out.then_below hb3 HBW.out.size))
                      clear hb3
                      go_wp2_with fail
                      refine (CZ.out _ (HH.out.2.2.below HB3.out.2)).mono ?_
                      rintro e w4 ⟨rfl, hb4⟩
                      have HB4 := Lib.hid (And.intro (HB3.out.1.then_below hb4 HB3.out.1.size) (HB3.out.2.then_below hb4 HB3.out.2.size))
                      clear hb4
                      go_wp2_with fail
                      refine (CY.out _ (HH.out.2.2.below HB4.out.2)).mono ?_
                      rintro e w5 ⟨rfl, hb5⟩
                      have HB5 := Lib.hid (And.intro (HB4.out.1.then_below hb5 HB4.out.1.size) (HB4.out.2.then_below hb5 HB4.out.2.size))
                      clear hb5
                      go_wp2_with fail
                      refine (CZ.out _ (HH.out.2.2.below HB5.out.2)).mono ?_
                      rintro e w6 ⟨rfl, hb6⟩
                      have HB6 := Lib.hid (And.intro (HB5.out.1.then_below hb6 HB5.out.1.size) (HB5.out.2.then_below hb6 HB5.out.2.size))
                      clear hb6
                      go_wp2_with fail
                      go_roundw
                      case rel => exact ⟨i + 1, by omega, by go_num, by rw [HF.out]; rfl, HB6.out.1⟩
                      case measure => simp [intOf]; omega
                · have HF : Hid (pickB parts later out (i + 1) = some j) := HD.out.trans (if_pos hz)
                  go_wp2_with fail
                  refine CXY.out.mono ?_
                  rintro e w' ⟨rfl, rfl⟩
                  go_wp2_with fail
                  go_roundw
                  case rel => exact ⟨i + 1, by omega, by go_num, by rw [HF.out]; rfl, HB⟩
                  case measure => simp [intOf]; omega
              · cases hh : has parts y
                · rw [hh] at CXY
                  clear hh
                  cases hz : z.toList.isEmpty
                  · have HF : Hid (pickB parts later out (i + 1) = some i) := HD.out.trans ((if_neg (show ¬ em z = true by unfold em; rw [hz]; simp)).trans (if_pos he))
                    go_wp2_with fail
                    refine CXY.out.mono ?_
                    rintro e w' ⟨rfl, rfl⟩
                    go_wp2_with fail
                    go_roundw
                    case rel => exact ⟨i + 1, by omega, by go_num, by rw [HF.out]; rfl, HB⟩
                    case measure => simp [intOf]; omega
                  · have HF : Hid (pickB parts later out (i + 1) = some j) := HD.out.trans (if_pos hz)
                    go_wp2_with fail
                    refine CXY.out.mono ?_
                    rintro e w' ⟨rfl, rfl⟩
                    go_wp2_with fail
                    go_roundw
                    case rel => exact ⟨i + 1, by omega, by go_num, by rw [HF.out]; rfl, HB⟩
                    case measure => simp [intOf]; omega
                · rw [hh] at CXY
                  clear hh
                  cases hz : z.toList.isEmpty
                  · have HF : Hid (pickB parts later out (i + 1) = some i) := HD.out.trans ((if_neg (show ¬ em z = true by unfold em; rw [hz]; simp)).trans (if_pos he))
                    go_wp2_with fail
                    refine CXY.out.mono ?_
                    rintro e w' ⟨rfl, rfl⟩
                    go_wp2_with fail
                    go_roundw
                    case rel => exact ⟨i + 1, by omega, by go_num, by rw [HF.out]; rfl, HB⟩
                    case measure => simp [intOf]; omega
                  · have HF : Hid (pickB parts later out (i + 1) = some j) := HD.out.trans (if_pos hz)
                    go_wp2_with fail
                    refine CXY.out.mono ?_
                    rintro e w' ⟨rfl, rfl⟩
                    go_wp2_with fail
                    go_roundw
                    case rel => exact ⟨i + 1, by omega, by go_num, by rw [HF.out]; rfl, HB⟩
                    case measure => simp [intOf]; omega
        · obtain rfl : i = s.length := by omega
          have e1 : bI (pickB parts later out s.length) = (pk : Int) := by rw [HPKE.out]; rfl
          rw [e1]
          have q1 := (HB.out.cell (p := ⟨gm, pk, none⟩) hgmr).trans (HCL.out pk hpl)
          have ho := own_below HS.out.2.1 HB.out
          have f0 : wr.frozen? ⟨gm, pk, none⟩ = false := own_frozen ho pk
          have hgmq : gm < wr.heap.size := Nat.lt_of_lt_of_le hgmr HB.out.size
          have j3 : (0 : Int) ≤ (pk : Int) := by omega
          have j4 : (pk : Int) < (s.length : Int) := by omega
          have HF : Hid (Below w.heap.size w (wr.setCell ⟨gm, pk, none⟩ (.string x)) ∧ (wr.setCell ⟨gm, pk, none⟩ (.string x)).ownsRow w.heap.size 9 1 (.slice (some ⟨gm, 0, none⟩) s.length capm) s.length ((outK parts later s miss (k + 1)).map Value.string) ∧ ReadsF w1.heap.size encS (.slice (some ⟨gs, 0, none⟩) miss.length cm) miss (wr.setCell ⟨gm, pk, none⟩ (.string x))) := by
            refine ⟨(HS.out.1.then_below HB.out HS.out.1.size).setCell hgb _, ?_, (HS.out.2.2.below HB.out).far hgl _⟩
            have := own_set ho pk (.string x)
            rw [HNX2.out, List.map_set]
            exact this
          generalize nth out pk = old at *
          clear ho
          go_wp2_with fail
          go_roundw
          case rel => exact ⟨k + 1, by omega, by go_num, HF⟩
          case measure => simp [intOf]; omega
    · obtain rfl : k = miss.length := by omega
      go_wp2_with fail
      go_ret
      exact ⟨_, rfl, HS.out.1, HS.out.2.1⟩
end Go.Proofs.Ytjmjmijjdgolfaa
