/-
  The reference on what is left and on when a part expires.
-/
import Derived.Test.YtopnadilfjakiaaDoorPx10
import Derived.Test.YtopnadilfjakiaaDoorRg
namespace Go.Proofs.YtopnadilfjakiaaDoor
open Go.RowKit
set_option linter.unusedSimpArgs false
set_option linter.unusedVariables false

theorem good_start {l : List Sy} (hg : GoodS l) : (0 : Int) ≤ stopAt l finT := by
  cases l with
  | nil => show (0 : Int) ≤ finT; unfold finT; omega
  | cons y l => exact (hg.1 y (by simp)).2.2.1

set_option maxRecDepth 100000 in
set_option maxHeartbeats 4000000 in
theorem leftOf_any (key pk : ByteArray) (lv bk : Int) (A : Option Addr) (c : Nat) (l : List Sy) (hl : l.length ≤ 400) (t : Int) (w : World) (hA : SyAt w A l) (hg : GoodS l) (hlv : inR lv 1 6 = true) (ht : -1000000000000 ≤ t ∧ t ≤ 345686400000) :
    Calls Tryd.prog 22 #[.agg #[.string key, .string pk, .int .i64 lv, .int .i64 bk], .slice A l.length c, .int .i64 t] w fun r w' => r = .returned (.tuple #[.int .i64 (if limB lv = true then max (lifeV lv - expo lv bk t 0 l) 0 else 0), .bool (limB lv)]) ∧ Below w.heap.size w w' := by
  have CE := Lib.hid (fun W (h : SyAt W A l) => exposedOf_any key pk lv bk A c l hl t W h hg ht)
  have CF := Lib.hid (fun W => lifeOf_ok lv hlv W)
  obtain ⟨hv0, hv1⟩ := expo_bd (lv := lv) (bk := bk) l 0 hg (Int.le_refl _) (good_start hg) ht.2
  obtain ⟨hn0, hn1⟩ := lifeV_nn lv
  clear ht hlv hg
  generalize expo lv bk t 0 l = xv at *
  generalize lifeV lv = lf at *
  cases hm : limB lv
  · rw [hm] at CF
    clear hm
    go_enter Tryd.func22, Tryd.ntmps22
    go_wp2_with fail
    have bw1 : Below w.heap.size w (w.alloc (Obj.cells #[.string key, .string pk, .int .i64 lv, .int .i64 bk] 27)) := ((Below.refl _ _).alloc (Nat.le_refl _) _)
    have kP : (w.alloc (Obj.cells #[.string key, .string pk, .int .i64 lv, .int .i64 bk] 27)).heap[w.heap.size]? = some (.cells #[.string key, .string pk, .int .i64 lv, .int .i64 bk] 27 (0, 0)) := (blk_new w _ rfl)
    generalize (w.alloc (Obj.cells #[.string key, .string pk, .int .i64 lv, .int .i64 bk] 27)) = w1 at *
    obtain ⟨q0, q1, q2, q3⟩ := blk4 kP
    have hpz := lt_of_blk kP
    go_wp2_with fail
    refine (CF.out _).mono ?_
    rintro e w2 ⟨rfl, b2⟩
    have HB := Lib.hid (bw1.then_below b2 bw1.size)
    clear b2 bw1 kP q0 q1 q2 q3 hpz
    go_wp2_with fail
    go_ret2
    exact ⟨rfl, HB.out⟩
  · rw [hm] at CF
    clear hm
    have hmx : max 0 (lf - xv) = max (lf - xv) 0 := by omega
    have HMX := Lib.hid hmx
    clear hmx
    go_enter Tryd.func22, Tryd.ntmps22
    go_wp2_with fail
    have bw1 : Below w.heap.size w (w.alloc (Obj.cells #[.string key, .string pk, .int .i64 lv, .int .i64 bk] 27)) := ((Below.refl _ _).alloc (Nat.le_refl _) _)
    have kP : (w.alloc (Obj.cells #[.string key, .string pk, .int .i64 lv, .int .i64 bk] 27)).heap[w.heap.size]? = some (.cells #[.string key, .string pk, .int .i64 lv, .int .i64 bk] 27 (0, 0)) := (blk_new w _ rfl)
    generalize (w.alloc (Obj.cells #[.string key, .string pk, .int .i64 lv, .int .i64 bk] 27)) = w1 at *
    obtain ⟨q0, q1, q2, q3⟩ := blk4 kP
    have hpz := lt_of_blk kP
    go_wp2_with fail
    refine (CF.out _).mono ?_
    rintro e w2 ⟨rfl, b2⟩
    have HB := Lib.hid (And.intro (bw1.then_below b2 bw1.size) (blk_below b2 kP))
    clear b2 bw1 kP q0 q1 q2 q3 hpz
    obtain ⟨q0, q1, q2, q3⟩ := blk4 HB.out.2
    have hpz := lt_of_blk HB.out.2
    go_wp2_with fail
    refine (CE.out _ (hA.below HB.out.1)).mono ?_
    rintro e w3 ⟨rfl, b3⟩
    have HB3 := Lib.hid (HB.out.1.then_below b3 HB.out.1.size)
    clear b3 HB q0 q1 q2 q3 hpz
    go_wp2_with fail
    go_ret2
    exact ⟨by rw [← HMX.out]; rfl, HB3.out⟩

/-- What ExpiresOf tells. -/
def exO (lv bk : Int) (l : List Sy) : Option Int := if limB lv = true then expRef (lifeV lv) (fun t => expo lv bk t 0 l) l else none

set_option maxRecDepth 100000 in
set_option maxHeartbeats 8000000 in
theorem expiresOf_any (key pk : ByteArray) (lv bk : Int) (A : Option Addr) (c : Nat) (l : List Sy) (hl : l.length ≤ 400) (w : World) (hA : SyAt w A l) (hg : GoodS l) (hlv : inR lv 1 6 = true) :
    Calls Tryd.prog 24 #[.agg #[.string key, .string pk, .int .i64 lv, .int .i64 bk], .slice A l.length c] w fun r w' => r = .returned (.tuple #[.int .i64 ((exO lv bk l).getD 0), .bool (exO lv bk l).isSome]) ∧ Below w.heap.size w w' := by
  have CE := Lib.hid (fun W t (ht : -1000000000000 ≤ t ∧ t ≤ 345686400000) (h : SyAt W A l) => exposedOf_any key pk lv bk A c l hl t W h hg ht)
  have CF := Lib.hid (fun W => lifeOf_ok lv hlv W)
  have HXB := Lib.hid (fun t (ht : t ≤ 345686400000) => expo_bd (lv := lv) (bk := bk) (t := t) l 0 hg (Int.le_refl _) (good_start hg) ht)
  have HO : Hid (exO lv bk l = if limB lv = true then expRef (lifeV lv) (fun t => expo lv bk t 0 l) l else none) := rfl
  obtain ⟨hn0, hn1⟩ := lifeV_nn lv
  have HG := Lib.hid hg
  clear hlv hg
  generalize exO lv bk l = eo at *
  generalize lifeV lv = lf at *
  obtain ⟨G, hGd⟩ : ∃ G : Int → Int, G = fun t => expo lv bk t 0 l := ⟨_, rfl⟩
  have CE2 : Hid (∀ W t, -1000000000000 ≤ t ∧ t ≤ 345686400000 → SyAt W A l → Calls Tryd.prog 21 #[.agg #[.string key, .string pk, .int .i64 lv, .int .i64 bk], .slice A l.length c, .int .i64 t] W fun r w' => r = .returned (.int .i64 (G t)) ∧ Below W.heap.size W w') := by rw [hGd]; exact CE.out
  have HGB : Hid (∀ t, t ≤ 345686400000 → 0 ≤ G t ∧ G t ≤ 345686400000) := by rw [hGd]; exact HXB.out
  rw [← hGd] at HO
  clear hGd CE HXB
  cases hm : limB lv
  · have HR : Hid (eo = none) := HO.out.trans (if_neg (by simp [hm]))
    rw [hm] at CF
    clear hm HO
    go_enter Tryd.func24, Tryd.ntmps24
    go_wp2_with fail
    have bw1 : Below w.heap.size w (w.alloc (Obj.cells #[.string key, .string pk, .int .i64 lv, .int .i64 bk] 27)) := ((Below.refl _ _).alloc (Nat.le_refl _) _)
    have kP : (w.alloc (Obj.cells #[.string key, .string pk, .int .i64 lv, .int .i64 bk] 27)).heap[w.heap.size]? = some (.cells #[.string key, .string pk, .int .i64 lv, .int .i64 bk] 27 (0, 0)) := (blk_new w _ rfl)
    generalize (w.alloc (Obj.cells #[.string key, .string pk, .int .i64 lv, .int .i64 bk] 27)) = w1 at *
    obtain ⟨q0, q1, q2, q3⟩ := blk4 kP
    have hpz := lt_of_blk kP
    go_wp2_with fail
    refine (CF.out _).mono ?_
    rintro e w2 ⟨rfl, b2⟩
    have HB := Lib.hid (bw1.then_below b2 bw1.size)
    clear b2 bw1 kP q0 q1 q2 q3 hpz
    go_wp2_with fail
    go_ret2
    exact ⟨by rw [HR.out]; rfl, HB.out⟩
  · have HR : Hid (eo = expRef lf G l) := HO.out.trans (if_pos hm)
    rw [hm] at CF
    clear hm HO
    go_enter Tryd.func24, Tryd.ntmps24
    go_wp2_with fail
    have bw1 : Below w.heap.size w (w.alloc (Obj.cells #[.string key, .string pk, .int .i64 lv, .int .i64 bk] 27)) := ((Below.refl _ _).alloc (Nat.le_refl _) _)
    have kP : (w.alloc (Obj.cells #[.string key, .string pk, .int .i64 lv, .int .i64 bk] 27)).heap[w.heap.size]? = some (.cells #[.string key, .string pk, .int .i64 lv, .int .i64 bk] 27 (0, 0)) := (blk_new w _ rfl)
    generalize (w.alloc (Obj.cells #[.string key, .string pk, .int .i64 lv, .int .i64 bk] 27)) = w1 at *
    obtain ⟨q0, q1, q2, q3⟩ := blk4 kP
    have hpz := lt_of_blk kP
    go_wp2_with fail
    refine (CF.out _).mono ?_
    rintro e w2 ⟨rfl, b2⟩
    have HB := Lib.hid (And.intro (bw1.then_below b2 bw1.size) (blk_below b2 kP))
    clear b2 bw1 kP q0 q1 q2 q3 hpz CF
    go_wp2_with fail
    go_loopw [22] (fun kk wr => ∃ k : Nat, k ≤ l.length ∧ kk = .int .i64 k ∧ Hid (Below w.heap.size w wr ∧ wr.heap[w.heap.size]? = some (.cells #[.string key, .string pk, .int .i64 lv, .int .i64 bk] 27 (0, 0)) ∧ expRef lf G l = expRef lf G (l.drop k))) (fun kk _ => l.length - (intOf kk).toNat)
    case atStart => exact ⟨0, by omega, rfl, HB.out.1, HB.out.2, by rw [List.drop_zero]⟩
    case round =>
      clear HB
      obtain ⟨k, hk, rfl, HS⟩ := hrel
      by_cases hlt : k < l.length
      · obtain ⟨p, hp⟩ : ∃ p, l[k] = p := ⟨_, rfl⟩
        have hdk : l.drop k = p :: l.drop (k + 1) := by rw [drop_at l hlt, hp]
        have hgd : GoodS (p :: l.drop (k + 1)) := by
          rw [← hdk]
          exact ⟨fun y hy => HG.out.1 y (List.mem_of_mem_drop hy), HG.out.2.sublist (List.drop_sublist _ _)⟩
        have hstop := hgd.stop
        have hpm := hgd.1 p (by simp)
        have hst : expRef lf G (l.drop k) = if p.place = 2 ∧ p.frm + lf - G p.frm + 1 ≤ stopAt (l.drop (k + 1)) finT ∧ p.frm + lf - G p.frm + 1 < finT ∧ lf < G (p.frm + lf - G p.frm + 1) then some (p.frm + lf - G p.frm + 1) else expRef lf G (l.drop (k + 1)) := by rw [hdk]; rfl
        rcases hA with rfl | ⟨g, rfl, hrow⟩
        · simp at hlt
        have hr2 := hrow.below HS.out.1
        obtain ⟨p0, p1⟩ := row_sy hr2 hlt
        rw [hp] at p0 p1
        have hgl := hr2.1
        have hnx : k + 1 < l.length → wr.cell? ⟨g, (k + 1) * 2 + 1, none⟩ = some (.int .i64 (stopAt (l.drop (k + 1)) finT)) := fun h => by
          have e1 : stopAt (l.drop (k + 1)) finT = l[k + 1].frm := by rw [drop_at l h]; rfl
          rw [e1]; exact (row_sy hr2 h).2
        have hnn : ¬ k + 1 < l.length → stopAt (l.drop (k + 1)) finT = 345686400000 := fun h => by rw [List.drop_eq_nil_of_le (by omega)]; rfl
        obtain ⟨pl, fr⟩ := p
        have hfr0 : 0 ≤ fr := hpm.2.2.1
        have hfr1 : fr < 345686400000 := hpm.2.2.2
        dsimp only at p0 p1 hst
        have HST := Lib.hid (HS.out.2.2.trans hst)
        have HBS := Lib.hid (And.intro HS.out.1 HS.out.2.1)
        have HROW := Lib.hid hrow
        have HNX := Lib.hid (And.intro hnx hnn)
        generalize stopAt (l.drop (k + 1)) finT = tf at *
        clear hst hp hdk hgd hpm hr2 HS hnx hnn hrow hstop
        obtain ⟨q0, q1, q2, q3⟩ := blk4 HBS.out.2
        have hpz := lt_of_blk HBS.out.2
        have i1 : (0 : Int) ≤ (k : Int) := by omega
        have i2 : (k : Int) < (l.length : Int) := by omega
        obtain ⟨gf, hgf⟩ : ∃ x, G fr = x := ⟨_, rfl⟩
        have hgb := HGB.out fr (by omega)
        rw [hgf] at hgb
        obtain ⟨hgb0, hgb1⟩ := hgb
        have CG : Hid (∀ W, SyAt W (some ⟨g, 0, none⟩) l → Calls Tryd.prog 21 #[.agg #[.string key, .string pk, .int .i64 lv, .int .i64 bk], .slice (some ⟨g, 0, none⟩) l.length c, .int .i64 fr] W fun r w' => r = .returned (.int .i64 gf) ∧ Below W.heap.size W w') := fun W h => by have := CE2.out W fr (by omega) h; rw [hgf] at this; exact this
        rw [hgf] at HST
        clear hgf
        go_upto_if 31 with (fail)
        generalize hwz : wr.alloc (.cells #[.int .i64 pl, .int .i64 fr] 61) = wz at *
        have HBZ : Hid (Below w.heap.size w wz ∧ wz.heap[w.heap.size]? = some (.cells #[.string key, .string pk, .int .i64 lv, .int .i64 bk] 27 (0, 0)) ∧ wz.heap[wr.heap.size]? = some (.cells #[.int .i64 pl, .int .i64 fr] 61 (0, 0)) ∧ (k + 1 < l.length → wz.cell? ⟨g, (k + 1) * 2 + 1, none⟩ = some (.int .i64 tf)) ∧ g < wz.heap.size) := by
          show _ ∧ _
          rw [← hwz]
          exact ⟨HBS.out.1.alloc HBS.out.1.size _, blk_alloc HBS.out.2 _, blk_new wr _ rfl, fun h => (((Below.refl wr.heap.size wr).alloc (Nat.le_refl _) _).cell hgl).trans (HNX.out.1 h), by simp; omega⟩
        have hwb : w.heap.size ≤ wr.heap.size := HBS.out.1.size
        clear hwz HBS q0 q1 q2 q3 hpz p0 p1 hgl
        go_cut [10] (fun s10 wc => s10 = .int .i64 tf ∧ wc = wz)
        case first =>
          by_cases hk1 : k + 1 < l.length
          · have hcn := HBZ.out.2.2.2.1 hk1
            have hgl := HBZ.out.2.2.2.2
            have i3 : (k : Int) + 1 < (l.length : Int) := by omega
            go_wp2_with fail
            go_meet
            exact ⟨rfl, rfl⟩
          · have htt := HNX.out.2 hk1
            have HTT := Lib.hid htt
            have i3 : ¬ (k : Int) + 1 < (l.length : Int) := by omega
            clear htt
            go_wp2_with fail
            go_meet
            exact ⟨by rw [HTT.out], rfl⟩
        case rest =>
          obtain ⟨rfl, rfl⟩ := hcut
          clear HNX
          go_upto_region 10 with (fail)
          refine Rg.rgL (fun a b => Below a.heap.size a b)
            [(fun vs u => vs 0 = .pointer (some ⟨wr.heap.size, 1, none⟩)), (fun vs u => vs 1 = .int .i64 fr), (fun vs u => vs 2 = .int .i64 lf), (fun vs u => vs 3 = .int .i64 (fr + lf)), (fun vs u => vs 4 = .agg #[.string key, .string pk, .int .i64 lv, .int .i64 bk]), (fun vs u => vs 5 = .slice (some ⟨g, 0, none⟩) l.length c), (fun vs u => vs 6 = .pointer (some ⟨wr.heap.size, 1, none⟩)), (fun vs u => vs 7 = .int .i64 fr), (fun vs u => vs 8 = .int .i64 gf)]
            [[], [0], [], [0, 1, 2], [], [], [], [6], [4, 5, 6, 7]] [some 38, some 39, some 40, some 41, some 42, some 43, some 44, some 45, some 46, some 47, some 48, some 11] [] (fun _ _ => True) [[], [0], [], [0, 1, 2], [], [], [], [6], [4, 5, 6, 7], [0, 1, 2, 3, 4, 5, 6, 7, 8], [0, 1, 2, 3, 4, 5, 6, 7, 8, 9], [0, 1, 2, 3, 4, 5, 6, 7, 8, 9, 10]]
            (by kernel_rfl) (by decide) (by kernel_rfl) (by kernel_rfl) (by kernel_rfl) (by kernel_rfl) (by kernel_rfl) (fun _ => Below.refl _ _) (fun _ _ _ h k => h.ext k) (fun _ _ h => h.size) ?_ trivial ?_ ?_
          · intro t ht vs w w' h hE
            simp only [List.mem_cons, List.not_mem_nil, or_false] at ht
            rcases ht with rfl | rfl | rfl | rfl | rfl | rfl | rfl | rfl | rfl
            · exact h
            · exact h
            · exact h
            · exact h
            · exact h
            · exact h
            · exact h
            · exact h
            · exact h
          ·
            refine Rg.cons 0 1 rfl (Rg.plain rfl ?_) ?_
            · intro vs W n hn hI hG hT hF K hK
              simp only [Rg.putsD, List.getD_cons_zero, List.getD_cons_succ, Act.put, List.setIfInBounds_toArray, List.set_cons_zero, List.set_cons_succ] at hK ⊢
              clear hn
              clear hF hI
              have H := Lib.hid hK
              clear hK hT
              go_simp
              exact H.out _ _ (Below.refl _ _) rfl (fun h => by cases h) trivial
            refine Rg.cons 1 2 rfl (Rg.plain rfl ?_) ?_
            · intro vs W n hn hI hG hT hF K hK
              simp only [Rg.putsD, List.getD_cons_zero, List.getD_cons_succ, Act.put, List.setIfInBounds_toArray, List.set_cons_zero, List.set_cons_succ] at hK ⊢
              clear hn
              clear hF hI
              have t0 : vs 0 = .pointer (some ⟨wr.heap.size, 1, none⟩) := hT 0 (by decide)
              obtain ⟨m0, m1, _, _⟩ := blk2 (blk_below hG HBZ.out.2.2.1)
              simp only [t0] at hK
              have H := Lib.hid hK
              clear hK hT
              go_simp
              exact H.out _ _ (Below.refl _ _) rfl (fun h => by cases h) trivial
            refine Rg.cons 2 3 rfl (Rg.plain rfl ?_) ?_
            · intro vs W n hn hI hG hT hF K hK
              simp only [Rg.putsD, List.getD_cons_zero, List.getD_cons_succ, Act.put, List.setIfInBounds_toArray, List.set_cons_zero, List.set_cons_succ] at hK ⊢
              clear hn
              clear hF hI
              have H := Lib.hid hK
              clear hK hT
              go_simp
              exact H.out _ _ (Below.refl _ _) rfl (fun h => by cases h) trivial
            refine Rg.cons 3 4 rfl (Rg.plain rfl ?_) ?_
            · intro vs W n hn hI hG hT hF K hK
              simp only [Rg.putsD, List.getD_cons_zero, List.getD_cons_succ, Act.put, List.setIfInBounds_toArray, List.set_cons_zero, List.set_cons_succ] at hK ⊢
              clear hn
              clear hF hI
              have t0 : vs 0 = .pointer (some ⟨wr.heap.size, 1, none⟩) := hT 0 (by decide)
              have t1 : vs 1 = .int .i64 fr := hT 1 (by decide)
              have t2 : vs 2 = .int .i64 lf := hT 2 (by decide)
              simp only [t0, t1, t2] at hK
              have H := Lib.hid hK
              clear hK hT
              go_simp
              have e9 := IntWalk.i64_in (fr + lf) (by omega)
              simp only [e9]
              exact H.out _ _ (Below.refl _ _) rfl (fun h => by cases h) trivial
            refine Rg.cons 4 5 rfl (Rg.plain rfl ?_) ?_
            · intro vs W n hn hI hG hT hF K hK
              simp only [Rg.putsD, List.getD_cons_zero, List.getD_cons_succ, Act.put, List.setIfInBounds_toArray, List.set_cons_zero, List.set_cons_succ] at hK ⊢
              clear hn
              clear hF hI
              obtain ⟨m0, m1, m2, m3⟩ := blk4 (blk_below hG HBZ.out.2.1)
              have H := Lib.hid hK
              clear hK hT
              go_simp
              exact H.out _ _ (Below.refl _ _) rfl (fun h => by cases h) trivial
            refine Rg.cons 5 6 rfl (Rg.plain rfl ?_) ?_
            · intro vs W n hn hI hG hT hF K hK
              simp only [Rg.putsD, List.getD_cons_zero, List.getD_cons_succ, Act.put, List.setIfInBounds_toArray, List.set_cons_zero, List.set_cons_succ] at hK ⊢
              clear hn
              clear hF hI
              have H := Lib.hid hK
              clear hK hT
              go_simp
              exact H.out _ _ (Below.refl _ _) rfl (fun h => by cases h) trivial
            refine Rg.cons 6 7 rfl (Rg.plain rfl ?_) ?_
            · intro vs W n hn hI hG hT hF K hK
              simp only [Rg.putsD, List.getD_cons_zero, List.getD_cons_succ, Act.put, List.setIfInBounds_toArray, List.set_cons_zero, List.set_cons_succ] at hK ⊢
              clear hn
              clear hF hI
              have H := Lib.hid hK
              clear hK hT
              go_simp
              exact H.out _ _ (Below.refl _ _) rfl (fun h => by cases h) trivial
            refine Rg.cons 7 8 rfl (Rg.plain rfl ?_) ?_
            · intro vs W n hn hI hG hT hF K hK
              simp only [Rg.putsD, List.getD_cons_zero, List.getD_cons_succ, Act.put, List.setIfInBounds_toArray, List.set_cons_zero, List.set_cons_succ] at hK ⊢
              clear hn
              clear hF hI
              have t6 : vs 6 = .pointer (some ⟨wr.heap.size, 1, none⟩) := hT 6 (by decide)
              obtain ⟨m0, m1, _, _⟩ := blk2 (blk_below hG HBZ.out.2.2.1)
              simp only [t6] at hK
              have H := Lib.hid hK
              clear hK hT
              go_simp
              exact H.out _ _ (Below.refl _ _) rfl (fun h => by cases h) trivial
            refine Rg.cons 8 9 rfl (Rg.plain rfl ?_) ?_
            · intro vs W n hn hI hG hT hF K hK
              simp only [Rg.putsD, List.getD_cons_zero, List.getD_cons_succ, Act.put, List.setIfInBounds_toArray, List.set_cons_zero, List.set_cons_succ] at hK ⊢
              clear hn
              clear hF hI
              have t4 : vs 4 = .agg #[.string key, .string pk, .int .i64 lv, .int .i64 bk] := hT 4 (by decide)
              have t5 : vs 5 = .slice (some ⟨g, 0, none⟩) l.length c := hT 5 (by decide)
              have t6 : vs 6 = .pointer (some ⟨wr.heap.size, 1, none⟩) := hT 6 (by decide)
              have t7 : vs 7 = .int .i64 fr := hT 7 (by decide)
              have HG2 := Lib.hid hG
              clear hG
              simp only [t4, t5, t6, t7] at hK
              have H := Lib.hid hK
              clear hK hT
              go_simp
              refine (CG.out _ (.inr ⟨g, rfl, HROW.out.below (HBZ.out.1.drew.then_below HG2.out HBZ.out.1.size)⟩)).mono ?_
              rintro e wa ⟨rfl, ba⟩
              exact H.out _ _ ba rfl (fun h => by cases h) trivial
            exact Rg.nil
          · intro vs W hG hI hT hF
            have t0 : vs 0 = .pointer (some ⟨wr.heap.size, 1, none⟩) := hT 0 (by decide)
            have t1 : vs 1 = .int .i64 fr := hT 1 (by decide)
            have t2 : vs 2 = .int .i64 lf := hT 2 (by decide)
            have t3 : vs 3 = .int .i64 (fr + lf) := hT 3 (by decide)
            have t4 : vs 4 = .agg #[.string key, .string pk, .int .i64 lv, .int .i64 bk] := hT 4 (by decide)
            have t5 : vs 5 = .slice (some ⟨g, 0, none⟩) l.length c := hT 5 (by decide)
            have t6 : vs 6 = .pointer (some ⟨wr.heap.size, 1, none⟩) := hT 6 (by decide)
            have t7 : vs 7 = .int .i64 fr := hT 7 (by decide)
            have t8 : vs 8 = .int .i64 gf := hT 8 (by decide)
            simp only [List.length_cons, List.length_nil, Nat.reduceAdd, List.range, List.range.loop, List.drop_succ_cons, List.drop_zero, Rg.putsD, List.getD_cons_zero, List.getD_cons_succ, Act.put, List.setIfInBounds_toArray, List.set_cons_zero, List.set_cons_succ, t0, t1, t2, t3, t4, t5, t6, t7, t8]
            clear hT t0 t1 t2 t3 t4 t5 t6 t7 t8
            have HB5 := Lib.hid (And.intro (HBZ.out.1.drew.then_below hG HBZ.out.1.size) (And.intro (blk_below hG HBZ.out.2.1) (blk_below hG HBZ.out.2.2.1)))
            clear hG hI hF HBZ
            obtain ⟨q0, q1, q2, q3⟩ := blk4 HB5.out.2.1
            obtain ⟨m0, m1, _, _⟩ := blk2 HB5.out.2.2
            have hpz := lt_of_blk HB5.out.2.1
            have hmz := lt_of_blk HB5.out.2.2
            have hw1 : IntKind.i64.wrap (fr + lf) = fr + lf := IntWalk.i64_in _ (by omega)
            by_cases h2 : pl = 2
            rotate_left
            · have h20 : (pl == 2) = false := by simpa using h2
              have HF : Hid (expRef lf G l = expRef lf G (l.drop (k + 1))) := HST.out.trans (if_neg fun h => h2 h.1)
              clear h2
              go_wp2_with fail
              go_roundw
              case rel => exact ⟨k + 1, by omega, by go_num, HB5.out.1, HB5.out.2.1, HF.out⟩
              case measure => simp [intOf]; omega
            · subst h2
              by_cases h3 : (fr + lf - gf + 1) ≤ tf
              rotate_left
              · have HF : Hid (expRef lf G l = expRef lf G (l.drop (k + 1))) := HST.out.trans (if_neg fun h => h3 h.2.1)
                go_wp2_with fail
                go_roundw
                case rel => exact ⟨k + 1, by omega, by go_num, HB5.out.1, HB5.out.2.1, HF.out⟩
                case measure => simp [intOf]; omega
              by_cases h4 : (fr + lf - gf + 1) < 345686400000
              rotate_left
              · have HF : Hid (expRef lf G l = expRef lf G (l.drop (k + 1))) := HST.out.trans (if_neg fun h => h4 h.2.2.1)
                go_wp2_with fail
                go_roundw
                case rel => exact ⟨k + 1, by omega, by go_num, HB5.out.1, HB5.out.2.1, HF.out⟩
                case measure => simp [intOf]; omega
              have CH := Lib.hid (fun W h => CE2.out W (fr + lf - gf + 1) (by omega) h)
              obtain ⟨gv, hgv⟩ : ∃ x, G (fr + lf - gf + 1) = x := ⟨_, rfl⟩
              rw [hgv] at CH HST
              clear hgv
              by_cases h5 : lf < gv
              · have HF : Hid (expRef lf G l = some (fr + lf - gf + 1)) := HST.out.trans (if_pos ⟨rfl, h3, h4, h5⟩)
                go_wp2_with fail
                refine (CH.out _ (.inr ⟨g, rfl, HROW.out.below HB5.out.1⟩)).mono ?_
                rintro e w6 ⟨rfl, b6⟩
                have HB6 := Lib.hid (HB5.out.1.then_below b6 HB5.out.1.size)
                clear b6
                go_wp2_with fail
                go_ret2
                exact ⟨by rw [HR.out, HF.out]; rfl, HB6.out⟩
              · have HF : Hid (expRef lf G l = expRef lf G (l.drop (k + 1))) := HST.out.trans (if_neg fun h => h5 h.2.2.2)
                go_wp2_with fail
                refine (CH.out _ (.inr ⟨g, rfl, HROW.out.below HB5.out.1⟩)).mono ?_
                rintro e w6 ⟨rfl, b6⟩
                have HB6 := Lib.hid (And.intro (HB5.out.1.then_below b6 HB5.out.1.size) (blk_below b6 HB5.out.2.1))
                clear b6
                go_wp2_with fail
                go_roundw
                case rel => exact ⟨k + 1, by omega, by go_num, HB6.out.1, HB6.out.2, HF.out⟩
                case measure => simp [intOf]; omega
      · have HF : Hid (expRef lf G l = none) := HS.out.2.2.trans (by rw [List.drop_eq_nil_of_le (by omega)]; rfl)
        go_wp2_with fail
        go_ret2
        exact ⟨by rw [HR.out, HF.out]; rfl, HS.out.1⟩
end Go.Proofs.YtopnadilfjakiaaDoor
