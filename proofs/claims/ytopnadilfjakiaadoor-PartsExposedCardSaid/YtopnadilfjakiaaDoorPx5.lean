/-
  The walk of the phases.
-/
import Derived.Test.YtopnadilfjakiaaDoorPx4
namespace Go.Proofs.YtopnadilfjakiaaDoor
open Go.RowKit

theorem spentB_le {lv bk pl e lg : Int} (he : 0 ≤ e) (hl : 0 ≤ lg) : spentB lv bk pl e lg ≤ e + lg := by
  unfold spentB
  repeat' split
  all_goals omega
theorem dryT_nn {lv bk pl e wt : Int} (hb : 0 ≤ bk) (he : 0 ≤ e) (h : dryT lv bk pl e = some wt) : 0 ≤ wt ∧ pl ≠ 2 := by
  unfold dryT at h
  have hf := facL_pos lv
  have hq : 0 ≤ facL lv * e := Int.mul_nonneg (by omega) he
  split at h
  · simp at h; omega
  · split at h
    · split at h
      · cases h
      · simp at h; omega
    · cases h
theorem dryT_hi {lv bk pl e wt : Int} (hb : bk ≤ 720000000) (he : 0 ≤ e) (h : dryT lv bk pl e = some wt) : wt ≤ 1000000000 := by
  unfold dryT at h
  split at h
  · simp at h; omega
  · split at h
    · split at h
      · cases h
      · rename_i hc
        simp at h
        have : facL lv * e ≤ 10 * e := by unfold facL; split <;> omega
        omega
    · cases h
theorem spent_none {lv bk pl e lg : Int} (h : dryT lv bk pl e = none) : spentB lv bk pl e lg = if pl = 2 then e + lg else e := by
  unfold dryT at h
  unfold spentB
  split at h
  · cases h
  · split at h
    · split at h
      · rename_i h4 h3 hc
        rw [if_neg (by omega), if_neg (fun q => h4 q.1), if_neg (by omega), if_neg (by omega)]
      · cases h
    · rename_i h4 h3
      by_cases h2 : pl = 2
      · rw [if_pos h2, if_pos h2]
      · rw [if_neg h2, if_neg (fun q => h4 q.1), if_neg (fun q => h3 q.1), if_neg h2]
theorem spent_late {lv bk pl e lg wt : Int} (h : dryT lv bk pl e = some wt) (hl : lg < wt) : spentB lv bk pl e lg = e := by
  unfold dryT at h
  unfold spentB
  split at h
  · rename_i h4
    simp at h
    rw [if_neg (by omega), if_neg (by omega), if_neg (by omega)]
  · split at h
    · split at h
      · cases h
      · rename_i h4 h3 hc
        simp at h
        rw [if_neg (by omega), if_neg (fun q => h4 q.1), if_neg (fun q => by have := q.2.2.2; omega)]
    · cases h
theorem spent_dry {lv bk pl e lg wt : Int} (h : dryT lv bk pl e = some wt) (hl : wt ≤ lg) : spentB lv bk pl e lg = 0 := by
  unfold dryT at h
  unfold spentB
  split at h
  · rename_i h4
    simp at h
    rw [if_neg (by omega), if_pos (by omega)]
  · split at h
    · split at h
      · cases h
      · rename_i h4 h3 hc
        simp at h
        rw [if_neg (by omega), if_neg (fun q => h4 q.1), if_pos ⟨h3, by omega, by omega, by omega⟩]
    · cases h
theorem phOf_len (lv bk e : Int) (x : Sy) (tt : Int) : (phOf lv bk e x tt).length ≤ 2 := by
  have h : ∀ a b e g, (phL a b e g).length ≤ 1 := fun a b e g => by unfold phL; split <;> simp
  unfold phOf
  split
  · have := h x.frm tt e (decide (x.place = 2)); omega
  · rename_i wt _
    split
    · have := h x.frm tt e (decide (x.place = 2)); omega
    · have h1 := h x.frm (x.frm + wt) e false
      have h2 := h (x.frm + wt) tt 0 false
      rw [List.length_append]; omega

theorem PhSt.setE {w0 : World} {base hE hL : Nat} {e : Int} {acc : List Ph} {W : World} (h : PhSt w0 base hE hL e acc W) (h1 : w0.heap.size ≤ hE) (h3 : hE < base) (h5 : hE ≠ hL) (x : Int) : PhSt w0 base hE hL x acc (W.setCell ⟨hE, 0, none⟩ (.int .i64 x)) := by
  obtain ⟨a1, a2, a3, v, a4, a5⟩ := h
  exact ⟨a1.setCell (p := ⟨hE, 0, none⟩) h1 _, blk_set a2 _, by simpa [World.setCell] using a3, v, blk_far a4 (Ne.symm h5) _, own_far a5 h3 _⟩
/-- What stands at the head of a round. -/
def PrSt (w : World) (key pk : ByteArray) (lv bk : Int) (e : Int) (acc : List Ph) (W : World) : Prop :=
  PhSt w (w.heap.size + 3) (w.heap.size + 2) (w.heap.size + 1) e acc W ∧ W.heap[w.heap.size]? = some (.cells #[.string key, .string pk, .int .i64 lv, .int .i64 bk] 27 (0, 0))

set_option maxRecDepth 100000 in
set_option maxHeartbeats 4000000 in
theorem phases_any (key pk : ByteArray) (lv bk : Int) (A : Option Addr) (c : Nat) (l : List Sy) (hl : l.length ≤ 400) (w : World) (hA : SyAt w A l) (hg : GoodS l) (hb0 : 0 ≤ bk) (hb1 : bk ≤ 720000000) :
    Calls Tryd.prog 38 #[.agg #[.string key, .string pk, .int .i64 lv, .int .i64 bk], .slice A l.length c] w fun r w' => ∃ v, r = .returned v ∧ Below w.heap.size w w' ∧ Reads Ph.cells v (staysPh lv bk 0 l) w' := by
  have HG := Lib.hid hg
  clear hg
  go_enter Tryd.func38, Tryd.ntmps38
  go_wp2_with fail
  have bw1 : Below w.heap.size w (((w.alloc (Obj.cells #[.string key, .string pk, .int .i64 lv, .int .i64 bk] 27)).alloc (Obj.cells #[.slice none 0 0] 72)).alloc (Obj.cells #[.int .i64 0] 3)) := ((((Below.refl _ _).alloc (Nat.le_refl _) _).alloc (by simp) _).alloc (by simp; omega) _)
  have kP : (((w.alloc (Obj.cells #[.string key, .string pk, .int .i64 lv, .int .i64 bk] 27)).alloc (Obj.cells #[.slice none 0 0] 72)).alloc (Obj.cells #[.int .i64 0] 3)).heap[w.heap.size]? = some (.cells #[.string key, .string pk, .int .i64 lv, .int .i64 bk] 27 (0, 0)) := (blk_alloc (blk_alloc (blk_new w _ rfl) _) _)
  have kL : (((w.alloc (Obj.cells #[.string key, .string pk, .int .i64 lv, .int .i64 bk] 27)).alloc (Obj.cells #[.slice none 0 0] 72)).alloc (Obj.cells #[.int .i64 0] 3)).heap[w.heap.size + 1]? = some (.cells #[.slice none 0 0] 72 (0, 0)) := (blk_alloc (blk_new _ _ (by simp)) _)
  have kE : (((w.alloc (Obj.cells #[.string key, .string pk, .int .i64 lv, .int .i64 bk] 27)).alloc (Obj.cells #[.slice none 0 0] 72)).alloc (Obj.cells #[.int .i64 0] 3)).heap[w.heap.size + 1 + 1]? = some (.cells #[.int .i64 0] 3 (0, 0)) := (blk_new _ _ (by simp))
  generalize (((w.alloc (Obj.cells #[.string key, .string pk, .int .i64 lv, .int .i64 bk] 27)).alloc (Obj.cells #[.slice none 0 0] 72)).alloc (Obj.cells #[.int .i64 0] 3)) = w1 at *
  have hz1 := lt_of_blk kE
  have H0 : Hid (PrSt w key pk lv bk 0 [] w1 ∧ staysPh lv bk 0 l = [] ++ staysPh lv bk 0 (l.drop 0) ∧ ([] : List Ph).length ≤ 2 * 0) := ⟨⟨⟨bw1, kE, by omega, _, kL, World.ownsRow_nil _ _ _ _⟩, kP⟩, rfl, by simp⟩
  have hs0 : (0 : Int) ≤ stopAt (l.drop 0) finT := by
    rw [List.drop_zero]
    cases l with
    | nil => show (0 : Int) ≤ finT; unfold finT; omega
    | cons y l => exact (HG.out.1 y (by simp)).2.2.1
  clear bw1 kP kL kE
  go_loopw [16] (fun kk wr => ∃ (k : Nat) (e : Int) (acc : List Ph), k ≤ l.length ∧ kk = .int .i64 k ∧ 0 ≤ e ∧ e ≤ stopAt (l.drop k) finT ∧ Hid (PrSt w key pk lv bk e acc wr ∧ staysPh lv bk 0 l = acc ++ staysPh lv bk e (l.drop k) ∧ acc.length ≤ 2 * k)) (fun kk _ => l.length - (intOf kk).toNat)
  case atStart => exact ⟨0, 0, [], by omega, rfl, by omega, hs0, H0⟩
  case round =>
    clear hs0 H0 hz1
    obtain ⟨k, e, acc, hk, rfl, he0, he1, HS⟩ := hrel
    by_cases hlt : k < l.length
    · obtain ⟨p, hp⟩ : ∃ p, l[k] = p := ⟨_, rfl⟩
      have hpm := HG.out.1 p (by rw [← hp]; exact List.getElem_mem hlt)
      have hdk : l.drop k = p :: l.drop (k + 1) := by rw [drop_at l hlt, hp]
      have hgd : GoodS (p :: l.drop (k + 1)) := by
        rw [← hdk]
        exact ⟨fun y hy => HG.out.1 y (List.mem_of_mem_drop hy), HG.out.2.sublist (List.drop_sublist _ _)⟩
      have hstop := hgd.stop
      have hst : staysPh lv bk e (l.drop k) = phOf lv bk e p (stopAt (l.drop (k + 1)) finT) ++ staysPh lv bk (spentB lv bk p.place e (stopAt (l.drop (k + 1)) finT - p.frm)) (l.drop (k + 1)) := by rw [hdk]; rfl
      rw [hdk] at he1
      have hto : stopAt (l.drop (k + 1)) finT ≤ 345686400000 := by
        cases hd : l.drop (k + 1) with
        | nil => show finT ≤ _; unfold finT; omega
        | cons y r => have := (hgd.1 y (by rw [hd]; simp)).2.2.2; unfold finT at this; show y.frm ≤ _; omega
      rcases hA with rfl | ⟨g, rfl, hrow⟩
      · simp at hlt
      have hr2 := hrow.below HS.out.1.1.1
      obtain ⟨p0, p1⟩ := row_sy hr2 hlt
      rw [hp] at p0 p1
      have hgl := hr2.1
      have hnx : k + 1 < l.length → stopAt (l.drop (k + 1)) finT = (l.getD (k + 1) ⟨0, 0⟩).frm ∧ wr.cell? ⟨g, (k + 1) * 2 + 1, none⟩ = some (.int .i64 (stopAt (l.drop (k + 1)) finT)) := fun h => by
        have e1 : stopAt (l.drop (k + 1)) finT = l[k + 1].frm := by rw [drop_at l h]; rfl
        refine ⟨by rw [e1, List.getD_eq_getElem?_getD, List.getElem?_eq_getElem h]; rfl, ?_⟩
        rw [e1]; exact (row_sy hr2 h).2
      have hnn : ¬ k + 1 < l.length → stopAt (l.drop (k + 1)) finT = 345686400000 := fun h => by rw [List.drop_eq_nil_of_le (by omega)]; rfl
      have HST := Lib.hid (And.intro hst hpm)
      have HROW := Lib.hid hrow
      have HNX := Lib.hid (And.intro hnx hnn)
      obtain ⟨pl, fr⟩ := p
      have hfr0 : 0 ≤ fr := hpm.2.2.1
      have hef : e ≤ fr := he1
      have htf : fr < stopAt (l.drop (k + 1)) finT := hstop
      dsimp only at p0 p1
      generalize htt0 : stopAt (l.drop (k + 1)) finT = tt at *
      have HTT0 := Lib.hid htt0
      clear htt0
      clear hp hpm hdk hgd hstop hst hrow hr2 hnx hnn he1
      obtain ⟨q0, q1, q2, q3⟩ := blk4 HS.out.1.2
      obtain ⟨x0, x1, x2⟩ := blk1 HS.out.1.1.2.1
      have hpz := lt_of_blk HS.out.1.2
      have i1 : (0 : Int) ≤ (k : Int) := by omega
      have i2 : (k : Int) < (l.length : Int) := by omega
      go_upto_if 25 with (fail)
      have hk5 : wr.heap[wr.heap.size]? = none := by simp
      have HSA := Lib.hid (And.intro (HS.out.1.1.below ((Below.refl wr.heap.size wr).alloc (Nat.le_refl _) (.cells #[.int .i64 pl, .int .i64 fr] 61))) (And.intro (blk_alloc HS.out.1.2 (.cells #[.int .i64 pl, .int .i64 fr] 61)) (blk_new wr (.cells #[.int .i64 pl, .int .i64 fr] 61) rfl)))
      have hwb : w.heap.size + 3 ≤ wr.heap.size := HS.out.1.1.2.2.1
      have HLEN : Hid (acc.length ≤ 2 * k ∧ staysPh lv bk 0 l = acc ++ staysPh lv bk e (l.drop k)) := ⟨HS.out.2.2, HS.out.2.1⟩
      have hnb : k + 1 < l.length → wr.cell? ⟨g, (k + 1) * 2 + 1, none⟩ = some (.int .i64 tt) := fun h => (HNX.out.1 h).2
      have hnb2 : ¬ k + 1 < l.length → tt = 345686400000 := HNX.out.2
      have HNB := Lib.hid (And.intro hnb hnb2)
      clear hnb hnb2 hk5 HS q0 q1 q2 q3 x0 x1 p0 p1 hpz
      generalize hwz : wr.alloc (.cells #[.int .i64 pl, .int .i64 fr] 61) = wz at *
      have HWZ := Lib.hid hwz
      clear hwz
      go_cut [10] (fun s10 wc => s10 = .int .i64 tt ∧ wc = wz)
      case first =>
        by_cases hk1 : k + 1 < l.length
        · have hcn : wz.cell? ⟨g, (k + 1) * 2 + 1, none⟩ = some (.int .i64 tt) := by
            rw [← HWZ.out]
            exact (((Below.refl wr.heap.size wr).alloc (Nat.le_refl _) _).cell (by exact hgl)).trans (HNB.out.1 hk1)
          have i3 : (k : Int) + 1 < (l.length : Int) := by omega
          go_wp2_with fail
          go_meet
          exact ⟨rfl, rfl⟩
        · have htt := HNB.out.2 hk1
          have HTT := Lib.hid htt
          have i3 : ¬ (k : Int) + 1 < (l.length : Int) := by omega
          clear htt
          go_wp2_with fail
          go_meet
          exact ⟨by rw [HTT.out], rfl⟩
      case rest =>
        obtain ⟨rfl, rfl⟩ := hcut
        clear HNB HWZ HNX HROW
        obtain ⟨q0, q1, q2, q3⟩ := blk4 HSA.out.2.1
        obtain ⟨x0, _, x2⟩ := blk1 HSA.out.1.2.1
        obtain ⟨t0, t1, _, _⟩ := blk2 HSA.out.2.2
        have hzz := lt_of_blk HSA.out.2.2
        have hqz := lt_of_blk HSA.out.2.1
        have hsl : spentB lv bk pl e (tt - fr) ≤ tt := Int.le_trans (spentB_le he0 (by omega)) (by omega)
        have CD := Lib.hid (fun W' => drying_any key pk lv bk pl e W' he0)
        have HW : Hid (dryW lv bk pl e = (dryT lv bk pl e).getD 0 ∧ dryB lv bk pl e = (dryT lv bk pl e).isSome) := ⟨rfl, rfl⟩
        cases hd : dryT lv bk pl e with
        | none =>
          have HSP : Hid (spentB lv bk pl e (tt - fr) = addE fr tt e (pl == 2)) := by
            show _ = _
            rw [spent_none hd, addE, if_pos htf]
            by_cases h2 : pl = 2
            · rw [if_pos h2]; simp [phAt, h2]; omega
            · rw [if_neg h2]; simp [phAt, h2]
          have HPO : Hid (phOf lv bk e ⟨pl, fr⟩ tt = phL fr tt e (pl == 2)) := by
            show _ = _
            unfold phOf
            rw [hd]
            rfl
          have hw1 : dryW lv bk pl e = 0 := by rw [HW.out.1, hd]; rfl
          have hw2 : dryB lv bk pl e = false := by rw [HW.out.2, hd]; rfl
          rw [hw1, hw2] at CD
          clear hw1 hw2 hd HW
          go_wp2_with fail
          refine (CD.out _).mono ?_
          rintro r w2 ⟨rfl, b2⟩
          have HS2 := Lib.hid (And.intro (HSA.out.1.below b2) (And.intro (blk_below b2 HSA.out.2.1) (blk_below b2 HSA.out.2.2)))
          obtain ⟨s0, s1, _, _⟩ := blk2 HS2.out.2.2
          have hz2 := lt_of_blk HS2.out.2.2
          clear b2 CD q0 q1 q2 q3 x0 t0 t1
          go_wp2_with fail
          refine (add_any w (w.heap.size + 3) (w.heap.size + 2) (w.heap.size + 1) e acc fr tt (pl == 2) w2 HS2.out.1 (by omega) (by omega) (by omega) (by omega) (by omega) (by have := HLEN.out.1; omega) ⟨by omega, by omega⟩ ⟨by omega, by omega⟩ ⟨by omega, by omega⟩).mono ?_
          rintro r w3 ⟨rfl, hs3, hk3⟩
          have HF : Hid (PrSt w key pk lv bk (spentB lv bk pl e (tt - fr)) (acc ++ phOf lv bk e ⟨pl, fr⟩ tt) w3 ∧ staysPh lv bk 0 l = (acc ++ phOf lv bk e ⟨pl, fr⟩ tt) ++ staysPh lv bk (spentB lv bk pl e (tt - fr)) (l.drop (k + 1)) ∧ (acc ++ phOf lv bk e ⟨pl, fr⟩ tt).length ≤ 2 * (k + 1)) := by
            refine ⟨⟨?_, hk3.2 _ _ _ HS2.out.2.1 (by decide) (by omega) (by omega)⟩, by rw [HLEN.out.2, HST.out.1, List.append_assoc], by have := phOf_len lv bk e ⟨pl, fr⟩ tt; have := HLEN.out.1; rw [List.length_append]; omega⟩
            rw [HSP.out, HPO.out]
            exact hs3
          clear hs3 hk3
          go_wp2_with fail
          go_roundw
          case rel => exact ⟨k + 1, _, _, by omega, by go_num, spentB_nn he0 (by omega), by rw [HTT0.out]; exact hsl, HF⟩
          case measure => simp [intOf]; omega
        | some wt =>
          obtain ⟨hw0, hp2⟩ := dryT_nn hb0 he0 hd
          have hwh := dryT_hi hb1 he0 hd
          have hw1 : dryW lv bk pl e = wt := by rw [HW.out.1, hd]; rfl
          have hw2 : dryB lv bk pl e = true := by rw [HW.out.2, hd]; rfl
          rw [hw1, hw2] at CD
          have hp20 : (pl == 2) = false := by simpa using hp2
          by_cases hlate : tt - fr < wt
          · have HSP : Hid (spentB lv bk pl e (tt - fr) = addE fr tt e (pl == 2)) := by
              show _ = _
              rw [spent_late hd hlate, addE, if_pos htf, hp20]
              simp [phAt]
            have HPO : Hid (phOf lv bk e ⟨pl, fr⟩ tt = phL fr tt e (pl == 2)) := by
              show _ = _
              unfold phOf
              simp only [hd, hlate, if_true]
              rfl
            have hwi : IntKind.i64.wrap (tt - fr) = tt - fr := IntWalk.i64_in _ (by omega)
            clear hw1 hw2 hd HW hp20 hp2
            go_wp2_with fail
            refine (CD.out _).mono ?_
            rintro r w2 ⟨rfl, b2⟩
            have HS2 := Lib.hid (And.intro (HSA.out.1.below b2) (And.intro (blk_below b2 HSA.out.2.1) (blk_below b2 HSA.out.2.2)))
            obtain ⟨s0, s1, _, _⟩ := blk2 HS2.out.2.2
            have hz2 := lt_of_blk HS2.out.2.2
            clear b2 CD q0 q1 q2 q3 x0 t0 t1
            go_wp2_with fail
            refine (add_any w (w.heap.size + 3) (w.heap.size + 2) (w.heap.size + 1) e acc fr tt (pl == 2) w2 HS2.out.1 (by omega) (by omega) (by omega) (by omega) (by omega) (by have := HLEN.out.1; omega) ⟨by omega, by omega⟩ ⟨by omega, by omega⟩ ⟨by omega, by omega⟩).mono ?_
            rintro r w3 ⟨rfl, hs3, hk3⟩
            have HF : Hid (PrSt w key pk lv bk (spentB lv bk pl e (tt - fr)) (acc ++ phOf lv bk e ⟨pl, fr⟩ tt) w3 ∧ staysPh lv bk 0 l = (acc ++ phOf lv bk e ⟨pl, fr⟩ tt) ++ staysPh lv bk (spentB lv bk pl e (tt - fr)) (l.drop (k + 1)) ∧ (acc ++ phOf lv bk e ⟨pl, fr⟩ tt).length ≤ 2 * (k + 1)) := by
              refine ⟨⟨?_, hk3.2 _ _ _ HS2.out.2.1 (by decide) (by omega) (by omega)⟩, by rw [HLEN.out.2, HST.out.1, List.append_assoc], by have := phOf_len lv bk e ⟨pl, fr⟩ tt; have := HLEN.out.1; rw [List.length_append]; omega⟩
              rw [HSP.out, HPO.out]
              exact hs3
            clear hs3 hk3
            go_wp2_with fail
            go_roundw
            case rel => exact ⟨k + 1, _, _, by omega, by go_num, spentB_nn he0 (by omega), by rw [HTT0.out]; exact hsl, HF⟩
            case measure => simp [intOf]; omega
          · have HSP : Hid (spentB lv bk pl e (tt - fr) = 0) := spent_dry hd (by omega)
            have HPO : Hid (phOf lv bk e ⟨pl, fr⟩ tt = phL fr (fr + wt) e false ++ phL (fr + wt) tt 0 false) := by
              show _ = _
              unfold phOf
              simp only [hd, hlate, if_false]
            have hwi : IntKind.i64.wrap (tt - fr) = tt - fr := IntWalk.i64_in _ (by omega)
            have HA1 : Hid (addE fr (fr + wt) e false = e) := by
              show _ = _
              unfold addE
              split <;> simp [phAt]
            have HA2 : Hid (addE (fr + wt) tt 0 false = 0) := by
              show _ = _
              unfold addE
              split <;> simp [phAt]
            clear hw1 hw2 hd HW hp20 hp2
            go_wp2_with fail
            refine (CD.out _).mono ?_
            rintro r w2 ⟨rfl, b2⟩
            have HS2 := Lib.hid (And.intro (HSA.out.1.below b2) (And.intro (blk_below b2 HSA.out.2.1) (blk_below b2 HSA.out.2.2)))
            obtain ⟨s0, s1, _, _⟩ := blk2 HS2.out.2.2
            have hz2 := lt_of_blk HS2.out.2.2
            clear b2 CD q0 q1 q2 q3 x0 t0 t1
            go_wp2_with fail
            refine (add_any w (w.heap.size + 3) (w.heap.size + 2) (w.heap.size + 1) e acc fr (fr + wt) false w2 HS2.out.1 (by omega) (by omega) (by omega) (by omega) (by omega) (by have := HLEN.out.1; omega) ⟨by omega, by omega⟩ ⟨by omega, by omega⟩ ⟨by omega, by omega⟩).mono ?_
            rintro r w3 ⟨rfl, hs3, hk3⟩
            rw [HA1.out] at hs3
            have HS3 := Lib.hid (And.intro hs3 (And.intro (hk3.2 _ _ _ HS2.out.2.1 (by decide) (by omega) (by omega)) (hk3.2 _ _ _ HS2.out.2.2 (by decide) (by omega) (by omega))))
            clear hs3 hk3 s0 s1
            obtain ⟨y0, y1, y2⟩ := blk1 HS3.out.1.2.1
            obtain ⟨s0, s1, _, _⟩ := blk2 HS3.out.2.2
            have hz3 := lt_of_blk HS3.out.2.2
            have hpl2 : (acc ++ phL fr (fr + wt) e false).length ≤ 1000 := by
              have h1 := HLEN.out.1
              have h2 : (phL fr (fr + wt) e false).length ≤ 1 := by unfold phL; split <;> simp
              rw [List.length_append]; omega
            go_wp2_with fail
            refine (add_any w (w.heap.size + 3) (w.heap.size + 2) (w.heap.size + 1) 0 (acc ++ phL fr (fr + wt) e false) (fr + wt) tt false _ (HS3.out.1.setE (by omega) (by omega) (by omega) 0) (by omega) (by omega) (by omega) (by omega) (by omega) hpl2 ⟨by omega, by omega⟩ ⟨by omega, by omega⟩ ⟨by omega, by omega⟩).mono ?_
            rintro r w4 ⟨rfl, hs4, hk4⟩
            rw [HA2.out] at hs4
            have HF : Hid (PrSt w key pk lv bk (spentB lv bk pl e (tt - fr)) (acc ++ phOf lv bk e ⟨pl, fr⟩ tt) w4 ∧ staysPh lv bk 0 l = (acc ++ phOf lv bk e ⟨pl, fr⟩ tt) ++ staysPh lv bk (spentB lv bk pl e (tt - fr)) (l.drop (k + 1)) ∧ (acc ++ phOf lv bk e ⟨pl, fr⟩ tt).length ≤ 2 * (k + 1)) := by
              refine ⟨⟨?_, hk4.2 _ _ _ (blk_far HS3.out.2.1 (by show w.heap.size ≠ w.heap.size + 2; omega) _) (by decide) (by omega) (by omega)⟩, by rw [HLEN.out.2, HST.out.1, List.append_assoc], by have := phOf_len lv bk e ⟨pl, fr⟩ tt; have := HLEN.out.1; rw [List.length_append]; omega⟩
              rw [HSP.out, HPO.out, ← List.append_assoc]
              exact hs4
            clear hs4 hk4
            go_wp2_with fail
            go_roundw
            case rel => exact ⟨k + 1, _, _, by omega, by go_num, spentB_nn he0 (by omega), by rw [HTT0.out]; exact hsl, HF⟩
            case measure => simp [intOf]; omega
    · obtain rfl : k = l.length := by omega
      obtain ⟨v, hv, hown⟩ := HS.out.1.1.2.2.2
      obtain ⟨l0, l1, l2⟩ := blk1 hv
      have HF := Lib.hid (And.intro HS.out.1.1.1 (reads_own hown))
      have HE : Hid (staysPh lv bk 0 l = acc) := by
        show _ = _
        rw [HS.out.2.1, List.drop_eq_nil_of_le (Nat.le_refl _)]
        simp [staysPh]
      clear hown hv
      go_wp2_with fail
      go_ret
      exact ⟨_, rfl, HF.out.1, by rw [HE.out]; exact HF.out.2⟩
end Go.Proofs.YtopnadilfjakiaaDoor
