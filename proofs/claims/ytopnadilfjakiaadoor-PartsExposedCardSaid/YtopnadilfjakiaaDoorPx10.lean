/-
  The reference on exposures: ExposedOf, LeftOf.
-/
import Derived.Test.YtopnadilfjakiaaDoorPx8
namespace Go.Proofs.YtopnadilfjakiaaDoor
open Go.RowKit

theorem expo_bd {lv bk t : Int} : ∀ (l : List Sy) (e : Int), GoodS l → 0 ≤ e → e ≤ stopAt l finT → t ≤ 345686400000 → 0 ≤ expo lv bk t e l ∧ expo lv bk t e l ≤ 345686400000
  | [], e, _, he, h1, _ => ⟨he, h1⟩
  | x :: l, e, hg, he, h1, ht => by
    have hs := hg.stop
    have hx := hg.1 x (by simp)
    have h1 : e ≤ x.frm := h1
    have hxf : x.frm < 345686400000 := hx.2.2.2
    rw [expo]
    by_cases h : t < x.frm
    · rw [if_pos h]; omega
    · rw [if_neg h]
      have hm : min t (stopAt l t) ≤ stopAt l finT ∧ x.frm ≤ min t (stopAt l t) := by
        cases l with
        | nil => show min t t ≤ finT ∧ _ ≤ min t t; unfold finT; omega
        | cons y l => have hy : x.frm < y.frm := hs; show min t y.frm ≤ y.frm ∧ _ ≤ min t y.frm; omega
      have hle : spentB lv bk x.place e (min t (stopAt l t) - x.frm) ≤ stopAt l finT := Int.le_trans (spentB_le he (by omega)) (by omega)
      exact expo_bd l _ hg.tail (spentB_nn he (by omega)) hle ht

set_option maxRecDepth 100000 in
set_option maxHeartbeats 4000000 in
theorem exposedOf_any (key pk : ByteArray) (lv bk : Int) (A : Option Addr) (c : Nat) (l : List Sy) (hl : l.length ≤ 400) (t : Int) (w : World) (hA : SyAt w A l) (hg : GoodS l) (ht : -1000000000000 ≤ t ∧ t ≤ 345686400000) :
    Calls Tryd.prog 21 #[.agg #[.string key, .string pk, .int .i64 lv, .int .i64 bk], .slice A l.length c, .int .i64 t] w fun r w' => r = .returned (.int .i64 (expo lv bk t 0 l)) ∧ Below w.heap.size w w' := by
  obtain ⟨ht0, ht1⟩ := ht
  have HG := Lib.hid hg
  have HX : Hid (expo lv bk t 0 l = expo lv bk t 0 (l.drop 0)) := by show _ = _; rw [List.drop_zero]
  have hs0 : (0 : Int) ≤ stopAt (l.drop 0) finT := by
    rw [List.drop_zero]
    cases l with
    | nil => show (0 : Int) ≤ finT; unfold finT; omega
    | cons y l => exact (hg.1 y (by simp)).2.2.1
  clear hg
  go_enter Tryd.func21, Tryd.ntmps21
  go_wp2_with fail
  have bw1 : Below w.heap.size w (w.alloc (Obj.cells #[.string key, .string pk, .int .i64 lv, .int .i64 bk] 27)) := ((Below.refl _ _).alloc (Nat.le_refl _) _)
  have kP : (w.alloc (Obj.cells #[.string key, .string pk, .int .i64 lv, .int .i64 bk] 27)).heap[w.heap.size]? = some (.cells #[.string key, .string pk, .int .i64 lv, .int .i64 bk] 27 (0, 0)) := (blk_new w _ rfl)
  generalize (w.alloc (Obj.cells #[.string key, .string pk, .int .i64 lv, .int .i64 bk] 27)) = w1 at *
  have H0 : Hid (Below w.heap.size w w1 ∧ w1.heap[w.heap.size]? = some (.cells #[.string key, .string pk, .int .i64 lv, .int .i64 bk] 27 (0, 0))) := ⟨bw1, kP⟩
  clear bw1 kP
  go_loopw [13, 7] (fun kk s7 wr => ∃ (k : Nat) (e : Int), k ≤ l.length ∧ kk = .int .i64 k ∧ s7 = .int .i64 e ∧ 0 ≤ e ∧ e ≤ stopAt (l.drop k) finT ∧ Hid (Below w.heap.size w wr ∧ wr.heap[w.heap.size]? = some (.cells #[.string key, .string pk, .int .i64 lv, .int .i64 bk] 27 (0, 0)) ∧ expo lv bk t 0 l = expo lv bk t e (l.drop k))) (fun kk _ _ => l.length - (intOf kk).toNat)
  case atStart => exact ⟨0, 0, by omega, rfl, rfl, by omega, hs0, H0.out.1, H0.out.2, HX.out⟩
  case round =>
    clear hs0 H0 HX
    obtain ⟨k, e, hk, rfl, rfl, he0, he1, HS⟩ := hrel
    by_cases hlt : k < l.length
    · obtain ⟨p, hp⟩ : ∃ p, l[k] = p := ⟨_, rfl⟩
      have hdk : l.drop k = p :: l.drop (k + 1) := by rw [drop_at l hlt, hp]
      have hgd : GoodS (p :: l.drop (k + 1)) := by
        rw [← hdk]
        exact ⟨fun y hy => HG.out.1 y (List.mem_of_mem_drop hy), HG.out.2.sublist (List.drop_sublist _ _)⟩
      have hstop := hgd.stop
      have hpm := hgd.1 p (by simp)
      have hst : expo lv bk t e (l.drop k) = if t < p.frm then e else expo lv bk t (spentB lv bk p.place e (min t (stopAt (l.drop (k + 1)) t) - p.frm)) (l.drop (k + 1)) := by rw [hdk]; rfl
      rw [hdk] at he1
      rcases hA with rfl | ⟨g, rfl, hrow⟩
      · simp at hlt
      have hr2 := hrow.below HS.out.1
      obtain ⟨p0, p1⟩ := row_sy hr2 hlt
      rw [hp] at p0 p1
      have hgl := hr2.1
      have hnx : k + 1 < l.length → wr.cell? ⟨g, (k + 1) * 2 + 1, none⟩ = some (.int .i64 (stopAt (l.drop (k + 1)) t)) := fun h => by
        have e1 : stopAt (l.drop (k + 1)) t = l[k + 1].frm := by rw [drop_at l h]; rfl
        rw [e1]; exact (row_sy hr2 h).2
      have hnn : ¬ k + 1 < l.length → stopAt (l.drop (k + 1)) t = t := fun h => by rw [List.drop_eq_nil_of_le (by omega)]; rfl
      have hm : p.frm ≤ t → min t (stopAt (l.drop (k + 1)) t) ≤ stopAt (l.drop (k + 1)) finT ∧ p.frm ≤ min t (stopAt (l.drop (k + 1)) t) := fun h => by
        cases hd : l.drop (k + 1) with
        | nil => show min t t ≤ finT ∧ _ ≤ min t t; unfold finT; omega
        | cons y r => rw [hd] at hstop; have hy : p.frm < y.frm := hstop; show min t y.frm ≤ y.frm ∧ _ ≤ min t y.frm; omega
      obtain ⟨pl, fr⟩ := p
      have hfr0 : 0 ≤ fr := hpm.2.2.1
      have hfr1 : fr < 345686400000 := hpm.2.2.2
      have hef : e ≤ fr := he1
      dsimp only at p0 p1 hst hm
      have HST := Lib.hid (HS.out.2.2.trans hst)
      have HBS := Lib.hid (And.intro HS.out.1 HS.out.2.1)
      have HFIN : Hid ((stopAt (l.drop (k + 1)) finT) = stopAt (l.drop (k + 1)) finT) := rfl
      generalize htf : stopAt (l.drop (k + 1)) finT = tf at *
      generalize htt : stopAt (l.drop (k + 1)) t = tt at *
      have HTF := Lib.hid htf
      have HTT := Lib.hid htt
      clear htt htf hst hp hdk hgd hstop hpm hrow hr2 HS he1 HFIN
      have HNX := Lib.hid (And.intro hnx hnn)
      clear hnx hnn
      obtain ⟨q0, q1, q2, q3⟩ := blk4 HBS.out.2
      have hpz := lt_of_blk HBS.out.2
      have i1 : (0 : Int) ≤ (k : Int) := by omega
      have i2 : (k : Int) < (l.length : Int) := by omega
      by_cases hlate : t < fr
      · have HR : Hid (expo lv bk t 0 l = e) := HST.out.trans (if_pos hlate)
        clear hm
        go_wp2_with fail
        go_ret
        exact ⟨ret_int HR.out.symm, HBS.out.1.alloc HBS.out.1.size _⟩
      · obtain ⟨hm1, hm2⟩ := hm (by omega)
        have HR : Hid (expo lv bk t 0 l = expo lv bk t (spentB lv bk pl e (min t tt - fr)) (l.drop (k + 1))) := HST.out.trans (if_neg hlate)
        have CS := Lib.hid (fun W => spentR_any key pk lv bk pl e (min t tt - fr) W ⟨he0, by omega⟩ ⟨by omega, by omega⟩)
        have hsn : 0 ≤ spentB lv bk pl e (min t tt - fr) := spentB_nn he0 (by omega)
        have hsl : spentB lv bk pl e (min t tt - fr) ≤ tf := Int.le_trans (spentB_le he0 (by omega)) (by omega)
        generalize spentB lv bk pl e (min t tt - fr) = e2 at *
        by_cases hk1 : k + 1 < l.length
        · have hcn : wr.cell? ⟨g, (k + 1) * 2 + 1, none⟩ = some (.int .i64 tt) := HNX.out.1 hk1
          have i3 : (k : Int) + 1 < (l.length : Int) := by omega
          go_wp2_with fail
          refine (CS.out _).mono ?_
          rintro r w5 ⟨rfl, b5⟩
          have HF : Hid (Below w.heap.size w w5 ∧ w5.heap[w.heap.size]? = some (.cells #[.string key, .string pk, .int .i64 lv, .int .i64 bk] 27 (0, 0))) := ⟨(HBS.out.1.alloc HBS.out.1.size _).then_below b5 (by have := HBS.out.1.size; simp; omega), blk_below b5 (blk_alloc HBS.out.2 _)⟩
          clear b5
          go_wp2_with fail
          go_roundw
          case rel => exact ⟨k + 1, e2, by omega, by go_num, rfl, hsn, by rw [HTF.out]; exact hsl, HF.out.1, HF.out.2, HR.out⟩
          case measure => simp [intOf]; omega
        · have htt := HNX.out.2 hk1
          subst htt
          have i3 : ¬ (k : Int) + 1 < (l.length : Int) := by omega
          have hmm : min tt tt = tt := by omega
          rw [hmm] at CS
          clear hmm
          go_wp2_with fail
          refine (CS.out _).mono ?_
          rintro r w5 ⟨rfl, b5⟩
          have HF : Hid (Below w.heap.size w w5 ∧ w5.heap[w.heap.size]? = some (.cells #[.string key, .string pk, .int .i64 lv, .int .i64 bk] 27 (0, 0))) := ⟨(HBS.out.1.alloc HBS.out.1.size _).then_below b5 (by have := HBS.out.1.size; simp; omega), blk_below b5 (blk_alloc HBS.out.2 _)⟩
          clear b5
          go_wp2_with fail
          go_roundw
          case rel => exact ⟨k + 1, e2, by omega, by go_num, rfl, hsn, by rw [HTF.out]; exact hsl, HF.out.1, HF.out.2, HR.out⟩
          case measure => simp [intOf]; omega
    · have HR : Hid (expo lv bk t 0 l = e) := HS.out.2.2.trans (by rw [List.drop_eq_nil_of_le (by omega)]; rfl)
      go_wp2_with fail
      go_ret
      exact ⟨ret_int HR.out.symm, HS.out.1⟩
end Go.Proofs.YtopnadilfjakiaaDoor
