/-
  The reference reads a product: its lines.
-/
import Derived.Test.YtalconjnjaffkaaGreatDoorTxI
namespace Go.Proofs.YtalconjnjaffkaaGreatDoor
open Go.RowKit
set_option linter.unusedSimpArgs false
set_option linter.unusedVariables false

/-- What the reference has read: the number of lines in one block, the product in another one. -/
def PdQ (lb pb : Nat) (i : Nat) (st : Pd) (w : World) : Prop :=
  w.heap[lb]? = some (.cells #[.int .i64 i] 3 (0, 0)) ∧ lb = pb + 1 ∧
  ∃ v, w.heap[pb]? = some (.cells #[.string st.key, .int .i64 st.w, .int .i64 st.h, v] 44 (0, 0)) ∧ w.ownsRow (pb + 2) 124 5 v st.pls.length (flatP st.pls) ∧ st.pls.length ≤ i
theorem PdQ.below {lb pb i : Nat} {st : Pd} {w w' : World} (h : PdQ lb pb i st w) (hb : Below w.heap.size w w') : PdQ lb pb i st w' := by
  obtain ⟨h0, h00, v, h1, h2, h3⟩ := h
  exact ⟨blk_below hb h0, h00, v, blk_below hb h1, own_below h2 hb, h3⟩
theorem rdProd_head {st : Pd} {x : ByteArray} {r : List ByteArray} (h : (x.toList == [112, 114, 111, 100, 117, 99, 116]) = false) : rdProd st (x :: r) = none := by
  match r with
  | [b, c, d] => simp only [rdProd]; rw [if_neg]; rintro ⟨h1, _⟩; rw [h] at h1; cases h1
  | [] => rfl
  | [_] => rfl
  | [_, _] => rfl
  | _ :: _ :: _ :: _ :: _ => rfl
theorem rdPlace_head {st : Pd} {x : ByteArray} {r : List ByteArray} (h : (x.toList == [112, 108, 97, 99, 101]) = false) : rdPlace st (x :: r) = none := by
  match r with
  | [b, c, d, e, f] => simp only [rdPlace]; rw [if_neg]; rintro ⟨h1, _⟩; rw [h] at h1; cases h1
  | [] => rfl
  | [_] => rfl
  | [_, _] => rfl
  | [_, _, _] => rfl
  | [_, _, _, _] => rfl
  | _ :: _ :: _ :: _ :: _ :: _ :: _ => rfl

set_option maxRecDepth 100000 in
set_option maxHeartbeats 8000000 in
theorem readQ_takes (lb pb base : Nat) (hpb : base ≤ pb) (hlow : gLow ≤ base) : TakesQ2 92 lb pb base (stepW takeP) (fun i st w => PdQ lb pb i st w ∧ Gl w) := by
  intro i st l w hi hl hbw hIG
  obtain ⟨hI, hG⟩ := hIG
  have CW := Lib.hid (wordsQ_any l hl w hG)
  have hwl : (wordsB l).length ≤ 200001 := by
    rw [wordsB_len]
    have := Lib.countB_mul_le ⟨#[32]⟩ (by decide) l.size l (Nat.le_refl _)
    have e : (⟨#[32]⟩ : ByteArray).size = 1 := rfl
    rw [e] at this
    omega
  have hwne : wordsB l ≠ [] := fun h => by have := wordsB_len l; rw [h] at this; simp at this
  have HWZ : Hid (∀ x ∈ wordsB l, x.size ≤ 200000) := fun x hx => by have := wordsB_size hx; omega
  have HSW : Hid (stepW takeP i st l = if has (wordsB l) dS = true then none else if i = 0 then rdProd st (wordsB l) else rdPlace st (wordsB l)) := rfl
  generalize wordsB l = ws at *
  obtain ⟨x0, r, rfl⟩ : ∃ x0 r, ws = x0 :: r := by cases ws with | nil => exact absurd rfl hwne | cons a b => exact ⟨a, b, rfl⟩
  obtain ⟨hlb, hlp, vs0, hpb0, hown0, hpl0⟩ := hI
  have HI := Lib.hid (And.intro hlb (And.intro hpb0 (And.intro hown0 hpl0)))
  have hlbl := lt_of_blk hlb
  have hpbl := lt_of_blk hpb0
  have HLP := Lib.hid hlp
  have hbl : base ≤ lb := by omega
  have hlne : lb ≠ pb := by omega
  have hlen : (x0 :: r).length = r.length + 1 := rfl
  have hrl : r.length + 1 ≤ 200001 := hwl
  rw [hlen] at CW
  clear hlb hpb0 hown0 hwne hlp hlen hwl
  cases hh : has (x0 :: r) dS
  rotate_left
  · have HR := Lib.hid (HSW.out.trans (if_pos hh))
    rw [hh] at CW
    clear HSW hh
    go_enter Tryz.func92, Tryz.ntmps92
    go_wp2_with fail
    refine CW.out.mono ?_
    rintro e w1 ⟨rfl, b1, _⟩
    have hk := blk_below b1 HI.out.1
    have k0 := blk_cell0 hk
    have kf := frozen_of_blk hk 0
    have kl := lt_of_blk hk
    have HF : Hid (Below base w (w1.setCell ⟨lb, 0, none⟩ (.int .i64 ((i : Int) + 1)))) := (b1.mono hbw).setCell (by show base ≤ lb; omega) _
    clear b1 hk
    go_wp2_with fail
    go_ret
    exact ⟨by rw [HR.out]; rfl, HF.out, fun st' h => by rw [HR.out] at h; cases h⟩
  have HSW2 := Lib.hid (HSW.out.trans (if_neg (by rw [hh]; simp)))
  rw [hh] at CW
  clear HSW hh
  by_cases h0 : i = 0
  · subst h0
    have HSW3 := Lib.hid (HSW2.out.trans (if_pos rfl))
    clear HSW2
    cases hx : (x0.toList == [112, 114, 111, 100, 117, 99, 116])
    · have HR := Lib.hid (HSW3.out.trans (rdProd_head hx))
      go_enter Tryz.func92, Tryz.ntmps92
      go_wp2_with fail
      refine CW.out.mono ?_
      rintro e w1 ⟨rfl, b1, hr1⟩
      have hk := blk_below b1 HI.out.1
      have k0 := blk_cell0 hk
      have kf := frozen_of_blk hk 0
      have kl := lt_of_blk hk
      have HF : Hid (Below base w (w1.setCell ⟨lb, 0, none⟩ (.int .i64 1))) := (b1.mono hbw).setCell (by show base ≤ lb; omega) _
      obtain ⟨A1, c1, e9, _, hrr⟩ := hr1
      cases e9
      have hl9 : LineAt w1 w.heap.size ((x0 :: r).flatMap encS) := by
        rcases hrr with hrr | ⟨g9, e9, _, hl9⟩
        · cases hrr
        · cases e9; exact hl9
      have q0 : w1.cell? ⟨w.heap.size, 0, none⟩ = some (.string x0) := row_strg hl9 (k := 0) (by simp)
      have hq0l := hl9.1
      have hne9 : lb ≠ w.heap.size := by omega
      have HL9 := Lib.hid hl9
      have HB1 := Lib.hid b1
      clear b1 hk hrr hl9
      go_wp2_with fail
      go_ret
      exact ⟨by rw [HR.out]; rfl, HF.out, fun st' h => by rw [HR.out] at h; cases h⟩
    by_cases h4 : r.length = 3
    rotate_left
    · have HR := Lib.hid (HSW3.out.trans (rdProd_len (by simp; omega)))
      have hn4 : ((r.length : Int) + 1 == 4) = false := beq_eq_false_iff_ne.mpr (by omega)
      go_enter Tryz.func92, Tryz.ntmps92
      go_wp2_with fail
      refine CW.out.mono ?_
      rintro e w1 ⟨rfl, b1, hr1⟩
      have hk := blk_below b1 HI.out.1
      have k0 := blk_cell0 hk
      have kf := frozen_of_blk hk 0
      have kl := lt_of_blk hk
      have HF : Hid (Below base w (w1.setCell ⟨lb, 0, none⟩ (.int .i64 1))) := (b1.mono hbw).setCell (by show base ≤ lb; omega) _
      obtain ⟨A1, c1, e9, _, hrr⟩ := hr1
      cases e9
      have hl9 : LineAt w1 w.heap.size ((x0 :: r).flatMap encS) := by
        rcases hrr with hrr | ⟨g9, e9, _, hl9⟩
        · cases hrr
        · cases e9; exact hl9
      have q0 : w1.cell? ⟨w.heap.size, 0, none⟩ = some (.string x0) := row_strg hl9 (k := 0) (by simp)
      have hq0l := hl9.1
      have hne9 : lb ≠ w.heap.size := by omega
      have HL9 := Lib.hid hl9
      have HB1 := Lib.hid b1
      clear b1 hk hrr hl9
      go_wp2_with fail
      go_ret
      exact ⟨by rw [HR.out]; rfl, HF.out, fun st' h => by rw [HR.out] at h; cases h⟩
    obtain ⟨b, c, d, rfl⟩ : ∃ b c d, r = [b, c, d] := by
      match r, h4 with
      | [b, c, d], _ => exact ⟨b, c, d, rfl⟩
    have HSW4 : Hid (stepW takeP 0 st l = if (x0.toList == [112, 114, 111, 100, 117, 99, 116]) = true ∧ numsB 15 [c, d] = true then some { st with key := b, w := numI 15 c, h := numI 15 d } else none) := HSW3.out
    clear HSW3 h4 hrl
    simp only [List.length_cons, List.length_nil] at CW
    have CN := Lib.hid (fun (W : World) (v : Value) (h : StrsAt v [c, d] W) (hG : Gl W) (hw : gLow ≤ W.heap.size) => numbersQ_any [c, d] 15 (by omega) (by simp) (fun x hx => by have := HWZ.out x (List.mem_cons_of_mem _ (List.mem_cons_of_mem _ hx)); omega) h hG hw)
    go_enter Tryz.func92, Tryz.ntmps92
    go_wp2_with fail
    refine CW.out.mono ?_
    rintro e w1 ⟨rfl, b1, hr1⟩
    have hk := blk_below b1 HI.out.1
    have k0 := blk_cell0 hk
    have kf := frozen_of_blk hk 0
    have kl := lt_of_blk hk
    have HF : Hid (Below base w (w1.setCell ⟨lb, 0, none⟩ (.int .i64 1))) := (b1.mono hbw).setCell (by show base ≤ lb; omega) _
    obtain ⟨A1, c1, e9, _, hrr⟩ := hr1
    cases e9
    have hl9 : LineAt w1 w.heap.size ([x0, b, c, d].flatMap encS) := by
      rcases hrr with hrr | ⟨g9, e9, _, hl9⟩
      · cases hrr
      · cases e9; exact hl9
    have q0 : w1.cell? ⟨w.heap.size, 0, none⟩ = some (.string x0) := row_strg hl9 (k := 0) (by simp)
    have hq0l := hl9.1
    have hne9 : lb ≠ w.heap.size := by omega
    have HL9 := Lib.hid hl9
    have HB1 := Lib.hid b1
    clear b1 hk hrr hl9
    go_wp2_with fail
    have HA : Hid (Below base w (w1.setCell ⟨lb, 0, none⟩ (.int .i64 1)) ∧ (w1.setCell ⟨lb, 0, none⟩ (.int .i64 1)).heap[pb]? = some (.cells #[.string st.key, .int .i64 st.w, .int .i64 st.h, vs0] 44 (0, 0)) ∧ (w1.setCell ⟨lb, 0, none⟩ (.int .i64 1)).heap[lb]? = some (.cells #[.int .i64 1] 3 (0, 0)) ∧ (w1.setCell ⟨lb, 0, none⟩ (.int .i64 1)).ownsRow (pb + 2) 124 5 vs0 st.pls.length (flatP st.pls) ∧ LineAt (w1.setCell ⟨lb, 0, none⟩ (.int .i64 1)) w.heap.size ([x0, b, c, d].flatMap encS) ∧ w.heap.size < (w1.setCell ⟨lb, 0, none⟩ (.int .i64 1)).heap.size) :=
      ⟨HF.out, blk_far (blk_below HB1.out HI.out.2.1) (fun e => hlne e.symm) _, blk_set (blk_below HB1.out HI.out.1) _, own_far (own_below HI.out.2.2.1 HB1.out) (by show lb < pb + 2; have := HLP.out; omega) _, line_far HL9.out (fun e => hne9 e.symm) _, by simpa [World.setCell] using hq0l⟩
    clear k0 kf kl q0 hq0l HL9 HB1 HF
    generalize w1.setCell ⟨lb, 0, none⟩ (.int .i64 1) = wa at *
    have hS : StrsAt (.slice (some ⟨w.heap.size, 2, none⟩) 2 2) [c, d] wa := ⟨_, 2, rfl, by simp, .inr ⟨w.heap.size, 2, rfl, HA.out.2.2.2.2.2, fun j hj => by
      have := row_strg HA.out.2.2.2.2.1 (k := j + 2) (by simp at hj ⊢; omega)
      rw [show 2 + j = j + 2 by omega, this]
      rfl⟩⟩
    have hGa : Gl wa := hG.below HA.out.1 hlow
    refine (CN.out _ _ hS hGa (by have := HA.out.1.size; omega)).mono ?_
    rintro e w2 ⟨u, rfl, b2, nl, hnl, hru, hnn⟩
    obtain ⟨n0, n1, rfl⟩ : ∃ n0 n1, nl = [n0, n1] := by
      match nl, hnl with
      | [a, b], _ => exact ⟨a, b, rfl⟩
    obtain ⟨Au, cu, rfl, hcu, hru⟩ := hru
    obtain ⟨gn, rfl, hgn, hlu⟩ : ∃ gn : Nat, Au = some ⟨gn, 0, none⟩ ∧ wa.heap.size ≤ gn ∧ LineAt w2 gn ([n0, n1].flatMap encZ) := by
      rcases hru with hru | hru
      · cases hru
      · exact hru
    have m0 : w2.cell? ⟨gn, 0, none⟩ = some (.int .i64 n0) := row_intz hlu (k := 0) (by simp)
    have m1 : w2.cell? ⟨gn, 1, none⟩ = some (.int .i64 n1) := row_intz hlu (k := 1) (by simp)
    have q1 : w2.cell? ⟨w.heap.size, 1, none⟩ = some (.string b) := row_strg (HA.out.2.2.2.2.1.below b2) (k := 1) (by simp)
    have HP : Hid (Below base w w2 ∧ w2.heap[pb]? = some (.cells #[.string st.key, .int .i64 st.w, .int .i64 st.h, vs0] 44 (0, 0)) ∧ w2.heap[lb]? = some (.cells #[.int .i64 1] 3 (0, 0)) ∧ w2.ownsRow (pb + 2) 124 5 vs0 st.pls.length (flatP st.pls)) :=
      ⟨HA.out.1.trans (b2.mono (by have := HA.out.1.size; omega)), blk_below b2 HA.out.2.1, blk_below b2 HA.out.2.2.1, own_below HA.out.2.2.2.1 b2⟩
    obtain ⟨p0, p1, p2, _⟩ := blk4 HP.out.2.1
    have hpl := lt_of_blk HP.out.2.1
    have f0 := frozen_of_blk HP.out.2.1 0
    have f1 := frozen_of_blk HP.out.2.1 1
    have f2 := frozen_of_blk HP.out.2.1 2
    have hne1 : gn ≠ pb := by have := HA.out.2.2.2.2.2; omega
    have hne2 : w.heap.size ≠ pb := by omega
    have HNN : Hid (numsB 15 [c, d] = true → n0 = numI 15 c ∧ n1 = numI 15 d) := fun h => by
      have := hnn h
      simp [numsI] at this
      exact this
    clear b2 hru hlu hnn hnl hS hGa HA CN
    generalize numsB 15 [c, d] = bb at *
    go_wp2_with fail
    go_region_held (fun W => W.cell? ⟨w.heap.size, 1, none⟩ = some (.string b) ∧ W.cell? ⟨gn, 0, none⟩ = some (.int .i64 n0) ∧ W.cell? ⟨gn, 1, none⟩ = some (.int .i64 n1)) (simp [*, cell_farS]) (fail)
    rename_i hheld
    clear hheld
    have HF : Hid (Below base w (((w2.setCell ⟨pb, 0, none⟩ (.string b)).setCell ⟨pb, 1, none⟩ (.int .i64 n0)).setCell ⟨pb, 2, none⟩ (.int .i64 n1)).drew ∧ PdQ lb pb 1 { st with key := b, w := n0, h := n1 } (((w2.setCell ⟨pb, 0, none⟩ (.string b)).setCell ⟨pb, 1, none⟩ (.int .i64 n0)).setCell ⟨pb, 2, none⟩ (.int .i64 n1)).drew) :=
      ⟨(((HP.out.1.setCell hpb _).setCell hpb _).setCell hpb _).drew, blk_far (blk_far (blk_far HP.out.2.2.1 hlne _) hlne _) hlne _, HLP.out, vs0, blk_set (blk_set (blk_set HP.out.2.1 _) _) _,
        (own_far (own_far (own_far HP.out.2.2.2 (p := ⟨pb, 0, none⟩) (by show pb < pb + 2; omega) _) (p := ⟨pb, 1, none⟩) (by show pb < pb + 2; omega) _) (p := ⟨pb, 2, none⟩) (by show pb < pb + 2; omega) _).drew, Nat.le_succ_of_le hpl0⟩
    generalize (((w2.setCell ⟨pb, 0, none⟩ (.string b)).setCell ⟨pb, 1, none⟩ (.int .i64 n0)).setCell ⟨pb, 2, none⟩ (.int .i64 n1)).drew = w3 at *
    go_wp2_with fail
    go_ret
    cases bb
    · have HR := HSW4.out.trans (if_neg (by rintro ⟨_, h⟩; cases h))
      exact ⟨by rw [HR]; rfl, HF.out.1, fun st' h => by rw [HR] at h; cases h⟩
    · have HR := HSW4.out.trans (if_pos ⟨hx, rfl⟩)
      obtain ⟨rfl, rfl⟩ := HNN.out rfl
      exact ⟨by rw [HR]; rfl, HF.out.1, fun st' h => by rw [HR] at h; cases h; exact ⟨HF.out.2, hG.below HF.out.1 hlow⟩⟩
  · have HSW3 : Hid (stepW takeP i st l = rdPlace st (x0 :: r)) := HSW2.out.trans (if_neg h0)
    clear HSW2
    have hn1 : ((i : Int) + 1 == 1) = false := beq_eq_false_iff_ne.mpr (by omega)
    have hn2 : (1 : Int) < (i : Int) + 1 := by omega
    have hn3 : decide ((1 : Int) < (i : Int) + 1) = true := decide_eq_true hn2
    cases hx : (x0.toList == [112, 108, 97, 99, 101])
    · have HR := Lib.hid (HSW3.out.trans (rdPlace_head hx))
      go_enter Tryz.func92, Tryz.ntmps92
      go_wp2_with fail
      refine CW.out.mono ?_
      rintro e w1 ⟨rfl, b1, hr1⟩
      have hk := blk_below b1 HI.out.1
      have k0 := blk_cell0 hk
      have kf := frozen_of_blk hk 0
      have kl := lt_of_blk hk
      have HF : Hid (Below base w (w1.setCell ⟨lb, 0, none⟩ (.int .i64 ((i : Int) + 1)))) := (b1.mono hbw).setCell (by show base ≤ lb; omega) _
      obtain ⟨A1, c1, e9, _, hrr⟩ := hr1
      cases e9
      have hl9 : LineAt w1 w.heap.size ((x0 :: r).flatMap encS) := by
        rcases hrr with hrr | ⟨g9, e9, _, hl9⟩
        · cases hrr
        · cases e9; exact hl9
      have q0 : w1.cell? ⟨w.heap.size, 0, none⟩ = some (.string x0) := row_strg hl9 (k := 0) (by simp)
      have hq0l := hl9.1
      have hne9 : lb ≠ w.heap.size := by omega
      have HL9 := Lib.hid hl9
      have HB1 := Lib.hid b1
      clear b1 hk hrr hl9
      go_wp2_with fail
      go_ret
      exact ⟨by rw [HR.out]; rfl, HF.out, fun st' h => by rw [HR.out] at h; cases h⟩
    by_cases h4 : r.length = 5
    rotate_left
    · have HR := Lib.hid (HSW3.out.trans (rdPlace_len (by simp; omega)))
      have hn4 : ((r.length : Int) + 1 == 6) = false := beq_eq_false_iff_ne.mpr (by omega)
      go_enter Tryz.func92, Tryz.ntmps92
      go_wp2_with fail
      refine CW.out.mono ?_
      rintro e w1 ⟨rfl, b1, hr1⟩
      have hk := blk_below b1 HI.out.1
      have k0 := blk_cell0 hk
      have kf := frozen_of_blk hk 0
      have kl := lt_of_blk hk
      have HF : Hid (Below base w (w1.setCell ⟨lb, 0, none⟩ (.int .i64 ((i : Int) + 1)))) := (b1.mono hbw).setCell (by show base ≤ lb; omega) _
      obtain ⟨A1, c1, e9, _, hrr⟩ := hr1
      cases e9
      have hl9 : LineAt w1 w.heap.size ((x0 :: r).flatMap encS) := by
        rcases hrr with hrr | ⟨g9, e9, _, hl9⟩
        · cases hrr
        · cases e9; exact hl9
      have q0 : w1.cell? ⟨w.heap.size, 0, none⟩ = some (.string x0) := row_strg hl9 (k := 0) (by simp)
      have hq0l := hl9.1
      have hne9 : lb ≠ w.heap.size := by omega
      have HL9 := Lib.hid hl9
      have HB1 := Lib.hid b1
      clear b1 hk hrr hl9
      go_wp2_with fail
      go_ret
      exact ⟨by rw [HR.out]; rfl, HF.out, fun st' h => by rw [HR.out] at h; cases h⟩
    obtain ⟨b, c, x, y, q, rfl⟩ : ∃ b c x y q, r = [b, c, x, y, q] := by
      match r, h4 with
      | [b, c, x, y, q], _ => exact ⟨b, c, x, y, q, rfl⟩
    have HSW4 : Hid (stepW takeP i st l = if (x0.toList == [112, 108, 97, 99, 101]) = true ∧ numsB 15 [x, y, q] = true then some { st with pls := st.pls ++ [⟨b, c, numI 15 x, numI 15 y, numI 15 q⟩] } else none) := HSW3.out
    clear HSW3 h4 hrl
    simp only [List.length_cons, List.length_nil] at CW
    have CN := Lib.hid (fun (W : World) (v : Value) (h : StrsAt v [x, y, q] W) (hG : Gl W) (hw : gLow ≤ W.heap.size) => numbersQ_any [x, y, q] 15 (by omega) (by simp) (fun z hx => by have := HWZ.out z (List.mem_cons_of_mem _ (List.mem_cons_of_mem _ (List.mem_cons_of_mem _ hx))); omega) h hG hw)
    go_enter Tryz.func92, Tryz.ntmps92
    go_wp2_with fail
    refine CW.out.mono ?_
    rintro e w1 ⟨rfl, b1, hr1⟩
    have hk := blk_below b1 HI.out.1
    have k0 := blk_cell0 hk
    have kf := frozen_of_blk hk 0
    have kl := lt_of_blk hk
    have HF : Hid (Below base w (w1.setCell ⟨lb, 0, none⟩ (.int .i64 ((i : Int) + 1)))) := (b1.mono hbw).setCell (by show base ≤ lb; omega) _
    obtain ⟨A1, c1, e9, _, hrr⟩ := hr1
    cases e9
    have hl9 : LineAt w1 w.heap.size ([x0, b, c, x, y, q].flatMap encS) := by
      rcases hrr with hrr | ⟨g9, e9, _, hl9⟩
      · cases hrr
      · cases e9; exact hl9
    have q0 : w1.cell? ⟨w.heap.size, 0, none⟩ = some (.string x0) := row_strg hl9 (k := 0) (by simp)
    have hq0l := hl9.1
    have hne9 : lb ≠ w.heap.size := by omega
    have HL9 := Lib.hid hl9
    have HB1 := Lib.hid b1
    clear b1 hk hrr hl9
    go_wp2_with fail
    have HA : Hid (Below base w (w1.setCell ⟨lb, 0, none⟩ (.int .i64 ((i : Int) + 1))) ∧ (w1.setCell ⟨lb, 0, none⟩ (.int .i64 ((i : Int) + 1))).heap[pb]? = some (.cells #[.string st.key, .int .i64 st.w, .int .i64 st.h, vs0] 44 (0, 0)) ∧ (w1.setCell ⟨lb, 0, none⟩ (.int .i64 ((i : Int) + 1))).heap[lb]? = some (.cells #[.int .i64 ((i : Int) + 1)] 3 (0, 0)) ∧ (w1.setCell ⟨lb, 0, none⟩ (.int .i64 ((i : Int) + 1))).ownsRow (pb + 2) 124 5 vs0 st.pls.length (flatP st.pls) ∧ LineAt (w1.setCell ⟨lb, 0, none⟩ (.int .i64 ((i : Int) + 1))) w.heap.size ([x0, b, c, x, y, q].flatMap encS) ∧ w.heap.size < (w1.setCell ⟨lb, 0, none⟩ (.int .i64 ((i : Int) + 1))).heap.size) :=
      ⟨HF.out, blk_far (blk_below HB1.out HI.out.2.1) (fun e => hlne e.symm) _, blk_set (blk_below HB1.out HI.out.1) _, own_far (own_below HI.out.2.2.1 HB1.out) (by show lb < pb + 2; have := HLP.out; omega) _, line_far HL9.out (fun e => hne9 e.symm) _, by simpa [World.setCell] using hq0l⟩
    have HRB : Hid (∀ j, vs0.ownBlock = some j → j < w.heap.size) := fun j hj => own_lt HI.out.2.2.1 j hj
    clear k0 kf kl q0 hq0l HL9 HB1 HF
    generalize w1.setCell ⟨lb, 0, none⟩ (.int .i64 ((i : Int) + 1)) = wa at *
    have hS : StrsAt (.slice (some ⟨w.heap.size, 3, none⟩) 3 3) [x, y, q] wa := ⟨_, 3, rfl, by simp, .inr ⟨w.heap.size, 3, rfl, HA.out.2.2.2.2.2, fun j hj => by
      have := row_strg HA.out.2.2.2.2.1 (k := j + 3) (by simp at hj ⊢; omega)
      rw [show 3 + j = j + 3 by omega, this]
      rfl⟩⟩
    have hGa : Gl wa := hG.below HA.out.1 hlow
    refine (CN.out _ _ hS hGa (by have := HA.out.1.size; omega)).mono ?_
    rintro e w2 ⟨u, rfl, b2, nl, hnl, hru, hnn⟩
    obtain ⟨nx, ny, nq, rfl⟩ : ∃ nx ny nq, nl = [nx, ny, nq] := by
      match nl, hnl with
      | [a, b, c], _ => exact ⟨a, b, c, rfl⟩
    obtain ⟨Au, cu, rfl, hcu, hru⟩ := hru
    obtain ⟨gn, rfl, hgn, hlu⟩ : ∃ gn : Nat, Au = some ⟨gn, 0, none⟩ ∧ wa.heap.size ≤ gn ∧ LineAt w2 gn ([nx, ny, nq].flatMap encZ) := by
      rcases hru with hru | hru
      · cases hru
      · exact hru
    have hlu1 := hlu.1
    have n0 : w2.cell? ⟨gn, 0, none⟩ = some (.int .i64 nx) := row_intz hlu (k := 0) (by simp)
    have n1 : w2.cell? ⟨gn, 1, none⟩ = some (.int .i64 ny) := row_intz hlu (k := 1) (by simp)
    have n2 : w2.cell? ⟨gn, 2, none⟩ = some (.int .i64 nq) := row_intz hlu (k := 2) (by simp)
    have q1 : w2.cell? ⟨w.heap.size, 1, none⟩ = some (.string b) := row_strg (HA.out.2.2.2.2.1.below b2) (k := 1) (by simp)
    have q2 : w2.cell? ⟨w.heap.size, 2, none⟩ = some (.string c) := row_strg (HA.out.2.2.2.2.1.below b2) (k := 2) (by simp)
    have HP : Hid (Below base w w2 ∧ w2.heap[pb]? = some (.cells #[.string st.key, .int .i64 st.w, .int .i64 st.h, vs0] 44 (0, 0)) ∧ w2.heap[lb]? = some (.cells #[.int .i64 ((i : Int) + 1)] 3 (0, 0)) ∧ w2.ownsRow (pb + 2) 124 5 vs0 st.pls.length (flatP st.pls)) :=
      ⟨HA.out.1.trans (b2.mono (by have := HA.out.1.size; omega)), blk_below b2 HA.out.2.1, blk_below b2 HA.out.2.2.1, own_below HA.out.2.2.2.1 b2⟩
    have hpl := lt_of_blk HP.out.2.1
    have hll := lt_of_blk HP.out.2.2.1
    have hne1 : gn ≠ pb := by have := HA.out.2.2.2.2.2; omega
    have hne2 : w.heap.size ≠ pb := by omega
    have hgw : w.heap.size < gn := by have := HA.out.2.2.2.2.2; omega
    have HNN : Hid (numsB 15 [x, y, q] = true → nx = numI 15 x ∧ ny = numI 15 y ∧ nq = numI 15 q) := fun h => by
      have := hnn h
      simp [numsI] at this
      exact this
    clear b2 hru hlu hnn hnl hS hGa HA CN
    generalize numsB 15 [x, y, q] = bb at *
    obtain ⟨Av, cv, rfl, hcv, _⟩ := own_slice' HP.out.2.2.2
    have hpl2 : st.pls.length ≤ 200000 := by omega
    obtain ⟨row, hrow⟩ : ∃ row, (Value.slice Av st.pls.length cv).ownBlock = row := ⟨_, rfl⟩
    have HRow : Hid (∀ j, row = some j → pb + 2 ≤ j ∧ j ≠ w.heap.size ∧ j ≠ gn) := fun j hj => by
      have h1 := own_row HP.out.2.2.2 j (hrow.trans hj)
      have h2 := HRB.out j (hrow.trans hj)
      omega
    have HRW : Hid (∀ j, row = some j → j < w2.heap.size) := fun j hj => own_lt HP.out.2.2.2 j (hrow.trans hj)
    have HC3 : Hid (∀ W, Below w2.drew.heap.size w2.drew W → W.cell? ⟨pb, 3, none⟩ = some (.slice Av st.pls.length cv) ∧ W.frozen? ⟨pb, 3, none⟩ = false ∧ W.heap[pb]? = some (.cells #[.string st.key, .int .i64 st.w, .int .i64 st.h, .slice Av st.pls.length cv] 44 (0, 0)) ∧ W.heap[lb]? = some (.cells #[.int .i64 ((i : Int) + 1)] 3 (0, 0))) := fun W hg => by
      have hbk := (hg.block pb hpl).trans HP.out.2.1
      have hbl2 := (hg.block lb hll).trans HP.out.2.2.1
      exact ⟨by rw [cell_of_blk hbk]; rfl, frozen_of_blk hbk 3, hbk, hbl2⟩
    have hgnl := hlu1
    have hwl2 : w.heap.size < w2.heap.size := by omega
    have HKS : Hid (∀ W, Below w2.drew.heap.size w2.drew W → W.cell? ⟨w.heap.size, 1, none⟩ = some (.string b) ∧ W.cell? ⟨w.heap.size, 2, none⟩ = some (.string c) ∧ W.cell? ⟨gn, 0, none⟩ = some (.int .i64 nx) ∧ W.cell? ⟨gn, 1, none⟩ = some (.int .i64 ny) ∧ W.cell? ⟨gn, 2, none⟩ = some (.int .i64 nq)) := fun W h =>
      ⟨(h.cell (p := ⟨w.heap.size, 1, none⟩) hwl2).trans q1, (h.cell (p := ⟨w.heap.size, 2, none⟩) hwl2).trans q2, (h.cell (p := ⟨gn, 0, none⟩) hgnl).trans n0, (h.cell (p := ⟨gn, 1, none⟩) hgnl).trans n1, (h.cell (p := ⟨gn, 2, none⟩) hgnl).trans n2⟩
    obtain ⟨i0, hi0, hz0, hzz1, hzz2⟩ := info_parts pl_info2
    have HIF := Lib.hid (And.intro hi0 (And.intro hz0 (And.intro hzz1 hzz2)))
    have hcb1 : pb + 2 ≤ w2.heap.size := by have := HLP.out; omega
    have HO : Hid (w2.ownsRow (pb + 2) 124 5 (.slice Av st.pls.length cv) st.pls.length (flatP st.pls)) := HP.out.2.2.2
    have HROW := Lib.hid hrow
    clear hi0 hz0 hzz1 hzz2 hrow
    go_wp2_with fail
    refine Rg.rgL (fun a b => Below a.heap.size a b)
      [(fun vs u => vs 0 = .pointer (some ⟨pb, 3, none⟩)), (fun vs u => vs 1 = .slice Av st.pls.length cv), (fun vs u => vs 2 = .slice (some ⟨w.heap.size, 0, none⟩) 6 6), (fun vs u => vs 3 = .pointer (some ⟨w.heap.size, 1, none⟩)), (fun vs u => vs 4 = .string b), (fun vs u => vs 5 = .slice (some ⟨w.heap.size, 0, none⟩) 6 6), (fun vs u => vs 6 = .pointer (some ⟨w.heap.size, 2, none⟩)), (fun vs u => vs 7 = .string c), (fun vs u => vs 8 = .slice (some ⟨gn, 0, none⟩) 3 cu), (fun vs u => vs 9 = .pointer (some ⟨gn, 0, none⟩)), (fun vs u => vs 10 = .int .i64 nx), (fun vs u => vs 11 = .slice (some ⟨gn, 0, none⟩) 3 cu), (fun vs u => vs 12 = .pointer (some ⟨gn, 1, none⟩)), (fun vs u => vs 13 = .int .i64 ny), (fun vs u => vs 14 = .slice (some ⟨gn, 0, none⟩) 3 cu), (fun vs u => vs 15 = .pointer (some ⟨gn, 2, none⟩)), (fun vs u => vs 16 = .int .i64 nq), (fun vs u => vs 17 = .agg #[.string b, .string c, .int .i64 nx, .int .i64 ny, .int .i64 nq]), (fun vs u => ∃ q : Nat, vs 18 = .slice (some ⟨q, 0, none⟩) 1 1 ∧ u.heap[q]? = some (.cells #[.string b, .string c, .int .i64 nx, .int .i64 ny, .int .i64 nq] 124 (0, 0)))]
      [[], [0], [], [2], [2, 3], [], [5], [5, 6], [], [8], [8, 9], [], [11], [11, 12], [], [14], [14, 15], [2, 3, 4, 5, 6, 7, 8, 9, 10, 11, 12, 13, 14, 15, 16], [2, 3, 4, 5, 6, 7, 8, 9, 10, 11, 12, 13, 14, 15, 16, 17]] [some 77, some 78, some 79, some 80, some 81, some 82, some 83, some 84, some 85, some 86, some 87, some 88, some 89, some 90, some 91, some 92, some 93, some 94, some 95, some 96, some 97, none] [18] (fun _ _ => True) [[], [0], [], [2], [2, 3], [], [5], [5, 6], [], [8], [8, 9], [], [11], [11, 12], [], [14], [14, 15], [2, 3, 4, 5, 6, 7, 8, 9, 10, 11, 12, 13, 14, 15, 16], [2, 3, 4, 5, 6, 7, 8, 9, 10, 11, 12, 13, 14, 15, 16, 17], [0, 1, 2, 3, 4, 5, 6, 7, 8, 9, 10, 11, 12, 13, 14, 15, 16, 17, 18], [0, 1, 2, 3, 4, 5, 6, 7, 8, 9, 10, 11, 12, 13, 14, 15, 16, 17, 18, 19], [0, 1, 2, 3, 4, 5, 6, 7, 8, 9, 10, 11, 12, 13, 14, 15, 16, 17, 18, 19, 20]]
      (by kernel_rfl) (by decide) (by kernel_rfl) (by kernel_rfl) (by kernel_rfl) (by kernel_rfl) (by kernel_rfl) (fun _ => Below.refl _ _) (fun _ _ _ h k => h.ext k) (fun _ _ h => h.size) ?_ trivial ?_ ?_
    · intro t ht vs w w' h hE
      simp only [List.mem_cons, List.not_mem_nil, or_false] at ht
      rcases ht with rfl | rfl | rfl | rfl | rfl | rfl | rfl | rfl | rfl | rfl | rfl | rfl | rfl | rfl | rfl | rfl | rfl | rfl | rfl
      · exact h
      · exact h
      · exact h
      · exact h
      · exact h
      · exact h
      · exact h
      · exact h
      · exact h
      · exact h
      · exact h
      · exact h
      · exact h
      · exact h
      · exact h
      · exact h
      · exact h
      · exact h
      · obtain ⟨q, e, k⟩ := h
        exact ⟨q, e, blk_below hE k⟩
    ·
      refine Rg.cons 0 1 rfl (Rg.plain rfl ?_) ?_
      · intro vs W n hn hI hG hT hF K hK
        simp only [Rg.putsD, List.getD_cons_zero, List.getD_cons_succ, Act.put, List.setIfInBounds_toArray, List.set_cons_zero, List.set_cons_succ] at hK ⊢
        clear hn
        clear hF hI
        have H := Lib.hid hK
        clear hK hT
        go_simp
        exact H.out _ _ (Below.refl _ _) rfl (fun h => by cases h) trivial
      refine Rg.cons 1 2 rfl (Rg.plain rfl ?_) ?_
      · intro vs W n hn hI hG hT hF K hK
        simp only [Rg.putsD, List.getD_cons_zero, List.getD_cons_succ, Act.put, List.setIfInBounds_toArray, List.set_cons_zero, List.set_cons_succ] at hK ⊢
        clear hn
        clear hF hI
        have t0 : vs 0 = .pointer (some ⟨pb, 3, none⟩) := hT 0 (by decide)
        have c0 := (HC3.out W hG).1
        simp only [t0] at hK
        have H := Lib.hid hK
        clear hK hT
        go_simp
        exact H.out _ _ (Below.refl _ _) rfl (fun h => by cases h) trivial
      refine Rg.cons 2 3 rfl (Rg.plain rfl ?_) ?_
      · intro vs W n hn hI hG hT hF K hK
        simp only [Rg.putsD, List.getD_cons_zero, List.getD_cons_succ, Act.put, List.setIfInBounds_toArray, List.set_cons_zero, List.set_cons_succ] at hK ⊢
        clear hn
        clear hF hI
        have H := Lib.hid hK
        clear hK hT
        go_simp
        exact H.out _ _ (Below.refl _ _) rfl (fun h => by cases h) trivial
      refine Rg.cons 3 4 rfl (Rg.plain rfl ?_) ?_
      · intro vs W n hn hI hG hT hF K hK
        simp only [Rg.putsD, List.getD_cons_zero, List.getD_cons_succ, Act.put, List.setIfInBounds_toArray, List.set_cons_zero, List.set_cons_succ] at hK ⊢
        clear hn
        clear hF hI
        have t2 : vs 2 = .slice (some ⟨w.heap.size, 0, none⟩) 6 6 := hT 2 (by decide)
        simp only [t2] at hK
        have H := Lib.hid hK
        clear hK hT
        go_simp
        exact H.out _ _ (Below.refl _ _) rfl (fun h => by cases h) trivial
      refine Rg.cons 4 5 rfl (Rg.plain rfl ?_) ?_
      · intro vs W n hn hI hG hT hF K hK
        simp only [Rg.putsD, List.getD_cons_zero, List.getD_cons_succ, Act.put, List.setIfInBounds_toArray, List.set_cons_zero, List.set_cons_succ] at hK ⊢
        clear hn
        clear hF hI
        have t2 : vs 2 = .slice (some ⟨w.heap.size, 0, none⟩) 6 6 := hT 2 (by decide)
        have t3 : vs 3 = .pointer (some ⟨w.heap.size, 1, none⟩) := hT 3 (by decide)
        have c0 := (HKS.out W hG).1
        simp only [t2, t3] at hK
        have H := Lib.hid hK
        clear hK hT
        go_simp
        exact H.out _ _ (Below.refl _ _) rfl (fun h => by cases h) trivial
      refine Rg.cons 5 6 rfl (Rg.plain rfl ?_) ?_
      · intro vs W n hn hI hG hT hF K hK
        simp only [Rg.putsD, List.getD_cons_zero, List.getD_cons_succ, Act.put, List.setIfInBounds_toArray, List.set_cons_zero, List.set_cons_succ] at hK ⊢
        clear hn
        clear hF hI
        have H := Lib.hid hK
        clear hK hT
        go_simp
        exact H.out _ _ (Below.refl _ _) rfl (fun h => by cases h) trivial
      refine Rg.cons 6 7 rfl (Rg.plain rfl ?_) ?_
      · intro vs W n hn hI hG hT hF K hK
        simp only [Rg.putsD, List.getD_cons_zero, List.getD_cons_succ, Act.put, List.setIfInBounds_toArray, List.set_cons_zero, List.set_cons_succ] at hK ⊢
        clear hn
        clear hF hI
        have t5 : vs 5 = .slice (some ⟨w.heap.size, 0, none⟩) 6 6 := hT 5 (by decide)
        simp only [t5] at hK
        have H := Lib.hid hK
        clear hK hT
        go_simp
        exact H.out _ _ (Below.refl _ _) rfl (fun h => by cases h) trivial
      refine Rg.cons 7 8 rfl (Rg.plain rfl ?_) ?_
      · intro vs W n hn hI hG hT hF K hK
        simp only [Rg.putsD, List.getD_cons_zero, List.getD_cons_succ, Act.put, List.setIfInBounds_toArray, List.set_cons_zero, List.set_cons_succ] at hK ⊢
        clear hn
        clear hF hI
        have t5 : vs 5 = .slice (some ⟨w.heap.size, 0, none⟩) 6 6 := hT 5 (by decide)
        have t6 : vs 6 = .pointer (some ⟨w.heap.size, 2, none⟩) := hT 6 (by decide)
        have c0 := (HKS.out W hG).2.1
        simp only [t5, t6] at hK
        have H := Lib.hid hK
        clear hK hT
        go_simp
        exact H.out _ _ (Below.refl _ _) rfl (fun h => by cases h) trivial
      refine Rg.cons 8 9 rfl (Rg.plain rfl ?_) ?_
      · intro vs W n hn hI hG hT hF K hK
        simp only [Rg.putsD, List.getD_cons_zero, List.getD_cons_succ, Act.put, List.setIfInBounds_toArray, List.set_cons_zero, List.set_cons_succ] at hK ⊢
        clear hn
        clear hF hI
        have H := Lib.hid hK
        clear hK hT
        go_simp
        exact H.out _ _ (Below.refl _ _) rfl (fun h => by cases h) trivial
      refine Rg.cons 9 10 rfl (Rg.plain rfl ?_) ?_
      · intro vs W n hn hI hG hT hF K hK
        simp only [Rg.putsD, List.getD_cons_zero, List.getD_cons_succ, Act.put, List.setIfInBounds_toArray, List.set_cons_zero, List.set_cons_succ] at hK ⊢
        clear hn
        clear hF hI
        have t8 : vs 8 = .slice (some ⟨gn, 0, none⟩) 3 cu := hT 8 (by decide)
        simp only [t8] at hK
        have H := Lib.hid hK
        clear hK hT
        go_simp
        exact H.out _ _ (Below.refl _ _) rfl (fun h => by cases h) trivial
      refine Rg.cons 10 11 rfl (Rg.plain rfl ?_) ?_
      · intro vs W n hn hI hG hT hF K hK
        simp only [Rg.putsD, List.getD_cons_zero, List.getD_cons_succ, Act.put, List.setIfInBounds_toArray, List.set_cons_zero, List.set_cons_succ] at hK ⊢
        clear hn
        clear hF hI
        have t8 : vs 8 = .slice (some ⟨gn, 0, none⟩) 3 cu := hT 8 (by decide)
        have t9 : vs 9 = .pointer (some ⟨gn, 0, none⟩) := hT 9 (by decide)
        have c0 := (HKS.out W hG).2.2.1
        simp only [t8, t9] at hK
        have H := Lib.hid hK
        clear hK hT
        go_simp
        exact H.out _ _ (Below.refl _ _) rfl (fun h => by cases h) trivial
      refine Rg.cons 11 12 rfl (Rg.plain rfl ?_) ?_
      · intro vs W n hn hI hG hT hF K hK
        simp only [Rg.putsD, List.getD_cons_zero, List.getD_cons_succ, Act.put, List.setIfInBounds_toArray, List.set_cons_zero, List.set_cons_succ] at hK ⊢
        clear hn
        clear hF hI
        have H := Lib.hid hK
        clear hK hT
        go_simp
        exact H.out _ _ (Below.refl _ _) rfl (fun h => by cases h) trivial
      refine Rg.cons 12 13 rfl (Rg.plain rfl ?_) ?_
      · intro vs W n hn hI hG hT hF K hK
        simp only [Rg.putsD, List.getD_cons_zero, List.getD_cons_succ, Act.put, List.setIfInBounds_toArray, List.set_cons_zero, List.set_cons_succ] at hK ⊢
        clear hn
        clear hF hI
        have t11 : vs 11 = .slice (some ⟨gn, 0, none⟩) 3 cu := hT 11 (by decide)
        simp only [t11] at hK
        have H := Lib.hid hK
        clear hK hT
        go_simp
        exact H.out _ _ (Below.refl _ _) rfl (fun h => by cases h) trivial
      refine Rg.cons 13 14 rfl (Rg.plain rfl ?_) ?_
      · intro vs W n hn hI hG hT hF K hK
        simp only [Rg.putsD, List.getD_cons_zero, List.getD_cons_succ, Act.put, List.setIfInBounds_toArray, List.set_cons_zero, List.set_cons_succ] at hK ⊢
        clear hn
        clear hF hI
        have t11 : vs 11 = .slice (some ⟨gn, 0, none⟩) 3 cu := hT 11 (by decide)
        have t12 : vs 12 = .pointer (some ⟨gn, 1, none⟩) := hT 12 (by decide)
        have c0 := (HKS.out W hG).2.2.2.1
        simp only [t11, t12] at hK
        have H := Lib.hid hK
        clear hK hT
        go_simp
        exact H.out _ _ (Below.refl _ _) rfl (fun h => by cases h) trivial
      refine Rg.cons 14 15 rfl (Rg.plain rfl ?_) ?_
      · intro vs W n hn hI hG hT hF K hK
        simp only [Rg.putsD, List.getD_cons_zero, List.getD_cons_succ, Act.put, List.setIfInBounds_toArray, List.set_cons_zero, List.set_cons_succ] at hK ⊢
        clear hn
        clear hF hI
        have H := Lib.hid hK
        clear hK hT
        go_simp
        exact H.out _ _ (Below.refl _ _) rfl (fun h => by cases h) trivial
      refine Rg.cons 15 16 rfl (Rg.plain rfl ?_) ?_
      · intro vs W n hn hI hG hT hF K hK
        simp only [Rg.putsD, List.getD_cons_zero, List.getD_cons_succ, Act.put, List.setIfInBounds_toArray, List.set_cons_zero, List.set_cons_succ] at hK ⊢
        clear hn
        clear hF hI
        have t14 : vs 14 = .slice (some ⟨gn, 0, none⟩) 3 cu := hT 14 (by decide)
        simp only [t14] at hK
        have H := Lib.hid hK
        clear hK hT
        go_simp
        exact H.out _ _ (Below.refl _ _) rfl (fun h => by cases h) trivial
      refine Rg.cons 16 17 rfl (Rg.plain rfl ?_) ?_
      · intro vs W n hn hI hG hT hF K hK
        simp only [Rg.putsD, List.getD_cons_zero, List.getD_cons_succ, Act.put, List.setIfInBounds_toArray, List.set_cons_zero, List.set_cons_succ] at hK ⊢
        clear hn
        clear hF hI
        have t14 : vs 14 = .slice (some ⟨gn, 0, none⟩) 3 cu := hT 14 (by decide)
        have t15 : vs 15 = .pointer (some ⟨gn, 2, none⟩) := hT 15 (by decide)
        have c0 := (HKS.out W hG).2.2.2.2
        simp only [t14, t15] at hK
        have H := Lib.hid hK
        clear hK hT
        go_simp
        exact H.out _ _ (Below.refl _ _) rfl (fun h => by cases h) trivial
      refine Rg.cons 17 18 rfl (Rg.plain rfl ?_) ?_
      · intro vs W n hn hI hG hT hF K hK
        simp only [Rg.putsD, List.getD_cons_zero, List.getD_cons_succ, Act.put, List.setIfInBounds_toArray, List.set_cons_zero, List.set_cons_succ] at hK ⊢
        clear hn
        clear hF hI
        have t2 : vs 2 = .slice (some ⟨w.heap.size, 0, none⟩) 6 6 := hT 2 (by decide)
        have t3 : vs 3 = .pointer (some ⟨w.heap.size, 1, none⟩) := hT 3 (by decide)
        have t4 : vs 4 = .string b := hT 4 (by decide)
        have t5 : vs 5 = .slice (some ⟨w.heap.size, 0, none⟩) 6 6 := hT 5 (by decide)
        have t6 : vs 6 = .pointer (some ⟨w.heap.size, 2, none⟩) := hT 6 (by decide)
        have t7 : vs 7 = .string c := hT 7 (by decide)
        have t8 : vs 8 = .slice (some ⟨gn, 0, none⟩) 3 cu := hT 8 (by decide)
        have t9 : vs 9 = .pointer (some ⟨gn, 0, none⟩) := hT 9 (by decide)
        have t10 : vs 10 = .int .i64 nx := hT 10 (by decide)
        have t11 : vs 11 = .slice (some ⟨gn, 0, none⟩) 3 cu := hT 11 (by decide)
        have t12 : vs 12 = .pointer (some ⟨gn, 1, none⟩) := hT 12 (by decide)
        have t13 : vs 13 = .int .i64 ny := hT 13 (by decide)
        have t14 : vs 14 = .slice (some ⟨gn, 0, none⟩) 3 cu := hT 14 (by decide)
        have t15 : vs 15 = .pointer (some ⟨gn, 2, none⟩) := hT 15 (by decide)
        have t16 : vs 16 = .int .i64 nq := hT 16 (by decide)
        simp only [t2, t3, t4, t5, t6, t7, t8, t9, t10, t11, t12, t13, t14, t15, t16] at hK
        have H := Lib.hid hK
        clear hK hT
        go_simp
        exact H.out _ _ (Below.refl _ _) rfl (fun h => by cases h) trivial
      refine Rg.cons 18 19 rfl (Rg.plain rfl ?_) ?_
      · intro vs W n hn hI hG hT hF K hK
        simp only [Rg.putsD, List.getD_cons_zero, List.getD_cons_succ, Act.put, List.setIfInBounds_toArray, List.set_cons_zero, List.set_cons_succ] at hK ⊢
        clear hn
        clear hF hI
        have t2 : vs 2 = .slice (some ⟨w.heap.size, 0, none⟩) 6 6 := hT 2 (by decide)
        have t3 : vs 3 = .pointer (some ⟨w.heap.size, 1, none⟩) := hT 3 (by decide)
        have t4 : vs 4 = .string b := hT 4 (by decide)
        have t5 : vs 5 = .slice (some ⟨w.heap.size, 0, none⟩) 6 6 := hT 5 (by decide)
        have t6 : vs 6 = .pointer (some ⟨w.heap.size, 2, none⟩) := hT 6 (by decide)
        have t7 : vs 7 = .string c := hT 7 (by decide)
        have t8 : vs 8 = .slice (some ⟨gn, 0, none⟩) 3 cu := hT 8 (by decide)
        have t9 : vs 9 = .pointer (some ⟨gn, 0, none⟩) := hT 9 (by decide)
        have t10 : vs 10 = .int .i64 nx := hT 10 (by decide)
        have t11 : vs 11 = .slice (some ⟨gn, 0, none⟩) 3 cu := hT 11 (by decide)
        have t12 : vs 12 = .pointer (some ⟨gn, 1, none⟩) := hT 12 (by decide)
        have t13 : vs 13 = .int .i64 ny := hT 13 (by decide)
        have t14 : vs 14 = .slice (some ⟨gn, 0, none⟩) 3 cu := hT 14 (by decide)
        have t15 : vs 15 = .pointer (some ⟨gn, 2, none⟩) := hT 15 (by decide)
        have t16 : vs 16 = .int .i64 nq := hT 16 (by decide)
        have t17 : vs 17 = .agg #[.string b, .string c, .int .i64 nx, .int .i64 ny, .int .i64 nq] := hT 17 (by decide)
        simp only [t2, t3, t4, t5, t6, t7, t8, t9, t10, t11, t12, t13, t14, t15, t16, t17] at hK
        have H := Lib.hid hK
        clear hK hT
        go_simp
        exact H.out _ _ ((Below.refl _ _).alloc (Nat.le_refl _) _) (show ∃ q : Nat, _ = _ ∧ _ = _ from ⟨_, rfl, blk_new W _ rfl⟩) (fun _ => ⟨W.heap.size, rfl, Nat.le_refl _, by simp⟩) trivial
      exact Rg.nil
    · intro vs W hG hI hT hF
      have t0 : vs 0 = .pointer (some ⟨pb, 3, none⟩) := hT 0 (by decide)
      have t1 : vs 1 = .slice Av st.pls.length cv := hT 1 (by decide)
      have t2 : vs 2 = .slice (some ⟨w.heap.size, 0, none⟩) 6 6 := hT 2 (by decide)
      have t3 : vs 3 = .pointer (some ⟨w.heap.size, 1, none⟩) := hT 3 (by decide)
      have t4 : vs 4 = .string b := hT 4 (by decide)
      have t5 : vs 5 = .slice (some ⟨w.heap.size, 0, none⟩) 6 6 := hT 5 (by decide)
      have t6 : vs 6 = .pointer (some ⟨w.heap.size, 2, none⟩) := hT 6 (by decide)
      have t7 : vs 7 = .string c := hT 7 (by decide)
      have t8 : vs 8 = .slice (some ⟨gn, 0, none⟩) 3 cu := hT 8 (by decide)
      have t9 : vs 9 = .pointer (some ⟨gn, 0, none⟩) := hT 9 (by decide)
      have t10 : vs 10 = .int .i64 nx := hT 10 (by decide)
      have t11 : vs 11 = .slice (some ⟨gn, 0, none⟩) 3 cu := hT 11 (by decide)
      have t12 : vs 12 = .pointer (some ⟨gn, 1, none⟩) := hT 12 (by decide)
      have t13 : vs 13 = .int .i64 ny := hT 13 (by decide)
      have t14 : vs 14 = .slice (some ⟨gn, 0, none⟩) 3 cu := hT 14 (by decide)
      have t15 : vs 15 = .pointer (some ⟨gn, 2, none⟩) := hT 15 (by decide)
      have t16 : vs 16 = .int .i64 nq := hT 16 (by decide)
      have t17 : vs 17 = .agg #[.string b, .string c, .int .i64 nx, .int .i64 ny, .int .i64 nq] := hT 17 (by decide)
      have t18 : ∃ q : Nat, vs 18 = .slice (some ⟨q, 0, none⟩) 1 1 ∧ W.heap[q]? = some (.cells #[.string b, .string c, .int .i64 nx, .int .i64 ny, .int .i64 nq] 124 (0, 0)) := hT 18 (by decide)
      simp only [List.length_cons, List.length_nil, Nat.reduceAdd, List.range, List.range.loop, List.drop_succ_cons, List.drop_zero, Rg.putsD, List.getD_cons_zero, List.getD_cons_succ, Act.put, List.setIfInBounds_toArray, List.set_cons_zero, List.set_cons_succ, t0, t1, t2, t3, t4, t5, t6, t7, t8, t9, t10, t11, t12, t13, t14, t15, t16, t17]
      clear hT t0 t1 t2 t3 t4 t5 t6 t7 t8 t9 t10 t11 t12 t13 t14 t15 t16 t17
      obtain ⟨bq, e18, k18⟩ := t18
      obtain ⟨c3', f3', b3', bl3'⟩ := HC3.out W hG
      have hszd : w2.heap.size ≤ W.heap.size := hG.size
      have HW : Hid (Below base w W ∧ W.ownsRow (pb + 2) 124 5 (.slice Av st.pls.length cv) st.pls.length (flatP st.pls) ∧ W.heap[pb]? = some (.cells #[.string st.key, .int .i64 st.w, .int .i64 st.h, .slice Av st.pls.length cv] 44 (0, 0)) ∧ W.heap[lb]? = some (.cells #[.int .i64 ((i : Int) + 1)] 3 (0, 0)) ∧ W.heap[bq]? = some (.cells #[.string b, .string c, .int .i64 nx, .int .i64 ny, .int .i64 nq] 124 (0, 0))) := ⟨(HP.out.1.drew).then_below hG (by show base ≤ w2.heap.size; omega), own_below (w := w2.drew) HO.out.drew hG, b3', bl3', k18⟩
      have E18 := Lib.hid e18
      clear hF hI b3' bl3' e18 k18 hG c3' f3'
      simp only [E18.out]
      have hWs : pb + 2 ≤ W.heap.size := by omega
      refine wpList_append_own _ rfl _ _ 42 rfl (pb + 2) 124 i0 _ 5 56 Tryz.underlying42 HIF.out.1 HIF.out.2.1 HIF.out.2.2.1 HIF.out.2.2.2 rfl (by omega) _ st.pls.length (flatP st.pls) rfl HW.out.2.1 ⟨bq, 0, none⟩ 1 1 [.string b, .string c, .int .i64 nx, .int .i64 ny, .int .i64 nq] rfl rfl ?c1 (by intro u hu; simp at hu; rcases hu with rfl | rfl | rfl | rfl | rfl <;> rfl) ?c2 ?c3 hWs ?_
      case c1 =>
        intro q u hu
        rw [addr_new, cell_of_blk HW.out.2.2.2.2]
        simpa using hu
      case c2 => unfold maxLen; omega
      case c3 => omega
      intro v' w4 hown' hg0 _
      have hg' : W.grownBy w4 row := by rw [← HROW.out]; exact hg0
      clear hg0
      obtain ⟨A9, c9, rfl, _, _⟩ := own_slice' hown'
      have b4 := (hg'.block pb (by omega) (fun e => by have := HRow.out pb e.symm; omega)).trans HW.out.2.2.1
      have bl4 := (hg'.block lb (by omega) (fun e => by have := HRow.out lb e.symm; have := HLP.out; omega)).trans HW.out.2.2.2.1
      have f4 := frozen_of_blk b4 3
      have h4l := lt_of_blk b4
      obtain ⟨_, _, _, p4⟩ := blk4 b4
      have HV : Hid (Below base w w4 ∧ w4.ownsRow (pb + 2) 124 5 (.slice A9 (st.pls.length + 1) c9) (st.pls.length + 1) (flatP st.pls ++ [.string b, .string c, .int .i64 nx, .int .i64 ny, .int .i64 nq]) ∧ w4.heap[pb]? = some (.cells #[.string st.key, .int .i64 st.w, .int .i64 st.h, .slice Av st.pls.length cv] 44 (0, 0)) ∧ w4.heap[lb]? = some (.cells #[.int .i64 ((i : Int) + 1)] 3 (0, 0))) :=
        ⟨HW.out.1.grown hg' (by omega) (fun k hk => by have := HRow.out k hk; omega), hown', b4, bl4⟩
      clear hown' hg' b4 bl4
      go_wp2_with fail
      have e1 : flatP (st.pls ++ [⟨b, c, nx, ny, nq⟩]) = flatP st.pls ++ [.string b, .string c, .int .i64 nx, .int .i64 ny, .int .i64 nq] := by rw [flatP_append]; rfl
      have HF : Hid (Below base w (w4.setCell ⟨pb, 3, none⟩ (.slice A9 (st.pls.length + 1) c9)) ∧ PdQ lb pb (i + 1) { st with pls := st.pls ++ [⟨b, c, nx, ny, nq⟩] } (w4.setCell ⟨pb, 3, none⟩ (.slice A9 (st.pls.length + 1) c9))) := by
        refine ⟨HV.out.1.setCell hpb _, blk_far HV.out.2.2.2 hlne _, HLP.out, _, blk_set HV.out.2.2.1 _, ?_, ?_⟩
        · have := own_far HV.out.2.1 (p := ⟨pb, 3, none⟩) (by show pb < pb + 2; omega) (.slice A9 (st.pls.length + 1) c9)
          rw [List.length_append, e1]
          exact this
        · rw [List.length_append]
          exact Nat.add_le_add_right hpl0 1
      clear e1
      generalize w4.setCell ⟨pb, 3, none⟩ (.slice A9 (st.pls.length + 1) c9) = w3 at *
      go_wp2_with fail
      go_ret
      cases bb
      · have HR := HSW4.out.trans (if_neg (by rintro ⟨_, h⟩; cases h))
        exact ⟨by rw [HR]; rfl, HF.out.1, fun st' h => by rw [HR] at h; cases h⟩
      · have HR := HSW4.out.trans (if_pos ⟨hx, rfl⟩)
        obtain ⟨rfl, rfl, rfl⟩ := HNN.out rfl
        exact ⟨by rw [HR]; rfl, HF.out.1, fun st' h => by rw [HR] at h; cases h; exact ⟨HF.out.2, hG.below HF.out.1 hlow⟩⟩
end Go.Proofs.YtalconjnjaffkaaGreatDoor
