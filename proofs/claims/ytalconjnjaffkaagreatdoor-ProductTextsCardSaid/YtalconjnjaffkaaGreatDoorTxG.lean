/-
  The program reads a product: the line of the product itself.
-/
import Derived.Test.YtalconjnjaffkaaGreatDoorTxF
import Derived.Test.YtalconjnjaffkaaGreatDoorProd
namespace Go.Proofs.YtalconjnjaffkaaGreatDoor
open Go.RowKit
set_option linter.unusedSimpArgs false
set_option linter.unusedVariables false

/-- What has been read of a product. -/
structure Pd where
  key : ByteArray
  w : Int
  h : Int
  pls : List Pl
def sProduct : ByteArray := ⟨#[112, 114, 111, 100, 117, 99, 116]⟩
def sPlace : ByteArray := ⟨#[112, 108, 97, 99, 101]⟩
def rdProd (st : Pd) : List ByteArray → Option Pd
  | [a, b, c, d] => if (a.toList == [112, 114, 111, 100, 117, 99, 116]) = true ∧ numsB 15 [c, d] = true then some { st with key := b, w := numI 15 c, h := numI 15 d } else none
  | _ => none
def rdPlace (st : Pd) : List ByteArray → Option Pd
  | [a, b, c, x, y, q] => if (a.toList == [112, 108, 97, 99, 101]) = true ∧ numsB 15 [x, y, q] = true then some { st with pls := st.pls ++ [⟨b, c, numI 15 x, numI 15 y, numI 15 q⟩] } else none
  | _ => none
theorem len4 {ws : List ByteArray} (h : ws.length = 4) : ∃ a b c d, ws = [a, b, c, d] := by
  match ws, h with
  | [a, b, c, d], _ => exact ⟨a, b, c, d, rfl⟩
theorem len6 {ws : List ByteArray} (h : ws.length = 6) : ∃ a b c x y q, ws = [a, b, c, x, y, q] := by
  match ws, h with
  | [a, b, c, x, y, q], _ => exact ⟨a, b, c, x, y, q, rfl⟩
theorem rdProd_len {st : Pd} {ws : List ByteArray} (h : ws.length ≠ 4) : rdProd st ws = none := by
  match ws, h with
  | [], _ => rfl
  | [_], _ => rfl
  | [_, _], _ => rfl
  | [_, _, _], _ => rfl
  | [_, _, _, _], h => exact absurd rfl h
  | _ :: _ :: _ :: _ :: _ :: _, _ => rfl
theorem rdPlace_len {st : Pd} {ws : List ByteArray} (h : ws.length ≠ 6) : rdPlace st ws = none := by
  match ws, h with
  | [], _ => rfl
  | [_], _ => rfl
  | [_, _], _ => rfl
  | [_, _, _], _ => rfl
  | [_, _, _, _], _ => rfl
  | [_, _, _, _, _], _ => rfl
  | [_, _, _, _, _, _], h => exact absurd rfl h
  | _ :: _ :: _ :: _ :: _ :: _ :: _ :: _, _ => rfl
def PdAt (cb : Nat) (i : Nat) (st : Pd) (w : World) : Prop :=
  ∃ v, w.heap[cb]? = some (.cells #[.string st.key, .int .i64 st.w, .int .i64 st.h, v] 44 (0, 0)) ∧ w.ownsRow (cb + 1) 124 5 v st.pls.length (flatP st.pls) ∧ st.pls.length ≤ i
theorem PdAt.below {cb i : Nat} {st : Pd} {w w' : World} (h : PdAt cb i st w) (hb : Below w.heap.size w w') : PdAt cb i st w' := by
  obtain ⟨v, h1, h2, h3⟩ := h
  exact ⟨v, blk_below hb h1, own_below h2 hb, h3⟩

theorem cell_farS {w : World} {p q : Addr} (h : q.block ≠ p.block) (u : Value) : (w.setCell p u).cell? q = w.cell? q :=
  World.cell?_of_block (w := w) (Below.heap_setCell w p u q.block h)

set_option maxHeartbeats 4000000 in
theorem readProduct_any {cb base i : Nat} {st : Pd} {ws : List ByteArray} {v : Value} {w0 w : World} (hz : ∀ x ∈ ws, x.size ≤ 200000) (hcb : base ≤ cb) (hbw0 : base ≤ w0.heap.size) (hI0 : PdAt cb i st w0) (hb0 : Below w0.heap.size w0 w) (hS0 : ReadsF w0.heap.size encS v ws w) :
    Calls Tryz.prog 89 #[.pointer (some ⟨cb, 0, none⟩), v] w fun e w' => e = .returned (.bool (rdProd st ws).isSome) ∧ Below base w w' ∧ ∀ st', rdProd st ws = some st' → PdAt cb (i + 1) st' w' := by
  have hI := hI0.below hb0
  have hS := hS0.strs
  have hbw : base ≤ w.heap.size := Nat.le_trans hbw0 hb0.size
  have hcb0 : cb < w0.heap.size := by obtain ⟨_, h, _⟩ := hI0; exact lt_of_blk h
  clear hI0
  by_cases hl : ws.length = 4
  rotate_left
  · have HR := Lib.hid (@rdProd_len st ws hl)
    have hne : ((ws.length : Int) != 4) = true := by simp; omega
    obtain ⟨A, c, rfl, _, _⟩ := hS
    go_enter Tryz.func89, Tryz.ntmps89
    go_wp2_with fail
    go_ret
    exact ⟨by rw [HR.out]; rfl, Below.refl _ _, fun st' h => by rw [HR.out] at h; cases h⟩
  obtain ⟨a, b, c, d, rfl⟩ := len4 hl
  have hg0 : ∀ g o : Nat, ∀ n c, v = .slice (some ⟨g, o, none⟩) n c → w0.heap.size ≤ g ∨ n = 0 := fun g o n c e => by
    obtain ⟨A', c', e', _, h⟩ := hS0
    rw [e] at e'
    injection e' with e1 e2 e3
    rcases h with h | ⟨g', e4, h, _⟩
    · right; rw [e2, h]; rfl
    · left; rw [e4] at e1; injection e1 with e1; injection e1 with e1; omega
  obtain ⟨A, cp, rfl, hc, hr⟩ := hS
  obtain ⟨g, o, rfl, hgl, hcs⟩ : ∃ g o : Nat, A = some ⟨g, o, none⟩ ∧ g < w.heap.size ∧ ∀ j (h : j < [a, b, c, d].length), w.cell? ⟨g, o + j, none⟩ = some (.string [a, b, c, d][j]) := by
    rcases hr with hr | hr
    · cases hr
    · exact hr
  have q0 := hcs 0 (by simp)
  simp only [Nat.add_zero, List.getElem_cons_zero] at q0
  have HC := Lib.hid hcs
  have hc4 : 4 ≤ cp := hc
  have CN := Lib.hid (numbers_any [c, d] (by simp) (fun x hx => by have := hz x (List.mem_cons_of_mem _ (List.mem_cons_of_mem _ hx)); omega) (v := .slice (some ⟨g, o + 2, none⟩) 2 (cp - 2)) (w := w) ⟨_, cp - 2, rfl, by show 2 ≤ cp - 2; omega, .inr ⟨g, o + 2, rfl, hgl, fun j hj => by
    have hj2 : j < 2 := hj
    have := HC.out (j + 2) (by show j + 2 < 4; omega)
    rw [show o + 2 + j = o + (j + 2) by omega]
    exact this⟩⟩)
  rw [show numsI 15 [c, d] = [numI 15 c, numI 15 d] from rfl] at CN
  have HI := Lib.hid hI
  have HX : Hid (∀ (h1 : (a.toList == [112, 114, 111, 100, 117, 99, 116]) = false ∨ numsB 15 [c, d] = false), rdProd st [a, b, c, d] = none) := fun h1 => by
    simp only [rdProd]
    rw [if_neg]
    rintro ⟨h2, h3⟩
    rcases h1 with h1 | h1
    · rw [h1] at h2; cases h2
    · rw [h1] at h3; cases h3
  have HY : Hid (∀ (h1 : (a.toList == [112, 114, 111, 100, 117, 99, 116]) = true) (h2 : numsB 15 [c, d] = true), rdProd st [a, b, c, d] = some { st with key := b, w := numI 15 c, h := numI 15 d }) := fun h1 h2 => by
    simp only [rdProd]
    rw [if_pos ⟨h1, h2⟩]
  clear hcs hI hz hr hl
  cases h1 : (a.toList == [112, 114, 111, 100, 117, 99, 116])
  · have HR := Lib.hid (HX.out (.inl h1))
    clear HX HY CN
    go_enter Tryz.func89, Tryz.ntmps89
    go_wp2_with fail
    go_ret
    exact ⟨by rw [HR.out]; rfl, Below.refl _ _, fun st' h => by rw [HR.out] at h; cases h⟩
  cases h2 : numsB 15 [c, d]
  · have HR := Lib.hid (HX.out (.inr h2))
    rw [h2] at CN
    clear HX HY h2
    go_enter Tryz.func89, Tryz.ntmps89
    go_wp2_with fail
    refine CN.out.mono ?_
    rintro e w1 ⟨u, rfl, b1, _⟩
    have HB := Lib.hid (b1.mono hbw)
    clear b1
    go_wp2_with fail
    go_ret
    exact ⟨by rw [HR.out]; rfl, HB.out, fun st' h => by rw [HR.out] at h; cases h⟩
  · have HR := Lib.hid (HY.out h1 h2)
    rw [h2] at CN
    clear HX HY h2
    go_enter Tryz.func89, Tryz.ntmps89
    go_wp2_with fail
    refine CN.out.mono ?_
    rintro e w1 ⟨u, rfl, b1, hu⟩
    obtain ⟨Au, cu, rfl, hcu, hru⟩ := hu trivial
    obtain ⟨gn, rfl, hgn, hlu⟩ : ∃ gn : Nat, Au = some ⟨gn, 0, none⟩ ∧ w.heap.size ≤ gn ∧ LineAt w1 gn ([numI 15 c, numI 15 d].flatMap encZ) := by
      rcases hru with hru | hru
      · cases hru
      · exact hru
    have n0 : w1.cell? ⟨gn, 0, none⟩ = some (.int .i64 (numI 15 c)) := row_intz hlu (k := 0) (by simp)
    have n1 : w1.cell? ⟨gn, 1, none⟩ = some (.int .i64 (numI 15 d)) := row_intz hlu (k := 1) (by simp)
    have q1 : w1.cell? ⟨g, o + 1, none⟩ = some (.string b) := (b1.cell (p := ⟨g, o + 1, none⟩) hgl).trans (HC.out 1 (by simp))
    obtain ⟨vs, hp, hown, hpl⟩ := HI.out.below b1
    have HP := Lib.hid (And.intro (b1.mono hbw) (And.intro hp (And.intro hown hpl)))
    have hcbl := lt_of_blk hp
    have f0 := frozen_of_blk hp 0
    have f1 := frozen_of_blk hp 1
    have f2 := frozen_of_blk hp 2
    obtain ⟨p0, p1, p2, _⟩ := blk4 hp
    have hne1 : gn ≠ cb := by have := HI.out; obtain ⟨_, h, _⟩ := this; have := lt_of_blk h; omega
    have hne2 : g ≠ cb := by
      rcases hg0 g o _ _ rfl with h | h
      · omega
      · simp at h
    clear b1 hu hru hlu hp hown hpl CN hg0 hS0 hb0
    go_wp2_with fail
    go_region_held (fun W => W.cell? ⟨g, o + 1, none⟩ = some (.string b) ∧ W.cell? ⟨gn, 0, none⟩ = some (.int .i64 (numI 15 c)) ∧ W.cell? ⟨gn, 1, none⟩ = some (.int .i64 (numI 15 d))) (simp [*, cell_farS]) (fail)
    rename_i hheld
    clear hheld
    have hown' : ((((w1.setCell ⟨cb, 0, none⟩ (.string b)).setCell ⟨cb, 1, none⟩ (.int .i64 (numI 15 c))).setCell ⟨cb, 2, none⟩ (.int .i64 (numI 15 d))).drew).ownsRow (cb + 1) 124 5 vs st.pls.length (flatP st.pls) :=
      (own_far (own_far (own_far HP.out.2.2.1 (p := ⟨cb, 0, none⟩) (by show cb < cb + 1; omega) _) (p := ⟨cb, 1, none⟩) (by show cb < cb + 1; omega) _) (p := ⟨cb, 2, none⟩) (by show cb < cb + 1; omega) _).drew
    have HF : Hid (Below base w (((w1.setCell ⟨cb, 0, none⟩ (.string b)).setCell ⟨cb, 1, none⟩ (.int .i64 (numI 15 c))).setCell ⟨cb, 2, none⟩ (.int .i64 (numI 15 d))).drew ∧ PdAt cb (i + 1) { st with key := b, w := numI 15 c, h := numI 15 d } (((w1.setCell ⟨cb, 0, none⟩ (.string b)).setCell ⟨cb, 1, none⟩ (.int .i64 (numI 15 c))).setCell ⟨cb, 2, none⟩ (.int .i64 (numI 15 d))).drew) :=
      ⟨(((HP.out.1.setCell hcb _).setCell hcb _).setCell hcb _).drew, vs, blk_set (blk_set (blk_set HP.out.2.1 _) _) _, hown', Nat.le_succ_of_le HP.out.2.2.2⟩
    clear hown'
    generalize (((w1.setCell ⟨cb, 0, none⟩ (.string b)).setCell ⟨cb, 1, none⟩ (.int .i64 (numI 15 c))).setCell ⟨cb, 2, none⟩ (.int .i64 (numI 15 d))).drew = w2 at *
    go_wp2_with fail
    go_ret
    exact ⟨by rw [HR.out]; rfl, HF.out.1, fun st' h => by rw [HR.out] at h; cases h; exact HF.out.2⟩
end Go.Proofs.YtalconjnjaffkaaGreatDoor
