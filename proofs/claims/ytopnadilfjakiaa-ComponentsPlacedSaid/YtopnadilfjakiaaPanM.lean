/-
  Plain words on panels.
-/
import Derived.Test.YtopnadilfjakiaaEq
namespace Go.Proofs.Ytopnadilfjakiaa
open Go.RowKit

structure Sl where
  x : Int
  y : Int
  q : Int
  skip : Bool
def Sl.cells (s : Sl) : List Value := [.int .i64 s.x, .int .i64 s.y, .int .i64 s.q, .bool s.skip]
def flatSl (l : List Sl) : List Value := l.flatMap Sl.cells
def SlAt (w : World) (A : Option Addr) (l : List Sl) : Prop := l = [] ∨ ∃ g : Nat, A = some ⟨g, 0, none⟩ ∧ LineAt w g (flatSl l)
theorem SlAt.below {w w' : World} {A : Option Addr} {l : List Sl} (h : SlAt w A l) (hb : Below w.heap.size w w') : SlAt w' A l := by
  rcases h with h | ⟨g, e, h⟩
  · exact .inl h
  · exact .inr ⟨g, e, h.below hb⟩
theorem row_sl {w : World} {g : Nat} {l : List Sl} (h : LineAt w g (flatSl l)) {k : Nat} (hk : k < l.length) :
    w.cell? ⟨g, k * 4, none⟩ = some (.int .i64 l[k].x) ∧ w.cell? ⟨g, k * 4 + 1, none⟩ = some (.int .i64 l[k].y) ∧ w.cell? ⟨g, k * 4 + 2, none⟩ = some (.int .i64 l[k].q) ∧ w.cell? ⟨g, k * 4 + 3, none⟩ = some (.bool l[k].skip) := by
  have e := fun j (hj : j < 4) => flatK_at Sl.cells 4 (fun _ => rfl) l k hk j hj
  exact ⟨h.2 _ _ (e 0 (by omega)), h.2 _ _ (e 1 (by omega)), h.2 _ _ (e 2 (by omega)), h.2 _ _ (e 3 (by omega))⟩

theorem blk3 {w : World} {g : Nat} {a b c : Value} {t : TypeId} (h : w.heap[g]? = some (.cells #[a, b, c] t (0, 0))) :
    w.cell? ⟨g, 0, none⟩ = some a ∧ w.cell? ⟨g, 1, none⟩ = some b ∧ w.cell? ⟨g, 2, none⟩ = some c ∧ g < w.heap.size :=
  ⟨by rw [cell_of_blk h]; rfl, by rw [cell_of_blk h]; rfl, by rw [cell_of_blk h]; rfl, lt_of_blk h⟩
abbrev pan (PW PH : Int) (A : Option Addr) (n c : Nat) : Value := .agg #[.int .i64 PW, .int .i64 PH, .slice A n c]

def slOk (s : Sl) : Bool := inR s.x 0 500000 && inR s.y 0 500000 && inR s.q 0 3
/-- The error of a panel alone. -/
def pnErr (PW PH : Int) (l : List Sl) : Int := if (inR PW 1 500000 && inR PH 1 500000) = false then 1 else if 100 < l.length then 2 else if l.all slOk = true then 0 else 1
/-- The error of a panel with its product. -/
def panErr (key : ByteArray) (W H : Int) (l : List Pl) (PW PH : Int) (s : List Sl) : Int := if prodErr key W H l = 0 then pnErr PW PH s else prodErr key W H l

structure PanOk (W H PW PH : Int) (l : List Pl) (s : List Sl) : Prop where
  w : 1 ≤ W ∧ W ≤ 500000
  h : 1 ≤ H ∧ H ≤ 500000
  len : l.length ≤ 1000
  pw : 1 ≤ PW ∧ PW ≤ 500000
  ph : 1 ≤ PH ∧ PH ≤ 500000
  slen : s.length ≤ 100
  sl : ∀ t ∈ s, (0 ≤ t.x ∧ t.x ≤ 500000) ∧ (0 ≤ t.y ∧ t.y ≤ 500000) ∧ 0 ≤ t.q ∧ t.q ≤ 3
theorem pan_ok {key : ByteArray} {W H PW PH : Int} {l : List Pl} {s : List Sl} (h : panErr key W H l PW PH s = 0) : prodErr key W H l = 0 ∧ pnErr PW PH s = 0 ∧ PanOk W H PW PH l s := by
  unfold panErr at h
  by_cases h1 : prodErr key W H l = 0
  · rw [if_pos h1] at h
    obtain ⟨_, a1, a2, a3, _, _⟩ := prodErr_ok h1
    refine ⟨h1, h, ?_⟩
    unfold pnErr at h
    split at h
    · cases h
    split at h
    · cases h
    split at h
    · rename_i b1 b2 b3
      simp [inR] at b1
      refine ⟨a1, a2, a3, by omega, by omega, by omega, fun t ht => ?_⟩
      have := List.all_eq_true.mp b3 t ht
      simp [slOk, inR] at this
      omega
    · cases h
  · rw [if_neg h1] at h; exact absurd h h1

/-- The area of a board in a slot. -/
def slAr (W H : Int) (s : Sl) : Ar := ⟨s.x, s.x + turnW W H s.q, s.y, s.y + turnH W H s.q⟩
def outB (W H PW PH : Int) (s : Sl) : Bool := decide (PW < (slAr W H s).xt) || decide (PH < (slAr W H s).yt)
/-- The indices up to one. -/
def outs (W H PW PH : Int) (l : List Sl) (k : Nat) : List Nat := (List.range k).filter fun i => outB W H PW PH (l.getD i ⟨0, 0, 0, false⟩)
theorem outs_len (W H PW PH : Int) (l : List Sl) (k : Nat) : (outs W H PW PH l k).length ≤ k := by
  unfold outs
  exact Nat.le_trans (List.length_filter_le _ _) (by simp)
theorem outs_next (W H PW PH : Int) (l : List Sl) {k : Nat} (h : k < l.length) : outs W H PW PH l (k + 1) = outs W H PW PH l k ++ (if outB W H PW PH l[k] then [k] else []) := by
  have e : l.getD k ⟨0, 0, 0, false⟩ = l[k] := by rw [List.getD_eq_getElem?_getD, List.getElem?_eq_getElem h]; rfl
  unfold outs
  rw [List.range_succ, List.filter_append]
  cases h2 : outB W H PW PH l[k] <;> simp only [List.filter_cons, List.filter_nil, e, h2, if_true, Bool.false_eq_true, if_false]
def natC (i : Nat) : List Value := [.int .i64 i]
def natP (p : Nat × Nat) : List Value := [.int .i64 p.1, .int .i64 p.2]

theorem turn_pos {W H q : Int} (hw : 1 ≤ W ∧ W ≤ 500000) (hh : 1 ≤ H ∧ H ≤ 500000) : (1 ≤ turnW W H q ∧ turnW W H q ≤ 500000) ∧ (1 ≤ turnH W H q ∧ turnH W H q ≤ 500000) := by
  unfold turnW turnH
  split <;> omega
theorem slAr_arB {W H PW PH : Int} {l : List Pl} {s : List Sl} (h : PanOk W H PW PH l s) : ∀ a ∈ s.map (slAr W H), arB a := by
  intro a ha
  obtain ⟨t, ht, rfl⟩ := List.mem_map.mp ha
  obtain ⟨⟨x0, x1⟩, ⟨y0, y1⟩, q0, q1⟩ := h.sl t ht
  obtain ⟨⟨w0, w1⟩, h0, h1⟩ := turn_pos (q := t.q) h.w h.h
  unfold arB slAr
  simp only
  omega

/-- A point that is turned, quarter by quarter, with the rectangle that it is in. -/
def rotN : Nat → Int × Int × Int × Int → Int × Int × Int × Int
  | 0, p => p
  | k + 1, p => rotN k (p.2.2.2 - p.2.1, p.1, p.2.2.2, p.2.2.1)
def rotK (W H x y : Int) : Nat → Int × Int × Int × Int
  | 0 => (x, y, W, H)
  | k + 1 => ((rotK W H x y k).2.2.2 - (rotK W H x y k).2.1, (rotK W H x y k).1, (rotK W H x y k).2.2.2, (rotK W H x y k).2.2.1)
theorem rotK_bd {W H x y : Int} (hw : 1 ≤ W ∧ W ≤ 500000) (hh : 1 ≤ H ∧ H ≤ 500000) (hx : 0 ≤ x ∧ x ≤ W) (hy : 0 ≤ y ∧ y ≤ H) : ∀ k, (0 ≤ (rotK W H x y k).1 ∧ (rotK W H x y k).1 ≤ (rotK W H x y k).2.2.1) ∧ (0 ≤ (rotK W H x y k).2.1 ∧ (rotK W H x y k).2.1 ≤ (rotK W H x y k).2.2.2) ∧ ((rotK W H x y k).2.2.1 ≤ 500000 ∧ (rotK W H x y k).2.2.2 ≤ 500000)
  | 0 => ⟨hx, hy, hw.2, hh.2⟩
  | k + 1 => by
    obtain ⟨a, b, c⟩ := rotK_bd hw hh hx hy k
    simp only [rotK]
    omega
theorem rot_box (W H : Int) (hw : 1 ≤ W) (hh : 1 ≤ H) (q : Nat) (hq : q ≤ 3) (a b : Int) :
    min ((rotK W H 0 0 q).1 + a) ((rotK W H W H q).1 + a) = a ∧ min ((rotK W H 0 0 q).2.1 + b) ((rotK W H W H q).2.1 + b) = b ∧
    max ((rotK W H 0 0 q).1 + a) ((rotK W H W H q).1 + a) = a + turnW W H q ∧ max ((rotK W H 0 0 q).2.1 + b) ((rotK W H W H q).2.1 + b) = b + turnH W H q := by
  have : q = 0 ∨ q = 1 ∨ q = 2 ∨ q = 3 := by omega
  rcases this with rfl | rfl | rfl | rfl <;> simp only [rotK, turnW, turnH] <;> (refine ⟨?_, ?_, ?_, ?_⟩ <;> simp <;> omega)

end Go.Proofs.Ytopnadilfjakiaa
