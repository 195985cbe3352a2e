/-
  The text of a product: plain words.
-/
import Derived.Test.YtiooimfkobjpkaaGreatDoorTxC
import Derived.Lib.ItoaLen
namespace Go.Proofs.YtiooimfkobjpkaaGreatDoor
open Go.RowKit
set_option linter.unusedSimpArgs false
set_option linter.unusedVariables false

def dProduct : ByteArray := ⟨#[112, 114, 111, 100, 117, 99, 116]⟩
def dPlace : ByteArray := ⟨#[112, 108, 97, 99, 101]⟩
def headW (key : ByteArray) (W H : Int) : List ByteArray := [dProduct, key, itB W, itB H]
def placeW (p : Pl) : List ByteArray := [dPlace, p.name, p.part, itB p.x, itB p.y, itB p.q]
/-- The lines of a product. -/
def textL (key : ByteArray) (W H : Int) (l : List Pl) : List ByteArray := lineB (headW key W H) :: l.map (fun p => lineB (placeW p))
/-- The text of a product. -/
def textB (key : ByteArray) (W H : Int) (l : List Pl) : ByteArray := joinB (textL key W H l) dS

theorem bt_size (b : ByteArray) : (bt b).length = b.size := rfl
theorem ba_eq {a b : ByteArray} (h : bt a = bt b) : a = b := bt_inj h
theorem join_flat (xs : List (List UInt8)) : Lib.join xs [] = xs.flatten := by
  cases xs with
  | nil => rfl
  | cons x r =>
    rw [Lib.join_cons]
    have : Lib.joinTail [] r = r.flatten := by
      unfold Lib.joinTail
      congr 1
      induction r with
      | nil => rfl
      | cons a r ih => rw [List.map_cons, ih]; rfl
    rw [this]; rfl
theorem bt_joinB (ws : List ByteArray) (sep : ByteArray) : bt (joinB ws sep) = Lib.join (ws.map bt) (bt sep) := by simp [joinB, bt]
theorem bt_append (a b : ByteArray) : bt (a ++ b) = bt a ++ bt b := by
  show (a ++ b).data.toList = a.data.toList ++ b.data.toList
  simp [ByteArray.data_append]
theorem size_append (a b : ByteArray) : (a ++ b).size = a.size + b.size := by
  rw [← bt_size, bt_append, List.length_append]; rfl
theorem joinB_snoc (ws : List ByteArray) (x : ByteArray) : joinB (ws ++ [x]) dS = joinB ws dS ++ x := by
  apply ba_eq
  rw [bt_append, bt_joinB, bt_joinB, show bt dS = [] from rfl, join_flat, join_flat, List.map_append, List.flatten_append]
  simp
theorem joinB_size (ws : List ByteArray) : (joinB ws dS).size = (ws.map ByteArray.size).sum := by
  rw [← bt_size, bt_joinB, show bt dS = [] from rfl, join_flat, List.length_flatten, List.map_map]
  rfl
theorem sum_le (l : List Nat) (b : Nat) (h : ∀ x ∈ l, x ≤ b) : l.sum ≤ l.length * b := by
  induction l with
  | nil => simp
  | cons x l ih =>
    have h1 := h x (List.mem_cons_self)
    have h2 := ih (fun y hy => h y (List.mem_cons_of_mem _ hy))
    rw [List.sum_cons, List.length_cons, Nat.add_mul]
    omega
theorem itB_size {n : Int} (h0 : -9223372036854775808 ≤ n) (h1 : n ≤ 9223372036854775807) : (itB n).size ≤ 21 := by
  have := Lib.itoa_length_le n h0 h1
  rw [← bt_size, show bt (itB n) = Lib.itoa n by simp [itB, bt]]
  exact this
theorem keyB_size {s : ByteArray} (h : keyB s = true) : s.size ≤ 40 := by
  unfold keyB at h
  show s.data.toList.length ≤ 40
  cases e : s.data.toList with
  | nil => simp
  | cons b l =>
    rw [e] at h
    simp only [keyL, Bool.and_eq_true, decide_eq_true_eq] at h
    exact h.1.1
theorem line4 (a b c d : ByteArray) : lineB [a, b, c, d] = a ++ ⟨#[32]⟩ ++ b ++ ⟨#[32]⟩ ++ c ++ ⟨#[32]⟩ ++ d ++ ⟨#[10]⟩ := by
  apply ba_eq
  unfold lineB
  simp only [bt_append, bt_joinB, List.map_cons, List.map_nil, Lib.join_cons, Lib.joinTail, List.flatten_cons, List.flatten_nil, List.append_assoc, List.append_nil]
theorem line6 (a b c d e f : ByteArray) : lineB [a, b, c, d, e, f] = a ++ ⟨#[32]⟩ ++ b ++ ⟨#[32]⟩ ++ c ++ ⟨#[32]⟩ ++ d ++ ⟨#[32]⟩ ++ e ++ ⟨#[32]⟩ ++ f ++ ⟨#[10]⟩ := by
  apply ba_eq
  unfold lineB
  simp only [bt_append, bt_joinB, List.map_cons, List.map_nil, Lib.join_cons, Lib.joinTail, List.flatten_cons, List.flatten_nil, List.append_assoc, List.append_nil]
/-- What a right product's numbers and words are bounded by. -/
structure PlFit (p : Pl) : Prop where
  name : p.name.size ≤ 40
  part : p.part.size ≤ 40
  x0 : 0 ≤ p.x
  x1 : p.x ≤ 500000
  y0 : 0 ≤ p.y
  y1 : p.y ≤ 500000
  q0 : 0 ≤ p.q
  q1 : p.q ≤ 3
theorem plErr_fit {W H : Int} (hW : W ≤ 500000) (hH : H ≤ 500000) : ∀ (l : List Pl) (prev : Option ByteArray), plErr W H l prev = 0 → ∀ p ∈ l, PlFit p := by
  intro l
  induction l with
  | nil => intro _ _ p hp; cases hp
  | cons a l ih =>
    intro prev h p hp
    simp only [plErr] at h
    split at h
    · cases h
    rename_i h1
    split at h
    · cases h
    split at h
    · cases h
    rename_i h3
    rcases List.mem_cons.mp hp with rfl | hp
    · simp only [Bool.not_eq_false, Bool.and_eq_true] at h1
      simp only [Bool.not_eq_false, plOk, inR, Bool.and_eq_true, decide_eq_true_eq] at h3
      exact ⟨keyB_size h1.1, keyB_size h1.2, h3.1.1.1, by omega, h3.1.2.1, by omega, h3.2.1, h3.2.2⟩
    · exact ih _ h p hp
structure PrFit (key : ByteArray) (W H : Int) (l : List Pl) : Prop where
  key : key.size ≤ 40
  w0 : 1 ≤ W
  w1 : W ≤ 500000
  h0 : 1 ≤ H
  h1 : H ≤ 500000
  len : l.length ≤ 1000
  pls : ∀ p ∈ l, PlFit p
theorem prodErr_fit {key : ByteArray} {W H : Int} {l : List Pl} (h : prodErr key W H l = 0) : PrFit key W H l := by
  unfold prodErr at h
  split at h
  · cases h
  rename_i h1
  split at h
  · cases h
  rename_i h2
  split at h
  · cases h
  rename_i h3
  simp only [Bool.not_eq_false, inR, Bool.and_eq_true, decide_eq_true_eq] at h1 h2
  exact ⟨keyB_size h1, h2.1.1, h2.1.2, h2.2.1, h2.2.2, by omega, plErr_fit h2.1.2 h2.2.2 l _ h⟩
theorem headLine_size {key : ByteArray} {W H : Int} {l : List Pl} (h : PrFit key W H l) : (lineB (headW key W H)).size ≤ 93 := by
  have h1 := itB_size (n := W) (by have := h.w0; omega) (by have := h.w1; omega)
  have h2 := itB_size (n := H) (by have := h.h0; omega) (by have := h.h1; omega)
  have h3 := h.key
  unfold headW
  rw [line4]
  simp only [size_append]
  have e1 : dProduct.size = 7 := rfl
  have e2 : (⟨#[32]⟩ : ByteArray).size = 1 := rfl
  have e3 : (⟨#[10]⟩ : ByteArray).size = 1 := rfl
  omega
theorem placeLine_size {p : Pl} (h : PlFit p) : (lineB (placeW p)).size ≤ 154 := by
  obtain ⟨h1, h2, x0, x1, y0, y1, q0, q1⟩ := h
  have i1 := itB_size (n := p.x) (by omega) (by omega)
  have i2 := itB_size (n := p.y) (by omega) (by omega)
  have i3 := itB_size (n := p.q) (by omega) (by omega)
  unfold placeW
  rw [line6]
  simp only [size_append]
  have e1 : dPlace.size = 5 := rfl
  have e2 : (⟨#[32]⟩ : ByteArray).size = 1 := rfl
  have e3 : (⟨#[10]⟩ : ByteArray).size = 1 := rfl
  omega
theorem text_size {key : ByteArray} {W H : Int} {l : List Pl} (h : PrFit key W H l) : (textB key W H l).size ≤ 200000 := by
  unfold textB textL
  rw [joinB_size, List.map_cons, List.sum_cons, List.map_map]
  have h1 := headLine_size h
  have h2 := sum_le (l.map (ByteArray.size ∘ fun p => lineB (placeW p))) 154 (by
    intro x hx
    obtain ⟨p, hp, rfl⟩ := List.mem_map.mp hx
    exact placeLine_size (h.pls p hp))
  rw [List.length_map] at h2
  have h3 := h.len
  have : l.length * 154 ≤ 1000 * 154 := Nat.mul_le_mul_right _ h3
  omega
/-- The text so far. -/
def textK (key : ByteArray) (W H : Int) (l : List Pl) (k : Nat) : ByteArray := textB key W H (l.take k)
theorem textK_zero (key : ByteArray) (W H : Int) (l : List Pl) : textK key W H l 0 = lineB (headW key W H) := by
  unfold textK textB textL
  apply ba_eq
  rw [bt_joinB, show bt dS = [] from rfl, join_flat]
  simp
theorem textK_succ (key : ByteArray) (W H : Int) (l : List Pl) {k : Nat} (hk : k < l.length) : textK key W H l (k + 1) = textK key W H l k ++ lineB (placeW l[k]) := by
  unfold textK textB textL
  rw [List.take_add_one, List.getElem?_eq_getElem hk, Option.toList_some, List.map_append, List.map_cons, List.map_nil, ← List.cons_append, joinB_snoc]
theorem textK_all (key : ByteArray) (W H : Int) (l : List Pl) : textK key W H l l.length = textB key W H l := by
  unfold textK
  rw [List.take_of_length_le (Nat.le_refl _)]
theorem head_ref (key : ByteArray) (W H : Int) : (⟨#[112, 114, 111, 100, 117, 99, 116, 32]⟩ : ByteArray) ++ key ++ ⟨#[32]⟩ ++ joinB [itB W, itB H] ⟨#[32]⟩ ++ ⟨#[10]⟩ = lineB (headW key W H) := by
  unfold headW
  rw [line4]
  apply ba_eq
  simp only [bt_append, bt_joinB, List.map_cons, List.map_nil, Lib.join_cons, Lib.joinTail, List.flatten_cons, List.flatten_nil, List.append_assoc, List.append_nil]
  rfl
theorem place_ref (p : Pl) : (⟨#[112, 108, 97, 99, 101, 32]⟩ : ByteArray) ++ p.name ++ ⟨#[32]⟩ ++ p.part ++ ⟨#[32]⟩ ++ joinB [itB p.x, itB p.y, itB p.q] ⟨#[32]⟩ ++ ⟨#[10]⟩ = lineB (placeW p) := by
  unfold placeW
  rw [line6]
  apply ba_eq
  simp only [bt_append, bt_joinB, List.map_cons, List.map_nil, Lib.join_cons, Lib.joinTail, List.flatten_cons, List.flatten_nil, List.append_assoc, List.append_nil]
  rfl
end Go.Proofs.YtiooimfkobjpkaaGreatDoor
