/-
  Catalogues: their texts, in plain words.
-/
import Derived.Test.YtiooimfkobjpkaaGreatDoorTcS
import Derived.Test.YtiooimfkobjpkaaGreatDoorTxN
namespace Go.Proofs.YtiooimfkobjpkaaGreatDoor
open Go.RowKit
set_option linter.unusedSimpArgs false
set_option linter.unusedVariables false

def dPart : ByteArray := ⟨#[112, 97, 114, 116]⟩
def dUse : ByteArray := ⟨#[117, 115, 101]⟩
def dBoth : ByteArray := ⟨#[98, 111, 116, 104]⟩
def dFor : ByteArray := ⟨#[102, 111, 114]⟩
def wayB (b : Bool) : ByteArray := match b with | true => dBoth | false => dUse
def partW (p : Pa) : List ByteArray := [dPart, p.key, p.pk, itB p.lv, itB p.bk]
def altW (a : Al) : List ByteArray := [wayB a.both, a.by_, dFor, a.par]
/-- The lines of a catalogue. -/
def catL (l : List Pa) (al : List Al) : List ByteArray := l.map (fun p => lineB (partW p)) ++ al.map (fun a => lineB (altW a))
/-- The text of a catalogue. -/
def catB (l : List Pa) (al : List Al) : ByteArray := joinB (catL l al) dS
theorem line5 (a b c d e : ByteArray) : lineB [a, b, c, d, e] = a ++ ⟨#[32]⟩ ++ b ++ ⟨#[32]⟩ ++ c ++ ⟨#[32]⟩ ++ d ++ ⟨#[32]⟩ ++ e ++ ⟨#[10]⟩ := by
  apply ba_eq
  unfold lineB
  simp only [bt_append, bt_joinB, List.map_cons, List.map_nil, Lib.join_cons, Lib.joinTail, List.flatten_cons, List.flatten_nil, List.append_assoc, List.append_nil]
theorem catL_part (l : List Pa) {k : Nat} (hk : k < l.length) : catL (l.take (k + 1)) [] = catL (l.take k) [] ++ [lineB (partW l[k])] := by
  unfold catL
  rw [← List.take_append_getElem hk, List.map_append]
  simp only [List.map_cons, List.map_nil, List.append_nil, List.append_assoc]
theorem catL_alt (l : List Pa) (al : List Al) {k : Nat} (hk : k < al.length) : catL l (al.take (k + 1)) = catL l (al.take k) ++ [lineB (altW al[k])] := by
  unfold catL
  rw [← List.take_append_getElem hk, List.map_append]
  simp only [List.map_cons, List.map_nil, List.append_nil, List.append_assoc]
theorem catB_part (l : List Pa) {k : Nat} (hk : k < l.length) : catB (l.take (k + 1)) [] = catB (l.take k) [] ++ lineB (partW l[k]) := by
  unfold catB
  rw [catL_part l hk, joinB_snoc]
theorem catB_alt (l : List Pa) (al : List Al) {k : Nat} (hk : k < al.length) : catB l (al.take (k + 1)) = catB l (al.take k) ++ lineB (altW al[k]) := by
  unfold catB
  rw [catL_alt l al hk, joinB_snoc]
theorem catB_nil : catB [] [] = dS := by
  unfold catB catL
  apply ba_eq
  rw [bt_joinB, show bt dS = [] from rfl, join_flat]
  simp

/-! ### Catalogues without a fault -/
structure PaFit (p : Pa) : Prop where
  key : p.key.size ≤ 40
  pk : p.pk.size ≤ 40
  lv : 1 ≤ p.lv ∧ p.lv ≤ 6
  bk : 0 ≤ p.bk ∧ p.bk ≤ 720000000
def AlFit (a : Al) : Prop := a.par.size ≤ 40 ∧ a.by_.size ≤ 40
theorem paE_fit {p : Pa} (h : paE p = 0) : PaFit p := by
  unfold paE at h
  split at h
  · cases h
  rename_i h1
  split at h
  · cases h
  rename_i h2
  simp only [Bool.not_eq_false, Bool.and_eq_true] at h1 h2
  unfold inR at h2
  simp only [Bool.and_eq_true, decide_eq_true_eq] at h2
  exact ⟨keyB_size h1.1, keyB_size h1.2, h2.1, h2.2⟩
theorem partsE_fit : ∀ (l : List Pa) (prev : Option ByteArray), partsE prev l = 0 → ∀ p ∈ l, PaFit p
  | [], _, _, _, hp => by cases hp
  | q :: r, prev, h, p, hp => by
    unfold partsE at h
    by_cases h1 : paE q = 0
    · rw [if_pos h1] at h
      have h2 : partsE (some q.key) r = 0 := by
        cases prev
        · exact h
        · dsimp only at h
          split at h
          · exact absurd h (by decide)
          · exact h
      rcases List.mem_cons.mp hp with rfl | hp
      · exact paE_fit h1
      · exact partsE_fit r _ h2 p hp
    · rw [if_neg h1] at h
      exact absurd h h1
theorem hasK_size {l : List Pa} (hl : ∀ p ∈ l, PaFit p) {s : ByteArray} (h : hasK l s = true) : s.size ≤ 40 := by
  have h1 := of_decide_eq_true h
  obtain ⟨p, hp, e⟩ := List.mem_map.mp h1
  have h2 := (hl p hp).key
  have h3 : s.data.toList.length ≤ 40 := by
    rw [← e]
    exact h2
  exact h3
theorem altsE_fit {l : List Pa} (hl : ∀ p ∈ l, PaFit p) : ∀ (al : List Al) (prev : Option Al), altsE l prev al = 0 → ∀ a ∈ al, AlFit a
  | [], _, _, _, hp => by cases hp
  | q :: r, prev, h, a, hp => by
    unfold altsE at h
    split at h
    · cases h
    rename_i h1
    split at h
    · cases h
    have h2 : altsE l (some q) r = 0 := by
      cases prev
      · exact h
      · dsimp only at h
        split at h
        · exact absurd h (by decide)
        · exact h
    simp only [Bool.not_eq_false, Bool.and_eq_true] at h1
    rcases List.mem_cons.mp hp with rfl | hp
    · exact ⟨hasK_size hl h1.1, hasK_size hl h1.2⟩
    · exact altsE_fit hl r _ h2 a hp
theorem thenE_zero {e r : Int} (h : thenE e r = 0) : e = 0 ∧ r = 0 := by
  unfold thenE at h
  split at h
  · rename_i h1
    exact ⟨h1, h⟩
  · rename_i h1
    exact absurd h h1
theorem catErr_fit {l : List Pa} {al : List Al} (h : catErr l al = 0) : (∀ p ∈ l, PaFit p) ∧ ∀ a ∈ al, AlFit a := by
  obtain ⟨h1, h2⟩ := thenE_zero h
  obtain ⟨h3, _⟩ := thenE_zero h2
  unfold paErrs at h1
  unfold altsErr at h3
  split at h1
  · cases h1
  split at h3
  · cases h3
  have hp := partsE_fit l _ h1
  exact ⟨hp, altsE_fit hp al _ h3⟩

/-! ### Sizes -/
theorem wayB_size (b : Bool) : (wayB b).size ≤ 4 := by cases b <;> decide
theorem partLine_size {p : Pa} (h : PaFit p) : (lineB (partW p)).size ≤ 131 := by
  have i1 := itB_size (n := p.lv) (by have := h.lv; omega) (by have := h.lv; omega)
  have i2 := itB_size (n := p.bk) (by have := h.bk; omega) (by have := h.bk; omega)
  have h1 := h.key
  have h2 := h.pk
  unfold partW
  rw [line5]
  simp only [size_append]
  have e1 : dPart.size = 4 := rfl
  have e2 : (⟨#[32]⟩ : ByteArray).size = 1 := rfl
  have e3 : (⟨#[10]⟩ : ByteArray).size = 1 := rfl
  omega
theorem altLine_size {a : Al} (h : AlFit a) : (lineB (altW a)).size ≤ 91 := by
  have i1 := wayB_size a.both
  have h1 := h.1
  have h2 := h.2
  unfold altW
  rw [line4]
  simp only [size_append]
  have e1 : dFor.size = 3 := rfl
  have e2 : (⟨#[32]⟩ : ByteArray).size = 1 := rfl
  have e3 : (⟨#[10]⟩ : ByteArray).size = 1 := rfl
  omega
theorem catB_size {l : List Pa} {al : List Al} (h1 : ∀ p ∈ l, PaFit p) (h2 : ∀ a ∈ al, AlFit a) : (catB l al).size ≤ l.length * 131 + al.length * 91 := by
  unfold catB catL
  rw [joinB_size, List.map_append, List.sum_append, List.map_map, List.map_map]
  have e1 := sum_le (l.map (ByteArray.size ∘ fun p => lineB (partW p))) 131 (by
    intro x hx
    obtain ⟨p, hp, rfl⟩ := List.mem_map.mp hx
    exact partLine_size (h1 p hp))
  have e2 := sum_le (al.map (ByteArray.size ∘ fun a => lineB (altW a))) 91 (by
    intro x hx
    obtain ⟨p, hp, rfl⟩ := List.mem_map.mp hx
    exact altLine_size (h2 p hp))
  rw [List.length_map] at e1 e2
  omega
end Go.Proofs.YtiooimfkobjpkaaGreatDoor
