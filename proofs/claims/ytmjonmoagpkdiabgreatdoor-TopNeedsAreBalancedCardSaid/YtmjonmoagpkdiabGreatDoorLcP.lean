/-
  The maker of machines: words for it.
-/
import Derived.Test.YtmjonmoagpkdiabGreatDoorLcO
import Derived.Test.YtmjonmoagpkdiabGreatDoorLnS
import Derived.Test.YtmjonmoagpkdiabGreatDoorApK
namespace Go.Proofs.YtmjonmoagpkdiabGreatDoor
open Go.RowKit
set_option linter.unusedSimpArgs false
set_option linter.unusedVariables false

theorem mach_info : (Tryz.prog.info? 38).map (fun i => (i.zero, i.size, i.bytes)) = some (some (.agg #[.string ⟨#[]⟩, .int .i64 0, .int .i64 0, .int .i64 0, .slice none 0 0]), 5, 64) := by kernel_rfl
def encMv (x : Mc × Value) : List Value := [.string x.1.key, .int .i64 x.1.each, .int .i64 x.1.fixed, .int .i64 x.1.feed, x.2]
/-- The parts of a machine, in a row of their own. -/
def CanAt (base : Nat) (x : Mc × Value) (W : World) : Prop := x.1.can.length ≤ 6 ∧ W.ownsRow base 9 1 x.2 x.1.can.length (x.1.can.map Value.string)
theorem own_blkc {w : World} {b : Nat} {e : TypeId} {s n : Nat} {v : Value} {xs : List Value} (h : w.ownsRow b e s v n xs) {j : Nat} (hj : v.ownBlock = some j) : ∃ cur, w.heap[j]? = some (.cells cur e (0, 0)) := by
  rcases h.2 with ⟨rfl, _⟩ | ⟨g, cap, cur, rfl, hb, hc, _⟩
  · simp [Value.ownBlock] at hj
  · simp [Value.ownBlock] at hj
    subst hj
    exact ⟨cur, hc⟩
/-- Rows of different types share no block. -/
theorem own_apartM {w : World} {b b' : Nat} {e e' : TypeId} {s s' n n' : Nat} {v v' : Value} {xs xs' : List Value} (h : w.ownsRow b e s v n xs) (h' : w.ownsRow b' e' s' v' n' xs') (he : e ≠ e') {j : Nat} (h1 : v.ownBlock = some j) : v'.ownBlock ≠ some j := by
  intro h2
  obtain ⟨c1, k1⟩ := own_blkc h h1
  obtain ⟨c2, k2⟩ := own_blkc h' h2
  rw [k1] at k2
  injection k2 with k2
  injection k2 with _ k3 _
  exact he k3
theorem own_sameO {w w' : World} {base : Nat} {e : TypeId} {size n : Nat} {v : Value} {xs : List Value} (h : w.ownsRow base e size v n xs) (hk : ∀ j, v.ownBlock = some j → w'.heap[j]? = w.heap[j]?) : w'.ownsRow base e size v n xs := by
  refine ⟨h.1, h.2.imp_right ?_⟩
  rintro ⟨g, cap, cur, rfl, hb, hc, rest⟩
  exact ⟨g, cap, cur, rfl, hb, (hk g rfl).trans hc, rest⟩
structure MM (w : World) (sb b : Nat) (v : Value) (us : List (Mc × Value)) (W : World) : Prop where
  tk : Took sb b w W
  row : W.ownsRow w.heap.size 38 5 v us.length (us.flatMap encMv)
  cans : ∀ x ∈ us, CanAt w.heap.size x W
  apart : us.Pairwise fun x y => ∀ a, x.2.ownBlock = some a → y.2.ownBlock ≠ some a
theorem MM.took {w : World} {sb b b' : Nat} {v : Value} {us : List (Mc × Value)} {W W' : World} (h : MM w sb b v us W) (ht : Took sb b' W W') (hs : sb < w.heap.size) : MM w sb b' v us W' :=
  ⟨h.tk.trans ht, kept_own h.row ht.2 hs, fun x hx => ⟨(h.cans x hx).1, kept_own (h.cans x hx).2 ht.2 hs⟩, h.apart⟩
theorem MM.more {w : World} {sb b b' : Nat} {v : Value} {us : List (Mc × Value)} {W : World} (h : MM w sb b v us W) (hb : b ≤ b') : MM w sb b' v us W := ⟨h.tk.more hb, h.row, h.cans, h.apart⟩
theorem MM.alloc {w : World} {sb b : Nat} {v : Value} {us : List (Mc × Value)} {W : World} (h : MM w sb b v us W) (o : Obj) : MM w sb b v us (W.alloc o) :=
  ⟨h.tk.alloc o, h.row.alloc o, fun x hx => ⟨(h.cans x hx).1, (h.cans x hx).2.alloc o⟩, h.apart⟩
/-- A machine that is being made: its cells, the names of parts, the parts so far. -/
structure MI (w : World) (sb b : Nat) (v : Value) (us : List (Mc × Value)) (p : Nat) (key : ByteArray) (each fixed feed : Int) (vc : Value) (l : List ByteArray) (W : World) : Prop where
  mm : MM w sb b v us W
  box : W.heap[p]? = some (.cells #[.string key, .int .i64 each, .int .i64 fixed, .int .i64 feed, vc] 38 (0, 0))
  lit : W.heap[p + 1]? = some (.cells #[.string ⟨#[97]⟩, .string ⟨#[98]⟩, .string ⟨#[99]⟩, .string ⟨#[100]⟩, .string ⟨#[101]⟩] 9 (0, 0))
  can : W.ownsRow (p + 2) 9 1 vc l.length (l.map Value.string)
  new : w.heap.size ≤ p
  oldr : ∀ j, v.ownBlock = some j → j < p
  olds : ∀ x ∈ us, ∀ j, x.2.ownBlock = some j → j < p
theorem MI.took {w : World} {sb b b' : Nat} {v : Value} {us : List (Mc × Value)} {p : Nat} {key : ByteArray} {each fixed feed : Int} {vc : Value} {l : List ByteArray} {W W' : World} (h : MI w sb b v us p key each fixed feed vc l W) (ht : Took sb b' W W') (hs : sb < w.heap.size) : MI w sb b' v us p key each fixed feed vc l W' := by
  have := h.new
  exact ⟨h.mm.took ht hs, ht.blk h.box (by omega), ht.blk h.lit (by omega), kept_own h.can ht.2 (by omega), h.new, h.oldr, h.olds⟩
/-- A part is appended. -/
theorem MI.push {w : World} {sb b : Nat} {v : Value} {us : List (Mc × Value)} {p : Nat} {key : ByteArray} {each fixed feed : Int} {vc vc' : Value} {l : List ByteArray} {s : ByteArray} {W W' : World} (h : MI w sb b v us p key each fixed feed vc l W) (hs : sb < w.heap.size)
    (hown : W'.ownsRow (p + 2) 9 1 vc' (l.length + 1) (l.map Value.string ++ [.string s])) (hg : W.grownBy W' vc.ownBlock) : MI w sb b v us p key each fixed feed vc' (l ++ [s]) (W'.setCell ⟨p, 4, none⟩ vc') := by
  have hn := h.new
  have hcr := own_row h.can
  have hp := lt_of_blk h.box
  have hp1 := lt_of_blk h.lit
  have low : ∀ j, j < p + 2 → W'.heap[j]? = W.heap[j]? := fun j hj => hg.block j (by omega) (fun e => by have := hcr j e.symm; omega)
  have low2 : ∀ j, j < p + 2 → j ≠ p → (W'.setCell ⟨p, 4, none⟩ vc').heap[j]? = W.heap[j]? := fun j hj hne => (Below.heap_setCell W' _ _ j hne).trans (low j hj)
  refine ⟨⟨(h.mm.tk.grown hs hg (fun j e => by have := hcr j e; omega)).setCell hn hs _, own_sameO h.mm.row (fun j hj => low2 j (by have := h.oldr j hj; omega) (by have := h.oldr j hj; omega)), fun x hx => ⟨(h.mm.cans x hx).1, own_sameO (h.mm.cans x hx).2 (fun j hj => low2 j (by have := h.olds x hx j hj; omega) (by have := h.olds x hx j hj; omega))⟩, h.mm.apart⟩, ?_, ?_, ?_, hn, h.oldr, h.olds⟩
  · exact blk_set ((low p (by omega)).trans h.box) _
  · exact (low2 (p + 1) (by omega) (by omega)).trans h.lit
  · have := own_far hown (p := ⟨p, 4, none⟩) (by show p < p + 2; omega) vc'
    rw [List.length_append, List.map_append]
    exact this
/-- The machine is appended to the others. -/
theorem MI.done {w : World} {sb b : Nat} {v v' : Value} {us : List (Mc × Value)} {p : Nat} {key : ByteArray} {each fixed feed : Int} {vc : Value} {l : List ByteArray} {W W' : World} (h : MI w sb b v us p key each fixed feed vc l W) (hs : sb < w.heap.size) (hl : l.length ≤ 6)
    (hown : W'.ownsRow w.heap.size 38 5 v' (us.length + 1) (us.flatMap encMv ++ encMv (⟨key, each, fixed, feed, l⟩, vc))) (hg : W.grownBy W' v.ownBlock) : MM w sb b v' (us ++ [(⟨key, each, fixed, feed, l⟩, vc)]) W' := by
  have hn := h.new
  have hcr := own_row h.can
  refine ⟨h.mm.tk.grown hs hg (fun j e => own_row h.mm.row j e), ?_, ?_, ?_⟩
  · rw [List.length_append, List.flatMap_append]
    simpa using hown
  · intro x hx
    rcases List.mem_append.mp hx with hx | hx
    · exact ⟨(h.mm.cans x hx).1, own_sameO (h.mm.cans x hx).2 (fun j hj => hg.block j (own_lt (h.mm.cans x hx).2 j hj) (fun e => own_apartM (h.mm.cans x hx).2 h.mm.row (by decide) hj e.symm))⟩
    · simp only [List.mem_singleton] at hx
      subst hx
      refine ⟨hl, own_mono (own_sameO h.can (fun j hj => hg.block j (own_lt h.can j hj) (fun e => ?_))) (by omega)⟩
      have := h.oldr j e.symm
      have := hcr j hj
      omega
  · rw [List.pairwise_append]
    refine ⟨h.mm.apart, by simp, fun x hx y hy a ha hy2 => ?_⟩
    simp only [List.mem_singleton] at hy
    subst hy
    have := h.olds x hx a ha
    have := hcr a hy2
    omega
/-- All blocks but the stream's, and perhaps one row's, stand as they stood. -/
structure KG (sb : Nat) (row : Option Nat) (a w : World) : Prop where
  outer : w.os = a.os ∧ w.tape = a.tape ∧ w.output = a.output
  more : a.heap.size ≤ w.heap.size
  old : ∀ i, i < a.heap.size → i ≠ sb → row ≠ some i → w.heap[i]? = a.heap[i]?
theorem KG.refl (sb : Nat) (row : Option Nat) (a : World) : KG sb row a a := ⟨⟨rfl, rfl, rfl⟩, Nat.le_refl _, fun _ _ _ _ => rfl⟩
theorem KG.trans {sb : Nat} {row : Option Nat} {a b w : World} (h : KG sb row a b) (k : KG sb row b w) : KG sb row a w := by
  obtain ⟨x, y, z⟩ := h.outer
  obtain ⟨x', y', z'⟩ := k.outer
  have := h.more
  exact ⟨⟨x'.trans x, y'.trans y, z'.trans z⟩, Nat.le_trans h.more k.more, fun i hi h1 h2 => (k.old i (by omega) h1 h2).trans (h.old i hi h1 h2)⟩
theorem KG.of_kept {sb : Nat} {row : Option Nat} {a w : World} (h : Kept sb a w) : KG sb row a w := ⟨h.outer, h.more, fun i hi h1 _ => h.old i hi h1⟩
theorem KG.of_grown {sb : Nat} {row : Option Nat} {a w : World} (h : a.grownBy w row) : KG sb row a w := ⟨⟨h.os, h.tape, h.output⟩, h.size, fun i hi _ h2 => h.block i hi (fun e => h2 e.symm)⟩
theorem KG.blk {sb : Nat} {row : Option Nat} {a w : World} (h : KG sb row a w) {i : Nat} {o : Obj} (hg : a.heap[i]? = some o) (h1 : i ≠ sb) (h2 : row ≠ some i) : w.heap[i]? = some o := (h.old _ (lt_of_blk hg) h1 h2).trans hg
theorem kept_ofG {sb : Nat} {row : Option Nat} {a b c : World} (h : Kept sb a b) (k : KG sb row b c) (hr : ∀ i, row = some i → a.heap.size ≤ i) : Kept sb a c := by
  have := h.more
  obtain ⟨x, y, z⟩ := h.outer
  obtain ⟨x', y', z'⟩ := k.outer
  exact ⟨⟨x'.trans x, y'.trans y, z'.trans z⟩, Nat.le_trans h.more k.more, fun i hi hne => (k.old i (by omega) hne (fun e => by have := hr i e; omega)).trans (h.old i hi hne)⟩
/-- As CanAt, with room for one part more. -/
def Can7 (base : Nat) (x : Mc × Value) (W : World) : Prop := x.1.can.length ≤ 7 ∧ W.ownsRow base 9 1 x.2 x.1.can.length (x.1.can.map Value.string)
theorem CanAt.seven {base : Nat} {x : Mc × Value} {W : World} (h : CanAt base x W) : Can7 base x W := ⟨by have := h.1; omega, h.2⟩
theorem StrSl.grown {B0 n : Nat} {row : Option Nat} {v : Value} {u u' : World} (h : StrSl B0 n v u) (hg : u.grownBy u' row) (hr : ∀ j, row = some j → j < B0) : StrSl B0 n v u' := by
  obtain ⟨b, xs, h1, h2, h3, h4⟩ := h
  exact ⟨b, xs, h1, h2, h3, (hg.block b (lt_of_blk h4) (fun e => by have := hr b e.symm; omega)).trans h4⟩
theorem IsStream.grown {w w' : World} {sb b : Nat} {row : Option Nat} (h : IsStream w sb b) (hg : w.grownBy w' row) (hr : ∀ j, row = some j → sb < j) : IsStream w' sb b :=
  h.low (fun i hi => hg.block i (by have := h.lt; omega) (fun e => by have := hr i e.symm; omega)) hg.size
end Go.Proofs.YtmjonmoagpkdiabGreatDoor
