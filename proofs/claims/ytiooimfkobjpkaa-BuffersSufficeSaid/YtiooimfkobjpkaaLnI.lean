/-
  The reference's search for buffers: one try.
-/
import Derived.Test.YtiooimfkobjpkaaLnH
namespace Go.Proofs.Ytiooimfkobjpkaa
open Go.RowKit
set_option linter.unusedSimpArgs false
set_option linter.unusedVariables false

set_option maxHeartbeats 2000000 in
theorem end_any (cs l : List Int) (m : Nat) (hcs : CsOk cs) (h1 : 1 ≤ cs.length) (h6 : cs.length ≤ 6) (hb : (l.length : Int) = (cs.length : Int) - 1) (hbs : ∀ x ∈ l, 0 ≤ x ∧ x ≤ 2000) (hm1 : 1 ≤ m) (hm : m ≤ 2000) {hc hbd : Nat} {v1 vl : Value} {w : World} (r1 : Reads encN v1 cs w) (r2 : Reads encN vl l w)
    (kc : w.heap[hc]? = some (.cells #[v1] 22 (0, 0))) (kb : w.heap[hbd]? = some (.cells #[.int .i64 m] 3 (0, 0))) :
    Calls Try.prog 66 #[vl, .pointer (some ⟨hc, 0, none⟩), .pointer (some ⟨hbd, 0, none⟩)] w fun e w' => e = .returned (.int .i64 (lv cs l (m - 1) (cs.length - 1))) ∧ Below w.heap.size w w' := by
  have CL := Lib.hid (leaveOf_any cs l m hcs h1 h6 hb hbs hm r1 r2)
  obtain ⟨A1, c1, rfl, _⟩ := r1
  obtain ⟨A2, c2, rfl, _⟩ := r2
  obtain ⟨d, rfl⟩ : ∃ d, m = d + 1 := ⟨m - 1, by omega⟩
  rw [Nat.add_sub_cancel]
  have HLN : Hid ((leaveL cs l (d + 1))[d]? = some (lv cs l d (cs.length - 1)) ∧ (leaveL cs l (d + 1)).length = d + 1) := by
    refine ⟨?_, leaveL_len _ _ _⟩
    unfold leaveL
    simp
  generalize lv cs l d (cs.length - 1) = P at *
  generalize leaveL cs l (d + 1) = LL at *
  obtain ⟨q0, _, l0⟩ := blk1 kc
  obtain ⟨q1, _, l1⟩ := blk1 kb
  clear hb hbs hcs kc kb
  go_enter Try.func66, Try.ntmps66
  go_wp2_with fail
  refine CL.out.mono ?_
  rintro e w2 ⟨y1, rfl, hy1, b2⟩
  obtain ⟨Ay, cy, rfl, _, hry⟩ := hy1
  have hll : LL.length = d + 1 := HLN.out.2
  rcases hry with rfl | ⟨gl, rfl, _, hrow⟩
  · simp at hll
  have q2 := row_n hrow (k := d) (by omega)
  rw [show LL[d] = P by have := HLN.out.1; rw [List.getElem?_eq_getElem (by omega)] at this; simpa using this] at q2
  have hgl := hrow.1
  have hLL : (LL.length : Int) - 1 = (d : Int) := by omega
  have wk : IntKind.i64.wrap ((LL.length : Int) - 1) = (d : Int) := by rw [IntKind.wrap_i64]; omega
  have i1 : (0 : Int) ≤ (d : Int) := by omega
  have i2 : (d : Int) < (LL.length : Int) := by omega
  have HB := Lib.hid b2
  clear hrow hll b2 CL q0 q1 l0 l1 hLL
  go_wp2_with fail
  go_ret
  exact ⟨rfl, HB.out⟩

/-- The functions, with what they have captured. -/
def endF (hc hbd : Nat) : Value := .func (.func 66) #[] #[.pointer (some ⟨hc, 0, none⟩), .pointer (some ⟨hbd, 0, none⟩)]
def tryF (g1 g2 g3 g4 g5 g6 : Nat) : Value := .func (.func 68) #[] #[.pointer (some ⟨g1, 0, none⟩), .pointer (some ⟨g2, 0, none⟩), .pointer (some ⟨g3, 0, none⟩), .pointer (some ⟨g4, 0, none⟩), .pointer (some ⟨g5, 0, none⟩), .pointer (some ⟨g6, 0, none⟩)]
/-- What the search has captured, in memory. -/
structure EE (cs : List Int) (m n most : Nat) (G : Int) (v1 : Value) (g1 g2 g3 g4 g5 g6 hc hbd : Nat) (W : World) : Prop where
  k1 : W.heap[g1]? = some (.cells #[.int .i64 n] 3 (0, 0))
  k3 : W.heap[g3]? = some (.cells #[endF hc hbd] 92 (0, 0))
  k4 : W.heap[g4]? = some (.cells #[.int .i64 G] 3 (0, 0))
  k5 : W.heap[g5]? = some (.cells #[.int .i64 most] 3 (0, 0))
  k6 : W.heap[g6]? = some (.cells #[tryF g1 g2 g3 g4 g5 g6] 106 (0, 0))
  kc : W.heap[hc]? = some (.cells #[v1] 22 (0, 0))
  kb : W.heap[hbd]? = some (.cells #[.int .i64 m] 3 (0, 0))
  rd : ReadsX g2 v1 cs W
  n1 : g1 ≠ g2
  n3 : g3 ≠ g2
  n4 : g4 ≠ g2
  n5 : g5 ≠ g2
  n6 : g6 ≠ g2
  nc : hc ≠ g2
  nb : hbd ≠ g2
theorem ReadsX.kept {q : Nat} {v : Value} {l : List Int} {W W' : World} (h : ReadsX q v l W) (hk : Kept q W W') : ReadsX q v l W' := by
  obtain ⟨A, c, e, h⟩ := h
  refine ⟨A, c, e, h.imp_right ?_⟩
  rintro ⟨g, e, hq, h⟩
  exact ⟨g, e, hq, Nat.lt_of_lt_of_le h.1 hk.more, fun j x hx => (hk.cell (p := ⟨g, j, none⟩) h.1 hq).trans (h.2 j x hx)⟩
section
variable {cs : List Int} {m n most : Nat} {G : Int} {v1 : Value} {g1 g2 g3 g4 g5 g6 hc hbd : Nat} {W W' : World}
theorem EE.kept (h : EE cs m n most G v1 g1 g2 g3 g4 g5 g6 hc hbd W) (hk : Kept g2 W W') : EE cs m n most G v1 g1 g2 g3 g4 g5 g6 hc hbd W' :=
  ⟨hk.blk h.k1 h.n1, hk.blk h.k3 h.n3, hk.blk h.k4 h.n4, hk.blk h.k5 h.n5, hk.blk h.k6 h.n6, hk.blk h.kc h.nc, hk.blk h.kb h.nb, h.rd.kept hk, h.n1, h.n3, h.n4, h.n5, h.n6, h.nc, h.nb⟩
theorem EE.below (h : EE cs m n most G v1 g1 g2 g3 g4 g5 g6 hc hbd W) (hb : Below W.heap.size W W') : EE cs m n most G v1 g1 g2 g3 g4 g5 g6 hc hbd W' := h.kept (Kept.of_below hb)
end
/-- The best so far, in memory. -/
def BB (q : Nat) (B : List Int) (W : World) : Prop := ∃ A c, W.heap[q]? = some (.cells #[.slice A B.length c] 22 (0, 0)) ∧ ReadsX q (.slice A B.length c) B W
theorem BB.below {q : Nat} {B : List Int} {W W' : World} (h : BB q B W) (hb : Below W.heap.size W W') : BB q B W' := by
  obtain ⟨A, c, h1, h2⟩ := h
  exact ⟨A, c, blk_below hb h1, h2.below hb⟩
/-- Where the search stands: the best one is all zero, or it is the first one, and none has been tried. -/
def Stand (n most : Nat) (B l : List Int) : Prop := B = List.replicate n 0 ∨ (B = List.replicate n (most : Int) ∧ l = List.replicate l.length 0)
theorem Stand.len {n most : Nat} {B l : List Int} (h : Stand n most B l) : B.length = n := by
  rcases h with rfl | ⟨rfl, _⟩ <;> simp
theorem Stand.bd {n most : Nat} {B l : List Int} (hm : most ≤ 3) (h : Stand n most B l) : ∀ x ∈ B, 0 ≤ x ∧ x ≤ 2000 := by
  intro x hx
  rcases h with rfl | ⟨rfl, _⟩
  · have := List.eq_of_mem_replicate hx; omega
  · have := List.eq_of_mem_replicate hx; omega
/-- What the comparisons say. -/
theorem Stand.lt {n most : Nat} {B l : List Int} (h : Stand n most B l) (hl : l.length = n) (hx : ∀ x ∈ l, 0 ≤ x ∧ x ≤ 2000) (hs : sumI l < sumI B) : l = List.replicate n 0 := by
  rcases h with rfl | ⟨rfl, e⟩
  · have := sumI_nonneg l fun x h => (hx x h).1
    rw [sumI_rep] at hs
    simp at hs
    omega
  · rw [e, hl]
theorem Stand.eq {n most : Nat} {B l : List Int} (h : Stand n most B l) (hl : l.length = n) (hx : ∀ x ∈ l, 0 ≤ x ∧ x ≤ 2000) (hs : sumI l = sumI B) : l = B := by
  rcases h with rfl | ⟨rfl, e⟩
  · rw [sumI_rep] at hs
    have := sumI_zero l (fun x h => (hx x h).1) (by simpa using hs)
    rw [this, hl]
  · rw [hl] at e
    rw [e, sumI_rep, sumI_rep] at hs
    rw [e]
    rcases Nat.eq_zero_or_pos n with h0 | h0
    · subst h0; rfl
    · have : (most : Int) = 0 := by
        have h2 : (n : Int) * (most : Int) = 0 := by simpa using hs.symm
        rcases Int.mul_eq_zero.mp h2 with h3 | h3
        · omega
        · exact h3
      rw [this]
theorem Stand.ge {n most : Nat} {B l : List Int} (h : Stand n most B l) (hl : l.length = n) (hs : ¬ sumI l < sumI B) : B = List.replicate n 0 := by
  rcases h with rfl | ⟨rfl, e⟩
  · rfl
  · rw [hl] at e
    rw [e, sumI_rep, sumI_rep] at hs
    rcases Nat.eq_zero_or_pos n with h0 | h0
    · subst h0; rfl
    · have h2 : ¬ (0 : Int) < (n : Int) * (most : Int) := by simpa using hs
      have : (most : Int) = 0 := by
        rcases Nat.eq_zero_or_pos most with h3 | h3
        · omega
        · exact absurd (Int.mul_pos (by omega) (by omega)) h2
      rw [this]
end Go.Proofs.Ytiooimfkobjpkaa
