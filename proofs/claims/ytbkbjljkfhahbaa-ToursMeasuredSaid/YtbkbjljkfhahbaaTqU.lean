/-
  The shortest tour: the reference's walk.
-/
import Derived.Test.YtbkbjljkfhahbaaTqT
import Derived.Test.YtbkbjljkfhahbaaApK
namespace Go.Proofs.Ytbkbjljkfhahbaa
open Go.RowKit
set_option linter.unusedSimpArgs false
set_option linter.unusedVariables false

/-- The function that goes on, with what it has captured. -/
def tryF (n : Nat) : Value := .func (.func 42) #[] #[.pointer (some ⟨n + 3, 0, none⟩), .pointer (some ⟨n, 0, none⟩), .pointer (some ⟨n + 1, 0, none⟩), .pointer (some ⟨n + 2, 0, none⟩), .pointer (some ⟨n + 4, 0, none⟩)]
/-- The least length in memory: -1 for none. -/
def lv (x : Int) : Int := if x = maxI then -1 else x
/-- The state in memory. -/
structure VR (w : World) (s : Int × Int) (pv : Value) (st : List Int × Int) (W : World) : Prop where
  bel : Below w.heap.size w W
  k0 : W.heap[w.heap.size]? = some (.cells #[.int .i64 s.1, .int .i64 s.2] 27 (0, 0))
  k1 : W.heap[w.heap.size + 1]? = some (.cells #[pv] 29 (0, 0))
  kv : W.heap[w.heap.size + 4]? = some (.cells #[tryF w.heap.size] 69 (0, 0))
  kl : W.heap[w.heap.size + 3]? = some (.cells #[.int .i64 (lv st.2)] 3 (0, 0))
  rows : ∃ (A : Option Addr) (c : Nat), W.heap[w.heap.size + 2]? = some (.cells #[.slice A st.1.length c] 22 (0, 0)) ∧ W.ownsRow (w.heap.size + 5) 3 1 (.slice A st.1.length c) st.1.length (st.1.map (Value.int .i64))
  big : w.heap.size + 5 ≤ W.heap.size
theorem VR.below {w : World} {s : Int × Int} {pv : Value} {st : List Int × Int} {W W' : World} (h : VR w s pv st W) (hb : Below W.heap.size W W') : VR w s pv st W' := by
  obtain ⟨h1, h2, h3, h4, h5, ⟨A, c, r1, r2⟩, h7⟩ := h
  exact ⟨h1.then_below hb h1.size, blk_below hb h2, blk_below hb h3, blk_below hb h4, blk_below hb h5, ⟨A, c, blk_below hb r1, own_below r2 hb⟩, Nat.le_trans h7 hb.size⟩
/-- An append leaves the rows as they read, and the blocks of one cell. -/
def SA (Z n : Nat) (xs : List Value) (a b : World) : Prop :=
  Below Z a b ∧ (∀ (q : Nat) (x : Value), a.heap[q]? = some (.cells #[x] 3 (0, 0)) → b.heap[q]? = some (.cells #[x] 3 (0, 0))) ∧ ∀ v, a.ownsRow Z 3 1 v n xs → b.ownsRow Z 3 1 v n xs
theorem SA.refl (Z n : Nat) (xs : List Value) (a : World) : SA Z n xs a a := ⟨Below.refl _ _, fun _ _ h => h, fun _ h => h⟩
theorem SA.trans {Z n : Nat} {xs : List Value} {a b c : World} (h : SA Z n xs a b) (k : SA Z n xs b c) : SA Z n xs a c := ⟨h.1.trans k.1, fun q x hq => k.2.1 q x (h.2.1 q x hq), fun v hv => k.2.2 v (h.2.2 v hv)⟩
theorem SA.of_below {Z n : Nat} {xs : List Value} {a b : World} (h : Below a.heap.size a b) (hZ : Z ≤ a.heap.size) : SA Z n xs a b := ⟨h.mono hZ, fun q x hq => blk_below h hq, fun v hv => own_below hv h⟩
theorem SA.append {Z n : Nat} {xs : List Value} {a b : World} {v : Value} (hZ : Z ≤ a.heap.size) (hown : a.ownsRow Z 3 1 v n xs) (hkeep : b.ownsRow Z 3 1 v n xs) (hg : a.grownBy b v.ownBlock) (hn : n = 0 → v = .slice none 0 0) : SA Z n xs a b := by
  refine ⟨(Below.refl _ _).grown hg hZ (own_row hown), fun q x hq => ?_, fun u hu => ?_⟩
  · by_cases e : some q = v.ownBlock
    · rcases hown.2 with ⟨rfl, _⟩ | ⟨g, cap, cur, rfl, _, hk, hnc, _, hs, ht⟩
      · cases e
      · cases e
        rw [hq] at hk
        injection hk with hk
        injection hk with h1 _ _
        subst h1
        rcases hkeep.2 with ⟨h2, _⟩ | ⟨g', cap', cur', h2, _, hk', _, _, hs', ht'⟩
        · cases h2
        · injection h2 with h3 h4 h5
          injection h3 with h3
          injection h3 with h3
          subst h3
          subst h5
          have hc1 : cap = 1 := by simpa using hs.symm
          subst hc1
          have hn1 : n = 1 := by
            rcases Nat.eq_zero_or_pos n with h0 | h0
            · have := hn h0; cases this
            · omega
          subst hn1
          have : cur' = #[x] := by
            have h6 : cur'.toList.take 1 = [x] := by
              rw [show (1 : Nat) = 1 * 1 from rfl, ht', ← ht]
              rfl
            have h7 : cur'.toList.length = 1 := by simpa using hs'
            rw [List.take_of_length_le (by omega)] at h6
            rw [← Array.toArray_toList (xs := cur'), h6]
          rw [hk', this]
    · exact (hg.block q (lt_of_blk hq) e).trans hq
  · by_cases e : u.ownBlock = none ∨ u.ownBlock ≠ v.ownBlock
    · refine hu.kept hg ?_
      rcases e with e | e
      · exact .inl e
      · exact .inr (fun h => e h)
    · have e1 : u.ownBlock = v.ownBlock := Classical.byContradiction fun h => e (.inr h)
      have e2 : u.ownBlock ≠ none := fun h => e (.inl h)
      have : u = v := by
        rcases hu.2 with ⟨rfl, _⟩ | ⟨g, cap, cur, rfl, _, hk, _, _, hs, _⟩
        · exact absurd rfl e2
        · rcases hown.2 with ⟨rfl, _⟩ | ⟨g', cap', cur', rfl, _, hk', _, _, hs', _⟩
          · cases e1
          · cases e1
            rw [hk] at hk'
            injection hk' with hk'
            injection hk' with h1 _ _
            subst h1
            have : cap = cap' := by omega
            rw [this]
      rw [this]
      exact hkeep
end Go.Proofs.Ytbkbjljkfhahbaa
