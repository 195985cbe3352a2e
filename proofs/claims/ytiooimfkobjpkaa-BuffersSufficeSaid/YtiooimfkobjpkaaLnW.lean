/-
  The reference's rows: what they hold, board by board.
-/
import Derived.Test.YtiooimfkobjpkaaLnU
import Derived.Maps.AppendAt
namespace Go.Proofs.Ytiooimfkobjpkaa
open Go.RowKit
set_option linter.unusedSimpArgs false
set_option linter.unusedVariables false

def intsR (f : Nat → Int) (n : Nat) : List Int := (List.range n).map f
theorem intsR_len (f : Nat → Int) (n : Nat) : (intsR f n).length = n := by unfold intsR; simp
theorem intsR_at (f : Nat → Int) {n k : Nat} (hk : k < n) : ((intsR f n).map (Value.int .i64)).toArray[k]? = some (.int .i64 (f k)) := by
  unfold intsR
  simp [hk]
/-- A row that is filled up to machine k, with a value at k. -/
def stR (f : Nat → Int) (n k : Nat) (a : Int) : List Int := (List.range n).map fun j => if j < k then f j else if j = k then a else 0
theorem stR_at (f : Nat → Int) {n k : Nat} (a : Int) (hk : k < n) : ((stR f n k a).map (Value.int .i64)).toArray[k]? = some (.int .i64 a) := by
  unfold stR
  simp [hk]
theorem stR_lt (f : Nat → Int) {n k j : Nat} (a : Int) (hj : j < k) (hk : k ≤ n) : ((stR f n k a).map (Value.int .i64)).toArray[j]? = some (.int .i64 (f j)) := by
  unfold stR
  have : j < n := by omega
  simp [hj, this]
theorem stR_set (f : Nat → Int) {n k : Nat} (a a' : Int) (hk : k < n) : ((stR f n k a).map (Value.int .i64)).toArray.setIfInBounds k (.int .i64 a') = ((stR f n k a').map (Value.int .i64)).toArray := by
  rw [List.setIfInBounds_toArray]
  congr 1
  unfold stR
  refine List.ext_getElem (by simp) fun j h1 h2 => ?_
  rw [List.getElem_set]
  simp only [List.getElem_map, List.getElem_range]
  split
  · rename_i e
    subst e
    simp
  · rename_i e
    by_cases h : j < k
    · rw [if_pos h, if_pos h]
    · rw [if_neg h, if_neg h, if_neg (by omega), if_neg (by omega)]
theorem stR_next (f : Nat → Int) (n k : Nat) : stR f n k (f k) = stR f n (k + 1) 0 := by
  unfold stR
  refine List.map_congr_left fun j _ => ?_
  by_cases h : j < k
  · rw [if_pos h, if_pos (by omega)]
  · by_cases h2 : j = k
    · rw [if_neg h, if_pos h2, if_pos (by omega), h2]
    · rw [if_neg h, if_neg h2, if_neg (by omega)]
      split <;> rfl
theorem stR_zero (f : Nat → Int) (n : Nat) : (stR f n 0 0).map (Value.int .i64) = List.replicate n (.int .i64 0) := by
  unfold stR
  refine List.ext_getElem (by simp) fun j h1 h2 => ?_
  simp
theorem stR_full (f : Nat → Int) (n : Nat) (a : Int) : stR f n n a = intsR f n := by
  unfold stR intsR
  refine List.map_congr_left fun j hj => ?_
  rw [List.mem_range] at hj
  rw [if_pos hj]

/-- Slices of n numbers each. -/
def rowsV (f : Nat → Nat) (n b : Nat) : List Value := (List.range b).map fun c => Value.slice (some ⟨f c, 0, none⟩) n n
theorem rowsV_len (f : Nat → Nat) (n b : Nat) : (rowsV f n b).length = b := by unfold rowsV; simp
theorem rowsV_at (f : Nat → Nat) (n : Nat) {b c : Nat} (hc : c < b) : (rowsV f n b)[c]? = some (.slice (some ⟨f c, 0, none⟩) n n) := by
  unfold rowsV
  simp [hc]
theorem rowsV_snoc (f : Nat → Nat) (n b q : Nat) : rowsV (fun c => if c = b then q else f c) n (b + 1) = rowsV f n b ++ [.slice (some ⟨q, 0, none⟩) n n] := by
  unfold rowsV
  rw [List.range_succ, List.map_append]
  congr 1
  · refine List.map_congr_left fun c hc => ?_
    rw [List.mem_range] at hc
    simp only
    rw [if_neg (by omega)]
  · simp

theorem own_typ {w : World} {base : Nat} {e : TypeId} {size n : Nat} {v : Value} {xs : List Value} (h : w.ownsRow base e size v n xs) : ∀ j, v.ownBlock = some j → ∃ cur, w.heap[j]? = some (.cells cur e (0, 0)) := by
  intro j hj
  rcases h.2 with ⟨rfl, _⟩ | ⟨g, cap, cur, rfl, hb, hc, _⟩
  · simp [Value.ownBlock] at hj
  · simp [Value.ownBlock] at hj
    subst hj
    exact ⟨cur, hc⟩
theorem own_off {w w' : World} {base : Nat} {e : TypeId} {size n : Nat} {v : Value} {xs : List Value} (h : w.ownsRow base e size v n xs) (hk : ∀ j, v.ownBlock = some j → w'.heap[j]? = w.heap[j]?) : w'.ownsRow base e size v n xs := by
  refine ⟨h.1, h.2.imp_right ?_⟩
  rintro ⟨g, cap, cur, rfl, hg, hc, rest⟩
  exact ⟨g, cap, cur, rfl, hg, (hk g rfl).trans hc, rest⟩

/-- Rows of numbers in memory, one for each board. -/
structure Grid (base : Nat) (f : Nat → Nat → Int) (fx : Nat → Nat) (n b : Nat) (v : Value) (W : World) : Prop where
  own : W.ownsRow base 22 1 v b (rowsV fx n b)
  rows : ∀ c, c < b → W.heap[fx c]? = some (.cells ((intsR (f c) n).map (Value.int .i64)).toArray 3 (0, 0))
  far : ∀ c, c < b → base ≤ fx c
section
variable {base : Nat} {f : Nat → Nat → Int} {fx : Nat → Nat} {n b : Nat} {v : Value} {W W' : World}
theorem Grid.below (h : Grid base f fx n b v W) (hb : Below W.heap.size W W') : Grid base f fx n b v W' :=
  ⟨own_below h.own hb, fun c hc => blk_below hb (h.rows c hc), h.far⟩
theorem Grid.set (h : Grid base f fx n b v W) {q : Nat} {cur : Array Value} (hq : W.heap[q]? = some (.cells cur 3 (0, 0))) (hne : ∀ c, c < b → fx c ≠ q) (i : Nat) (u : Value) : Grid base f fx n b v (W.setCell ⟨q, i, none⟩ u) := by
  refine ⟨own_off h.own fun j hj => Below.heap_setCell W _ u j ?_, fun c hc => blk_far (h.rows c hc) (hne c hc) u, h.far⟩
  intro e
  obtain ⟨cur', hc'⟩ := own_typ h.own j hj
  have e : j = q := e
  rw [e, hq] at hc'
  injection hc' with hc'
  injection hc' with _ hc' _
  exact absurd hc' (by decide)
theorem int_off {q : Nat} {cur : Array Value} (hq : W.heap[q]? = some (.cells cur 3 (0, 0))) {u : Option Nat} (hu : ∀ j, u = some j → ∃ cur, W.heap[j]? = some (.cells cur 22 (0, 0))) (hg : W.grownBy W' u) : W'.heap[q]? = some (.cells cur 3 (0, 0)) := by
  refine (hg.block q (lt_of_blk hq) fun e => ?_).trans hq
  obtain ⟨cur', hc'⟩ := hu q e.symm
  rw [hq] at hc'
  injection hc' with hc'
  injection hc' with _ hc' _
  exact absurd hc' (by decide)
theorem Grid.off (h : Grid base f fx n b v W) {u : Option Nat} (hg : W.grownBy W' u) (hu : ∀ j, u = some j → ∃ cur, W.heap[j]? = some (.cells cur 22 (0, 0))) (hd : ∀ j, u = some j → v.ownBlock ≠ some j) : Grid base f fx n b v W' :=
  ⟨own_off h.own fun j hj => hg.block j (own_lt h.own j hj) fun e => hd j e.symm hj, fun c hc => int_off (h.rows c hc) hu hg, h.far⟩
theorem Grid.push (h : Grid base f fx n b v W) {v' : Value} {q : Nat} (hown : W'.ownsRow base 22 1 v' (b + 1) (rowsV fx n b ++ [.slice (some ⟨q, 0, none⟩) n n])) (hg : W.grownBy W' v.ownBlock) (hq : W.heap[q]? = some (.cells ((intsR (f b) n).map (Value.int .i64)).toArray 3 (0, 0))) (hb : base ≤ q) :
    Grid base f (fun c => if c = b then q else fx c) n (b + 1) v' W' := by
  refine ⟨by rw [rowsV_snoc]; exact hown, fun c hc => ?_, fun c hc => ?_⟩
  · show W'.heap[if c = b then q else fx c]? = _
    by_cases e : c = b
    · rw [if_pos e, e]
      exact int_off hq (own_typ h.own) hg
    · rw [if_neg e]
      exact int_off (h.rows c (by omega)) (own_typ h.own) hg
  · show _ ≤ (if c = b then q else fx c)
    by_cases e : c = b
    · rw [if_pos e]; exact hb
    · rw [if_neg e]; exact h.far c (by omega)
/-- What is read of a row of rows. -/
theorem Grid.cell (h : Grid base f fx n b v W) {c : Nat} (hc : c < b) : ∃ g cap, v = .slice (some ⟨g, 0, none⟩) b cap ∧ g < W.heap.size ∧ W.cell? ⟨g, c, none⟩ = some (.slice (some ⟨fx c, 0, none⟩) n n) := by
  obtain ⟨g, cap, hv, hb, hl, hnc, hm, hrd⟩ := own_read h.own (by omega)
  exact ⟨g, cap, hv, hl, hrd c _ (rowsV_at fx n hc)⟩
end

/-- The three rows of rows. -/
structure Mv (wo : World) (cs bs : List Int) (fx fy fz : Nat → Nat) (n b : Nat) (v1 v2 v3 : Value) (W : World) : Prop where
  bel : Below wo.heap.size wo W
  gx : Grid wo.heap.size (cm cs bs) fx n b v1 W
  gy : Grid wo.heap.size (dn cs bs) fy n b v2 W
  gz : Grid wo.heap.size (lv cs bs) fz n b v3 W
  d1 : ∀ j, v1.ownBlock = some j → v2.ownBlock ≠ some j
  d2 : ∀ j, v1.ownBlock = some j → v3.ownBlock ≠ some j
  d3 : ∀ j, v2.ownBlock = some j → v3.ownBlock ≠ some j
section
variable {wo : World} {cs bs : List Int} {fx fy fz : Nat → Nat} {n b : Nat} {v1 v2 v3 : Value} {W W' : World}
theorem Mv.below (h : Mv wo cs bs fx fy fz n b v1 v2 v3 W) (hb : Below W.heap.size W W') : Mv wo cs bs fx fy fz n b v1 v2 v3 W' :=
  ⟨h.bel.then_below hb h.bel.size, h.gx.below hb, h.gy.below hb, h.gz.below hb, h.d1, h.d2, h.d3⟩
theorem Mv.set (h : Mv wo cs bs fx fy fz n b v1 v2 v3 W) {q : Nat} {cur : Array Value} (hq : W.heap[q]? = some (.cells cur 3 (0, 0))) (h0 : wo.heap.size ≤ q) (hne : ∀ c, c < b → fx c ≠ q ∧ fy c ≠ q ∧ fz c ≠ q) (i : Nat) (u : Value) : Mv wo cs bs fx fy fz n b v1 v2 v3 (W.setCell ⟨q, i, none⟩ u) :=
  ⟨h.bel.setCell h0 _, h.gx.set hq (fun c hc => (hne c hc).1) i u, h.gy.set hq (fun c hc => (hne c hc).2.1) i u, h.gz.set hq (fun c hc => (hne c hc).2.2) i u, h.d1, h.d2, h.d3⟩
/-- The rows of a board are appended. -/
theorem Mv.pushX (h : Mv wo cs bs fx fy fz n b v1 v2 v3 W) {v' : Value} {q : Nat} (hown : W'.ownsRow wo.heap.size 22 1 v' (b + 1) (rowsV fx n b ++ [.slice (some ⟨q, 0, none⟩) n n])) (hg : W.grownBy W' v1.ownBlock) (hv : v'.ownBlock = v1.ownBlock ∨ v'.ownBlock = some W.heap.size) (hq : W.heap[q]? = some (.cells ((intsR (cm cs bs b) n).map (Value.int .i64)).toArray 3 (0, 0))) (hb : wo.heap.size ≤ q) :
    Below wo.heap.size wo W' ∧ Grid wo.heap.size (cm cs bs) (fun c => if c = b then q else fx c) n (b + 1) v' W' ∧ Grid wo.heap.size (dn cs bs) fy n b v2 W' ∧ Grid wo.heap.size (lv cs bs) fz n b v3 W' ∧ (∀ j, v'.ownBlock = some j → v2.ownBlock ≠ some j) ∧ (∀ j, v'.ownBlock = some j → v3.ownBlock ≠ some j) := by
  have hz := h.bel.size
  refine ⟨h.bel.grown hg hz (own_row h.gx.own), h.gx.push hown hg hq hb, h.gy.off hg (own_typ h.gx.own) h.d1, h.gz.off hg (own_typ h.gx.own) h.d2, fun j hj e => ?_, fun j hj e => ?_⟩
  · rcases hv with hv | hv
    · exact h.d1 j (hv.symm.trans hj) e
    · rw [hv] at hj
      cases hj
      have := own_lt h.gy.own _ e
      omega
  · rcases hv with hv | hv
    · exact h.d2 j (hv.symm.trans hj) e
    · rw [hv] at hj
      cases hj
      have := own_lt h.gz.own _ e
      omega

/-- A row of a board is being filled. -/
structure Mi (wo : World) (cs bs : List Int) (fx fy fz : Nat → Nat) (n b : Nat) (v1 v2 v3 : Value) (q1 q2 q3 k : Nat) (a1 a2 a3 : Int) (W : World) : Prop where
  mv : Mv wo cs bs fx fy fz n b v1 v2 v3 W
  k1 : W.heap[q1]? = some (.cells ((stR (cm cs bs b) n k a1).map (Value.int .i64)).toArray 3 (0, 0))
  k2 : W.heap[q2]? = some (.cells ((stR (dn cs bs b) n k a2).map (Value.int .i64)).toArray 3 (0, 0))
  k3 : W.heap[q3]? = some (.cells ((stR (lv cs bs b) n k a3).map (Value.int .i64)).toArray 3 (0, 0))
/-- Three blocks apart from all rows. -/
structure Ap (wo : World) (fx fy fz : Nat → Nat) (b q1 q2 q3 : Nat) : Prop where
  b1 : wo.heap.size ≤ q1
  b2 : wo.heap.size ≤ q2
  b3 : wo.heap.size ≤ q3
  n12 : q1 ≠ q2
  n13 : q1 ≠ q3
  n23 : q2 ≠ q3
  f1 : ∀ c, c < b → fx c ≠ q1 ∧ fy c ≠ q1 ∧ fz c ≠ q1
  f2 : ∀ c, c < b → fx c ≠ q2 ∧ fy c ≠ q2 ∧ fz c ≠ q2
  f3 : ∀ c, c < b → fx c ≠ q3 ∧ fy c ≠ q3 ∧ fz c ≠ q3
variable {q1 q2 q3 k : Nat} {a1 a2 a3 : Int}
theorem Mi.below (h : Mi wo cs bs fx fy fz n b v1 v2 v3 q1 q2 q3 k a1 a2 a3 W) (hb : Below W.heap.size W W') : Mi wo cs bs fx fy fz n b v1 v2 v3 q1 q2 q3 k a1 a2 a3 W' :=
  ⟨h.mv.below hb, blk_below hb h.k1, blk_below hb h.k2, blk_below hb h.k3⟩
theorem Mi.set1 (h : Mi wo cs bs fx fy fz n b v1 v2 v3 q1 q2 q3 k a1 a2 a3 W) (hp : Ap wo fx fy fz b q1 q2 q3) (hk : k < n) (x : Int) : Mi wo cs bs fx fy fz n b v1 v2 v3 q1 q2 q3 k x a2 a3 (W.setCell ⟨q1, k, none⟩ (.int .i64 x)) :=
  ⟨h.mv.set h.k1 hp.b1 hp.f1 _ _, by rw [← stR_set _ a1 x hk]; exact blk_set h.k1 _, blk_far h.k2 hp.n12.symm _, blk_far h.k3 hp.n13.symm _⟩
theorem Mi.set2 (h : Mi wo cs bs fx fy fz n b v1 v2 v3 q1 q2 q3 k a1 a2 a3 W) (hp : Ap wo fx fy fz b q1 q2 q3) (hk : k < n) (x : Int) : Mi wo cs bs fx fy fz n b v1 v2 v3 q1 q2 q3 k a1 x a3 (W.setCell ⟨q2, k, none⟩ (.int .i64 x)) :=
  ⟨h.mv.set h.k2 hp.b2 hp.f2 _ _, blk_far h.k1 hp.n12 _, by rw [← stR_set _ a2 x hk]; exact blk_set h.k2 _, blk_far h.k3 hp.n23.symm _⟩
theorem Mi.set3 (h : Mi wo cs bs fx fy fz n b v1 v2 v3 q1 q2 q3 k a1 a2 a3 W) (hp : Ap wo fx fy fz b q1 q2 q3) (hk : k < n) (x : Int) : Mi wo cs bs fx fy fz n b v1 v2 v3 q1 q2 q3 k a1 a2 x (W.setCell ⟨q3, k, none⟩ (.int .i64 x)) :=
  ⟨h.mv.set h.k3 hp.b3 hp.f3 _ _, blk_far h.k1 hp.n13 _, blk_far h.k2 hp.n23 _, by rw [← stR_set _ a3 x hk]; exact blk_set h.k3 _⟩
theorem Mi.next (h : Mi wo cs bs fx fy fz n b v1 v2 v3 q1 q2 q3 k a1 a2 a3 W) (h1 : a1 = cm cs bs b k) (h2 : a2 = dn cs bs b k) (h3 : a3 = lv cs bs b k) : Mi wo cs bs fx fy fz n b v1 v2 v3 q1 q2 q3 (k + 1) 0 0 0 W := by
  subst h1 h2 h3
  exact ⟨h.mv, by rw [← stR_next]; exact h.k1, by rw [← stR_next]; exact h.k2, by rw [← stR_next]; exact h.k3⟩
end
end Go.Proofs.Ytiooimfkobjpkaa
