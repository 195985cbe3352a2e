/-
  How long each machine was blocked, and idle: the program's answer.
-/
import Derived.Test.YtiooimfkobjpkaaLnS
namespace Go.Proofs.Ytiooimfkobjpkaa
open Go.RowKit
set_option linter.unusedSimpArgs false
set_option linter.unusedVariables false

/-- How long a machine was blocked with the first boards, and how long it was idle between them. -/
def blkS (cs bs : List Int) (k : Nat) : Nat → Int
  | 0 => 0
  | b + 1 => blkS cs bs k b + (lv cs bs b k - dn cs bs b k)
def idlT (cs bs : List Int) (k b : Nat) : Int := if b = 0 then 0 else cm cs bs b k - lv cs bs (b - 1) k
def idlS (cs bs : List Int) (k : Nat) : Nat → Int
  | 0 => 0
  | b + 1 => idlS cs bs k b + idlT cs bs k b
theorem blkT_bd {cs : List Int} (bs : List Int) (h : CsOk cs) {b k : Nat} (hb : b < 2000) (hk : k < 6) : 0 ≤ lv cs bs b k - dn cs bs b k ∧ lv cs bs b k - dn cs bs b k ≤ 30000000000 := by
  have h1 := dn_bd bs h b k
  have h2 := lv_bd bs h b k
  omega
theorem idlT_bd {cs : List Int} (bs : List Int) (h : CsOk cs) {b k : Nat} (hb : b < 2000) (hk : k < 6) : 0 ≤ idlT cs bs k b ∧ idlT cs bs k b ≤ 30000000000 := by
  unfold idlT
  split
  · omega
  · have h1 := cm_bd bs h b k
    have h2 := lv_bd bs h (b - 1) k
    have h3 : lv cs bs (b - 1) k ≤ cm cs bs b k := by
      unfold cm bef
      rw [if_neg ‹_›]
      omega
    omega
theorem blkS_bd {cs : List Int} (bs : List Int) (h : CsOk cs) {k : Nat} (hk : k < 6) : ∀ b, b ≤ 2000 → 0 ≤ blkS cs bs k b ∧ blkS cs bs k b ≤ (b : Int) * 30000000000
  | 0, _ => by unfold blkS; simp
  | b + 1, hb => by
    have h1 := blkS_bd bs h hk b (by omega)
    have h2 := blkT_bd bs h (b := b) (k := k) (by omega) hk
    rw [blkS]
    push_cast
    omega
theorem idlS_bd {cs : List Int} (bs : List Int) (h : CsOk cs) {k : Nat} (hk : k < 6) : ∀ b, b ≤ 2000 → 0 ≤ idlS cs bs k b ∧ idlS cs bs k b ≤ (b : Int) * 30000000000
  | 0, _ => by unfold idlS; simp
  | b + 1, hb => by
    have h1 := idlS_bd bs h hk b (by omega)
    have h2 := idlT_bd bs h (b := b) (k := k) (by omega) hk
    rw [idlS]
    push_cast
    omega
/-- How many boards of machine j have been counted, when those of the machines before k have, and b of k. -/
def cnt (m k b j : Nat) : Nat := if j < k then m else if j = k then b else 0
/-- A row of sums. -/
def sumR (f : Nat → Nat → Int) (n m k b : Nat) : List Int := (List.range n).map fun j => f j (cnt m k b j)
theorem sumR_at (f : Nat → Nat → Int) {n k : Nat} (m b : Nat) (hk : k < n) : ((sumR f n m k b).map (Value.int .i64)).toArray[k]? = some (.int .i64 (f k b)) := by
  unfold sumR cnt
  simp [hk]
theorem sumR_set (f : Nat → Nat → Int) {n k : Nat} (m b b' : Nat) (hk : k < n) : ((sumR f n m k b).map (Value.int .i64)).toArray.setIfInBounds k (.int .i64 (f k b')) = ((sumR f n m k b').map (Value.int .i64)).toArray := by
  rw [List.setIfInBounds_toArray]
  congr 1
  unfold sumR
  refine List.ext_getElem (by simp) fun j h1 h2 => ?_
  rw [List.getElem_set]
  simp only [List.getElem_map, List.getElem_range]
  split
  · rename_i e
    subst e
    unfold cnt
    simp
  · rename_i e
    unfold cnt
    by_cases h : j < k
    · rw [if_pos h, if_pos h]
    · rw [if_neg h, if_neg h, if_neg (by omega), if_neg (by omega)]
theorem sumR_next (f : Nat → Nat → Int) (n m k : Nat) : sumR f n m k m = sumR f n m (k + 1) 0 := by
  unfold sumR
  refine List.map_congr_left fun j _ => ?_
  congr 1
  unfold cnt
  by_cases h : j < k
  · rw [if_pos h, if_pos (by omega)]
  · by_cases h2 : j = k
    · rw [if_neg h, if_pos h2, if_pos (by omega)]
    · rw [if_neg h, if_neg h2, if_neg (by omega)]
      split <;> rfl
theorem sumR_zero (f : Nat → Nat → Int) (hf : ∀ k, f k 0 = 0) (n m : Nat) : (sumR f n m 0 0).map (Value.int .i64) = List.replicate n (.int .i64 0) := by
  unfold sumR
  refine List.ext_getElem (by simp) fun j h1 h2 => ?_
  simp [cnt, hf]
/-- The sums of all boards, for each machine. -/
def allR (f : Nat → Nat → Int) (n m : Nat) : List Int := (List.range n).map fun j => f j m
theorem sumR_all (f : Nat → Nat → Int) (n m : Nat) : sumR f n m n 0 = allR f n m := by
  unfold sumR allR
  refine List.map_congr_left fun j hj => ?_
  rw [List.mem_range] at hj
  unfold cnt
  rw [if_pos hj]
theorem allR_len (f : Nat → Nat → Int) (n m : Nat) : (allR f n m).length = n := by unfold allR; simp

theorem run_makeInts (n : Nat) (hn : n ≤ 1000000) (W : World) : (Instr.makeSlice 22 (.int .i64 n) (.int .i64 n)).run Try.prog W = .ok (.slice (some ⟨W.heap.size, 0, none⟩) n n) (W.alloc (.cells (List.replicate n (Value.int .i64 0)).toArray 3)) := by
  obtain ⟨i0, hi, hz0, hz1, hz2⟩ := info_parts int_infoN
  have h := run_make (P := Try.prog) W 22 3 i0 (.int .i64 0) Try.underlying22 hi hz0 .i64 .i64 n n (by omega) (by omega) (by rw [hz2]; omega) (by omega)
  rw [h, hz1]
  have e : madeCells (Value.int .i64 0).cells ((n : Int).toNat * 1) = (List.replicate n (Value.int .i64 0)).toArray := by
    apply Array.ext
    · simp [madeCells]
    · intro j h1 h2
      simp [madeCells, Value.cells, Nat.mod_one]
  rw [e]
  simp

/-- The sums so far, and the rows of passes. -/
structure Bk (wo : World) (cs bs : List Int) (oa : Nat) (g : Nat → Nat) (n m qb qi k b b' : Nat) (W : World) : Prop where
  bel : Below wo.heap.size wo W
  pa : PassAt cs bs oa g n m W
  kb : W.heap[qb]? = some (.cells ((sumR (blkS cs bs) n m k b).map (Value.int .i64)).toArray 3 (0, 0))
  ki : W.heap[qi]? = some (.cells ((sumR (idlS cs bs) n m k b').map (Value.int .i64)).toArray 3 (0, 0))
section
variable {wo : World} {cs bs : List Int} {oa : Nat} {g : Nat → Nat} {n m qb qi k b b' : Nat} {W W' : World}
theorem Bk.then_ (h : Bk wo cs bs oa g n m qb qi k b b' W) (hb : Below W.heap.size W W') : Bk wo cs bs oa g n m qb qi k b b' W' :=
  ⟨h.bel.then_below hb h.bel.size, h.pa.below hb, blk_below hb h.kb, blk_below hb h.ki⟩
theorem Bk.next (h : Bk wo cs bs oa g n m qb qi k m m W) : Bk wo cs bs oa g n m qb qi (k + 1) 0 0 W :=
  ⟨h.bel, h.pa, by rw [← sumR_next]; exact h.kb, by rw [← sumR_next]; exact h.ki⟩
theorem PassAt.far (h : PassAt cs bs oa g n m W) {q : Nat} (h1 : oa ≠ q) (h2 : ∀ j, j < n → g j ≠ q) (i : Nat) (u : Value) : PassAt cs bs oa g n m (W.setCell ⟨q, i, none⟩ u) :=
  ⟨blk_far h.ho h1 u, fun j hj => blk_far (h.rows j hj) (h2 j hj) u⟩
theorem Bk.setB (h : Bk wo cs bs oa g n m qb qi k b b' W) (hk : k < n) (h0 : wo.heap.size ≤ qb) (h1 : oa ≠ qb) (h2 : ∀ j, j < n → g j ≠ qb) (h3 : qi ≠ qb) {x : Int} (hx : x = blkS cs bs k (b + 1)) : Bk wo cs bs oa g n m qb qi k (b + 1) b' (W.setCell ⟨qb, k, none⟩ (.int .i64 x)) := by
  subst hx
  exact ⟨h.bel.setCell h0 _, h.pa.far h1 h2 _ _, by rw [← sumR_set (blkS cs bs) m b (b + 1) hk]; exact blk_set h.kb _, blk_far h.ki h3 _⟩
theorem Bk.setI (h : Bk wo cs bs oa g n m qb qi k b b' W) (hk : k < n) (h0 : wo.heap.size ≤ qi) (h1 : oa ≠ qi) (h2 : ∀ j, j < n → g j ≠ qi) (h3 : qb ≠ qi) {x : Int} (hx : x = idlS cs bs k (b' + 1)) : Bk wo cs bs oa g n m qb qi k b (b' + 1) (W.setCell ⟨qi, k, none⟩ (.int .i64 x)) := by
  subst hx
  exact ⟨h.bel.setCell h0 _, h.pa.far h1 h2 _ _, blk_far h.kb h3 _, by rw [← sumR_set (idlS cs bs) m b' (b' + 1) hk]; exact blk_set h.ki _⟩
theorem Bk.skipI (h : Bk wo cs bs oa g n m qb qi k b 0 W) : Bk wo cs bs oa g n m qb qi k b 1 W := by
  refine ⟨h.bel, h.pa, h.kb, ?_⟩
  have : sumR (idlS cs bs) n m k 1 = sumR (idlS cs bs) n m k 0 := by
    unfold sumR
    refine List.map_congr_left fun j _ => ?_
    unfold cnt
    split
    · rfl
    · split
      · rw [idlS, idlS, idlT, if_pos rfl]; rfl
      · rfl
  rw [this]
  exact h.ki
end
end Go.Proofs.Ytiooimfkobjpkaa
