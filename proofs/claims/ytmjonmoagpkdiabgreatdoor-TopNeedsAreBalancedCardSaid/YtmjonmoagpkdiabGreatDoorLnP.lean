/-
  When each board passes each machine: the program's rows.
-/
import Derived.Test.YtmjonmoagpkdiabGreatDoorLmF
import Derived.Test.YtmjonmoagpkdiabGreatDoorRg
namespace Go.Proofs.YtmjonmoagpkdiabGreatDoor
open Go.RowKit
set_option linter.unusedSimpArgs false
set_option linter.unusedVariables false

theorem pass_info : (Tryz.prog.info? 100).map (fun i => (i.zero, i.size, i.bytes)) = some (some (.agg #[.int .i64 0, .int .i64 0, .int .i64 0]), 3, 24) := by kernel_rfl
theorem passS_info : (Tryz.prog.info? 98).map (fun i => (i.zero, i.size, i.bytes)) = some (some (.slice none 0 0), 1, 24) := by kernel_rfl
theorem run_makePass (n : Nat) (hn : n ≤ 1000000) (W : World) : (Instr.makeSlice 98 (.int .i64 n) (.int .i64 n)).run Tryz.prog W = .ok (.slice (some ⟨W.heap.size, 0, none⟩) n n) (W.alloc (.cells (List.replicate (n * 3) (Value.int .i64 0)).toArray 100)) := by
  obtain ⟨i0, hi, hz0, hz1, hz2⟩ := info_parts pass_info
  have h := run_make (P := Tryz.prog) W 98 100 i0 _ Tryz.underlying98 hi hz0 .i64 .i64 n n (by omega) (by omega) (by rw [hz2]; omega) (by omega)
  rw [h, hz1]
  have e : madeCells (Value.agg #[.int .i64 0, .int .i64 0, .int .i64 0]).cells ((n : Int).toNat * 3) = (List.replicate (n * 3) (Value.int .i64 0)).toArray := by
    apply Array.ext
    · simp [madeCells]
    · intro j h1 h2
      have h3 : j % 3 = 0 ∨ j % 3 = 1 ∨ j % 3 = 2 := by omega
      simp only [madeCells, Value.cells]
      rcases h3 with h3 | h3 | h3 <;> simp [h3]
  rw [e]
  simp
theorem run_makePasses (n : Nat) (hn : n ≤ 1000000) (W : World) : (Instr.makeSlice 96 (.int .i64 n) (.int .i64 n)).run Tryz.prog W = .ok (.slice (some ⟨W.heap.size, 0, none⟩) n n) (W.alloc (.cells (List.replicate n (Value.slice none 0 0)).toArray 98)) := by
  obtain ⟨i0, hi, hz0, hz1, hz2⟩ := info_parts passS_info
  have h := run_make (P := Tryz.prog) W 96 98 i0 _ Tryz.underlying96 hi hz0 .i64 .i64 n n (by omega) (by omega) (by rw [hz2]; omega) (by omega)
  rw [h, hz1]
  have e : madeCells (Value.slice none 0 0).cells ((n : Int).toNat * 1) = (List.replicate n (Value.slice none 0 0)).toArray := by
    apply Array.ext
    · simp [madeCells]
    · intro j h1 h2
      simp [madeCells, Value.cells, Nat.mod_one]
  rw [e]
  simp

/-- The row of rows, of which the first i have been made. -/
def oaR (n m i : Nat) (g : Nat → Nat) : List Value := (List.range n).map fun j => if j < i then .slice (some ⟨g j, 0, none⟩) m m else .slice none 0 0
theorem oaR_at {n j : Nat} (m i : Nat) (g : Nat → Nat) (hj : j < n) : (oaR n m i g).toArray[j]? = some (if j < i then .slice (some ⟨g j, 0, none⟩) m m else .slice none 0 0) := by
  unfold oaR
  simp [hj]
theorem oaR_set {n i : Nat} (m : Nat) (g : Nat → Nat) (b : Nat) (hi : i < n) : (oaR n m i g).toArray.setIfInBounds i (.slice (some ⟨b, 0, none⟩) m m) = (oaR n m (i + 1) (fun j => if j = i then b else g j)).toArray := by
  rw [List.setIfInBounds_toArray]
  congr 1
  unfold oaR
  refine List.ext_getElem (by simp) fun j h1 h2 => ?_
  rw [List.getElem_set]
  simp only [List.getElem_map, List.getElem_range]
  split
  · rename_i e
    subst e
    rw [if_pos (by omega), if_pos rfl]
  · rename_i e
    by_cases h : j < i
    · rw [if_pos h, if_pos (by omega), if_neg (by omega)]
    · rw [if_neg h, if_neg (by omega)]
theorem oaR_zero (n m : Nat) (g : Nat → Nat) : oaR n m 0 g = List.replicate n (Value.slice none 0 0) := by
  unfold oaR
  refine List.ext_getElem (by simp) fun j h1 h2 => ?_
  simp

/-- The rows that have been made, all zero. -/
structure L1 (wo : World) (ab oa : Nat) (n m i : Nat) (g : Nat → Nat) (W : World) : Prop where
  bel : Below wo.heap.size wo W
  va : W.heap[ab]? = some (.cells #[.slice (some ⟨oa, 0, none⟩) n n] 96 (0, 0))
  ho : W.heap[oa]? = some (.cells (oaR n m i g).toArray 98 (0, 0))
  rows : ∀ j, j < i → W.heap[g j]? = some (.cells (List.replicate (m * 3) (Value.int .i64 0)).toArray 100 (0, 0))
  far : ∀ j, j < i → wo.heap.size ≤ g j ∧ g j ≠ ab ∧ g j ≠ oa
  inj : ∀ j l, j < i → l < i → g j = g l → j = l
theorem L1.step {wo : World} {ab oa n m i : Nat} {g : Nat → Nat} {W W' : World} {b : Nat} (h : L1 wo ab oa n m i g W) (hi : i < n) (hoa : wo.heap.size ≤ oa) (hab : ab ≠ oa) (hb : Below W.heap.size W W') (hb1 : W.heap.size ≤ b) (hb2 : W'.heap[b]? = some (.cells (List.replicate (m * 3) (Value.int .i64 0)).toArray 100 (0, 0))) :
    L1 wo ab oa n m (i + 1) (fun j => if j = i then b else g j) (W'.setCell ⟨oa, i, none⟩ (.slice (some ⟨b, 0, none⟩) m m)) := by
  have hz := h.bel.size
  have hl1 := lt_of_blk h.va
  have hl2 := lt_of_blk h.ho
  refine ⟨(h.bel.then_below hb hz).setCell (by show _ ≤ oa; omega) _, blk_far (blk_below hb h.va) (by show ab ≠ oa; omega) _, ?_, fun j hj => ?_, fun j hj => ?_, fun j l hj hl e => ?_⟩
  · rw [← oaR_set m g b hi]
    exact blk_set (blk_below hb h.ho) _
  · show _ = _
    by_cases e : j = i
    · rw [if_pos e]
      exact blk_far hb2 (by show b ≠ oa; omega) _
    · rw [if_neg e]
      have hji : j < i := by omega
      exact blk_far (blk_below hb (h.rows j hji)) (by show g j ≠ oa; have := (h.far j hji).2.2; omega) _
  · show _ ≤ (if j = i then b else g j) ∧ (if j = i then b else g j) ≠ ab ∧ (if j = i then b else g j) ≠ oa
    by_cases e : j = i
    · rw [if_pos e]; omega
    · rw [if_neg e]; exact h.far j (by omega)
  · have e : (if j = i then b else g j) = (if l = i then b else g l) := e
    by_cases e1 : j = i <;> by_cases e2 : l = i
    · omega
    · rw [if_pos e1, if_neg e2] at e
      have := lt_of_blk (h.rows l (by omega))
      omega
    · rw [if_neg e1, if_pos e2] at e
      have := lt_of_blk (h.rows j (by omega))
      omega
    · rw [if_neg e1, if_neg e2] at e
      exact h.inj j l (by omega) (by omega) e

/-- The rows, filled up to a machine of a board. -/
structure Pz (wo : World) (cs bs : List Int) (ab oa : Nat) (g : Nat → Nat) (n m b k : Nat) (W : World) : Prop where
  bel : Below wo.heap.size wo W
  va : W.heap[ab]? = some (.cells #[.slice (some ⟨oa, 0, none⟩) n n] 96 (0, 0))
  ho : W.heap[oa]? = some (.cells (oaR n m n g).toArray 98 (0, 0))
  rows : ∀ j, j < n → W.heap[g j]? = some (.cells (pRow cs bs m b k j).toArray 100 (0, 0))
theorem L1.start {wo : World} {ab oa n m : Nat} {g : Nat → Nat} {W : World} (h : L1 wo ab oa n m n g W) (cs bs : List Int) : Pz wo cs bs ab oa g n m 0 0 W :=
  ⟨h.bel, h.va, h.ho, fun j hj => by rw [pRow_zero]; exact h.rows j hj⟩
theorem Pz.then_ {wo : World} {cs bs : List Int} {ab oa : Nat} {g : Nat → Nat} {n m b k : Nat} {W W' : World} (h : Pz wo cs bs ab oa g n m b k W) (hb : Below W.heap.size W W') : Pz wo cs bs ab oa g n m b k W' :=
  ⟨h.bel.then_below hb h.bel.size, blk_below hb h.va, blk_below hb h.ho, fun j hj => blk_below hb (h.rows j hj)⟩
theorem Pz.next {wo : World} {cs bs : List Int} {ab oa : Nat} {g : Nat → Nat} {n m b : Nat} {W : World} (h : Pz wo cs bs ab oa g n m b n W) : Pz wo cs bs ab oa g n m (b + 1) 0 W :=
  ⟨h.bel, h.va, h.ho, fun j hj => by rw [← pRow_next cs bs m b hj]; exact h.rows j hj⟩
theorem Pz.step {wo : World} {cs bs : List Int} {ab oa : Nat} {g : Nat → Nat} {n m b k : Nat} {W : World} (h : Pz wo cs bs ab oa g n m b k W) (hk : k < n) (hb : b < m) (hf : ∀ j, j < n → wo.heap.size ≤ g j ∧ g j ≠ ab ∧ g j ≠ oa) (hi : ∀ j l, j < n → l < n → g j = g l → j = l)
    {x y z : Int} (hx : x = cm cs bs b k) (hy : y = dn cs bs b k) (hz : z = lv cs bs b k) :
    Pz wo cs bs ab oa g n m b (k + 1) (((W.setCell ⟨g k, b * 3, none⟩ (.int .i64 x)).setCell ⟨g k, b * 3 + 1, none⟩ (.int .i64 y)).setCell ⟨g k, b * 3 + 2, none⟩ (.int .i64 z)) := by
  subst hx hy hz
  obtain ⟨f1, f2, f3⟩ := hf k hk
  refine ⟨((h.bel.setCell f1 _).setCell f1 _).setCell f1 _, blk_far (blk_far (blk_far h.va f2.symm _) f2.symm _) f2.symm _, blk_far (blk_far (blk_far h.ho f3.symm _) f3.symm _) f3.symm _, fun j hj => ?_⟩
  by_cases e : j = k
  · subst e
    rw [← pRow_set cs bs j hb]
    have := blk_set (blk_set (blk_set (h.rows j hj) (i := b * 3) (.int .i64 (cm cs bs b j))) (i := b * 3 + 1) (.int .i64 (dn cs bs b j))) (i := b * 3 + 2) (.int .i64 (lv cs bs b j))
    simpa only [List.setIfInBounds_toArray] using this
  · rw [pRow_other cs bs m b e]
    have hne : g j ≠ g k := fun h => e (hi j k hj hk h)
    exact blk_far (blk_far (blk_far (h.rows j hj) hne _) hne _) hne _

/-- When a board has left a machine; 0 if there is no such machine, or no such board. -/
def lfV (cs bs : List Int) (j c : Int) : Int := if j < 0 ∨ c < 0 then 0 else lv cs bs c.toNat j.toNat

set_option maxHeartbeats 1000000 in
theorem left_any {wo : World} {cs bs : List Int} {ab oa : Nat} {g : Nat → Nat} {n m b k : Nat} {W : World} (hP : Pz wo cs bs ab oa g n m b k W) (hn : n ≤ 6) (hm : m ≤ 2000) (j c : Int) (h : 0 ≤ j → 0 ≤ c → j < n ∧ c < m ∧ (c < b ∨ (c = b ∧ j < k))) :
    Calls Tryz.prog 76 #[.int .i64 j, .int .i64 c, .pointer (some ⟨ab, 0, none⟩)] W fun e w' => e = .returned (.int .i64 (lfV cs bs j c)) ∧ w' = W := by
  by_cases hj : j < 0
  · have HV : Hid (lfV cs bs j c = 0) := if_pos (.inl hj)
    generalize lfV cs bs j c = V at *
    clear h hP
    go_enter Tryz.func76, Tryz.ntmps76
    go_wp2_with fail
    go_ret
    exact ⟨ret_int HV.out.symm, rfl⟩
  by_cases hc : c < 0
  · have HV : Hid (lfV cs bs j c = 0) := if_pos (.inr hc)
    generalize lfV cs bs j c = V at *
    clear h hP
    go_enter Tryz.func76, Tryz.ntmps76
    go_wp2_with fail
    go_ret
    exact ⟨ret_int HV.out.symm, rfl⟩
  obtain ⟨j, rfl⟩ := Int.eq_ofNat_of_zero_le (show 0 ≤ j by omega)
  obtain ⟨c, rfl⟩ := Int.eq_ofNat_of_zero_le (show 0 ≤ c by omega)
  obtain ⟨h1, h2, h3⟩ := h (by omega) (by omega)
  have HV : Hid (lfV cs bs j c = lv cs bs c j) := by
    show lfV _ _ _ _ = _
    unfold lfV
    rw [if_neg (by omega)]
    rfl
  generalize lfV cs bs j c = V at *
  have hjn : j < n := by omega
  have hcm : c < m := by omega
  have q0 := cell_of_blk hP.va 0
  have q1 := cell_of_blk hP.ho j
  rw [oaR_at m n g hjn, if_pos hjn] at q1
  have q2 := cell_of_blk (hP.rows j hjn) (c * 3 + 2)
  have q3 := (pRow_done cs bs b k j hcm (by omega)).2.2
  rw [List.getElem?_toArray] at q2
  rw [q3] at q2
  simp at q0
  have l0 := lt_of_blk hP.va
  have l1 := lt_of_blk hP.ho
  have l2 := lt_of_blk (hP.rows j hjn)
  have i1 : (0 : Int) ≤ (j : Int) := by omega
  have i2 : (j : Int) < (n : Int) := by omega
  have i3 : (0 : Int) ≤ (c : Int) := by omega
  have i4 : (c : Int) < (m : Int) := by omega
  clear q3 h h3 hP
  go_enter Tryz.func76, Tryz.ntmps76
  go_wp2_with fail
  go_ret
  exact ⟨ret_int HV.out.symm, rfl⟩
end Go.Proofs.YtmjonmoagpkdiabGreatDoor
