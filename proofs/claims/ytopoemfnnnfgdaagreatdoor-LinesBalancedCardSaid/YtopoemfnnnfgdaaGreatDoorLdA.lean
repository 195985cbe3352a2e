/-
  The balance of a line: what the reference's recursion has in memory, and what a step changes in it.
-/
import Derived.Test.YtopoemfnnnfgdaaGreatDoorLbX
import Derived.Test.YtopoemfnnnfgdaaGreatDoorLcJ
namespace Go.Proofs.YtopoemfnnnfgdaaGreatDoor
open Go.RowKit
set_option linter.unusedSimpArgs false
set_option linter.unusedVariables false

/-! ### Counts and cycles, one need more or less -/
def cntL (ms : List Mc) (pre : List Nat) : List Int := (List.range ms.length).map fun k => ((pre.count k : Nat) : Int)
theorem cntL_len (ms : List Mc) (pre : List Nat) : (cntL ms pre).length = ms.length := by unfold cntL; rw [List.length_map, List.length_range]
theorem cntL_at (ms : List Mc) (pre : List Nat) {k : Nat} (h : k < ms.length) : (cntL ms pre)[k]'(by rw [cntL_len]; exact h) = ((pre.count k : Nat) : Int) := by
  unfold cntL
  rw [List.getElem_map, List.getElem_range]
theorem cnt_snoc (pre : List Nat) (k j : Nat) : (pre ++ [k]).count j = pre.count j + if k = j then 1 else 0 := by
  rw [List.count_append, List.count_singleton]
  congr 1
  by_cases h : k = j <;> simp [h]
theorem cntL_set (ms : List Mc) (pre : List Nat) {k : Nat} (h : k < ms.length) : (cntL ms pre).set k (((pre.count k : Nat) : Int) + 1) = cntL ms (pre ++ [k]) := by
  apply List.ext_getElem (by rw [List.length_set, cntL_len, cntL_len])
  intro j h1 h2
  rw [cntL_len] at h2
  rw [List.getElem_set, cntL_at _ _ h2, cntL_at _ _ h2, cnt_snoc]
  by_cases e : k = j
  · rw [if_pos e, if_pos e, e]; omega
  · rw [if_neg e, if_neg e]; rfl
theorem cntL_back (ms : List Mc) (pre : List Nat) {k : Nat} (h : k < ms.length) : (cntL ms (pre ++ [k])).set k (((pre.count k : Nat) : Int) + 1 - 1) = cntL ms pre := by
  apply List.ext_getElem (by rw [List.length_set, cntL_len, cntL_len])
  intro j h1 h2
  rw [cntL_len] at h2
  rw [List.getElem_set, cntL_at _ _ h2, cntL_at _ _ h2, cnt_snoc]
  by_cases e : k = j
  · rw [if_pos e, e]; omega
  · rw [if_neg e, if_neg e]; rfl
theorem cnt_self (pre : List Nat) (k : Nat) : (((pre ++ [k]).count k : Nat) : Int) = ((pre.count k : Nat) : Int) + 1 := by rw [cnt_snoc, if_pos rfl]; rfl
theorem cyOf_snoc (m : Mc) (j : Nat) {pre : List Nat} (k : Nat) {ns : List Nd} (h : pre.length < ns.length) : cyOf m j (toZ (pre ++ [k])) ns = cyOf m j (toZ pre) ns + if k = j then m.each * ns[pre.length].many else 0 := by
  have hl : (toZ (pre ++ [k])).length = pre.length + 1 := by rw [toZ_len]; simp
  have h1 := cyS_take m.each j (toZ (pre ++ [k])) ns pre.length (by omega) h
  rw [List.take_of_length_le (by omega)] at h1
  have h2 : (toZ (pre ++ [k])).take pre.length = toZ pre := by
    rw [toZ_snoc, List.take_left' (toZ_len pre)]
  have h3 : (toZ (pre ++ [k]))[pre.length]'(by omega) = (k : Int) := by
    rw [toZ_at]; simp
  rw [h2, h3] at h1
  unfold cyOf
  rw [h1]
  by_cases e : k = j
  · rw [if_pos e, if_pos (by rw [e])]; omega
  · rw [if_neg e, if_neg (by omega)]; omega
theorem cyL_set (ms : List Mc) {ns : List Nd} {pre : List Nat} (h : pre.length < ns.length) {k : Nat} (hk : k < ms.length) : (cyL ms ns (toZ pre)).set k (cyOf ms[k] k (toZ pre) ns + ms[k].each * ns[pre.length].many) = cyL ms ns (toZ (pre ++ [k])) := by
  apply List.ext_getElem (by rw [List.length_set, cyL_len, cyL_len])
  intro j h1 h2
  rw [cyL_len] at h2
  rw [List.getElem_set, cyL_at _ _ _ h2, cyL_at _ _ _ h2, cyOf_snoc _ _ _ h]
  by_cases e : k = j
  · subst e; rw [if_pos rfl, if_pos rfl]
  · rw [if_neg e, if_neg e]; omega
theorem cyL_back (ms : List Mc) {ns : List Nd} {pre : List Nat} (h : pre.length < ns.length) {k : Nat} (hk : k < ms.length) : (cyL ms ns (toZ (pre ++ [k]))).set k (cyOf ms[k] k (toZ pre) ns + ms[k].each * ns[pre.length].many - ms[k].each * ns[pre.length].many) = cyL ms ns (toZ pre) := by
  apply List.ext_getElem (by rw [List.length_set, cyL_len, cyL_len])
  intro j h1 h2
  rw [cyL_len] at h2
  rw [List.getElem_set, cyL_at _ _ _ h2, cyL_at _ _ _ h2, cyOf_snoc _ _ _ h]
  by_cases e : k = j
  · subst e; rw [if_pos rfl]; omega
  · rw [if_neg e, if_neg e]; omega
theorem cyOf_self (m : Mc) {pre : List Nat} (k : Nat) {ns : List Nd} (h : pre.length < ns.length) : cyOf m k (toZ (pre ++ [k])) ns = cyOf m k (toZ pre) ns + m.each * ns[pre.length].many := by
  rw [cyOf_snoc m k k h, if_pos rfl]
theorem tr_cut {K : Nat} {ok : List Nat → Nat → Bool} {mx : List Nat → Int} {pre : List Nat} {acc : Acc} (h : cutB acc (mx pre) = true) : ∀ f, tr K ok mx f pre acc = acc
  | 0 => by rw [tr, if_pos h]
  | f + 1 => by rw [tr, if_pos h]
theorem plan_set {P : List Int} {pre : List Nat} {L : Nat} (hl : P.length = L) (hp : pre.length < L) (ht : P.take pre.length = toZ pre) (k : Nat) : (P.set pre.length (k : Int)).take (pre ++ [k]).length = toZ (pre ++ [k]) := by
  rw [List.length_append, toZ_snoc, ← ht, List.take_set, List.length_singleton, List.take_succ_eq_append_getElem (by omega : pre.length < P.length)]
  have e : (P.take pre.length).length = pre.length := by rw [List.length_take]; omega
  rw [List.set_append_right _ _ (by omega), e, Nat.sub_self]
  rfl
theorem plan_back {P : List Int} {pre : List Nat} {k : Nat} (ht : P.take (pre ++ [k]).length = toZ (pre ++ [k])) : P.take pre.length = toZ pre := by
  have h := congrArg (List.take pre.length) ht
  rw [List.take_take, toZ_snoc, List.take_left' (toZ_len pre), List.length_append, List.length_singleton, Nat.min_eq_left (by omega)] at h
  exact h

/-! ### Copies of rows of numbers -/
theorem cloneR_any (o : List Int) (ho : o.length ≤ 1000000) {v : Value} {W : World} (h : Reads encN v o W) :
    Calls Tryz.prog 46 #[v] W fun e w' => ∃ v', e = .returned v' ∧ w'.ownsRow W.heap.size 3 1 v' o.length (o.map (Value.int .i64)) ∧ Below W.heap.size W w' := by
  obtain ⟨A, c, rfl, h⟩ := h
  by_cases h0 : o = []
  · subst h0
    cases A with
    | none =>
      refine (Tryz.slices_Clone_int_nil 0 c W).mono ?_
      rintro e w' ⟨rfl, rfl⟩
      exact ⟨_, rfl, World.ownsRow_nil _ _ _ _, Below.refl _ _⟩
    | some a =>
      refine (Tryz.slices_Clone_int_zero a c W).mono ?_
      rintro e w' ⟨v', rfl, h1, _, h2⟩
      exact ⟨_, rfl, h1, h2⟩
  · rcases h with h | ⟨g, rfl, h⟩
    · exact absurd h h0
    · refine (Tryz.slices_Clone_int g 0 o.length c o W (Nat.le_refl _) (by omega) (fun j hj => ?_)).mono ?_
      · rw [Nat.zero_add, row_n h hj, List.getD_eq_getElem?_getD, List.getElem?_eq_getElem hj]
        rfl
      · rintro e w' ⟨v', rfl, h1, _, h2⟩
        rw [List.take_of_length_le (Nat.le_refl _)] at h1
        exact ⟨_, rfl, h1, h2⟩

/-! ### The recursion's memory -/
structure Bk where
  bm : Nat
  bn : Nat
  gp : Nat
  bp : Nat
  bb : Nat
  bl : Nat
  bf : Nat
  gy : Nat
  bk : Nat
  gw : Nat
  bw : Nat
  bt : Nat
  cw : Nat
/-- The blocks stand one behind the other. -/
def Bk.Ch (q : Bk) : Prop := q.bm < q.bn ∧ q.bn < q.gp ∧ q.gp < q.bp ∧ q.bp < q.bb ∧ q.bb < q.bl ∧ q.bl < q.bf ∧ q.bf < q.gy ∧ q.gy < q.bk ∧ q.bk < q.gw ∧ q.gw < q.bw ∧ q.bw < q.bt
/-- The function that goes on, with what it has captured. -/
def tryB (q : Bk) : Value := .func (.func 44) #[] #[.pointer (some ⟨q.bf, 0, none⟩), .pointer (some ⟨q.bw, 0, none⟩), .pointer (some ⟨q.bl, 0, none⟩), .pointer (some ⟨q.bn, 0, none⟩), .pointer (some ⟨q.bp, 0, none⟩), .pointer (some ⟨q.bb, 0, none⟩), .pointer (some ⟨q.bm, 0, none⟩), .pointer (some ⟨q.bk, 0, none⟩), .pointer (some ⟨q.bt, 0, none⟩)]
def accX : Acc → Int | none => 0 | some (_, x) => x
def accP : Acc → List Nat | none => [] | some (b, _) => b
structure BW (w : World) (q : Bk) (L K : Nat) (mv nv : Value) (P Y C : List Int) (acc : Acc) (W : World) : Prop where
  ch : q.Ch
  lo : w.heap.size ≤ q.bm
  bel : Below w.heap.size w W
  km : W.heap[q.bm]? = some (.cells #[mv] 26 (0, 0))
  kn : W.heap[q.bn]? = some (.cells #[nv] 28 (0, 0))
  kp : W.heap[q.bp]? = some (.cells #[.slice (some ⟨q.gp, 0, none⟩) L L] 22 (0, 0))
  ky : W.heap[q.bk]? = some (.cells #[.slice (some ⟨q.gy, 0, none⟩) K K] 22 (0, 0))
  kw : W.heap[q.bw]? = some (.cells #[.slice (some ⟨q.gw, 0, none⟩) K q.cw] 22 (0, 0))
  kt : W.heap[q.bt]? = some (.cells #[tryB q] 79 (0, 0))
  kf : W.heap[q.bf]? = some (.cells #[.bool acc.isSome] 4 (0, 0))
  kl : W.heap[q.bl]? = some (.cells #[.int .i64 (accX acc)] 3 (0, 0))
  rp : W.ownsRow w.heap.size 3 1 (.slice (some ⟨q.gp, 0, none⟩) L L) L (P.map (Value.int .i64))
  ry : W.ownsRow w.heap.size 3 1 (.slice (some ⟨q.gy, 0, none⟩) K K) K (Y.map (Value.int .i64))
  rc : W.ownsRow w.heap.size 3 1 (.slice (some ⟨q.gw, 0, none⟩) K q.cw) K (C.map (Value.int .i64))
  kb : ∃ bv, W.heap[q.bb]? = some (.cells #[bv] 22 (0, 0)) ∧ W.ownsRow (q.bt + 1) 3 1 bv (accP acc).length ((toZ (accP acc)).map (Value.int .i64))
theorem BW.below {w : World} {q : Bk} {L K : Nat} {mv nv : Value} {P Y C : List Int} {acc : Acc} {W W' : World} (h : BW w q L K mv nv P Y C acc W) (hb : Below W.heap.size W W') : BW w q L K mv nv P Y C acc W' := by
  obtain ⟨h1, h2, h3, h4, h5, h6, h7, h8, h9, ha, hc, hd, he, hf, bv, r1, r2⟩ := h
  exact ⟨h1, h2, h3.then_below hb h3.size, blk_below hb h4, blk_below hb h5, blk_below hb h6, blk_below hb h7, blk_below hb h8, blk_below hb h9, blk_below hb ha, blk_below hb hc, own_below hd hb, own_below he hb, own_below hf hb, bv, blk_below hb r1, own_below r2 hb⟩
theorem BW.drew {w : World} {q : Bk} {L K : Nat} {mv nv : Value} {P Y C : List Int} {acc : Acc} {W : World} (h : BW w q L K mv nv P Y C acc W) : BW w q L K mv nv P Y C acc W.drew := h.below (Below.refl _ _).drew
theorem own_ne {w : World} {base : Nat} {e : TypeId} {size n g c : Nat} {xs : List Value} (h : w.ownsRow base e size (.slice (some ⟨g, 0, none⟩) n c) n xs) {p : Addr} (hp : p.block ≠ g) (u : Value) : (w.setCell p u).ownsRow base e size (.slice (some ⟨g, 0, none⟩) n c) n xs := by
  obtain ⟨hl, ⟨h0, _⟩ | ⟨g', cap', cur, hv, hb, hc, h1⟩⟩ := h
  · simp at h0
  · simp only [Value.slice.injEq, Option.some.injEq, Addr.mk.injEq, and_true, true_and] at hv
    obtain ⟨rfl, rfl⟩ := hv
    exact ⟨hl, .inr ⟨g, c, cur, rfl, hb, blk_far hc (fun e => hp e.symm) u, h1⟩⟩
theorem BW.setP {w : World} {q : Bk} {L K : Nat} {mv nv : Value} {P Y C : List Int} {acc : Acc} {W : World} (h : BW w q L K mv nv P Y C acc W) (j : Nat) (x : Int) : BW w q L K mv nv (P.set j x) Y C acc (W.setCell ⟨q.gp, j, none⟩ (.int .i64 x)) := by
  obtain ⟨h1, h2, h3, h4, h5, h6, h7, h8, h9, ha, hc, hd, he, hf, bv, r1, r2⟩ := h
  obtain ⟨c1, c2, c3, c4, c5, c6, c7, c8, c9, ca, cb⟩ := id h1
  have far : ∀ {g : Nat} {o : Obj}, W.heap[g]? = some o → g ≠ q.gp → (W.setCell ⟨q.gp, j, none⟩ (.int .i64 x)).heap[g]? = some o := fun hg hne => blk_far hg hne _
  refine ⟨h1, h2, h3.setCell (by show _ ≤ q.gp; omega) _, far h4 (by omega), far h5 (by omega), far h6 (by omega), far h7 (by omega), far h8 (by omega), far h9 (by omega), far ha (by omega), far hc (by omega), ?_, own_ne he (by show q.gp ≠ _; omega) _, own_ne hf (by show q.gp ≠ _; omega) _, bv, far r1 (by omega), own_far r2 (by show q.gp < _; omega) _⟩
  rw [List.map_set]
  exact own_set hd j _
theorem BW.setY {w : World} {q : Bk} {L K : Nat} {mv nv : Value} {P Y C : List Int} {acc : Acc} {W : World} (h : BW w q L K mv nv P Y C acc W) (j : Nat) (x : Int) : BW w q L K mv nv P (Y.set j x) C acc (W.setCell ⟨q.gy, j, none⟩ (.int .i64 x)) := by
  obtain ⟨h1, h2, h3, h4, h5, h6, h7, h8, h9, ha, hc, hd, he, hf, bv, r1, r2⟩ := h
  obtain ⟨c1, c2, c3, c4, c5, c6, c7, c8, c9, ca, cb⟩ := id h1
  have far : ∀ {g : Nat} {o : Obj}, W.heap[g]? = some o → g ≠ q.gy → (W.setCell ⟨q.gy, j, none⟩ (.int .i64 x)).heap[g]? = some o := fun hg hne => blk_far hg hne _
  refine ⟨h1, h2, h3.setCell (by show _ ≤ q.gy; omega) _, far h4 (by omega), far h5 (by omega), far h6 (by omega), far h7 (by omega), far h8 (by omega), far h9 (by omega), far ha (by omega), far hc (by omega), own_ne hd (by show q.gy ≠ _; omega) _, ?_, own_ne hf (by show q.gy ≠ _; omega) _, bv, far r1 (by omega), own_far r2 (by show q.gy < _; omega) _⟩
  rw [List.map_set]
  exact own_set he j _
theorem BW.setC {w : World} {q : Bk} {L K : Nat} {mv nv : Value} {P Y C : List Int} {acc : Acc} {W : World} (h : BW w q L K mv nv P Y C acc W) (j : Nat) (x : Int) : BW w q L K mv nv P Y (C.set j x) acc (W.setCell ⟨q.gw, j, none⟩ (.int .i64 x)) := by
  obtain ⟨h1, h2, h3, h4, h5, h6, h7, h8, h9, ha, hc, hd, he, hf, bv, r1, r2⟩ := h
  obtain ⟨c1, c2, c3, c4, c5, c6, c7, c8, c9, ca, cb⟩ := id h1
  have far : ∀ {g : Nat} {o : Obj}, W.heap[g]? = some o → g ≠ q.gw → (W.setCell ⟨q.gw, j, none⟩ (.int .i64 x)).heap[g]? = some o := fun hg hne => blk_far hg hne _
  refine ⟨h1, h2, h3.setCell (by show _ ≤ q.gw; omega) _, far h4 (by omega), far h5 (by omega), far h6 (by omega), far h7 (by omega), far h8 (by omega), far h9 (by omega), far ha (by omega), far hc (by omega), own_ne hd (by show q.gw ≠ _; omega) _, own_ne he (by show q.gw ≠ _; omega) _, ?_, bv, far r1 (by omega), own_far r2 (by show q.gw < _; omega) _⟩
  rw [List.map_set]
  exact own_set hf j _
theorem BW.found {w : World} {q : Bk} {L K : Nat} {mv nv : Value} {P Y C : List Int} {acc : Acc} {W : World} (h : BW w q L K mv nv P Y C acc W) {v : Value} {b : List Nat} (x : Int) (hv : W.ownsRow (q.bt + 1) 3 1 v b.length ((toZ b).map (Value.int .i64))) :
    BW w q L K mv nv P Y C (some (b, x)) (((W.setCell ⟨q.bb, 0, none⟩ v).setCell ⟨q.bl, 0, none⟩ (.int .i64 x)).setCell ⟨q.bf, 0, none⟩ (.bool true)) := by
  obtain ⟨h1, h2, h3, h4, h5, h6, h7, h8, h9, ha, hc, hd, he, hf, bv, r1, r2⟩ := h
  obtain ⟨c1, c2, c3, c4, c5, c6, c7, c8, c9, ca, cb⟩ := id h1
  have far : ∀ {g : Nat} {o : Obj}, W.heap[g]? = some o → g ≠ q.bb → g ≠ q.bl → g ≠ q.bf → (((W.setCell ⟨q.bb, 0, none⟩ v).setCell ⟨q.bl, 0, none⟩ (.int .i64 x)).setCell ⟨q.bf, 0, none⟩ (.bool true)).heap[g]? = some o := fun hg n1 n2 n3 => blk_far (blk_far (blk_far hg n1 _) n2 _) n3 _
  have own : ∀ {g n c : Nat} {xs : List Value}, W.ownsRow w.heap.size 3 1 (.slice (some ⟨g, 0, none⟩) n c) n xs → g ≠ q.bb → g ≠ q.bl → g ≠ q.bf → (((W.setCell ⟨q.bb, 0, none⟩ v).setCell ⟨q.bl, 0, none⟩ (.int .i64 x)).setCell ⟨q.bf, 0, none⟩ (.bool true)).ownsRow w.heap.size 3 1 (.slice (some ⟨g, 0, none⟩) n c) n xs := fun hg n1 n2 n3 => own_ne (own_ne (own_ne hg (fun e => n1 e.symm) _) (fun e => n2 e.symm) _) (fun e => n3 e.symm) _
  refine ⟨h1, h2, ((h3.setCell (by show _ ≤ q.bb; omega) _).setCell (by show _ ≤ q.bl; omega) _).setCell (by show _ ≤ q.bf; omega) _, far h4 (by omega) (by omega) (by omega), far h5 (by omega) (by omega) (by omega), far h6 (by omega) (by omega) (by omega), far h7 (by omega) (by omega) (by omega), far h8 (by omega) (by omega) (by omega), far h9 (by omega) (by omega) (by omega), ?_, ?_, own hd (by omega) (by omega) (by omega), own he (by omega) (by omega) (by omega), own hf (by omega) (by omega) (by omega), v, ?_, ?_⟩
  · exact blk_set (blk_far (blk_far ha (by show _ ≠ q.bb; omega) _) (by show _ ≠ q.bl; omega) _) _
  · exact blk_far (blk_set (blk_far hc (by show _ ≠ q.bb; omega) _) _) (by show _ ≠ q.bf; omega) _
  · exact blk_far (blk_far (blk_set r1 _) (by show _ ≠ q.bl; omega) _) (by show _ ≠ q.bf; omega) _
  · exact own_far (own_far (own_far hv (by show q.bb < _; omega) _) (by show q.bl < _; omega) _) (by show q.bf < _; omega) _
theorem own_cell {w : World} {base g n c : Nat} {xs : List Int} (h : w.ownsRow base 3 1 (.slice (some ⟨g, 0, none⟩) n c) n (xs.map (Value.int .i64))) {j : Nat} (hj : j < xs.length) (hn : xs.length = n) : w.cell? ⟨g, j, none⟩ = some (.int .i64 xs[j]) := by
  obtain ⟨g', c', e, _, _, _, _, hrd⟩ := own_read h (by omega)
  cases e
  exact hrd j _ (by rw [List.getElem?_map, List.getElem?_eq_getElem hj]; rfl)
theorem own_glt {w : World} {base g n c : Nat} {xs : List Value} (h : w.ownsRow base 3 1 (.slice (some ⟨g, 0, none⟩) n c) n xs) : g < w.heap.size := own_lt h g rfl
/-- Blocks behind t stay. -/
structure KB (t : Nat) (a W : World) : Prop where
  more : a.heap.size ≤ W.heap.size
  old : ∀ i, t < i → i < a.heap.size → W.heap[i]? = a.heap[i]?
theorem KB.refl (t : Nat) (a : World) : KB t a a := ⟨Nat.le_refl _, fun _ _ _ => rfl⟩
theorem KB.trans {t : Nat} {a b c : World} (h : KB t a b) (k : KB t b c) : KB t a c := ⟨Nat.le_trans h.more k.more, fun i h1 h2 => (k.old i h1 (Nat.lt_of_lt_of_le h2 h.more)).trans (h.old i h1 h2)⟩
theorem KB.of_below {t : Nat} {a b : World} (h : Below a.heap.size a b) : KB t a b := ⟨h.size, fun i _ h2 => h.block i h2⟩
theorem KB.below {t : Nat} {a b c : World} (h : KB t a b) (k : Below b.heap.size b c) : KB t a c := h.trans (KB.of_below k)
theorem KB.set {t : Nat} {a b : World} (h : KB t a b) {p : Addr} (hp : p.block ≤ t) (u : Value) : KB t a (b.setCell p u) := by
  refine ⟨by simpa [World.setCell] using h.more, fun i h1 h2 => ?_⟩
  exact (Below.heap_setCell b p u i (by omega)).trans (h.old i h1 h2)
theorem KB.blk {t : Nat} {a b : World} (h : KB t a b) {g : Nat} {o : Obj} (hg : a.heap[g]? = some o) (ht : t < g) : b.heap[g]? = some o := (h.old g ht (lt_of_blk hg)).trans hg
/-- What stands in memory with the plan begun by pre. -/
def BV (w : World) (q : Bk) (ms : List Mc) (ns : List Nd) (mv nv : Value) (pre : List Nat) (acc : Acc) (W : World) : Prop :=
  ∃ P : List Int, P.length = ns.length ∧ P.take pre.length = toZ pre ∧ BW w q ns.length ms.length mv nv P (cntL ms pre) (cyL ms ns (toZ pre)) acc W
theorem BV.below {w : World} {q : Bk} {ms : List Mc} {ns : List Nd} {mv nv : Value} {pre : List Nat} {acc : Acc} {W W' : World} (h : BV w q ms ns mv nv pre acc W) (hb : Below W.heap.size W W') : BV w q ms ns mv nv pre acc W' := by
  obtain ⟨P, h1, h2, h3⟩ := h
  exact ⟨P, h1, h2, h3.below hb⟩
end Go.Proofs.YtopoemfnnnfgdaaGreatDoor
