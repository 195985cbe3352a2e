/-
  The program reads a product: the line of a placement; both together.
-/
import Derived.Test.YtalconjnjaffkaaGreatDoorTxG
import Derived.Test.YtalconjnjaffkaaGreatDoorApK
namespace Go.Proofs.YtalconjnjaffkaaGreatDoor
open Go.RowKit
set_option linter.unusedSimpArgs false
set_option linter.unusedVariables false

/-- Nothing else has turned than one row and one block. -/
structure GC (a : World) (row : Option Nat) (c : Nat) (w : World) : Prop where
  os : w.os = a.os
  tape : w.tape = a.tape
  output : w.output = a.output
  size : a.heap.size ≤ w.heap.size
  block : ∀ k, k < a.heap.size → some k ≠ row → k ≠ c → w.heap[k]? = a.heap[k]?
theorem gc_refl {a : World} {row : Option Nat} {c : Nat} : GC a row c a := ⟨rfl, rfl, rfl, Nat.le_refl _, fun _ _ _ _ => rfl⟩
theorem gc_drew {a w : World} {row : Option Nat} {c : Nat} (h : GC a row c w) : GC a row c w.drew := ⟨h.os, h.tape, h.output, h.size, h.block⟩
theorem gc_alloc {a w : World} {row : Option Nat} {c : Nat} (h : GC a row c w) (o : Obj) : GC a row c (w.alloc o) :=
  ⟨h.os, h.tape, h.output, by have := h.size; simp; omega, fun k hk hne hc => (Below.heap_alloc w o k (Nat.lt_of_lt_of_le hk h.size)).trans (h.block k hk hne hc)⟩
theorem gc_grown {a w w' : World} {row : Option Nat} {c : Nat} (h : GC a row c w) (hg : w.grownBy w' row) : GC a row c w' :=
  ⟨hg.os.trans h.os, hg.tape.trans h.tape, hg.output.trans h.output, Nat.le_trans h.size hg.size, fun k hk hne hc => (hg.block k (Nat.lt_of_lt_of_le hk h.size) hne).trans (h.block k hk hne hc)⟩
theorem gc_set {a w : World} {row : Option Nat} {c j : Nat} (h : GC a row c w) (u : Value) : GC a row c (w.setCell ⟨c, j, none⟩ u) :=
  ⟨h.os, h.tape, h.output, by simpa [World.setCell] using h.size, fun k hk hne hc => (Below.heap_setCell w ⟨c, j, none⟩ u k hc).trans (h.block k hk hne hc)⟩
theorem GC.cell {a w : World} {row : Option Nat} {c : Nat} (h : GC a row c w) {p : Addr} {v : Value} (hc : a.cell? p = some v) (hne : some p.block ≠ row) (hnc : p.block ≠ c) : w.cell? p = some v := by
  have hlt : p.block < a.heap.size := by
    rcases Nat.lt_or_ge p.block a.heap.size with h | h
    · exact h
    · have hz : a.heap[p.block]? = none := Array.getElem?_eq_none h
      simp only [World.cell?, hz] at hc
      cases hc
  exact (World.cell?_of_block (w := a) (h.block p.block hlt hne hnc)).trans hc
theorem pl_info2 : (Tryz.prog.info? 124).map (fun i => (i.zero, i.size, i.bytes)) = some (some (.agg #[.string ⟨#[]⟩, .string ⟨#[]⟩, .int .i64 0, .int .i64 0, .int .i64 0]), 5, 56) := by kernel_rfl
/-- A row of strings or of numbers is no row of placements. -/
theorem row_apart {w : World} {base : Nat} {v : Value} {l : List Pl} (h : w.ownsRow base 124 5 v l.length (flatP l)) {b : Nat} (hb : v.ownBlock = some b) {T : TypeId} {cs : Array Value} {fz : Nat × Nat} (hk : w.heap[b]? = some (.cells cs T fz)) (hT : T ≠ 124) : False := by
  rcases h.2 with ⟨rfl, _⟩ | ⟨g, cap, cur, rfl, _, hg, _⟩
  · cases hb
  · cases hb
    rw [hg] at hk
    injection hk with hk
    injection hk with _ h2 _
    exact hT h2.symm

set_option maxHeartbeats 4000000 in
theorem readPlacement_any {cb base i : Nat} {st : Pd} {ws : List ByteArray} {v : Value} {w0 w : World} (hi2 : i ≤ 200000) (hz : ∀ x ∈ ws, x.size ≤ 200000) (hcb : base ≤ cb) (hbw0 : base ≤ w0.heap.size) (hI0 : PdAt cb i st w0) (hb0 : Below w0.heap.size w0 w) (hS0 : ReadsF w0.heap.size encS v ws w) :
    Calls Tryz.prog 90 #[.pointer (some ⟨cb, 0, none⟩), v] w fun e w' => e = .returned (.bool (rdPlace st ws).isSome) ∧ Below base w w' ∧ ∀ st', rdPlace st ws = some st' → PdAt cb (i + 1) st' w' := by
  have hI := hI0.below hb0
  have hS := hS0.strs
  have hbw : base ≤ w.heap.size := Nat.le_trans hbw0 hb0.size
  have hcb0 : cb < w0.heap.size := by obtain ⟨_, h, _⟩ := hI0; exact lt_of_blk h
  by_cases hl : ws.length = 6
  rotate_left
  · have HR := Lib.hid (@rdPlace_len st ws hl)
    have hne : ((ws.length : Int) != 6) = true := by simp; omega
    obtain ⟨A, c, rfl, _, _⟩ := hS
    go_enter Tryz.func90, Tryz.ntmps90
    go_wp2_with fail
    go_ret
    exact ⟨by rw [HR.out]; rfl, Below.refl _ _, fun st' h => by rw [HR.out] at h; cases h⟩
  obtain ⟨a, b, c, x, y, q, rfl⟩ := len6 hl
  have hg0 : ∀ g o : Nat, ∀ n c, v = .slice (some ⟨g, o, none⟩) n c → w0.heap.size ≤ g ∨ n = 0 := fun g o n c e => by
    obtain ⟨A', c', e', _, h⟩ := hS0
    rw [e] at e'
    injection e' with e1 e2 e3
    rcases h with h | ⟨g', e4, h, _⟩
    · right; rw [e2, h]; rfl
    · left; rw [e4] at e1; injection e1 with e1; injection e1 with e1; omega
  obtain ⟨A, cp, rfl, hc, hr⟩ := hS
  obtain ⟨g, o, rfl, hgl, hcs⟩ : ∃ g o : Nat, A = some ⟨g, o, none⟩ ∧ g < w.heap.size ∧ ∀ j (h : j < [a, b, c, x, y, q].length), w.cell? ⟨g, o + j, none⟩ = some (.string [a, b, c, x, y, q][j]) := by
    rcases hr with hr | hr
    · cases hr
    · exact hr
  have q0 := hcs 0 (by simp)
  simp only [Nat.add_zero, List.getElem_cons_zero] at q0
  have HC := Lib.hid hcs
  have hc4 : 6 ≤ cp := hc
  have CN := Lib.hid (numbers_any [x, y, q] (by simp) (fun z hx => by have := hz z (List.mem_cons_of_mem _ (List.mem_cons_of_mem _ (List.mem_cons_of_mem _ hx))); omega) (v := .slice (some ⟨g, o + 3, none⟩) 3 (cp - 3)) (w := w) ⟨_, cp - 3, rfl, by show 3 ≤ cp - 3; omega, .inr ⟨g, o + 3, rfl, hgl, fun j hj => by
    have hj2 : j < 3 := hj
    have := HC.out (j + 3) (by show j + 3 < 6; omega)
    rw [show o + 3 + j = o + (j + 3) by omega]
    exact this⟩⟩)
  rw [show numsI 15 [x, y, q] = [numI 15 x, numI 15 y, numI 15 q] from rfl] at CN
  have HI := Lib.hid hI
  have HX : Hid (∀ (h1 : (a.toList == [112, 108, 97, 99, 101]) = false ∨ numsB 15 [x, y, q] = false), rdPlace st [a, b, c, x, y, q] = none) := fun h1 => by
    simp only [rdPlace]
    rw [if_neg]
    rintro ⟨h2, h3⟩
    rcases h1 with h1 | h1
    · rw [h1] at h2; cases h2
    · rw [h1] at h3; cases h3
  have HY : Hid (∀ (h1 : (a.toList == [112, 108, 97, 99, 101]) = true) (h2 : numsB 15 [x, y, q] = true), rdPlace st [a, b, c, x, y, q] = some { st with pls := st.pls ++ [⟨b, c, numI 15 x, numI 15 y, numI 15 q⟩] }) := fun h1 h2 => by
    simp only [rdPlace]
    rw [if_pos ⟨h1, h2⟩]
  clear hcs hI hz hr hl
  cases h1 : (a.toList == [112, 108, 97, 99, 101])
  · have HR := Lib.hid (HX.out (.inl h1))
    clear HX HY CN
    go_enter Tryz.func90, Tryz.ntmps90
    go_wp2_with fail
    go_ret
    exact ⟨by rw [HR.out]; rfl, Below.refl _ _, fun st' h => by rw [HR.out] at h; cases h⟩
  cases h2 : numsB 15 [x, y, q]
  · have HR := Lib.hid (HX.out (.inr h2))
    rw [h2] at CN
    clear HX HY h2
    go_enter Tryz.func90, Tryz.ntmps90
    go_wp2_with fail
    refine CN.out.mono ?_
    rintro e w1 ⟨u, rfl, b1, _⟩
    have HB := Lib.hid (b1.mono hbw)
    clear b1
    go_wp2_with fail
    go_ret
    exact ⟨by rw [HR.out]; rfl, HB.out, fun st' h => by rw [HR.out] at h; cases h⟩
  · have HR := Lib.hid (HY.out h1 h2)
    rw [h2] at CN
    clear HX HY h2
    generalize numI 15 x = nx at *
    generalize numI 15 y = ny at *
    generalize numI 15 q = nq at *
    go_enter Tryz.func90, Tryz.ntmps90
    go_wp2_with fail
    refine CN.out.mono ?_
    rintro e w1 ⟨u, rfl, b1, hu⟩
    obtain ⟨Au, cu, rfl, hcu, hru⟩ := hu trivial
    obtain ⟨gn, rfl, hgn, hlu⟩ : ∃ gn : Nat, Au = some ⟨gn, 0, none⟩ ∧ w.heap.size ≤ gn ∧ LineAt w1 gn ([nx, ny, nq].flatMap encZ) := by
      rcases hru with hru | hru
      · cases hru
      · exact hru
    have n0 : w1.cell? ⟨gn, 0, none⟩ = some (.int .i64 nx) := row_intz hlu (k := 0) (by simp)
    have n1 : w1.cell? ⟨gn, 1, none⟩ = some (.int .i64 ny) := row_intz hlu (k := 1) (by simp)
    have n2 : w1.cell? ⟨gn, 2, none⟩ = some (.int .i64 nq) := row_intz hlu (k := 2) (by simp)
    have q1 : w1.cell? ⟨g, o + 1, none⟩ = some (.string b) := (b1.cell (p := ⟨g, o + 1, none⟩) hgl).trans (HC.out 1 (by simp))
    have q2 : w1.cell? ⟨g, o + 2, none⟩ = some (.string c) := (b1.cell (p := ⟨g, o + 2, none⟩) hgl).trans (HC.out 2 (by simp))
    obtain ⟨vs, hp, hown, hpl⟩ := HI.out.below b1
    have HP := Lib.hid (And.intro (b1.mono hbw) (And.intro hp (And.intro hown hpl)))
    have hcbl := lt_of_blk hp
    have f3 := frozen_of_blk hp 3
    obtain ⟨_, _, _, p3⟩ := blk4 hp
    obtain ⟨Av, cv, rfl, hcv, _⟩ := own_slice' hown
    have hpl2 : st.pls.length ≤ 200000 := by omega
    have hgw : w0.heap.size ≤ g := by
      rcases hg0 g o _ _ rfl with h | h
      · exact h
      · simp at h
    -- the row of the placements is none of the other blocks
    have HRow : Hid (∀ j, (Value.slice Av st.pls.length cv).ownBlock = some j → cb + 1 ≤ j ∧ j ≠ g ∧ j ≠ gn) := fun j hj => by
      have hj0 := (own_row HP.out.2.2.1) j hj
      obtain ⟨vs0, hp0, hown0, _⟩ := hI0
      have e0 := (blk_below b1 (blk_below hb0 hp0)).symm.trans HP.out.2.1
      simp at e0
      rw [e0] at hown0
      have hj1 := own_lt hown0 j hj
      have := hb0.size
      omega
    have hne1 : gn ≠ cb := by have := hb0.size; omega
    have hne2 : g ≠ cb := by omega
    obtain ⟨row, hrow⟩ : ∃ row, (Value.slice Av st.pls.length cv).ownBlock = row := ⟨_, rfl⟩
    have HRW : Hid (∀ j, row = some j → j < w1.heap.size) := fun j hj => own_lt HP.out.2.2.1 j (hrow.trans hj)
    rw [hrow] at HRow
    have HC3 : Hid (∀ W, w1.drew.grownBy W row → W.cell? ⟨cb, 3, none⟩ = some (.slice Av st.pls.length cv) ∧ W.frozen? ⟨cb, 3, none⟩ = false ∧ W.heap[cb]? = some (.cells #[.string st.key, .int .i64 st.w, .int .i64 st.h, .slice Av st.pls.length cv] 44 (0, 0))) := fun W hg => by
      have hbk := (hg.block cb hcbl (fun e => by have := HRow.out cb e.symm; omega)).trans hp
      exact ⟨by rw [cell_of_blk hbk]; rfl, frozen_of_blk hbk 3, hbk⟩
    have HKS : Hid (∀ W, w1.drew.grownBy W row → W.cell? ⟨g, o + 1, none⟩ = some (.string b) ∧ W.cell? ⟨g, o + 2, none⟩ = some (.string c) ∧ W.cell? ⟨gn, 0, none⟩ = some (.int .i64 nx) ∧ W.cell? ⟨gn, 1, none⟩ = some (.int .i64 ny) ∧ W.cell? ⟨gn, 2, none⟩ = some (.int .i64 nq)) := fun W h =>
      ⟨World.grownBy.cell h (a := ⟨g, o + 1, none⟩) q1 (fun e => (HRow.out g e.symm).2.1 rfl), World.grownBy.cell h (a := ⟨g, o + 2, none⟩) q2 (fun e => (HRow.out g e.symm).2.1 rfl), World.grownBy.cell h (a := ⟨gn, 0, none⟩) n0 (fun e => (HRow.out gn e.symm).2.2 rfl), World.grownBy.cell h (a := ⟨gn, 1, none⟩) n1 (fun e => (HRow.out gn e.symm).2.2 rfl), World.grownBy.cell h (a := ⟨gn, 2, none⟩) n2 (fun e => (HRow.out gn e.symm).2.2 rfl)⟩
    obtain ⟨i0, hi0, hz0, hzz1, hzz2⟩ := info_parts pl_info2
    have HIF := Lib.hid (And.intro hi0 (And.intro hz0 (And.intro hzz1 hzz2)))
    have hcb1 : cb + 1 ≤ w1.heap.size := hcbl
    have HO : Hid (w1.ownsRow (cb + 1) 124 5 (.slice Av st.pls.length cv) st.pls.length (flatP st.pls)) := HP.out.2.2.1
    have HROW := Lib.hid hrow
    clear b1 hu hru hlu hp hown hpl CN hi0 hz0 hzz1 hzz2 hI0 hb0 hS0 hg0 hrow p3
    go_wp2_with fail
    refine Rg.rgS 22 [0] (fun a b => a.grownBy b row) (fun a b => Below a.heap.size a b) (fun a b => a.grownBy b row)
      [(fun vs u => vs 0 = .pointer (some ⟨cb, 0, none⟩)), (fun vs u => vs 1 = .pointer (some ⟨cb, 0, none⟩)), (fun vs u => vs 2 = .pointer (some ⟨cb, 0, none⟩)), (fun vs u => vs 3 = .pointer (some ⟨cb, 3, none⟩)), (fun vs u => vs 4 = .slice Av st.pls.length cv), (fun vs u => vs 5 = .slice (some ⟨g, o, none⟩) 6 cp), (fun vs u => vs 6 = .pointer (some ⟨g, o + 1, none⟩)), (fun vs u => vs 7 = .string b), (fun vs u => vs 8 = .slice (some ⟨g, o, none⟩) 6 cp), (fun vs u => vs 9 = .pointer (some ⟨g, o + 2, none⟩)), (fun vs u => vs 10 = .string c), (fun vs u => vs 11 = .slice (some ⟨gn, 0, none⟩) 3 cu), (fun vs u => vs 12 = .pointer (some ⟨gn, 0, none⟩)), (fun vs u => vs 13 = .int .i64 nx), (fun vs u => vs 14 = .slice (some ⟨gn, 0, none⟩) 3 cu), (fun vs u => vs 15 = .pointer (some ⟨gn, 1, none⟩)), (fun vs u => vs 16 = .int .i64 ny), (fun vs u => vs 17 = .slice (some ⟨gn, 0, none⟩) 3 cu), (fun vs u => vs 18 = .pointer (some ⟨gn, 2, none⟩)), (fun vs u => vs 19 = .int .i64 nq), (fun vs u => vs 20 = .agg #[.string b, .string c, .int .i64 nx, .int .i64 ny, .int .i64 nq]), (fun vs u => ∃ q : Nat, vs 21 = .slice (some ⟨q, 0, none⟩) 1 1 ∧ w1.heap.size ≤ q ∧ u.heap[q]? = some (.cells #[.string b, .string c, .int .i64 nx, .int .i64 ny, .int .i64 nq] 124 (0, 0))), (fun vs u => ∃ (A : Option Addr) (c9 : Nat), vs 22 = .slice A (st.pls.length + 1) c9 ∧ u.ownsRow (cb + 1) 124 5 (.slice A (st.pls.length + 1) c9) (st.pls.length + 1) (flatP st.pls ++ [.string b, .string c, .int .i64 nx, .int .i64 ny, .int .i64 nq]))]
      [[], [], [1], [1, 2], [1, 2, 3], [], [5], [5, 6], [], [8], [8, 9], [], [11], [11, 12], [], [14], [14, 15], [], [17], [17, 18], [5, 6, 7, 8, 9, 10, 11, 12, 13, 14, 15, 16, 17, 18, 19], [5, 6, 7, 8, 9, 10, 11, 12, 13, 14, 15, 16, 17, 18, 19, 20], [1, 2, 3, 4, 5, 6, 7, 8, 9, 10, 11, 12, 13, 14, 15, 16, 17, 18, 19, 20, 21]] [some 24, some 25, some 26, some 27, some 28, some 29, some 30, some 31, some 32, some 33, some 34, some 35, some 36, some 37, some 38, some 39, some 40, some 41, some 42, some 43, some 44, some 45, some 46, some 47, some 48, none] [] (fun _ W => W.ownsRow (cb + 1) 124 5 (.slice Av st.pls.length cv) st.pls.length (flatP st.pls)) [[], [], [1], [1, 2], [1, 2, 3], [], [5], [5, 6], [], [8], [8, 9], [], [11], [11, 12], [], [14], [14, 15], [], [17], [17, 18], [5, 6, 7, 8, 9, 10, 11, 12, 13, 14, 15, 16, 17, 18, 19], [5, 6, 7, 8, 9, 10, 11, 12, 13, 14, 15, 16, 17, 18, 19, 20], [1, 2, 3, 4, 5, 6, 7, 8, 9, 10, 11, 12, 13, 14, 15, 16, 17, 18, 19, 20, 21], [0, 1, 2, 3, 4, 5, 6, 7, 8, 9, 10, 11, 12, 13, 14, 15, 16, 17, 18, 19, 20, 21, 22], [0, 1, 2, 3, 4, 5, 6, 7, 8, 9, 10, 11, 12, 13, 14, 15, 16, 17, 18, 19, 20, 21, 22, 23], [0, 1, 2, 3, 4, 5, 6, 7, 8, 9, 10, 11, 12, 13, 14, 15, 16, 17, 18, 19, 20, 21, 22, 23, 24]]
      (by kernel_rfl) (by decide) (by kernel_rfl) (by kernel_rfl) (by kernel_rfl) (by kernel_rfl) (by kernel_rfl) (fun _ => World.grownBy.refl _ _) (fun _ _ _ h k => World.grownBy.trans h k) (fun _ _ h => h.size) (fun _ _ h => ⟨h.os, h.tape, h.output, h.size, fun k hk _ => h.block k hk⟩) (fun _ _ h => h) (by decide) ?_ ?_ HO.out.drew ?_ ?_
    · intro j hj vs w w' h hE
      match j, hj, h with
      | 0, _, h => exact h
      | 1, _, h => exact h
      | 2, _, h => exact h
      | 3, _, h => exact h
      | 4, _, h => exact h
      | 5, _, h => exact h
      | 6, _, h => exact h
      | 7, _, h => exact h
      | 8, _, h => exact h
      | 9, _, h => exact h
      | 10, _, h => exact h
      | 11, _, h => exact h
      | 12, _, h => exact h
      | 13, _, h => exact h
      | 14, _, h => exact h
      | 15, _, h => exact h
      | 16, _, h => exact h
      | 17, _, h => exact h
      | 18, _, h => exact h
      | 19, _, h => exact h
      | 20, _, h => exact h
      | 21, _, h =>
        have h : ∃ q : Nat, vs 21 = .slice (some ⟨q, 0, none⟩) 1 1 ∧ w1.heap.size ≤ q ∧ w.heap[q]? = some (.cells #[.string b, .string c, .int .i64 nx, .int .i64 ny, .int .i64 nq] 124 (0, 0)) := h
        show ∃ q : Nat, vs 21 = .slice (some ⟨q, 0, none⟩) 1 1 ∧ w1.heap.size ≤ q ∧ w'.heap[q]? = some (.cells #[.string b, .string c, .int .i64 nx, .int .i64 ny, .int .i64 nq] 124 (0, 0))
        obtain ⟨q, e, hq, k⟩ := h
        exact ⟨q, e, hq, blk_below hE k⟩
      | 22, hj, _ => exact absurd rfl hj
      | (j + 23), _, h => exact h
    · intro j hj hc vs w w' h hE
      match j, hj, hc, h with
      | 0, _, _, h => exact h
      | 1, _, _, h => exact h
      | 2, _, _, h => exact h
      | 3, _, _, h => exact h
      | 4, _, _, h => exact h
      | 5, _, _, h => exact h
      | 6, _, _, h => exact h
      | 7, _, _, h => exact h
      | 8, _, _, h => exact h
      | 9, _, _, h => exact h
      | 10, _, _, h => exact h
      | 11, _, _, h => exact h
      | 12, _, _, h => exact h
      | 13, _, _, h => exact h
      | 14, _, _, h => exact h
      | 15, _, _, h => exact h
      | 16, _, _, h => exact h
      | 17, _, _, h => exact h
      | 18, _, _, h => exact h
      | 19, _, _, h => exact h
      | 20, _, _, h => exact h
      | 21, _, _, h =>
        have h : ∃ q : Nat, vs 21 = .slice (some ⟨q, 0, none⟩) 1 1 ∧ w1.heap.size ≤ q ∧ w.heap[q]? = some (.cells #[.string b, .string c, .int .i64 nx, .int .i64 ny, .int .i64 nq] 124 (0, 0)) := h
        show ∃ q : Nat, vs 21 = .slice (some ⟨q, 0, none⟩) 1 1 ∧ w1.heap.size ≤ q ∧ w'.heap[q]? = some (.cells #[.string b, .string c, .int .i64 nx, .int .i64 ny, .int .i64 nq] 124 (0, 0))
        obtain ⟨q, e, hq, k⟩ := h
        exact ⟨q, e, hq, (hE.block q (lt_of_blk k) (fun e => by have := HRW.out q e.symm; omega)).trans k⟩
      | 22, hj, _, _ => exact absurd rfl hj
      | (j + 23), _, _, h => exact h
    ·
      refine Rg.cons 0 1 rfl (Rg.plain rfl ?_) ?_
      · intro vs W n hn hI hG hT hF K hK
        simp only [Rg.putsD, List.getD_cons_zero, List.getD_cons_succ, Act.put, List.setIfInBounds_toArray, List.set_cons_zero, List.set_cons_succ] at hK ⊢
        clear hn
        clear hF
        have H := Lib.hid hK
        clear hK hT
        go_simp
        exact H.out _ _ (rfl) rfl (fun h => by cases h) hI
      refine Rg.cons 1 2 rfl (Rg.plain rfl ?_) ?_
      · intro vs W n hn hI hG hT hF K hK
        simp only [Rg.putsD, List.getD_cons_zero, List.getD_cons_succ, Act.put, List.setIfInBounds_toArray, List.set_cons_zero, List.set_cons_succ] at hK ⊢
        clear hn
        clear hF
        have H := Lib.hid hK
        clear hK hT
        go_simp
        exact H.out _ _ (Below.refl _ _) rfl (fun h => by cases h) hI
      refine Rg.cons 2 3 rfl (Rg.plain rfl ?_) ?_
      · intro vs W n hn hI hG hT hF K hK
        simp only [Rg.putsD, List.getD_cons_zero, List.getD_cons_succ, Act.put, List.setIfInBounds_toArray, List.set_cons_zero, List.set_cons_succ] at hK ⊢
        clear hn
        clear hF
        have t1 : vs 1 = .pointer (some ⟨cb, 0, none⟩) := hT 1 (by decide)
        simp only [t1] at hK
        have H := Lib.hid hK
        clear hK hT
        go_simp
        exact H.out _ _ (Below.refl _ _) rfl (fun h => by cases h) hI
      refine Rg.cons 3 4 rfl (Rg.plain rfl ?_) ?_
      · intro vs W n hn hI hG hT hF K hK
        simp only [Rg.putsD, List.getD_cons_zero, List.getD_cons_succ, Act.put, List.setIfInBounds_toArray, List.set_cons_zero, List.set_cons_succ] at hK ⊢
        clear hn
        clear hF
        have t1 : vs 1 = .pointer (some ⟨cb, 0, none⟩) := hT 1 (by decide)
        have t2 : vs 2 = .pointer (some ⟨cb, 0, none⟩) := hT 2 (by decide)
        simp only [t1, t2] at hK
        have H := Lib.hid hK
        clear hK hT
        go_simp
        exact H.out _ _ (Below.refl _ _) rfl (fun h => by cases h) hI
      refine Rg.cons 4 5 rfl (Rg.plain rfl ?_) ?_
      · intro vs W n hn hI hG hT hF K hK
        simp only [Rg.putsD, List.getD_cons_zero, List.getD_cons_succ, Act.put, List.setIfInBounds_toArray, List.set_cons_zero, List.set_cons_succ] at hK ⊢
        clear hn
        clear hF
        have t1 : vs 1 = .pointer (some ⟨cb, 0, none⟩) := hT 1 (by decide)
        have t2 : vs 2 = .pointer (some ⟨cb, 0, none⟩) := hT 2 (by decide)
        have t3 : vs 3 = .pointer (some ⟨cb, 3, none⟩) := hT 3 (by decide)
        have c0 := (HC3.out W hG).1
        simp only [t1, t2, t3] at hK
        have H := Lib.hid hK
        clear hK hT
        go_simp
        exact H.out _ _ (Below.refl _ _) rfl (fun h => by cases h) hI
      refine Rg.cons 5 6 rfl (Rg.plain rfl ?_) ?_
      · intro vs W n hn hI hG hT hF K hK
        simp only [Rg.putsD, List.getD_cons_zero, List.getD_cons_succ, Act.put, List.setIfInBounds_toArray, List.set_cons_zero, List.set_cons_succ] at hK ⊢
        clear hn
        clear hF
        have H := Lib.hid hK
        clear hK hT
        go_simp
        exact H.out _ _ (Below.refl _ _) rfl (fun h => by cases h) hI
      refine Rg.cons 6 7 rfl (Rg.plain rfl ?_) ?_
      · intro vs W n hn hI hG hT hF K hK
        simp only [Rg.putsD, List.getD_cons_zero, List.getD_cons_succ, Act.put, List.setIfInBounds_toArray, List.set_cons_zero, List.set_cons_succ] at hK ⊢
        clear hn
        clear hF
        have t5 : vs 5 = .slice (some ⟨g, o, none⟩) 6 cp := hT 5 (by decide)
        simp only [t5] at hK
        have H := Lib.hid hK
        clear hK hT
        go_simp
        exact H.out _ _ (Below.refl _ _) rfl (fun h => by cases h) hI
      refine Rg.cons 7 8 rfl (Rg.plain rfl ?_) ?_
      · intro vs W n hn hI hG hT hF K hK
        simp only [Rg.putsD, List.getD_cons_zero, List.getD_cons_succ, Act.put, List.setIfInBounds_toArray, List.set_cons_zero, List.set_cons_succ] at hK ⊢
        clear hn
        clear hF
        have t5 : vs 5 = .slice (some ⟨g, o, none⟩) 6 cp := hT 5 (by decide)
        have t6 : vs 6 = .pointer (some ⟨g, o + 1, none⟩) := hT 6 (by decide)
        have c0 := (HKS.out W hG).1
        simp only [t5, t6] at hK
        have H := Lib.hid hK
        clear hK hT
        go_simp
        exact H.out _ _ (Below.refl _ _) rfl (fun h => by cases h) hI
      refine Rg.cons 8 9 rfl (Rg.plain rfl ?_) ?_
      · intro vs W n hn hI hG hT hF K hK
        simp only [Rg.putsD, List.getD_cons_zero, List.getD_cons_succ, Act.put, List.setIfInBounds_toArray, List.set_cons_zero, List.set_cons_succ] at hK ⊢
        clear hn
        clear hF
        have H := Lib.hid hK
        clear hK hT
        go_simp
        exact H.out _ _ (Below.refl _ _) rfl (fun h => by cases h) hI
      refine Rg.cons 9 10 rfl (Rg.plain rfl ?_) ?_
      · intro vs W n hn hI hG hT hF K hK
        simp only [Rg.putsD, List.getD_cons_zero, List.getD_cons_succ, Act.put, List.setIfInBounds_toArray, List.set_cons_zero, List.set_cons_succ] at hK ⊢
        clear hn
        clear hF
        have t8 : vs 8 = .slice (some ⟨g, o, none⟩) 6 cp := hT 8 (by decide)
        simp only [t8] at hK
        have H := Lib.hid hK
        clear hK hT
        go_simp
        exact H.out _ _ (Below.refl _ _) rfl (fun h => by cases h) hI
      refine Rg.cons 10 11 rfl (Rg.plain rfl ?_) ?_
      · intro vs W n hn hI hG hT hF K hK
        simp only [Rg.putsD, List.getD_cons_zero, List.getD_cons_succ, Act.put, List.setIfInBounds_toArray, List.set_cons_zero, List.set_cons_succ] at hK ⊢
        clear hn
        clear hF
        have t8 : vs 8 = .slice (some ⟨g, o, none⟩) 6 cp := hT 8 (by decide)
        have t9 : vs 9 = .pointer (some ⟨g, o + 2, none⟩) := hT 9 (by decide)
        have c0 := (HKS.out W hG).2.1
        simp only [t8, t9] at hK
        have H := Lib.hid hK
        clear hK hT
        go_simp
        exact H.out _ _ (Below.refl _ _) rfl (fun h => by cases h) hI
      refine Rg.cons 11 12 rfl (Rg.plain rfl ?_) ?_
      · intro vs W n hn hI hG hT hF K hK
        simp only [Rg.putsD, List.getD_cons_zero, List.getD_cons_succ, Act.put, List.setIfInBounds_toArray, List.set_cons_zero, List.set_cons_succ] at hK ⊢
        clear hn
        clear hF
        have H := Lib.hid hK
        clear hK hT
        go_simp
        exact H.out _ _ (Below.refl _ _) rfl (fun h => by cases h) hI
      refine Rg.cons 12 13 rfl (Rg.plain rfl ?_) ?_
      · intro vs W n hn hI hG hT hF K hK
        simp only [Rg.putsD, List.getD_cons_zero, List.getD_cons_succ, Act.put, List.setIfInBounds_toArray, List.set_cons_zero, List.set_cons_succ] at hK ⊢
        clear hn
        clear hF
        have t11 : vs 11 = .slice (some ⟨gn, 0, none⟩) 3 cu := hT 11 (by decide)
        simp only [t11] at hK
        have H := Lib.hid hK
        clear hK hT
        go_simp
        exact H.out _ _ (Below.refl _ _) rfl (fun h => by cases h) hI
      refine Rg.cons 13 14 rfl (Rg.plain rfl ?_) ?_
      · intro vs W n hn hI hG hT hF K hK
        simp only [Rg.putsD, List.getD_cons_zero, List.getD_cons_succ, Act.put, List.setIfInBounds_toArray, List.set_cons_zero, List.set_cons_succ] at hK ⊢
        clear hn
        clear hF
        have t11 : vs 11 = .slice (some ⟨gn, 0, none⟩) 3 cu := hT 11 (by decide)
        have t12 : vs 12 = .pointer (some ⟨gn, 0, none⟩) := hT 12 (by decide)
        have c0 := (HKS.out W hG).2.2.1
        simp only [t11, t12] at hK
        have H := Lib.hid hK
        clear hK hT
        go_simp
        exact H.out _ _ (Below.refl _ _) rfl (fun h => by cases h) hI
      refine Rg.cons 14 15 rfl (Rg.plain rfl ?_) ?_
      · intro vs W n hn hI hG hT hF K hK
        simp only [Rg.putsD, List.getD_cons_zero, List.getD_cons_succ, Act.put, List.setIfInBounds_toArray, List.set_cons_zero, List.set_cons_succ] at hK ⊢
        clear hn
        clear hF
        have H := Lib.hid hK
        clear hK hT
        go_simp
        exact H.out _ _ (Below.refl _ _) rfl (fun h => by cases h) hI
      refine Rg.cons 15 16 rfl (Rg.plain rfl ?_) ?_
      · intro vs W n hn hI hG hT hF K hK
        simp only [Rg.putsD, List.getD_cons_zero, List.getD_cons_succ, Act.put, List.setIfInBounds_toArray, List.set_cons_zero, List.set_cons_succ] at hK ⊢
        clear hn
        clear hF
        have t14 : vs 14 = .slice (some ⟨gn, 0, none⟩) 3 cu := hT 14 (by decide)
        simp only [t14] at hK
        have H := Lib.hid hK
        clear hK hT
        go_simp
        exact H.out _ _ (Below.refl _ _) rfl (fun h => by cases h) hI
      refine Rg.cons 16 17 rfl (Rg.plain rfl ?_) ?_
      · intro vs W n hn hI hG hT hF K hK
        simp only [Rg.putsD, List.getD_cons_zero, List.getD_cons_succ, Act.put, List.setIfInBounds_toArray, List.set_cons_zero, List.set_cons_succ] at hK ⊢
        clear hn
        clear hF
        have t14 : vs 14 = .slice (some ⟨gn, 0, none⟩) 3 cu := hT 14 (by decide)
        have t15 : vs 15 = .pointer (some ⟨gn, 1, none⟩) := hT 15 (by decide)
        have c0 := (HKS.out W hG).2.2.2.1
        simp only [t14, t15] at hK
        have H := Lib.hid hK
        clear hK hT
        go_simp
        exact H.out _ _ (Below.refl _ _) rfl (fun h => by cases h) hI
      refine Rg.cons 17 18 rfl (Rg.plain rfl ?_) ?_
      · intro vs W n hn hI hG hT hF K hK
        simp only [Rg.putsD, List.getD_cons_zero, List.getD_cons_succ, Act.put, List.setIfInBounds_toArray, List.set_cons_zero, List.set_cons_succ] at hK ⊢
        clear hn
        clear hF
        have H := Lib.hid hK
        clear hK hT
        go_simp
        exact H.out _ _ (Below.refl _ _) rfl (fun h => by cases h) hI
      refine Rg.cons 18 19 rfl (Rg.plain rfl ?_) ?_
      · intro vs W n hn hI hG hT hF K hK
        simp only [Rg.putsD, List.getD_cons_zero, List.getD_cons_succ, Act.put, List.setIfInBounds_toArray, List.set_cons_zero, List.set_cons_succ] at hK ⊢
        clear hn
        clear hF
        have t17 : vs 17 = .slice (some ⟨gn, 0, none⟩) 3 cu := hT 17 (by decide)
        simp only [t17] at hK
        have H := Lib.hid hK
        clear hK hT
        go_simp
        exact H.out _ _ (Below.refl _ _) rfl (fun h => by cases h) hI
      refine Rg.cons 19 20 rfl (Rg.plain rfl ?_) ?_
      · intro vs W n hn hI hG hT hF K hK
        simp only [Rg.putsD, List.getD_cons_zero, List.getD_cons_succ, Act.put, List.setIfInBounds_toArray, List.set_cons_zero, List.set_cons_succ] at hK ⊢
        clear hn
        clear hF
        have t17 : vs 17 = .slice (some ⟨gn, 0, none⟩) 3 cu := hT 17 (by decide)
        have t18 : vs 18 = .pointer (some ⟨gn, 2, none⟩) := hT 18 (by decide)
        have c0 := (HKS.out W hG).2.2.2.2
        simp only [t17, t18] at hK
        have H := Lib.hid hK
        clear hK hT
        go_simp
        exact H.out _ _ (Below.refl _ _) rfl (fun h => by cases h) hI
      refine Rg.cons 20 21 rfl (Rg.plain rfl ?_) ?_
      · intro vs W n hn hI hG hT hF K hK
        simp only [Rg.putsD, List.getD_cons_zero, List.getD_cons_succ, Act.put, List.setIfInBounds_toArray, List.set_cons_zero, List.set_cons_succ] at hK ⊢
        clear hn
        clear hF
        have t5 : vs 5 = .slice (some ⟨g, o, none⟩) 6 cp := hT 5 (by decide)
        have t6 : vs 6 = .pointer (some ⟨g, o + 1, none⟩) := hT 6 (by decide)
        have t7 : vs 7 = .string b := hT 7 (by decide)
        have t8 : vs 8 = .slice (some ⟨g, o, none⟩) 6 cp := hT 8 (by decide)
        have t9 : vs 9 = .pointer (some ⟨g, o + 2, none⟩) := hT 9 (by decide)
        have t10 : vs 10 = .string c := hT 10 (by decide)
        have t11 : vs 11 = .slice (some ⟨gn, 0, none⟩) 3 cu := hT 11 (by decide)
        have t12 : vs 12 = .pointer (some ⟨gn, 0, none⟩) := hT 12 (by decide)
        have t13 : vs 13 = .int .i64 nx := hT 13 (by decide)
        have t14 : vs 14 = .slice (some ⟨gn, 0, none⟩) 3 cu := hT 14 (by decide)
        have t15 : vs 15 = .pointer (some ⟨gn, 1, none⟩) := hT 15 (by decide)
        have t16 : vs 16 = .int .i64 ny := hT 16 (by decide)
        have t17 : vs 17 = .slice (some ⟨gn, 0, none⟩) 3 cu := hT 17 (by decide)
        have t18 : vs 18 = .pointer (some ⟨gn, 2, none⟩) := hT 18 (by decide)
        have t19 : vs 19 = .int .i64 nq := hT 19 (by decide)
        simp only [t5, t6, t7, t8, t9, t10, t11, t12, t13, t14, t15, t16, t17, t18, t19] at hK
        have H := Lib.hid hK
        clear hK hT
        go_simp
        exact H.out _ _ (Below.refl _ _) rfl (fun h => by cases h) hI
      refine Rg.cons 21 22 rfl (Rg.plain rfl ?_) ?_
      · intro vs W n hn hI hG hT hF K hK
        simp only [Rg.putsD, List.getD_cons_zero, List.getD_cons_succ, Act.put, List.setIfInBounds_toArray, List.set_cons_zero, List.set_cons_succ] at hK ⊢
        clear hn
        clear hF
        have t5 : vs 5 = .slice (some ⟨g, o, none⟩) 6 cp := hT 5 (by decide)
        have t6 : vs 6 = .pointer (some ⟨g, o + 1, none⟩) := hT 6 (by decide)
        have t7 : vs 7 = .string b := hT 7 (by decide)
        have t8 : vs 8 = .slice (some ⟨g, o, none⟩) 6 cp := hT 8 (by decide)
        have t9 : vs 9 = .pointer (some ⟨g, o + 2, none⟩) := hT 9 (by decide)
        have t10 : vs 10 = .string c := hT 10 (by decide)
        have t11 : vs 11 = .slice (some ⟨gn, 0, none⟩) 3 cu := hT 11 (by decide)
        have t12 : vs 12 = .pointer (some ⟨gn, 0, none⟩) := hT 12 (by decide)
        have t13 : vs 13 = .int .i64 nx := hT 13 (by decide)
        have t14 : vs 14 = .slice (some ⟨gn, 0, none⟩) 3 cu := hT 14 (by decide)
        have t15 : vs 15 = .pointer (some ⟨gn, 1, none⟩) := hT 15 (by decide)
        have t16 : vs 16 = .int .i64 ny := hT 16 (by decide)
        have t17 : vs 17 = .slice (some ⟨gn, 0, none⟩) 3 cu := hT 17 (by decide)
        have t18 : vs 18 = .pointer (some ⟨gn, 2, none⟩) := hT 18 (by decide)
        have t19 : vs 19 = .int .i64 nq := hT 19 (by decide)
        have t20 : vs 20 = .agg #[.string b, .string c, .int .i64 nx, .int .i64 ny, .int .i64 nq] := hT 20 (by decide)
        have hsz := hG.size
        simp only [t5, t6, t7, t8, t9, t10, t11, t12, t13, t14, t15, t16, t17, t18, t19, t20] at hK
        have H := Lib.hid hK
        clear hK hT
        go_simp
        exact H.out _ _ ((Below.refl _ _).alloc (Nat.le_refl _) _) (show ∃ q : Nat, _ = _ ∧ _ ∧ _ = _ from ⟨_, rfl, hsz, blk_new W _ rfl⟩) (fun h => by cases h) (World.ownsRow.alloc hI _)
      refine Rg.cons 22 23 rfl (Rg.plain rfl ?_) ?_
      · intro vs W n hn hI hG hT hF K hK
        simp only [Rg.putsD, List.getD_cons_zero, List.getD_cons_succ, Act.put, List.setIfInBounds_toArray, List.set_cons_zero, List.set_cons_succ] at hK ⊢
        clear hn
        clear hF
        have t1 : vs 1 = .pointer (some ⟨cb, 0, none⟩) := hT 1 (by decide)
        have t2 : vs 2 = .pointer (some ⟨cb, 0, none⟩) := hT 2 (by decide)
        have t3 : vs 3 = .pointer (some ⟨cb, 3, none⟩) := hT 3 (by decide)
        have t4 : vs 4 = .slice Av st.pls.length cv := hT 4 (by decide)
        have t5 : vs 5 = .slice (some ⟨g, o, none⟩) 6 cp := hT 5 (by decide)
        have t6 : vs 6 = .pointer (some ⟨g, o + 1, none⟩) := hT 6 (by decide)
        have t7 : vs 7 = .string b := hT 7 (by decide)
        have t8 : vs 8 = .slice (some ⟨g, o, none⟩) 6 cp := hT 8 (by decide)
        have t9 : vs 9 = .pointer (some ⟨g, o + 2, none⟩) := hT 9 (by decide)
        have t10 : vs 10 = .string c := hT 10 (by decide)
        have t11 : vs 11 = .slice (some ⟨gn, 0, none⟩) 3 cu := hT 11 (by decide)
        have t12 : vs 12 = .pointer (some ⟨gn, 0, none⟩) := hT 12 (by decide)
        have t13 : vs 13 = .int .i64 nx := hT 13 (by decide)
        have t14 : vs 14 = .slice (some ⟨gn, 0, none⟩) 3 cu := hT 14 (by decide)
        have t15 : vs 15 = .pointer (some ⟨gn, 1, none⟩) := hT 15 (by decide)
        have t16 : vs 16 = .int .i64 ny := hT 16 (by decide)
        have t17 : vs 17 = .slice (some ⟨gn, 0, none⟩) 3 cu := hT 17 (by decide)
        have t18 : vs 18 = .pointer (some ⟨gn, 2, none⟩) := hT 18 (by decide)
        have t19 : vs 19 = .int .i64 nq := hT 19 (by decide)
        have t20 : vs 20 = .agg #[.string b, .string c, .int .i64 nx, .int .i64 ny, .int .i64 nq] := hT 20 (by decide)
        have t21 : ∃ q : Nat, vs 21 = .slice (some ⟨q, 0, none⟩) 1 1 ∧ w1.heap.size ≤ q ∧ W.heap[q]? = some (.cells #[.string b, .string c, .int .i64 nx, .int .i64 ny, .int .i64 nq] 124 (0, 0)) := hT 21 (by decide)
        obtain ⟨bq, e21, hbq, k21⟩ := t21
        simp only [e21] at hK
        have HSZ := Lib.hid hG
        have hsz := hG.size
        have hszd : w1.heap.size ≤ W.heap.size := hsz
        simp only [t1, t2, t3, t4, t5, t6, t7, t8, t9, t10, t11, t12, t13, t14, t15, t16, t17, t18, t19, t20] at hK
        have H := Lib.hid hK
        clear hK hT
        simp only [t1, t2, t3, t4, t5, t6, t7, t8, t9, t10, t11, t12, t13, t14, t15, t16, t17, t18, t19, t20, e21]
        refine wp_append_keep _ _ _ 42 rfl (cb + 1) 124 i0 _ 5 56 Tryz.underlying42 HIF.out.1 HIF.out.2.1 HIF.out.2.2.1 HIF.out.2.2.2 rfl (by omega) (.slice Av st.pls.length cv) st.pls.length (flatP st.pls) rfl hI ⟨bq, 0, none⟩ 1 1 [.string b, .string c, .int .i64 nx, .int .i64 ny, .int .i64 nq] rfl rfl (fun j u hu => by rw [addr_new, cell_of_blk k21]; simpa using hu) (by intro u hu; simp at hu; rcases hu with rfl | rfl | rfl | rfl | rfl <;> rfl) (by unfold maxLen; omega) (by omega) (by omega) ?_
        intro v' w2 hown' hg' hk'
        obtain ⟨Av', cv', rfl, _, _⟩ := own_slice' hown'
        rw [HROW.out] at hg'
        exact H.out _ _ hg' ⟨_, _, rfl, hown'⟩ (fun h => by cases h) hk'
      exact Rg.nil
    · intro vs W hG hI hT hF
      have t0 : vs 0 = .pointer (some ⟨cb, 0, none⟩) := hT 0 (by decide)
      have t1 : vs 1 = .pointer (some ⟨cb, 0, none⟩) := hT 1 (by decide)
      have t2 : vs 2 = .pointer (some ⟨cb, 0, none⟩) := hT 2 (by decide)
      have t3 : vs 3 = .pointer (some ⟨cb, 3, none⟩) := hT 3 (by decide)
      have t4 : vs 4 = .slice Av st.pls.length cv := hT 4 (by decide)
      have t5 : vs 5 = .slice (some ⟨g, o, none⟩) 6 cp := hT 5 (by decide)
      have t6 : vs 6 = .pointer (some ⟨g, o + 1, none⟩) := hT 6 (by decide)
      have t7 : vs 7 = .string b := hT 7 (by decide)
      have t8 : vs 8 = .slice (some ⟨g, o, none⟩) 6 cp := hT 8 (by decide)
      have t9 : vs 9 = .pointer (some ⟨g, o + 2, none⟩) := hT 9 (by decide)
      have t10 : vs 10 = .string c := hT 10 (by decide)
      have t11 : vs 11 = .slice (some ⟨gn, 0, none⟩) 3 cu := hT 11 (by decide)
      have t12 : vs 12 = .pointer (some ⟨gn, 0, none⟩) := hT 12 (by decide)
      have t13 : vs 13 = .int .i64 nx := hT 13 (by decide)
      have t14 : vs 14 = .slice (some ⟨gn, 0, none⟩) 3 cu := hT 14 (by decide)
      have t15 : vs 15 = .pointer (some ⟨gn, 1, none⟩) := hT 15 (by decide)
      have t16 : vs 16 = .int .i64 ny := hT 16 (by decide)
      have t17 : vs 17 = .slice (some ⟨gn, 0, none⟩) 3 cu := hT 17 (by decide)
      have t18 : vs 18 = .pointer (some ⟨gn, 2, none⟩) := hT 18 (by decide)
      have t19 : vs 19 = .int .i64 nq := hT 19 (by decide)
      have t20 : vs 20 = .agg #[.string b, .string c, .int .i64 nx, .int .i64 ny, .int .i64 nq] := hT 20 (by decide)
      have t21 : ∃ q : Nat, vs 21 = .slice (some ⟨q, 0, none⟩) 1 1 ∧ w1.heap.size ≤ q ∧ W.heap[q]? = some (.cells #[.string b, .string c, .int .i64 nx, .int .i64 ny, .int .i64 nq] 124 (0, 0)) := hT 21 (by decide)
      have t22 : ∃ (A : Option Addr) (c9 : Nat), vs 22 = .slice A (st.pls.length + 1) c9 ∧ W.ownsRow (cb + 1) 124 5 (.slice A (st.pls.length + 1) c9) (st.pls.length + 1) (flatP st.pls ++ [.string b, .string c, .int .i64 nx, .int .i64 ny, .int .i64 nq]) := hT 22 (by decide)
      simp only [List.length_cons, List.length_nil, Nat.reduceAdd, List.range, List.range.loop, List.drop_succ_cons, List.drop_zero, Rg.putsD, List.getD_cons_zero, List.getD_cons_succ, Act.put, List.setIfInBounds_toArray, List.set_cons_zero, List.set_cons_succ, t0, t1, t2, t3, t4, t5, t6, t7, t8, t9, t10, t11, t12, t13, t14, t15, t16, t17, t18, t19, t20]
      clear hT t0 t1 t2 t3 t4 t5 t6 t7 t8 t9 t10 t11 t12 t13 t14 t15 t16 t17 t18 t19 t20
      obtain ⟨A9, c9, e22, own22⟩ := t22
      obtain ⟨c3', f3', b3'⟩ := HC3.out W hG
      have HW : Hid (w1.drew.grownBy W row ∧ W.ownsRow (cb + 1) 124 5 (.slice A9 (st.pls.length + 1) c9) (st.pls.length + 1) (flatP st.pls ++ [.string b, .string c, .int .i64 nx, .int .i64 ny, .int .i64 nq]) ∧ W.heap[cb]? = some (.cells #[.string st.key, .int .i64 st.w, .int .i64 st.h, .slice Av st.pls.length cv] 44 (0, 0))) := ⟨hG, own22, b3'⟩
      clear hF hI own22 b3' t21
      simp only [e22]
      clear e22 hG
      go_wp2_with fail
      have e1 : flatP (st.pls ++ [⟨b, c, nx, ny, nq⟩]) = flatP st.pls ++ [.string b, .string c, .int .i64 nx, .int .i64 ny, .int .i64 nq] := by rw [flatP_append]; rfl
      have HF : Hid (Below base w (W.setCell ⟨cb, 3, none⟩ (.slice A9 (st.pls.length + 1) c9)) ∧ PdAt cb (i + 1) { st with pls := st.pls ++ [⟨b, c, nx, ny, nq⟩] } (W.setCell ⟨cb, 3, none⟩ (.slice A9 (st.pls.length + 1) c9))) := by
        refine ⟨((HP.out.1.drew).grown HW.out.1 (by show base ≤ w1.heap.size; omega) (fun k hk => by have := HRow.out k hk; omega)).setCell hcb _, _, blk_set HW.out.2.2 _, ?_, ?_⟩
        · have := own_far HW.out.2.1 (p := ⟨cb, 3, none⟩) (by show cb < cb + 1; omega) (.slice A9 (st.pls.length + 1) c9)
          rw [List.length_append, e1]
          exact this
        · rw [List.length_append]
          exact Nat.add_le_add_right HP.out.2.2.2 1
      clear e1
      generalize W.setCell ⟨cb, 3, none⟩ (.slice A9 (st.pls.length + 1) c9) = w3 at *
      go_wp2_with fail
      go_ret
      exact ⟨by rw [HR.out]; rfl, HF.out.1, fun st' h => by rw [HR.out] at h; cases h; exact HF.out.2⟩
end Go.Proofs.YtalconjnjaffkaaGreatDoor
