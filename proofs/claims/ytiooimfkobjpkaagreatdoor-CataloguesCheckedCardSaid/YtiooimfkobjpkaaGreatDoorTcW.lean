/-
  The program reads catalogues: the lines.
-/
import Derived.Test.YtiooimfkobjpkaaGreatDoorTcT
import Derived.Test.YtiooimfkobjpkaaGreatDoorTpQ
import Derived.Test.YtiooimfkobjpkaaGreatDoorApK
import Derived.Shelf.Abstract
namespace Go.Proofs.YtiooimfkobjpkaaGreatDoor
open Go.RowKit
set_option linter.unusedSimpArgs false
set_option linter.unusedVariables false

abbrev St := List Pa × List Al
def isPart (a : ByteArray) : Bool := a.toList == [112, 97, 114, 116]
def isUse (a : ByteArray) : Bool := a.toList == [117, 115, 101]
def isBoth (a : ByteArray) : Bool := a.toList == [98, 111, 116, 104]
def isFor (a : ByteArray) : Bool := a.toList == [102, 111, 114]
/-- The line of a part: it cannot come behind an alternate's. -/
def takePart (st : St) : List ByteArray → Option St
  | [_, a, b, c, d] => if st.2.length = 0 ∧ numsB 15 [c, d] = true then some (st.1 ++ [⟨a, b, numI 15 c, numI 15 d⟩], st.2) else none
  | _ => none
def takeAlt (st : St) : List ByteArray → Option St
  | [x, a, f, c] => if (isUse x || isBoth x) = true ∧ isFor f = true then some (st.1, st.2 ++ [⟨c, a, isBoth x⟩]) else none
  | _ => none
def takeCat (_ : Nat) (st : St) : List ByteArray → Option St
  | [] => none
  | x :: r => if isPart x = true then takePart st (x :: r) else takeAlt st (x :: r)
theorem takePart_len {st : St} {ws : List ByteArray} (h : ws.length ≠ 5) : takePart st ws = none := by
  match ws, h with
  | [], _ => rfl
  | [_], _ => rfl
  | [_, _], _ => rfl
  | [_, _, _], _ => rfl
  | [_, _, _, _], _ => rfl
  | [_, _, _, _, _], h => exact absurd rfl h
  | _ :: _ :: _ :: _ :: _ :: _ :: _, _ => rfl
theorem takeAlt_len {st : St} {ws : List ByteArray} (h : ws.length ≠ 4) : takeAlt st ws = none := by
  match ws, h with
  | [], _ => rfl
  | [_], _ => rfl
  | [_, _], _ => rfl
  | [_, _, _], _ => rfl
  | [_, _, _, _], h => exact absurd rfl h
  | _ :: _ :: _ :: _ :: _ :: _, _ => rfl
theorem len4 {ws : List ByteArray} (h : ws.length = 4) : ∃ a b c d, ws = [a, b, c, d] := by
  match ws, h with
  | [a, b, c, d], _ => exact ⟨a, b, c, d, rfl⟩
theorem len5 {ws : List ByteArray} (h : ws.length = 5) : ∃ a b c d e, ws = [a, b, c, d, e] := by
  match ws, h with
  | [a, b, c, d, e], _ => exact ⟨a, b, c, d, e, rfl⟩

/-! ### What has been read, in memory -/
structure CatAt (cb i : Nat) (st : St) (w : World) : Prop where
  blk : ∃ v1 v2, w.heap[cb]? = some (.cells #[v1, v2] 29 (0, 0)) ∧ w.ownsRow (cb + 1) 47 4 v1 st.1.length (st.1.flatMap encPa) ∧ w.ownsRow (cb + 1) 51 3 v2 st.2.length (st.2.flatMap encAl)
  len : st.1.length + st.2.length ≤ i
  sp : ∀ p ∈ st.1, p.key.size ≤ 200000 ∧ p.pk.size ≤ 200000
  sa : ∀ a ∈ st.2, a.par.size ≤ 200000 ∧ a.by_.size ≤ 200000
theorem CatAt.below {cb i : Nat} {st : St} {w w' : World} (h : CatAt cb i st w) (hb : Below w.heap.size w w') : CatAt cb i st w' := by
  obtain ⟨v1, v2, h1, h2, h3⟩ := h.blk
  exact ⟨⟨v1, v2, blk_below hb h1, own_below h2 hb, own_below h3 hb⟩, h.len, h.sp, h.sa⟩
theorem CatAt.lt {cb i : Nat} {st : St} {w : World} (h : CatAt cb i st w) : cb < w.heap.size := by
  obtain ⟨v1, v2, h1, _⟩ := h.blk
  exact lt_of_blk h1
theorem own_blk {w : World} {base : Nat} {e : TypeId} {size n : Nat} {v : Value} {xs : List Value} (h : w.ownsRow base e size v n xs) {j : Nat} (hj : v.ownBlock = some j) : ∃ cur, w.heap[j]? = some (.cells cur e (0, 0)) := by
  rcases h.2 with ⟨rfl, _⟩ | ⟨g, cap, cur, rfl, _, hg, _⟩
  · cases hj
  · cases hj
    exact ⟨cur, hg⟩
/-- Rows of different types share no block. -/
theorem own_apart {w : World} {b b' : Nat} {e e' : TypeId} {s s' n n' : Nat} {v v' : Value} {xs xs' : List Value} (h : w.ownsRow b e s v n xs) (h' : w.ownsRow b' e' s' v' n' xs') (he : e ≠ e') : v.ownBlock = none ∨ v.ownBlock ≠ v'.ownBlock := by
  cases h1 : v.ownBlock with
  | none => exact .inl rfl
  | some j =>
    right
    intro h2
    obtain ⟨c1, k1⟩ := own_blk h h1
    obtain ⟨c2, k2⟩ := own_blk h' h2.symm
    rw [k1] at k2
    injection k2 with k2
    injection k2 with _ k3 _
    exact he k3
theorem part_info : (Tryz.prog.info? 47).map (fun i => (i.zero, i.size, i.bytes)) = some (some (.agg #[.string ⟨#[]⟩, .string ⟨#[]⟩, .int .i64 0, .int .i64 0]), 4, 48) := by kernel_rfl
theorem alt_info : (Tryz.prog.info? 51).map (fun i => (i.zero, i.size, i.bytes)) = some (some (.agg #[.string ⟨#[]⟩, .string ⟨#[]⟩, .bool false]), 3, 40) := by kernel_rfl
theorem flatPa_snoc (l : List Pa) (p : Pa) : (l ++ [p]).flatMap encPa = l.flatMap encPa ++ encPa p := by simp
theorem flatAl_snoc (l : List Al) (p : Al) : (l ++ [p]).flatMap encAl = l.flatMap encAl ++ encAl p := by simp

set_option maxRecDepth 100000 in
set_option maxHeartbeats 8000000 in
theorem readPart_any {cb base i : Nat} {st : St} {ws : List ByteArray} {v : Value} {w0 w : World} (hi2 : i ≤ 200000) (hz : ∀ x ∈ ws, x.size ≤ 200000) (hcb : base ≤ cb) (hbw0 : base ≤ w0.heap.size) (hI0 : CatAt cb i st w0) (hb0 : Below w0.heap.size w0 w) (hS0 : ReadsF w0.heap.size encS v ws w) :
    Calls Tryz.prog 38 #[.pointer (some ⟨cb, 0, none⟩), v] w fun e w' => e = .returned (.bool (takePart st ws).isSome) ∧ Below base w w' ∧ ∀ st', takePart st ws = some st' → CatAt cb (i + 1) st' w' := by
  have hI := hI0.below hb0
  have hS := hS0.strs
  have hbw : base ≤ w.heap.size := Nat.le_trans hbw0 hb0.size
  have hcb0 : cb < w0.heap.size := hI0.lt
  by_cases hl : ws.length = 5
  rotate_left
  · have HR := Lib.hid (@takePart_len st ws hl)
    have hne : ((ws.length : Int) != 5) = true := by simp; omega
    obtain ⟨A, c, rfl, _, _⟩ := hS
    go_enter Tryz.func38, Tryz.ntmps38
    go_wp2_with fail
    go_ret
    exact ⟨by rw [HR.out]; rfl, Below.refl _ _, fun st' h => by rw [HR.out] at h; cases h⟩
  obtain ⟨x, a, b, c, d, rfl⟩ := len5 hl
  have hg0 : ∀ g o : Nat, ∀ n c, v = .slice (some ⟨g, o, none⟩) n c → w0.heap.size ≤ g ∨ n = 0 := fun g o n c e => by
    obtain ⟨A', c', e', _, h⟩ := hS0
    rw [e] at e'
    injection e' with e1 e2 e3
    rcases h with h | ⟨g', e4, h, _⟩
    · right; rw [e2, h]; rfl
    · left; rw [e4] at e1; injection e1 with e1; injection e1 with e1; omega
  obtain ⟨A, cp, rfl, hc, hr⟩ := hS
  obtain ⟨g, o, rfl, hgl, hcs⟩ : ∃ g o : Nat, A = some ⟨g, o, none⟩ ∧ g < w.heap.size ∧ ∀ j (h : j < [x, a, b, c, d].length), w.cell? ⟨g, o + j, none⟩ = some (.string [x, a, b, c, d][j]) := by
    rcases hr with hr | hr
    · cases hr
    · exact hr
  have HC := Lib.hid hcs
  have hc4 : 5 ≤ cp := hc
  have HZ := Lib.hid (And.intro (hz a (by simp)) (hz b (by simp)))
  have CN := Lib.hid (numbers_any [c, d] (by simp) (fun x hx => by have := hz x (List.mem_cons_of_mem _ (List.mem_cons_of_mem _ (List.mem_cons_of_mem _ hx))); omega) (v := .slice (some ⟨g, o + 3, none⟩) 2 (cp - 3)) (w := w) ⟨_, cp - 3, rfl, by show 2 ≤ cp - 3; omega, .inr ⟨g, o + 3, rfl, hgl, fun j hj => by
    have hj2 : j < 2 := hj
    have := HC.out (j + 3) (by show j + 3 < 5; omega)
    rw [show o + 3 + j = o + (j + 3) by omega]
    exact this⟩⟩)
  rw [show numsI 15 [c, d] = [numI 15 c, numI 15 d] from rfl] at CN
  have HX : Hid (∀ (h1 : st.2.length ≠ 0 ∨ numsB 15 [c, d] = false), takePart st [x, a, b, c, d] = none) := fun h1 => by
    simp only [takePart]
    rw [if_neg]
    rintro ⟨h2, h3⟩
    rcases h1 with h1 | h1
    · exact h1 h2
    · rw [h1] at h3; cases h3
  have HY : Hid (∀ (h1 : st.2.length = 0) (h2 : numsB 15 [c, d] = true), takePart st [x, a, b, c, d] = some (st.1 ++ [⟨a, b, numI 15 c, numI 15 d⟩], st.2)) := fun h1 h2 => by
    simp only [takePart]
    rw [if_pos ⟨h1, h2⟩]
  obtain ⟨v1, v2, hp0, ho1, ho2⟩ := hI.blk
  obtain ⟨A1, k1, rfl, hk1, _⟩ := own_slice' ho1
  obtain ⟨A2, k2, rfl, hk2, _⟩ := own_slice' ho2
  have HI := Lib.hid hI
  have HB0 := Lib.hid hp0
  obtain ⟨p0, p1, _, _⟩ := blk2 hp0
  have hcbl := lt_of_blk hp0
  have hlen := hI.len
  clear hcs hI hz hr hl ho1 ho2 hp0
  by_cases hs2 : st.2.length = 0
  rotate_left
  · have HR := Lib.hid (HX.out (.inl hs2))
    have hs3 : (0 : Int) < (st.2.length : Int) := by omega
    clear HX HY CN
    go_enter Tryz.func38, Tryz.ntmps38
    go_wp2_with fail
    go_ret
    exact ⟨by rw [HR.out]; rfl, Below.refl _ _, fun st' h => by rw [HR.out] at h; cases h⟩
  have hs3 : ¬ (0 : Int) < (st.2.length : Int) := by omega
  cases h2 : numsB 15 [c, d]
  · have HR := Lib.hid (HX.out (.inr h2))
    rw [h2] at CN
    clear HX HY h2
    go_enter Tryz.func38, Tryz.ntmps38
    go_wp2_with fail
    refine CN.out.mono ?_
    rintro e w1 ⟨u, rfl, b1, _⟩
    have HB := Lib.hid (b1.mono hbw)
    clear b1
    go_wp2_with fail
    go_ret
    exact ⟨by rw [HR.out]; rfl, HB.out, fun st' h => by rw [HR.out] at h; cases h⟩
  have HR := Lib.hid (HY.out hs2 h2)
  rw [h2] at CN
  clear HX HY h2
  generalize numI 15 c = nx at *
  generalize numI 15 d = ny at *
  go_enter Tryz.func38, Tryz.ntmps38
  go_wp2_with fail
  refine CN.out.mono ?_
  rintro e w1 ⟨u, rfl, b1, hu⟩
  obtain ⟨Au, cu, rfl, hcu, hru⟩ := hu trivial
  obtain ⟨gn, rfl, hgn, hlu⟩ : ∃ gn : Nat, Au = some ⟨gn, 0, none⟩ ∧ w.heap.size ≤ gn ∧ LineAt w1 gn ([nx, ny].flatMap encZ) := by
    rcases hru with hru | hru
    · cases hru
    · exact hru
  have n0 : w1.cell? ⟨gn, 0, none⟩ = some (.int .i64 nx) := row_intz hlu (k := 0) (by simp)
  have n1 : w1.cell? ⟨gn, 1, none⟩ = some (.int .i64 ny) := row_intz hlu (k := 1) (by simp)
  have q1 : w1.cell? ⟨g, o + 1, none⟩ = some (.string a) := (b1.cell (p := ⟨g, o + 1, none⟩) hgl).trans (HC.out 1 (by simp))
  have q2 : w1.cell? ⟨g, o + 2, none⟩ = some (.string b) := (b1.cell (p := ⟨g, o + 2, none⟩) hgl).trans (HC.out 2 (by simp))
  have hI1 := HI.out.below b1
  obtain ⟨v1, v2, hp, ho1, ho2⟩ := hI1.blk
  have hpe := (blk_below b1 HB0.out).symm.trans hp
  simp at hpe
  obtain ⟨rfl, rfl⟩ := hpe
  have HP := Lib.hid (And.intro (b1.mono hbw) (And.intro hp (And.intro ho1 ho2)))
  have hcbl1 := lt_of_blk hp
  clear p0 p1 hcbl
  obtain ⟨p0, p1, f0, f1⟩ := blk2 hp
  have hpl2 : st.1.length ≤ 200000 := by omega
  have hgw : w0.heap.size ≤ g := by
    rcases hg0 g o _ _ rfl with h | h
    · exact h
    · simp at h
  have HRow : Hid (∀ j, (Value.slice A1 st.1.length k1).ownBlock = some j → cb + 1 ≤ j ∧ j ≠ g ∧ j ≠ gn) := fun j hj => by
    have hj0 := own_row HP.out.2.2.1 j hj
    obtain ⟨u1, u2, hq0, hq1, _⟩ := hI0.blk
    have e0 := (blk_below b1 (blk_below hb0 hq0)).symm.trans HP.out.2.1
    simp at e0
    rw [e0.1] at hq1
    have hj1 := own_lt hq1 j hj
    have := hb0.size
    omega
  have hne1 : gn ≠ cb := by have := hb0.size; omega
  have hne2 : g ≠ cb := by omega
  obtain ⟨row, hrow⟩ : ∃ row, (Value.slice A1 st.1.length k1).ownBlock = row := ⟨_, rfl⟩
  have HRW : Hid (∀ j, row = some j → j < w1.heap.size) := fun j hj => own_lt HP.out.2.2.1 j (hrow.trans hj)
  have HAP : Hid ((Value.slice A2 st.2.length k2).ownBlock = none ∨ (Value.slice A2 st.2.length k2).ownBlock ≠ row) := by rw [← hrow]; exact own_apart HP.out.2.2.2 HP.out.2.2.1 (by decide)
  rw [hrow] at HRow
  have HC3 : Hid (∀ W, w1.drew.grownBy W row → W.cell? ⟨cb, 0, none⟩ = some (.slice A1 st.1.length k1) ∧ W.frozen? ⟨cb, 0, none⟩ = false ∧ W.heap[cb]? = some (.cells #[.slice A1 st.1.length k1, .slice A2 st.2.length k2] 29 (0, 0))) := fun W hg => by
    have hbk := (hg.block cb hcbl1 (fun e => by have := HRow.out cb e.symm; omega)).trans hp
    exact ⟨by rw [cell_of_blk hbk]; rfl, frozen_of_blk hbk 0, hbk⟩
  have HKS : Hid (∀ W, w1.drew.grownBy W row → W.cell? ⟨g, o + 1, none⟩ = some (.string a) ∧ W.cell? ⟨g, o + 2, none⟩ = some (.string b) ∧ W.cell? ⟨gn, 0, none⟩ = some (.int .i64 nx) ∧ W.cell? ⟨gn, 1, none⟩ = some (.int .i64 ny)) := fun W h =>
    ⟨World.grownBy.cell h (a := ⟨g, o + 1, none⟩) q1 (fun e => (HRow.out g e.symm).2.1 rfl), World.grownBy.cell h (a := ⟨g, o + 2, none⟩) q2 (fun e => (HRow.out g e.symm).2.1 rfl), World.grownBy.cell h (a := ⟨gn, 0, none⟩) n0 (fun e => (HRow.out gn e.symm).2.2 rfl), World.grownBy.cell h (a := ⟨gn, 1, none⟩) n1 (fun e => (HRow.out gn e.symm).2.2 rfl)⟩
  obtain ⟨i0, hi0, hz0, hzz1, hzz2⟩ := info_parts part_info
  have HIF := Lib.hid (And.intro hi0 (And.intro hz0 (And.intro hzz1 hzz2)))
  have hcb1 : cb + 1 ≤ w1.heap.size := hcbl1
  have HO : Hid (w1.ownsRow (cb + 1) 47 4 (.slice A1 st.1.length k1) st.1.length (st.1.flatMap encPa)) := HP.out.2.2.1
  have HROW := Lib.hid hrow
  have HS9 := Lib.hid (And.intro hI1.sp hI1.sa)
  clear b1 hu hru hlu hp CN hi0 hz0 hzz1 hzz2 hI0 hb0 hS0 hg0 hrow p0 p1 f0 f1 hI1 ho1 ho2 n0 n1 q1 q2
  go_wp2_with fail
  refine Rg.rgS 19 [0] (fun a b => a.grownBy b row) (fun a b => Below a.heap.size a b) (fun a b => a.grownBy b row)
    [(fun vs u => vs 0 = .pointer (some ⟨cb, 0, none⟩)), (fun vs u => vs 1 = .pointer (some ⟨cb, 0, none⟩)), (fun vs u => vs 2 = .pointer (some ⟨cb, 0, none⟩)), (fun vs u => vs 3 = .pointer (some ⟨cb, 0, none⟩)), (fun vs u => vs 4 = .slice A1 st.1.length k1), (fun vs u => vs 5 = .slice (some ⟨g, o, none⟩) 5 cp), (fun vs u => vs 6 = .pointer (some ⟨g, o + 1, none⟩)), (fun vs u => vs 7 = .string a), (fun vs u => vs 8 = .slice (some ⟨g, o, none⟩) 5 cp), (fun vs u => vs 9 = .pointer (some ⟨g, o + 2, none⟩)), (fun vs u => vs 10 = .string b), (fun vs u => vs 11 = .slice (some ⟨gn, 0, none⟩) 2 cu), (fun vs u => vs 12 = .pointer (some ⟨gn, 0, none⟩)), (fun vs u => vs 13 = .int .i64 nx), (fun vs u => vs 14 = .slice (some ⟨gn, 0, none⟩) 2 cu), (fun vs u => vs 15 = .pointer (some ⟨gn, 1, none⟩)), (fun vs u => vs 16 = .int .i64 ny), (fun vs u => vs 17 = .agg #[.string a, .string b, .int .i64 nx, .int .i64 ny]), (fun vs u => ∃ q : Nat, vs 18 = .slice (some ⟨q, 0, none⟩) 1 1 ∧ w1.heap.size ≤ q ∧ u.heap[q]? = some (.cells #[.string a, .string b, .int .i64 nx, .int .i64 ny] 47 (0, 0))), (fun vs u => ∃ (A : Option Addr) (c9 : Nat), vs 19 = .slice A (st.1.length + 1) c9 ∧ u.ownsRow (cb + 1) 47 4 (.slice A (st.1.length + 1) c9) (st.1.length + 1) (st.1.flatMap encPa ++ [.string a, .string b, .int .i64 nx, .int .i64 ny]))]
    [[], [], [1], [1, 2], [1, 2, 3], [], [5], [5, 6], [], [8], [8, 9], [], [11], [11, 12], [], [14], [14, 15], [5, 6, 7, 8, 9, 10, 11, 12, 13, 14, 15, 16], [5, 6, 7, 8, 9, 10, 11, 12, 13, 14, 15, 16, 17], [1, 2, 3, 4, 5, 6, 7, 8, 9, 10, 11, 12, 13, 14, 15, 16, 17, 18]] [some 26, some 27, some 28, some 29, some 30, some 31, some 32, some 33, some 34, some 35, some 36, some 37, some 38, some 39, some 40, some 41, some 42, some 43, some 44, some 45, some 46, some 47, none] [] (fun _ W => W.ownsRow (cb + 1) 47 4 (.slice A1 st.1.length k1) st.1.length (st.1.flatMap encPa)) [[], [], [1], [1, 2], [1, 2, 3], [], [5], [5, 6], [], [8], [8, 9], [], [11], [11, 12], [], [14], [14, 15], [5, 6, 7, 8, 9, 10, 11, 12, 13, 14, 15, 16], [5, 6, 7, 8, 9, 10, 11, 12, 13, 14, 15, 16, 17], [1, 2, 3, 4, 5, 6, 7, 8, 9, 10, 11, 12, 13, 14, 15, 16, 17, 18], [0, 1, 2, 3, 4, 5, 6, 7, 8, 9, 10, 11, 12, 13, 14, 15, 16, 17, 18, 19], [0, 1, 2, 3, 4, 5, 6, 7, 8, 9, 10, 11, 12, 13, 14, 15, 16, 17, 18, 19, 20], [0, 1, 2, 3, 4, 5, 6, 7, 8, 9, 10, 11, 12, 13, 14, 15, 16, 17, 18, 19, 20, 21]]
    (by kernel_rfl) (by decide) (by kernel_rfl) (by kernel_rfl) (by kernel_rfl) (by kernel_rfl) (by kernel_rfl) (fun _ => World.grownBy.refl _ _) (fun _ _ _ h k => World.grownBy.trans h k) (fun _ _ h => h.size) (fun _ _ h => ⟨h.os, h.tape, h.output, h.size, fun k hk _ => h.block k hk⟩) (fun _ _ h => h) (by decide) ?_ ?_ HO.out.drew ?_ ?_
  · intro j hj vs w w' h hE
    match j, hj, h with
    | 0, _, h => exact h
    | 1, _, h => exact h
    | 2, _, h => exact h
    | 3, _, h => exact h
    | 4, _, h => exact h
    | 5, _, h => exact h
    | 6, _, h => exact h
    | 7, _, h => exact h
    | 8, _, h => exact h
    | 9, _, h => exact h
    | 10, _, h => exact h
    | 11, _, h => exact h
    | 12, _, h => exact h
    | 13, _, h => exact h
    | 14, _, h => exact h
    | 15, _, h => exact h
    | 16, _, h => exact h
    | 17, _, h => exact h
    | 18, _, h =>
      have h : ∃ q : Nat, vs 18 = .slice (some ⟨q, 0, none⟩) 1 1 ∧ w1.heap.size ≤ q ∧ w.heap[q]? = some (.cells #[.string a, .string b, .int .i64 nx, .int .i64 ny] 47 (0, 0)) := h
      show ∃ q : Nat, vs 18 = .slice (some ⟨q, 0, none⟩) 1 1 ∧ w1.heap.size ≤ q ∧ w'.heap[q]? = some (.cells #[.string a, .string b, .int .i64 nx, .int .i64 ny] 47 (0, 0))
      obtain ⟨q, e, hq, k⟩ := h
      exact ⟨q, e, hq, blk_below hE k⟩
    | 19, hj, _ => exact absurd rfl hj
    | (j + 20), _, h => exact h
  · intro j hj hc vs w w' h hE
    match j, hj, hc, h with
    | 0, _, _, h => exact h
    | 1, _, _, h => exact h
    | 2, _, _, h => exact h
    | 3, _, _, h => exact h
    | 4, _, _, h => exact h
    | 5, _, _, h => exact h
    | 6, _, _, h => exact h
    | 7, _, _, h => exact h
    | 8, _, _, h => exact h
    | 9, _, _, h => exact h
    | 10, _, _, h => exact h
    | 11, _, _, h => exact h
    | 12, _, _, h => exact h
    | 13, _, _, h => exact h
    | 14, _, _, h => exact h
    | 15, _, _, h => exact h
    | 16, _, _, h => exact h
    | 17, _, _, h => exact h
    | 18, _, _, h =>
      have h : ∃ q : Nat, vs 18 = .slice (some ⟨q, 0, none⟩) 1 1 ∧ w1.heap.size ≤ q ∧ w.heap[q]? = some (.cells #[.string a, .string b, .int .i64 nx, .int .i64 ny] 47 (0, 0)) := h
      show ∃ q : Nat, vs 18 = .slice (some ⟨q, 0, none⟩) 1 1 ∧ w1.heap.size ≤ q ∧ w'.heap[q]? = some (.cells #[.string a, .string b, .int .i64 nx, .int .i64 ny] 47 (0, 0))
      obtain ⟨q, e, hq, k⟩ := h
      exact ⟨q, e, hq, (hE.block q (lt_of_blk k) (fun e => by have := HRW.out q e.symm; omega)).trans k⟩
    | 19, hj, _, _ => exact absurd rfl hj
    | (j + 20), _, _, h => exact h
  ·
    refine Rg.cons 0 1 rfl (Rg.plain rfl ?_) ?_
    · intro vs W n hn hI hG hT hF K hK
      simp only [Rg.putsD, List.getD_cons_zero, List.getD_cons_succ, Act.put, List.setIfInBounds_toArray, List.set_cons_zero, List.set_cons_succ] at hK ⊢
      clear hn
      clear hF
      have H := Lib.hid hK
      clear hK hT
      go_simp
      exact H.out _ _ (rfl) rfl (fun h => by cases h) hI
    refine Rg.cons 1 2 rfl (Rg.plain rfl ?_) ?_
    · intro vs W n hn hI hG hT hF K hK
      simp only [Rg.putsD, List.getD_cons_zero, List.getD_cons_succ, Act.put, List.setIfInBounds_toArray, List.set_cons_zero, List.set_cons_succ] at hK ⊢
      clear hn
      clear hF
      have H := Lib.hid hK
      clear hK hT
      go_simp
      exact H.out _ _ (Below.refl _ _) rfl (fun h => by cases h) hI
    refine Rg.cons 2 3 rfl (Rg.plain rfl ?_) ?_
    · intro vs W n hn hI hG hT hF K hK
      simp only [Rg.putsD, List.getD_cons_zero, List.getD_cons_succ, Act.put, List.setIfInBounds_toArray, List.set_cons_zero, List.set_cons_succ] at hK ⊢
      clear hn
      clear hF
      have t1 : vs 1 = .pointer (some ⟨cb, 0, none⟩) := hT 1 (by decide)
      simp only [t1] at hK
      have H := Lib.hid hK
      clear hK hT
      go_simp
      exact H.out _ _ (Below.refl _ _) rfl (fun h => by cases h) hI
    refine Rg.cons 3 4 rfl (Rg.plain rfl ?_) ?_
    · intro vs W n hn hI hG hT hF K hK
      simp only [Rg.putsD, List.getD_cons_zero, List.getD_cons_succ, Act.put, List.setIfInBounds_toArray, List.set_cons_zero, List.set_cons_succ] at hK ⊢
      clear hn
      clear hF
      have t1 : vs 1 = .pointer (some ⟨cb, 0, none⟩) := hT 1 (by decide)
      have t2 : vs 2 = .pointer (some ⟨cb, 0, none⟩) := hT 2 (by decide)
      simp only [t1, t2] at hK
      have H := Lib.hid hK
      clear hK hT
      go_simp
      exact H.out _ _ (Below.refl _ _) rfl (fun h => by cases h) hI
    refine Rg.cons 4 5 rfl (Rg.plain rfl ?_) ?_
    · intro vs W n hn hI hG hT hF K hK
      simp only [Rg.putsD, List.getD_cons_zero, List.getD_cons_succ, Act.put, List.setIfInBounds_toArray, List.set_cons_zero, List.set_cons_succ] at hK ⊢
      clear hn
      clear hF
      have t1 : vs 1 = .pointer (some ⟨cb, 0, none⟩) := hT 1 (by decide)
      have t2 : vs 2 = .pointer (some ⟨cb, 0, none⟩) := hT 2 (by decide)
      have t3 : vs 3 = .pointer (some ⟨cb, 0, none⟩) := hT 3 (by decide)
      have c0 := (HC3.out W hG).1
      simp only [t1, t2, t3] at hK
      have H := Lib.hid hK
      clear hK hT
      go_simp
      exact H.out _ _ (Below.refl _ _) rfl (fun h => by cases h) hI
    refine Rg.cons 5 6 rfl (Rg.plain rfl ?_) ?_
    · intro vs W n hn hI hG hT hF K hK
      simp only [Rg.putsD, List.getD_cons_zero, List.getD_cons_succ, Act.put, List.setIfInBounds_toArray, List.set_cons_zero, List.set_cons_succ] at hK ⊢
      clear hn
      clear hF
      have H := Lib.hid hK
      clear hK hT
      go_simp
      exact H.out _ _ (Below.refl _ _) rfl (fun h => by cases h) hI
    refine Rg.cons 6 7 rfl (Rg.plain rfl ?_) ?_
    · intro vs W n hn hI hG hT hF K hK
      simp only [Rg.putsD, List.getD_cons_zero, List.getD_cons_succ, Act.put, List.setIfInBounds_toArray, List.set_cons_zero, List.set_cons_succ] at hK ⊢
      clear hn
      clear hF
      have t5 : vs 5 = .slice (some ⟨g, o, none⟩) 5 cp := hT 5 (by decide)
      simp only [t5] at hK
      have H := Lib.hid hK
      clear hK hT
      go_simp
      exact H.out _ _ (Below.refl _ _) rfl (fun h => by cases h) hI
    refine Rg.cons 7 8 rfl (Rg.plain rfl ?_) ?_
    · intro vs W n hn hI hG hT hF K hK
      simp only [Rg.putsD, List.getD_cons_zero, List.getD_cons_succ, Act.put, List.setIfInBounds_toArray, List.set_cons_zero, List.set_cons_succ] at hK ⊢
      clear hn
      clear hF
      have t5 : vs 5 = .slice (some ⟨g, o, none⟩) 5 cp := hT 5 (by decide)
      have t6 : vs 6 = .pointer (some ⟨g, o + 1, none⟩) := hT 6 (by decide)
      have c0 := (HKS.out W hG).1
      simp only [t5, t6] at hK
      have H := Lib.hid hK
      clear hK hT
      go_simp
      exact H.out _ _ (Below.refl _ _) rfl (fun h => by cases h) hI
    refine Rg.cons 8 9 rfl (Rg.plain rfl ?_) ?_
    · intro vs W n hn hI hG hT hF K hK
      simp only [Rg.putsD, List.getD_cons_zero, List.getD_cons_succ, Act.put, List.setIfInBounds_toArray, List.set_cons_zero, List.set_cons_succ] at hK ⊢
      clear hn
      clear hF
      have H := Lib.hid hK
      clear hK hT
      go_simp
      exact H.out _ _ (Below.refl _ _) rfl (fun h => by cases h) hI
    refine Rg.cons 9 10 rfl (Rg.plain rfl ?_) ?_
    · intro vs W n hn hI hG hT hF K hK
      simp only [Rg.putsD, List.getD_cons_zero, List.getD_cons_succ, Act.put, List.setIfInBounds_toArray, List.set_cons_zero, List.set_cons_succ] at hK ⊢
      clear hn
      clear hF
      have t8 : vs 8 = .slice (some ⟨g, o, none⟩) 5 cp := hT 8 (by decide)
      simp only [t8] at hK
      have H := Lib.hid hK
      clear hK hT
      go_simp
      exact H.out _ _ (Below.refl _ _) rfl (fun h => by cases h) hI
    refine Rg.cons 10 11 rfl (Rg.plain rfl ?_) ?_
    · intro vs W n hn hI hG hT hF K hK
      simp only [Rg.putsD, List.getD_cons_zero, List.getD_cons_succ, Act.put, List.setIfInBounds_toArray, List.set_cons_zero, List.set_cons_succ] at hK ⊢
      clear hn
      clear hF
      have t8 : vs 8 = .slice (some ⟨g, o, none⟩) 5 cp := hT 8 (by decide)
      have t9 : vs 9 = .pointer (some ⟨g, o + 2, none⟩) := hT 9 (by decide)
      have c0 := (HKS.out W hG).2.1
      simp only [t8, t9] at hK
      have H := Lib.hid hK
      clear hK hT
      go_simp
      exact H.out _ _ (Below.refl _ _) rfl (fun h => by cases h) hI
    refine Rg.cons 11 12 rfl (Rg.plain rfl ?_) ?_
    · intro vs W n hn hI hG hT hF K hK
      simp only [Rg.putsD, List.getD_cons_zero, List.getD_cons_succ, Act.put, List.setIfInBounds_toArray, List.set_cons_zero, List.set_cons_succ] at hK ⊢
      clear hn
      clear hF
      have H := Lib.hid hK
      clear hK hT
      go_simp
      exact H.out _ _ (Below.refl _ _) rfl (fun h => by cases h) hI
    refine Rg.cons 12 13 rfl (Rg.plain rfl ?_) ?_
    · intro vs W n hn hI hG hT hF K hK
      simp only [Rg.putsD, List.getD_cons_zero, List.getD_cons_succ, Act.put, List.setIfInBounds_toArray, List.set_cons_zero, List.set_cons_succ] at hK ⊢
      clear hn
      clear hF
      have t11 : vs 11 = .slice (some ⟨gn, 0, none⟩) 2 cu := hT 11 (by decide)
      simp only [t11] at hK
      have H := Lib.hid hK
      clear hK hT
      go_simp
      exact H.out _ _ (Below.refl _ _) rfl (fun h => by cases h) hI
    refine Rg.cons 13 14 rfl (Rg.plain rfl ?_) ?_
    · intro vs W n hn hI hG hT hF K hK
      simp only [Rg.putsD, List.getD_cons_zero, List.getD_cons_succ, Act.put, List.setIfInBounds_toArray, List.set_cons_zero, List.set_cons_succ] at hK ⊢
      clear hn
      clear hF
      have t11 : vs 11 = .slice (some ⟨gn, 0, none⟩) 2 cu := hT 11 (by decide)
      have t12 : vs 12 = .pointer (some ⟨gn, 0, none⟩) := hT 12 (by decide)
      have c0 := (HKS.out W hG).2.2.1
      simp only [t11, t12] at hK
      have H := Lib.hid hK
      clear hK hT
      go_simp
      exact H.out _ _ (Below.refl _ _) rfl (fun h => by cases h) hI
    refine Rg.cons 14 15 rfl (Rg.plain rfl ?_) ?_
    · intro vs W n hn hI hG hT hF K hK
      simp only [Rg.putsD, List.getD_cons_zero, List.getD_cons_succ, Act.put, List.setIfInBounds_toArray, List.set_cons_zero, List.set_cons_succ] at hK ⊢
      clear hn
      clear hF
      have H := Lib.hid hK
      clear hK hT
      go_simp
      exact H.out _ _ (Below.refl _ _) rfl (fun h => by cases h) hI
    refine Rg.cons 15 16 rfl (Rg.plain rfl ?_) ?_
    · intro vs W n hn hI hG hT hF K hK
      simp only [Rg.putsD, List.getD_cons_zero, List.getD_cons_succ, Act.put, List.setIfInBounds_toArray, List.set_cons_zero, List.set_cons_succ] at hK ⊢
      clear hn
      clear hF
      have t14 : vs 14 = .slice (some ⟨gn, 0, none⟩) 2 cu := hT 14 (by decide)
      simp only [t14] at hK
      have H := Lib.hid hK
      clear hK hT
      go_simp
      exact H.out _ _ (Below.refl _ _) rfl (fun h => by cases h) hI
    refine Rg.cons 16 17 rfl (Rg.plain rfl ?_) ?_
    · intro vs W n hn hI hG hT hF K hK
      simp only [Rg.putsD, List.getD_cons_zero, List.getD_cons_succ, Act.put, List.setIfInBounds_toArray, List.set_cons_zero, List.set_cons_succ] at hK ⊢
      clear hn
      clear hF
      have t14 : vs 14 = .slice (some ⟨gn, 0, none⟩) 2 cu := hT 14 (by decide)
      have t15 : vs 15 = .pointer (some ⟨gn, 1, none⟩) := hT 15 (by decide)
      have c0 := (HKS.out W hG).2.2.2
      simp only [t14, t15] at hK
      have H := Lib.hid hK
      clear hK hT
      go_simp
      exact H.out _ _ (Below.refl _ _) rfl (fun h => by cases h) hI
    refine Rg.cons 17 18 rfl (Rg.plain rfl ?_) ?_
    · intro vs W n hn hI hG hT hF K hK
      simp only [Rg.putsD, List.getD_cons_zero, List.getD_cons_succ, Act.put, List.setIfInBounds_toArray, List.set_cons_zero, List.set_cons_succ] at hK ⊢
      clear hn
      clear hF
      have t5 : vs 5 = .slice (some ⟨g, o, none⟩) 5 cp := hT 5 (by decide)
      have t6 : vs 6 = .pointer (some ⟨g, o + 1, none⟩) := hT 6 (by decide)
      have t7 : vs 7 = .string a := hT 7 (by decide)
      have t8 : vs 8 = .slice (some ⟨g, o, none⟩) 5 cp := hT 8 (by decide)
      have t9 : vs 9 = .pointer (some ⟨g, o + 2, none⟩) := hT 9 (by decide)
      have t10 : vs 10 = .string b := hT 10 (by decide)
      have t11 : vs 11 = .slice (some ⟨gn, 0, none⟩) 2 cu := hT 11 (by decide)
      have t12 : vs 12 = .pointer (some ⟨gn, 0, none⟩) := hT 12 (by decide)
      have t13 : vs 13 = .int .i64 nx := hT 13 (by decide)
      have t14 : vs 14 = .slice (some ⟨gn, 0, none⟩) 2 cu := hT 14 (by decide)
      have t15 : vs 15 = .pointer (some ⟨gn, 1, none⟩) := hT 15 (by decide)
      have t16 : vs 16 = .int .i64 ny := hT 16 (by decide)
      simp only [t5, t6, t7, t8, t9, t10, t11, t12, t13, t14, t15, t16] at hK
      have H := Lib.hid hK
      clear hK hT
      go_simp
      exact H.out _ _ (Below.refl _ _) rfl (fun h => by cases h) hI
    refine Rg.cons 18 19 rfl (Rg.plain rfl ?_) ?_
    · intro vs W n hn hI hG hT hF K hK
      simp only [Rg.putsD, List.getD_cons_zero, List.getD_cons_succ, Act.put, List.setIfInBounds_toArray, List.set_cons_zero, List.set_cons_succ] at hK ⊢
      clear hn
      clear hF
      have t5 : vs 5 = .slice (some ⟨g, o, none⟩) 5 cp := hT 5 (by decide)
      have t6 : vs 6 = .pointer (some ⟨g, o + 1, none⟩) := hT 6 (by decide)
      have t7 : vs 7 = .string a := hT 7 (by decide)
      have t8 : vs 8 = .slice (some ⟨g, o, none⟩) 5 cp := hT 8 (by decide)
      have t9 : vs 9 = .pointer (some ⟨g, o + 2, none⟩) := hT 9 (by decide)
      have t10 : vs 10 = .string b := hT 10 (by decide)
      have t11 : vs 11 = .slice (some ⟨gn, 0, none⟩) 2 cu := hT 11 (by decide)
      have t12 : vs 12 = .pointer (some ⟨gn, 0, none⟩) := hT 12 (by decide)
      have t13 : vs 13 = .int .i64 nx := hT 13 (by decide)
      have t14 : vs 14 = .slice (some ⟨gn, 0, none⟩) 2 cu := hT 14 (by decide)
      have t15 : vs 15 = .pointer (some ⟨gn, 1, none⟩) := hT 15 (by decide)
      have t16 : vs 16 = .int .i64 ny := hT 16 (by decide)
      have t17 : vs 17 = .agg #[.string a, .string b, .int .i64 nx, .int .i64 ny] := hT 17 (by decide)
      have hsz := hG.size
      simp only [t5, t6, t7, t8, t9, t10, t11, t12, t13, t14, t15, t16, t17] at hK
      have H := Lib.hid hK
      clear hK hT
      go_simp
      exact H.out _ _ ((Below.refl _ _).alloc (Nat.le_refl _) _) (show ∃ q : Nat, _ = _ ∧ _ ∧ _ = _ from ⟨_, rfl, hsz, blk_new W _ rfl⟩) (fun h => by cases h) (World.ownsRow.alloc hI _)
    refine Rg.cons 19 20 rfl (Rg.plain rfl ?_) ?_
    · intro vs W n hn hI hG hT hF K hK
      simp only [Rg.putsD, List.getD_cons_zero, List.getD_cons_succ, Act.put, List.setIfInBounds_toArray, List.set_cons_zero, List.set_cons_succ] at hK ⊢
      clear hn
      clear hF
      have t1 : vs 1 = .pointer (some ⟨cb, 0, none⟩) := hT 1 (by decide)
      have t2 : vs 2 = .pointer (some ⟨cb, 0, none⟩) := hT 2 (by decide)
      have t3 : vs 3 = .pointer (some ⟨cb, 0, none⟩) := hT 3 (by decide)
      have t4 : vs 4 = .slice A1 st.1.length k1 := hT 4 (by decide)
      have t5 : vs 5 = .slice (some ⟨g, o, none⟩) 5 cp := hT 5 (by decide)
      have t6 : vs 6 = .pointer (some ⟨g, o + 1, none⟩) := hT 6 (by decide)
      have t7 : vs 7 = .string a := hT 7 (by decide)
      have t8 : vs 8 = .slice (some ⟨g, o, none⟩) 5 cp := hT 8 (by decide)
      have t9 : vs 9 = .pointer (some ⟨g, o + 2, none⟩) := hT 9 (by decide)
      have t10 : vs 10 = .string b := hT 10 (by decide)
      have t11 : vs 11 = .slice (some ⟨gn, 0, none⟩) 2 cu := hT 11 (by decide)
      have t12 : vs 12 = .pointer (some ⟨gn, 0, none⟩) := hT 12 (by decide)
      have t13 : vs 13 = .int .i64 nx := hT 13 (by decide)
      have t14 : vs 14 = .slice (some ⟨gn, 0, none⟩) 2 cu := hT 14 (by decide)
      have t15 : vs 15 = .pointer (some ⟨gn, 1, none⟩) := hT 15 (by decide)
      have t16 : vs 16 = .int .i64 ny := hT 16 (by decide)
      have t17 : vs 17 = .agg #[.string a, .string b, .int .i64 nx, .int .i64 ny] := hT 17 (by decide)
      have t18 : ∃ q : Nat, vs 18 = .slice (some ⟨q, 0, none⟩) 1 1 ∧ w1.heap.size ≤ q ∧ W.heap[q]? = some (.cells #[.string a, .string b, .int .i64 nx, .int .i64 ny] 47 (0, 0)) := hT 18 (by decide)
      obtain ⟨bq, e21, hbq, k21⟩ := t18
      simp only [e21] at hK
      have HSZ := Lib.hid hG
      have hsz := hG.size
      have hszd : w1.heap.size ≤ W.heap.size := hsz
      simp only [t1, t2, t3, t4, t5, t6, t7, t8, t9, t10, t11, t12, t13, t14, t15, t16, t17] at hK
      have H := Lib.hid hK
      clear hK hT
      simp only [t1, t2, t3, t4, t5, t6, t7, t8, t9, t10, t11, t12, t13, t14, t15, t16, t17, e21]
      refine wp_append_keep _ _ _ 26 rfl (cb + 1) 47 i0 _ 4 48 Tryz.underlying26 HIF.out.1 HIF.out.2.1 HIF.out.2.2.1 HIF.out.2.2.2 rfl (by omega) (.slice A1 st.1.length k1) st.1.length (st.1.flatMap encPa) rfl hI ⟨bq, 0, none⟩ 1 1 [.string a, .string b, .int .i64 nx, .int .i64 ny] rfl rfl (fun j u hu => by rw [addr_new, cell_of_blk k21]; simpa using hu) (by intro u hu; simp at hu; rcases hu with rfl | rfl | rfl | rfl <;> rfl) (by unfold maxLen; omega) (by omega) (by omega) ?_
      intro v' w2 hown' hg' hk'
      obtain ⟨Av', cv', rfl, _, _⟩ := own_slice' hown'
      rw [HROW.out] at hg'
      exact H.out _ _ hg' ⟨_, _, rfl, hown'⟩ (fun h => by cases h) hk'
    exact Rg.nil
  · intro vs W hG hI hT hF
    have t0 : vs 0 = .pointer (some ⟨cb, 0, none⟩) := hT 0 (by decide)
    have t1 : vs 1 = .pointer (some ⟨cb, 0, none⟩) := hT 1 (by decide)
    have t2 : vs 2 = .pointer (some ⟨cb, 0, none⟩) := hT 2 (by decide)
    have t3 : vs 3 = .pointer (some ⟨cb, 0, none⟩) := hT 3 (by decide)
    have t4 : vs 4 = .slice A1 st.1.length k1 := hT 4 (by decide)
    have t5 : vs 5 = .slice (some ⟨g, o, none⟩) 5 cp := hT 5 (by decide)
    have t6 : vs 6 = .pointer (some ⟨g, o + 1, none⟩) := hT 6 (by decide)
    have t7 : vs 7 = .string a := hT 7 (by decide)
    have t8 : vs 8 = .slice (some ⟨g, o, none⟩) 5 cp := hT 8 (by decide)
    have t9 : vs 9 = .pointer (some ⟨g, o + 2, none⟩) := hT 9 (by decide)
    have t10 : vs 10 = .string b := hT 10 (by decide)
    have t11 : vs 11 = .slice (some ⟨gn, 0, none⟩) 2 cu := hT 11 (by decide)
    have t12 : vs 12 = .pointer (some ⟨gn, 0, none⟩) := hT 12 (by decide)
    have t13 : vs 13 = .int .i64 nx := hT 13 (by decide)
    have t14 : vs 14 = .slice (some ⟨gn, 0, none⟩) 2 cu := hT 14 (by decide)
    have t15 : vs 15 = .pointer (some ⟨gn, 1, none⟩) := hT 15 (by decide)
    have t16 : vs 16 = .int .i64 ny := hT 16 (by decide)
    have t17 : vs 17 = .agg #[.string a, .string b, .int .i64 nx, .int .i64 ny] := hT 17 (by decide)
    have t18 : ∃ q : Nat, vs 18 = .slice (some ⟨q, 0, none⟩) 1 1 ∧ w1.heap.size ≤ q ∧ W.heap[q]? = some (.cells #[.string a, .string b, .int .i64 nx, .int .i64 ny] 47 (0, 0)) := hT 18 (by decide)
    have t19 : ∃ (A : Option Addr) (c9 : Nat), vs 19 = .slice A (st.1.length + 1) c9 ∧ W.ownsRow (cb + 1) 47 4 (.slice A (st.1.length + 1) c9) (st.1.length + 1) (st.1.flatMap encPa ++ [.string a, .string b, .int .i64 nx, .int .i64 ny]) := hT 19 (by decide)
    simp only [List.length_cons, List.length_nil, Nat.reduceAdd, List.range, List.range.loop, List.drop_succ_cons, List.drop_zero, Rg.putsD, List.getD_cons_zero, List.getD_cons_succ, Act.put, List.setIfInBounds_toArray, List.set_cons_zero, List.set_cons_succ, t0, t1, t2, t3, t4, t5, t6, t7, t8, t9, t10, t11, t12, t13, t14, t15, t16, t17]
    clear hT t0 t1 t2 t3 t4 t5 t6 t7 t8 t9 t10 t11 t12 t13 t14 t15 t16 t17
    obtain ⟨A9, c9, e22, own22⟩ := t19
    obtain ⟨c3', f3', b3'⟩ := HC3.out W hG
    have HW : Hid (w1.drew.grownBy W row ∧ W.ownsRow (cb + 1) 47 4 (.slice A9 (st.1.length + 1) c9) (st.1.length + 1) (st.1.flatMap encPa ++ [.string a, .string b, .int .i64 nx, .int .i64 ny]) ∧ W.heap[cb]? = some (.cells #[.slice A1 st.1.length k1, .slice A2 st.2.length k2] 29 (0, 0)) ∧ W.ownsRow (cb + 1) 51 3 (.slice A2 st.2.length k2) st.2.length (st.2.flatMap encAl)) := ⟨hG, own22, b3', (HP.out.2.2.2.drew).kept hG HAP.out⟩
    have hcW := lt_of_blk b3'
    clear hF hI own22 b3' t18
    simp only [e22]
    clear e22 hG
    go_wp2_with fail
    have HF : Hid (Below base w (W.setCell ⟨cb, 0, none⟩ (.slice A9 (st.1.length + 1) c9)) ∧ CatAt cb (i + 1) (st.1 ++ [⟨a, b, nx, ny⟩], st.2) (W.setCell ⟨cb, 0, none⟩ (.slice A9 (st.1.length + 1) c9))) := by
      refine ⟨((HP.out.1.drew).grown HW.out.1 (by show base ≤ w1.heap.size; omega) (fun k hk => by have := HRow.out k hk; omega)).setCell hcb _, ⟨_, _, blk_set HW.out.2.2.1 _, ?_, own_far HW.out.2.2.2 (p := ⟨cb, 0, none⟩) (by show cb < cb + 1; omega) _⟩, ?_, ?_, HS9.out.2⟩
      · have := own_far HW.out.2.1 (p := ⟨cb, 0, none⟩) (by show cb < cb + 1; omega) (.slice A9 (st.1.length + 1) c9)
        rw [List.length_append, flatPa_snoc]
        exact this
      · rw [List.length_append]
        show st.1.length + 1 + st.2.length ≤ i + 1
        omega
      · intro p hp
        rcases List.mem_append.mp hp with hp | hp
        · exact HS9.out.1 p hp
        · have : p = ⟨a, b, nx, ny⟩ := by simpa using hp
          subst this
          exact HZ.out
    generalize W.setCell ⟨cb, 0, none⟩ (.slice A9 (st.1.length + 1) c9) = w3 at *
    go_wp2_with fail
    go_ret
    exact ⟨by rw [HR.out]; rfl, HF.out.1, fun st' h => by rw [HR.out] at h; cases h; exact HF.out.2⟩
end Go.Proofs.YtiooimfkobjpkaaGreatDoor
