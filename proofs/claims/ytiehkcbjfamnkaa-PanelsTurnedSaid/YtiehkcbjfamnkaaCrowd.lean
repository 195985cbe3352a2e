/-
  The walks of Crowded and Beyond.
-/
import Derived.Test.YtiehkcbjfamnkaaNear2
import Derived.Test.YtiehkcbjfamnkaaRg
import Derived.Deep.DrawnRows
namespace Go.Proofs.Ytiehkcbjfamnkaa
open Go.RowKit

theorem pair_info : (Try.prog.info? 92).map (fun i => (i.zero, i.size, i.bytes)) = some (some (.agg #[.string ⟨#[]⟩, .string ⟨#[]⟩]), 2, 32) := by kernel_rfl
def dS : ByteArray := ⟨#[]⟩
def encN (names : List ByteArray) (p : Nat × Nat) : List Value := [.string (names.getD p.1 dS), .string (names.getD p.2 dS)]
theorem row_str {w : World} {g : Nat} {l : List ByteArray} (h : LineAt w g (flatS l)) {k : Nat} (hk : k < l.length) : w.cell? ⟨g, k, none⟩ = some (.string (l.getD k dS)) := by
  have e := flatK_at encS 1 (fun _ => rfl) l k hk 0 (by omega)
  have := h.2 (k * 1 + 0) (.string l[k]) (by exact e)
  rw [List.getD_eq_getElem?_getD, List.getElem?_eq_getElem hk]
  simpa using this

set_option maxRecDepth 100000 in
set_option maxHeartbeats 4000000 in
theorem crowd1_any (names : List ByteArray) (hnl : names.length ≤ 1000) (w0 : World) (nb vb gn cn : Nat) (hnv : nb ≠ vb) (hgv : gn ≠ vb) (hnb : w0.heap[nb]? = some (.cells #[.slice (some ⟨gn, 0, none⟩) names.length cn] 83 (0, 0))) (hgn : LineAt w0 gn (flatS names))
    (d : List (Nat × Nat)) (v : Value) (i j : Nat) (W : World) (hij : i < j) (hj : j < names.length) (hd : d.length ≤ 1001000) (hk : Kept vb w0 W) (hc : ClI 92 80 vb w0.heap.size (encN names) d v W) :
    Calls Try.prog 80 (#[.int .i64 i, .int .i64 j] ++ #[.pointer (some ⟨vb, 0, none⟩), .pointer (some ⟨nb, 0, none⟩)]) W (ClPost 92 80 vb w0.heap.size (encN names) d v i j W) := by
  obtain ⟨A, c, rfl, _⟩ := own_form hc.row
  have hgl := hgn.1
  have k1 := hk.blk hnb hnv
  have hlW : LineAt W gn (flatS names) := ⟨Nat.lt_of_lt_of_le hgl hk.more, fun j u hu => (hk.cell (p := ⟨gn, j, none⟩) hgl hgv).trans (hgn.2 j u hu)⟩
  have q1 := row_str hlW (show i < names.length by omega)
  have q2 := row_str hlW hj
  have HEN : Hid (encN names (i, j) = [.string (names.getD i dS), .string (names.getD j dS)]) := rfl
  generalize names.getD i dS = si at *
  generalize names.getD j dS = sj at *
  have HQ := Lib.hid (And.intro hc (And.intro k1 (And.intro q1 q2)))
  have hvlt := lt_of_blk hc.var
  have hnlt := lt_of_blk k1
  have hglt : gn < W.heap.size := hlW.1
  have hi1 : (0 : Int) ≤ (i : Int) := by omega
  have hi2 : (i : Int) < (names.length : Int) := by omega
  have hj1 : (0 : Int) ≤ (j : Int) := by omega
  have hj2 : (j : Int) < (names.length : Int) := by omega
  have HK := Lib.hid hk
  have HNV := Lib.hid hnv
  clear hc k1 q1 q2 hlW hgn hnb hk hgv hnv
  obtain ⟨W0, rfl⟩ : ∃ W0 : World, W0 = W := ⟨_, rfl⟩
  go_enter Try.func80, Try.ntmps80
  go_wp2_with fail
  refine Rg.rgL (fun a b => Below a.heap.size a b)
    [(fun vs u => vs 0 = .slice A d.length c), (fun vs u => vs 1 = .slice (some ⟨gn, 0, none⟩) names.length cn), (fun vs u => vs 2 = .int .i64 i), (fun vs u => vs 3 = .pointer (some ⟨gn, i, none⟩)), (fun vs u => vs 4 = .string si), (fun vs u => vs 5 = .slice (some ⟨gn, 0, none⟩) names.length cn), (fun vs u => vs 6 = .int .i64 j), (fun vs u => vs 7 = .pointer (some ⟨gn, j, none⟩)), (fun vs u => vs 8 = .string sj), (fun vs u => vs 9 = .agg #[.string si, .string sj]), (fun vs u => ∃ b : Nat, vs 10 = .slice (some ⟨b, 0, none⟩) 1 1 ∧ u.heap[b]? = some (.cells #[.string si, .string sj] 92 (0, 0)))]
    [[], [], [], [1, 2], [1, 2, 3], [], [], [5, 6], [5, 6, 7], [1, 2, 3, 4, 5, 6, 7, 8], [1, 2, 3, 4, 5, 6, 7, 8, 9]] [some 6, some 7, some 8, some 9, some 10, some 11, some 12, some 13, some 14, some 15, some 16, some 17, none] [10] (fun _ _ => True) [[], [], [], [1, 2], [1, 2, 3], [], [], [5, 6], [5, 6, 7], [1, 2, 3, 4, 5, 6, 7, 8], [1, 2, 3, 4, 5, 6, 7, 8, 9], [0, 1, 2, 3, 4, 5, 6, 7, 8, 9, 10], [0, 1, 2, 3, 4, 5, 6, 7, 8, 9, 10, 11]]
    (by kernel_rfl) (by decide) (by kernel_rfl) (by kernel_rfl) (by kernel_rfl) (by kernel_rfl) (by kernel_rfl) (fun _ => Below.refl _ _) (fun _ _ _ h k => h.ext k) (fun _ _ h => h.size) ?_ trivial ?_ ?_
  · intro t ht vs w w' h hE
    simp only [List.mem_cons, List.not_mem_nil, or_false] at ht
    rcases ht with rfl | rfl | rfl | rfl | rfl | rfl | rfl | rfl | rfl | rfl | rfl
    · exact h
    · exact h
    · exact h
    · exact h
    · exact h
    · exact h
    · exact h
    · exact h
    · exact h
    · exact h
    · obtain ⟨b, e, k⟩ := h
      exact ⟨b, e, blk_below hE k⟩
  ·
    refine Rg.cons 0 1 rfl (Rg.plain rfl ?_) ?_
    · intro vs W n hn hI hG hT hF K hK
      simp only [Rg.putsD, List.getD_cons_zero, List.getD_cons_succ, Act.put, List.setIfInBounds_toArray, List.set_cons_zero, List.set_cons_succ] at hK ⊢
      clear hn
      clear hF hI
      have c0 := blk_cell0 (blk_below hG HQ.out.1.var)
      have H := Lib.hid hK
      clear hK hT
      go_simp
      exact H.out _ _ (Below.refl _ _) rfl (fun h => by cases h) trivial
    refine Rg.cons 1 2 rfl (Rg.plain rfl ?_) ?_
    · intro vs W n hn hI hG hT hF K hK
      simp only [Rg.putsD, List.getD_cons_zero, List.getD_cons_succ, Act.put, List.setIfInBounds_toArray, List.set_cons_zero, List.set_cons_succ] at hK ⊢
      clear hn
      clear hF hI
      have c0 := blk_cell0 (blk_below hG HQ.out.2.1)
      have H := Lib.hid hK
      clear hK hT
      go_simp
      exact H.out _ _ (Below.refl _ _) rfl (fun h => by cases h) trivial
    refine Rg.cons 2 3 rfl (Rg.plain rfl ?_) ?_
    · intro vs W n hn hI hG hT hF K hK
      simp only [Rg.putsD, List.getD_cons_zero, List.getD_cons_succ, Act.put, List.setIfInBounds_toArray, List.set_cons_zero, List.set_cons_succ] at hK ⊢
      clear hn
      clear hF hI
      have H := Lib.hid hK
      clear hK hT
      go_simp
      exact H.out _ _ (Below.refl _ _) rfl (fun h => by cases h) trivial
    refine Rg.cons 3 4 rfl (Rg.plain rfl ?_) ?_
    · intro vs W n hn hI hG hT hF K hK
      simp only [Rg.putsD, List.getD_cons_zero, List.getD_cons_succ, Act.put, List.setIfInBounds_toArray, List.set_cons_zero, List.set_cons_succ] at hK ⊢
      clear hn
      clear hF hI
      have t1 : vs 1 = .slice (some ⟨gn, 0, none⟩) names.length cn := hT 1 (by decide)
      have t2 : vs 2 = .int .i64 i := hT 2 (by decide)
      simp only [t1, t2] at hK
      have H := Lib.hid hK
      clear hK hT
      go_simp
      exact H.out _ _ (Below.refl _ _) rfl (fun h => by cases h) trivial
    refine Rg.cons 4 5 rfl (Rg.plain rfl ?_) ?_
    · intro vs W n hn hI hG hT hF K hK
      simp only [Rg.putsD, List.getD_cons_zero, List.getD_cons_succ, Act.put, List.setIfInBounds_toArray, List.set_cons_zero, List.set_cons_succ] at hK ⊢
      clear hn
      clear hF hI
      have t1 : vs 1 = .slice (some ⟨gn, 0, none⟩) names.length cn := hT 1 (by decide)
      have t2 : vs 2 = .int .i64 i := hT 2 (by decide)
      have t3 : vs 3 = .pointer (some ⟨gn, i, none⟩) := hT 3 (by decide)
      have c0 := (hG.cell (p := ⟨gn, i, none⟩) hglt).trans HQ.out.2.2.1
      simp only [t1, t2, t3] at hK
      have H := Lib.hid hK
      clear hK hT
      go_simp
      exact H.out _ _ (Below.refl _ _) rfl (fun h => by cases h) trivial
    refine Rg.cons 5 6 rfl (Rg.plain rfl ?_) ?_
    · intro vs W n hn hI hG hT hF K hK
      simp only [Rg.putsD, List.getD_cons_zero, List.getD_cons_succ, Act.put, List.setIfInBounds_toArray, List.set_cons_zero, List.set_cons_succ] at hK ⊢
      clear hn
      clear hF hI
      have c0 := blk_cell0 (blk_below hG HQ.out.2.1)
      have H := Lib.hid hK
      clear hK hT
      go_simp
      exact H.out _ _ (Below.refl _ _) rfl (fun h => by cases h) trivial
    refine Rg.cons 6 7 rfl (Rg.plain rfl ?_) ?_
    · intro vs W n hn hI hG hT hF K hK
      simp only [Rg.putsD, List.getD_cons_zero, List.getD_cons_succ, Act.put, List.setIfInBounds_toArray, List.set_cons_zero, List.set_cons_succ] at hK ⊢
      clear hn
      clear hF hI
      have H := Lib.hid hK
      clear hK hT
      go_simp
      exact H.out _ _ (Below.refl _ _) rfl (fun h => by cases h) trivial
    refine Rg.cons 7 8 rfl (Rg.plain rfl ?_) ?_
    · intro vs W n hn hI hG hT hF K hK
      simp only [Rg.putsD, List.getD_cons_zero, List.getD_cons_succ, Act.put, List.setIfInBounds_toArray, List.set_cons_zero, List.set_cons_succ] at hK ⊢
      clear hn
      clear hF hI
      have t5 : vs 5 = .slice (some ⟨gn, 0, none⟩) names.length cn := hT 5 (by decide)
      have t6 : vs 6 = .int .i64 j := hT 6 (by decide)
      simp only [t5, t6] at hK
      have H := Lib.hid hK
      clear hK hT
      go_simp
      exact H.out _ _ (Below.refl _ _) rfl (fun h => by cases h) trivial
    refine Rg.cons 8 9 rfl (Rg.plain rfl ?_) ?_
    · intro vs W n hn hI hG hT hF K hK
      simp only [Rg.putsD, List.getD_cons_zero, List.getD_cons_succ, Act.put, List.setIfInBounds_toArray, List.set_cons_zero, List.set_cons_succ] at hK ⊢
      clear hn
      clear hF hI
      have t5 : vs 5 = .slice (some ⟨gn, 0, none⟩) names.length cn := hT 5 (by decide)
      have t6 : vs 6 = .int .i64 j := hT 6 (by decide)
      have t7 : vs 7 = .pointer (some ⟨gn, j, none⟩) := hT 7 (by decide)
      have c0 := (hG.cell (p := ⟨gn, j, none⟩) hglt).trans HQ.out.2.2.2
      simp only [t5, t6, t7] at hK
      have H := Lib.hid hK
      clear hK hT
      go_simp
      exact H.out _ _ (Below.refl _ _) rfl (fun h => by cases h) trivial
    refine Rg.cons 9 10 rfl (Rg.plain rfl ?_) ?_
    · intro vs W n hn hI hG hT hF K hK
      simp only [Rg.putsD, List.getD_cons_zero, List.getD_cons_succ, Act.put, List.setIfInBounds_toArray, List.set_cons_zero, List.set_cons_succ] at hK ⊢
      clear hn
      clear hF hI
      have t1 : vs 1 = .slice (some ⟨gn, 0, none⟩) names.length cn := hT 1 (by decide)
      have t2 : vs 2 = .int .i64 i := hT 2 (by decide)
      have t3 : vs 3 = .pointer (some ⟨gn, i, none⟩) := hT 3 (by decide)
      have t4 : vs 4 = .string si := hT 4 (by decide)
      have t5 : vs 5 = .slice (some ⟨gn, 0, none⟩) names.length cn := hT 5 (by decide)
      have t6 : vs 6 = .int .i64 j := hT 6 (by decide)
      have t7 : vs 7 = .pointer (some ⟨gn, j, none⟩) := hT 7 (by decide)
      have t8 : vs 8 = .string sj := hT 8 (by decide)
      simp only [t1, t2, t3, t4, t5, t6, t7, t8] at hK
      have H := Lib.hid hK
      clear hK hT
      go_simp
      exact H.out _ _ (Below.refl _ _) rfl (fun h => by cases h) trivial
    refine Rg.cons 10 11 rfl (Rg.plain rfl ?_) ?_
    · intro vs W n hn hI hG hT hF K hK
      simp only [Rg.putsD, List.getD_cons_zero, List.getD_cons_succ, Act.put, List.setIfInBounds_toArray, List.set_cons_zero, List.set_cons_succ] at hK ⊢
      clear hn
      clear hF hI
      have t1 : vs 1 = .slice (some ⟨gn, 0, none⟩) names.length cn := hT 1 (by decide)
      have t2 : vs 2 = .int .i64 i := hT 2 (by decide)
      have t3 : vs 3 = .pointer (some ⟨gn, i, none⟩) := hT 3 (by decide)
      have t4 : vs 4 = .string si := hT 4 (by decide)
      have t5 : vs 5 = .slice (some ⟨gn, 0, none⟩) names.length cn := hT 5 (by decide)
      have t6 : vs 6 = .int .i64 j := hT 6 (by decide)
      have t7 : vs 7 = .pointer (some ⟨gn, j, none⟩) := hT 7 (by decide)
      have t8 : vs 8 = .string sj := hT 8 (by decide)
      have t9 : vs 9 = .agg #[.string si, .string sj] := hT 9 (by decide)
      simp only [t1, t2, t3, t4, t5, t6, t7, t8, t9] at hK
      have H := Lib.hid hK
      clear hK hT
      go_simp
      exact H.out _ _ ((Below.refl _ _).alloc (Nat.le_refl _) _) (show ∃ b : Nat, _ = _ ∧ _ = _ from ⟨_, rfl, blk_new W _ rfl⟩) (fun _ => ⟨W.heap.size, rfl, Nat.le_refl _, by simp⟩) trivial
    exact Rg.nil
  · intro vs W hG hI hT hF
    have t0 : vs 0 = .slice A d.length c := hT 0 (by decide)
    have t1 : vs 1 = .slice (some ⟨gn, 0, none⟩) names.length cn := hT 1 (by decide)
    have t2 : vs 2 = .int .i64 i := hT 2 (by decide)
    have t3 : vs 3 = .pointer (some ⟨gn, i, none⟩) := hT 3 (by decide)
    have t4 : vs 4 = .string si := hT 4 (by decide)
    have t5 : vs 5 = .slice (some ⟨gn, 0, none⟩) names.length cn := hT 5 (by decide)
    have t6 : vs 6 = .int .i64 j := hT 6 (by decide)
    have t7 : vs 7 = .pointer (some ⟨gn, j, none⟩) := hT 7 (by decide)
    have t8 : vs 8 = .string sj := hT 8 (by decide)
    have t9 : vs 9 = .agg #[.string si, .string sj] := hT 9 (by decide)
    have t10 : ∃ b : Nat, vs 10 = .slice (some ⟨b, 0, none⟩) 1 1 ∧ W.heap[b]? = some (.cells #[.string si, .string sj] 92 (0, 0)) := hT 10 (by decide)
    simp only [List.length_cons, List.length_nil, Nat.reduceAdd, List.range, List.range.loop, List.drop_succ_cons, List.drop_zero, Rg.putsD, List.getD_cons_zero, List.getD_cons_succ, Act.put, List.setIfInBounds_toArray, List.set_cons_zero, List.set_cons_succ, t0, t1, t2, t3, t4, t5, t6, t7, t8, t9]
    clear hT t0 t1 t2 t3 t4 t5 t6 t7 t8 t9
    obtain ⟨b, e10, k10⟩ := t10
    have hgW := hG.size
    have h1 : Hid (W.heap[vb]? = some (.cells #[.slice A d.length c] 80 (0, 0)) ∧ W.ownsRow w0.heap.size 92 2 (.slice A d.length c) d.length (d.flatMap (encN names)) ∧ W.heap[b]? = some (.cells #[.string si, .string sj] 92 (0, 0)) ∧ Below W0.heap.size W0 W) :=
      ⟨blk_below hG HQ.out.1.var, own_below (w := W0.drew) HQ.out.1.row hG, k10, (Below.refl _ _).drew.ext hG⟩
    have E10 := Lib.hid e10
    have hWs : W0.heap.size ≤ W.heap.size := hgW
    have hbs : w0.heap.size ≤ W.heap.size := Nat.le_trans HK.out.more hWs
    clear hF hG hI e10 k10 hgW
    simp only [E10.out]
    obtain ⟨i0, hi, hz0, hz1, hz2⟩ := info_parts pair_info
    refine wpList_append_lies _ rfl _ _ 80 rfl w0.heap.size 92 i0 _ 2 32 Try.underlying80 hi hz0 hz1 hz2 rfl (by omega) _ d.length (d.flatMap (encN names)) rfl h1.out.2.1 ⟨b, 0, none⟩ 1 1 [.string si, .string sj] rfl rfl ?c1 (by intro u hu; simp at hu; rcases hu with rfl | rfl <;> rfl) (by omega) ?c2 ?c3 hbs W.heap.size rfl ?_
    case c1 =>
      intro q u hu
      rw [addr_new, cell_of_blk h1.out.2.2.1]
      simpa using hu
    case c2 => unfold maxLen; omega
    case c3 => omega
    intro g cap w' hown hgr hat hlt
    have hsr := hgr.size
    have hvb : W0.heap.size ≤ W.heap.size := hWs
    have hcv : w'.heap[vb]? = some (.cells #[.slice A d.length c] 80 (0, 0)) := (hgr.block vb (by omega) (fun e => by have := own_row HQ.out.1.row vb e.symm; have := HQ.out.1.lt; omega)).trans h1.out.1
    have c0 := blk_cell0 hcv
    have f0 := frozen_of_blk hcv 0
    have HFIN : Hid (ClPost 92 80 vb w0.heap.size (encN names) d (.slice A d.length c) i j W0 (.returned (.tuple #[])) (w'.setCell ⟨vb, 0, none⟩ (.slice (some ⟨g, 0, none⟩) (d.length + 1) cap))) := by
      have hat' : (Value.slice A d.length c).ownBlock = some g ∨ g = W.heap.size := hat
      have hgr' : W.grownBy w' (Value.slice A d.length c).ownBlock := hgr
      refine ⟨rfl, _, ⟨blk_set (i := 0) hcv _, ?_, HQ.out.1.lt⟩, ?_, ?_, ?_, ?_⟩
      · have e1 : (d ++ [(i, j)]).flatMap (encN names) = d.flatMap (encN names) ++ [.string si, .string sj] := by rw [List.flatMap_append, ← HEN.out]; simp
        rw [e1, List.length_append]
        exact own_far hown HQ.out.1.lt _
      · simp [World.setCell]; omega
      · exact ⟨hgr.os.trans h1.out.2.2.2.os, hgr.tape.trans h1.out.2.2.2.tape, hgr.output.trans h1.out.2.2.2.output⟩
      · intro k hk hne hno
        rw [show (w'.setCell ⟨vb, 0, none⟩ (.slice (some ⟨g, 0, none⟩) (d.length + 1) cap)).heap[k]? = w'.heap[k]? from Below.heap_setCell _ _ _ _ (by simpa using hne)]
        exact (hgr'.block k (by omega) (fun e => hno e.symm)).trans (h1.out.2.2.2.block k hk)
      · rcases hat' with h | h
        · exact .inl (by rw [h]; rfl)
        · exact .inr ⟨g, by omega, rfl⟩
    clear hown hgr hat hlt hcv
    go_wp2_with fail
    go_end0
    exact HFIN.out
end Go.Proofs.Ytiehkcbjfamnkaa
