/-
  The shortest tour: the reference's function around the recursion; a tour is always found.
-/
import Derived.Test.YtbkbjljkfhahbaaTqV
import Derived.Laws.EntriesVeiled
namespace Go.Proofs.Ytbkbjljkfhahbaa
open Go.RowKit
set_option linter.unusedSimpArgs false
set_option linter.unusedVariables false

/-- A tour of all points is found. -/
def Found (n : Nat) (st : List Int × Int) : Prop := st.2 ≠ maxI ∧ st.1.length = n
theorem vis_found {s : Int × Int} {l : List (Int × Int)} (hs : okPt s = true) (hl : ∀ p ∈ l, okPt p = true) (hln : l.length ≤ 1000) (f : Nat) : ∀ (o : List Int) (gone : Int) (st : List Int × Int), o.length + f = l.length → gone ≤ (o.length : Int) * 1000000 → (st.2 = maxI ∨ Found l.length st) → Found l.length (vis s l f o gone st) := by
  have hmx : (9000000000 : Int) < maxI := by unfold maxI; omega
  induction f with
  | zero =>
    intro o gone st hof hg h
    have hb := apart_bd (atOf_ok hs hl o) hs
    unfold vis
    split
    · rename_i hc
      rcases h with h | h
      · exfalso; rw [h] at hc; omega
      · exact h
    · exact ⟨by show ¬ gone + apart (atOf s l o) s = maxI; omega, by show o.length = _; omega⟩
  | succ f IH =>
    intro o gone st hof hg h
    have hb := apart_bd (atOf_ok hs hl o) hs
    unfold vis
    split
    · rename_i hc
      rcases h with h | h
      · exfalso; rw [h] at hc; omega
      · exact h
    · have key : ∀ (r : List Nat) (st : List Int × Int), (st.2 = maxI ∨ Found l.length st) → (Found l.length st ∨ ∃ j ∈ r, o.contains (j : Int) = false) → Found l.length (r.foldl (fun st (j : Nat) => if o.contains (j : Int) = true then st else vis s l f (o ++ [(j : Int)]) (gone + apart (atOf s l o) (ptAt l j)) st) st) := by
        intro r
        induction r with
        | nil =>
          intro st h1 h2
          rcases h2 with h2 | ⟨j, hj, _⟩
          · exact h2
          · cases hj
        | cons j r ih =>
          intro st h1 h2
          rw [List.foldl_cons]
          cases hc : o.contains (j : Int)
          · rw [if_neg (by simp)]
            have hbj := apart_bd (atOf_ok hs hl o) (ptAt_ok hl (j : Int))
            have hlo : (o ++ [(j : Int)]).length = o.length + 1 := by rw [List.length_append]; rfl
            have := IH (o ++ [(j : Int)]) (gone + apart (atOf s l o) (ptAt l j)) st (by rw [hlo]; omega) (by rw [hlo]; push_cast; omega) h1
            exact ih _ (.inr this) (.inl this)
          · rw [if_pos rfl]
            refine ih _ h1 (h2.imp_right ?_)
            rintro ⟨i, hi, hic⟩
            rcases List.mem_cons.mp hi with rfl | hi
            · rw [hc] at hic; cases hic
            · exact ⟨i, hi, hic⟩
      refine key _ _ h (.inr ?_)
      refine Classical.byContradiction fun hn => ?_
      have h2 := Rg.nodup_len (List.range l.length) (o.map Int.toNat) List.nodup_range (by
        intro j hj
        have hm : o.contains (j : Int) = true := by
          cases hc : o.contains (j : Int)
          · exact absurd ⟨j, hj, hc⟩ hn
          · rfl
        exact List.mem_map.mpr ⟨(j : Int), by simpa using hm, by simp⟩)
      rw [List.length_map, List.length_range] at h2
      omega
theorem short_found {s : Int × Int} {l : List (Int × Int)} (hs : okPt s = true) (hl : ∀ p ∈ l, okPt p = true) (hln : l.length ≤ 1000) : Found l.length (shortL s l) :=
  vis_found hs hl hln l.length [] 0 ([], maxI) (by simp) (by simp) (.inl rfl)

set_option maxRecDepth 100000 in
set_option maxHeartbeats 8000000 in
theorem shortestRef_any (s : Int × Int) (l : List (Int × Int)) (hs : okPt s = true) (hl : ∀ p ∈ l, okPt p = true) (hln : l.length ≤ 1000) {pv : Value} (w : World) (h1 : Reads encP pv l w) :
    Calls Try.prog 22 #[.agg #[.int .i64 s.1, .int .i64 s.2], pv] w fun e w' => ∃ v, e = .returned (.tuple #[v, .int .i64 (shortL s l).2]) ∧ w'.ownsRow w.heap.size 3 1 v (shortL s l).1.length ((shortL s l).1.map (Value.int .i64)) ∧ Below w.heap.size w w' := by
  have HEN := enters_of Try.func42 (by kernel_rfl) rfl
  obtain ⟨Ap, cp, rfl, h1'⟩ := h1
  have CV := Lib.hid (try_any s l hs hl hln Ap cp w ⟨Ap, cp, rfl, h1'⟩ l.length [] 0 ([], maxI))
  have HF := Lib.hid (short_found hs hl hln).1
  rw [atOf_nil] at CV
  rw [show vis s l l.length [] 0 ([], maxI) = shortL s l from rfl] at CV
  generalize shortL s l = R at *
  obtain ⟨s1, s2⟩ := s
  obtain ⟨ro, rl⟩ := R
  dsimp only at *
  go_enter Try.func22, Try.ntmps22
  go_upto_region 4 with (fail)
  have e2 : w.heap.size + 1 + 1 = w.heap.size + 2 := rfl
  have e3 : w.heap.size + 2 + 1 = w.heap.size + 3 := rfl
  have e4 : w.heap.size + 3 + 1 = w.heap.size + 4 := rfl
  simp only [e2, e3, e4]
  have HX : Hid (∃ W : World, W = (((((w.alloc (.cells #[.int .i64 s1, .int .i64 s2] 27)).alloc (.cells #[.slice Ap l.length cp] 29)).alloc (.cells #[.slice none 0 0] 22)).alloc (.cells #[.int .i64 (-1)] 3)).alloc (.cells #[.nilFunc] 69)) ∧ Below w.heap.size w W ∧ W.heap[w.heap.size]? = some (.cells #[.int .i64 s1, .int .i64 s2] 27 (0, 0)) ∧ W.heap[w.heap.size + 1]? = some (.cells #[.slice Ap l.length cp] 29 (0, 0)) ∧ W.heap[w.heap.size + 2]? = some (.cells #[.slice none 0 0] 22 (0, 0)) ∧ W.heap[w.heap.size + 3]? = some (.cells #[.int .i64 (-1)] 3 (0, 0)) ∧ W.heap[w.heap.size + 4]? = some (.cells #[.nilFunc] 69 (0, 0)) ∧ w.heap.size + 5 ≤ W.heap.size) := by
    refine ⟨_, rfl, ((((((Below.refl _ _).alloc (Nat.le_refl _) _).alloc (by simp) _).alloc (by simp; omega) _).alloc (by simp; omega) _).alloc (by simp; omega) _), ?_, ?_, ?_, ?_, blk_new _ _ (by simp), by simp⟩
    · exact blk_alloc (blk_alloc (blk_alloc (blk_alloc (blk_new w _ rfl) _) _) _) _
    · exact blk_alloc (blk_alloc (blk_alloc (blk_new _ _ (by simp)) _) _) _
    · exact blk_alloc (blk_alloc (blk_new _ _ (by simp)) _) _
    · exact blk_alloc (blk_new _ _ (by simp)) _
  obtain ⟨wx, hwx, HX'⟩ := HX.out
  rw [← hwx]
  have HX := Lib.hid HX'
  clear e2 e3 e4 HX' hwx
  have hx5 := lt_of_blk HX.out.2.2.2.2.2.1
  have f5 := frozen_of_blk HX.out.2.2.2.2.2.1 0
  have c5 := cell_of_blk HX.out.2.2.2.2.2.1 0
  simp at c5
  have HV : Hid (VR w (s1, s2) (.slice Ap l.length cp) ([], maxI) (wx.setCell ⟨w.heap.size + 4, 0, none⟩ (tryF w.heap.size))) := by
    obtain ⟨hb, k0, k1, k2, k3, k4, hz⟩ := HX.out
    refine ⟨hb.setCell (by show _ ≤ w.heap.size + 4; omega) _, ?_, ?_, ?_, ?_, ⟨none, 0, ?_, World.ownsRow_nil _ _ _ _⟩, by simpa [World.setCell] using hz⟩
    · exact blk_far k0 (by show _ ≠ w.heap.size + 4; omega) _
    · exact blk_far k1 (by show _ ≠ w.heap.size + 4; omega) _
    · exact blk_set k4 _
    · exact blk_far k3 (by show _ ≠ w.heap.size + 4; omega) _
    · exact blk_far k2 (by show _ ≠ w.heap.size + 4; omega) _
  go_upto_region 5 with (fail)
  rw [show (Value.func (.func 42) #[] #[.pointer (some ⟨w.heap.size + 3, 0, none⟩), .pointer (some ⟨w.heap.size, 0, none⟩), .pointer (some ⟨w.heap.size + 1, 0, none⟩), .pointer (some ⟨w.heap.size + 2, 0, none⟩), .pointer (some ⟨w.heap.size + 4, 0, none⟩)]) = tryF w.heap.size from rfl]
  generalize wx.setCell ⟨w.heap.size + 4, 0, none⟩ (tryF w.heap.size) = w6 at *
  clear hx5 f5 c5 HX
  have CX := Lib.hid (CV.out w6 none 0 (by simp) (by omega) (by simp) (by decide) HV.out (World.ownsRow_nil _ _ _ _) (fun _ => ⟨rfl, rfl⟩))
  have c5 := cell_of_blk HV.out.kv 0
  obtain ⟨c0, c00, _, _⟩ := blk2 HV.out.k0
  have hl0 := lt_of_blk HV.out.k0
  simp [tryF] at c5
  clear CV
  go_wp2_with fail
  refine CX.out.mono ?_
  rintro e w7 ⟨rfl, hV7, _⟩
  have H7 := Lib.hid hV7
  obtain ⟨Ab, cb, r3, r4⟩ := hV7.rows
  have HR := Lib.hid r4
  have hl2 := lt_of_blk r3
  have c3 := cell_of_blk r3 0
  have c4 := cell_of_blk hV7.kl 0
  rw [lv_pos HF.out] at c4
  simp at c3 c4
  clear hV7 r3 r4 HV CX c5 c0 c00 hl0
  go_wp2_with fail
  refine Rg.rgL (fun a b => Below a.heap.size a b)
    [(fun vs u => vs 0 = .slice Ab ro.length cb), (fun vs u => vs 1 = .int .i64 rl), (fun vs u => vs 2 = .slice Ab ro.length cb)]
    [[], [], [0]] [some 13, some 14, some 4, some 5] [] (fun _ _ => True) [[], [], [0], [0, 1, 2]]
    (by kernel_rfl) (by decide) (by kernel_rfl) (by kernel_rfl) (by kernel_rfl) (by kernel_rfl) (by kernel_rfl) (fun _ => Below.refl _ _) (fun _ _ _ h k => h.ext k) (fun _ _ h => h.size) ?_ trivial ?_ ?_
  · intro t ht vs w w' h hE
    simp only [List.mem_cons, List.not_mem_nil, or_false] at ht
    rcases ht with rfl | rfl | rfl
    · exact h
    · exact h
    · exact h
  ·
    refine Rg.cons 0 1 rfl (Rg.plain rfl ?_) ?_
    · intro vs W n hn hI hG hT hF K hK
      simp only [Rg.putsD, List.getD_cons_zero, List.getD_cons_succ, Act.put, List.setIfInBounds_toArray, List.set_cons_zero, List.set_cons_succ] at hK ⊢
      clear hn
      clear hF hI
      have c0 := (hG.cell (p := ⟨w.heap.size + 2, 0, none⟩) hl2).trans c3
      have H := Lib.hid hK
      clear hK hT
      go_simp
      exact H.out _ _ (Below.refl _ _) rfl (fun h => by cases h) trivial
    refine Rg.cons 1 2 rfl (Rg.plain rfl ?_) ?_
    · intro vs W n hn hI hG hT hF K hK
      simp only [Rg.putsD, List.getD_cons_zero, List.getD_cons_succ, Act.put, List.setIfInBounds_toArray, List.set_cons_zero, List.set_cons_succ] at hK ⊢
      clear hn
      clear hF hI
      have c0 := (hG.cell (p := ⟨w.heap.size + 3, 0, none⟩) (lt_of_blk H7.out.kl)).trans c4
      have H := Lib.hid hK
      clear hK hT
      go_simp
      exact H.out _ _ (Below.refl _ _) rfl (fun h => by cases h) trivial
    refine Rg.cons 2 3 rfl (Rg.plain rfl ?_) ?_
    · intro vs W n hn hI hG hT hF K hK
      simp only [Rg.putsD, List.getD_cons_zero, List.getD_cons_succ, Act.put, List.setIfInBounds_toArray, List.set_cons_zero, List.set_cons_succ] at hK ⊢
      clear hn
      clear hF hI
      have t0 : vs 0 = .slice Ab ro.length cb := hT 0 (by decide)
      simp only [t0] at hK
      have H := Lib.hid hK
      clear hK hT
      go_simp
      exact H.out _ _ (Below.refl _ _) rfl (fun h => by cases h) trivial
    exact Rg.nil
  · intro vs W hG hI hT hF
    have t0 : vs 0 = .slice Ab ro.length cb := hT 0 (by decide)
    have t1 : vs 1 = .int .i64 rl := hT 1 (by decide)
    have t2 : vs 2 = .slice Ab ro.length cb := hT 2 (by decide)
    simp only [List.length_cons, List.length_nil, Nat.reduceAdd, List.range, List.range.loop, List.drop_succ_cons, List.drop_zero, Rg.putsD, List.getD_cons_zero, List.getD_cons_succ, Act.put, List.setIfInBounds_toArray, List.set_cons_zero, List.set_cons_succ, t0, t1, t2]
    clear hT t0 t1 t2
    have H8 := Lib.hid (And.intro (H7.out.bel.drew.then_below hG (by have := H7.out.big; show _ ≤ w7.heap.size; omega)) (own_below (w := w7.drew) HR.out.drew hG))
    clear hF hI hG H7 HR c3 c4
    go_wp2_with fail
    refine bodyPost_ret (v := .tuple #[.slice Ab ro.length cb, .int .i64 rl]) (by unfold results; simp only [Try.results22]; go_simp) rfl ⟨_, rfl, own_mono H8.out.2 (by omega), H8.out.1⟩
end Go.Proofs.Ytbkbjljkfhahbaa
