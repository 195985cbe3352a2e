/-
  The program writes a product.
-/
import Derived.Test.YtalconjnjaffkaaGreatDoorTxL
import Derived.Test.YtalconjnjaffkaaGreatDoorRg
namespace Go.Proofs.YtalconjnjaffkaaGreatDoor
open Go.RowKit
set_option linter.unusedSimpArgs false
set_option linter.unusedVariables false

theorem str_infoT : (Tryz.prog.info? 9).map (fun i => (i.zero, i.size, i.bytes)) = some (some (.string ⟨#[]⟩), 1, 16) := by kernel_rfl

theorem strs_blk {w : World} {g : Nat} {ws : List ByteArray} {T : TypeId} {n : Nat} (h : w.heap[g]? = some (.cells (ws.map Value.string).toArray T (0, 0))) (hn : n = ws.length) : StrsAt (.slice (some ⟨g, 0, none⟩) n n) ws w := by
  subst hn
  refine ⟨_, _, rfl, Nat.le_refl _, .inr ⟨g, 0, rfl, lt_of_blk h, fun j hj => ?_⟩⟩
  rw [cell_of_blk h]
  simp [hj]
theorem strs_own {w : World} {base : Nat} {T : TypeId} {v : Value} {ws : List ByteArray} {n : Nat} (h : w.ownsRow base T 1 v n (ws.map Value.string)) (hn : n = ws.length) : StrsAt v ws w := by
  subst hn
  rcases h.2 with ⟨rfl, h0⟩ | ⟨g, cap, cur, rfl, hb, hg, h1, h2, h3, h4⟩
  · have : ws = [] := List.length_eq_zero_iff.mp h0
    subst this
    exact ⟨none, 0, rfl, Nat.le_refl _, .inl rfl⟩
  · refine ⟨_, cap, rfl, h1, .inr ⟨g, 0, rfl, lt_of_blk hg, fun j hj => ?_⟩⟩
    rw [cell_of_blk hg, Nat.zero_add]
    have := congrArg (fun z => z[j]?) h4
    simp only [Nat.mul_one, List.getElem?_take, List.getElem?_map, List.getElem?_eq_getElem hj, Option.map_some] at this
    rw [if_pos hj] at this
    simpa using this
theorem own_one {w : World} {base g : Nat} {T : TypeId} {v : Value} (h : w.heap[g]? = some (.cells #[v] T (0, 0))) (hb : base ≤ g) : w.ownsRow base T 1 (.slice (some ⟨g, 0, none⟩) 1 1) 1 [v] :=
  ⟨rfl, .inr ⟨g, 1, _, rfl, hb, h, Nat.le_refl _, by unfold maxLen; omega, rfl, rfl⟩⟩
theorem blk5p {w : World} {g : Nat} {a b c d e : Value} {t : TypeId} (h : w.heap[g]? = some (.cells #[a, b, c, d, e] t (0, 0))) : w.cell? ⟨g, 0, none⟩ = some a ∧ w.cell? ⟨g, 1, none⟩ = some b ∧ w.cell? ⟨g, 2, none⟩ = some c ∧ w.cell? ⟨g, 3, none⟩ = some d ∧ w.cell? ⟨g, 4, none⟩ = some e :=
  ⟨cell_of_blk h 0, cell_of_blk h 1, cell_of_blk h 2, cell_of_blk h 3, cell_of_blk h 4⟩
theorem textL_succ (key : ByteArray) (W H : Int) (l : List Pl) {k : Nat} (hk : k < l.length) : textL key W H (l.take (k + 1)) = textL key W H (l.take k) ++ [lineB (placeW l[k])] := by
  unfold textL
  rw [List.take_add_one, List.getElem?_eq_getElem hk, Option.toList_some, List.map_append, List.map_cons, List.map_nil, ← List.cons_append]
theorem line_len {ws : List ByteArray} {n : Nat} (h : (lineB ws).size ≤ n) : (Lib.join (ws.map bt) [32]).length ≤ n := by
  unfold lineB at h
  rw [size_append, ← bt_size, bt_joinB] at h
  have : bt (⟨#[32]⟩ : ByteArray) = [32] := rfl
  rw [this] at h
  omega

set_option maxRecDepth 100000 in
set_option maxHeartbeats 8000000 in
theorem ptext_any (key : ByteArray) (Wd Hg : Int) (A : Option Addr) (c : Nat) (l : List Pl) (hl : l.length ≤ 4611686018427387904) (w : World) (hA : PlAt w A l) (hGl : Gl w) (hw : gLow ≤ w.heap.size) :
    Calls Tryz.prog 19 #[prod key Wd Hg A l.length c] w fun e w' => e = .returned (.tuple #[.string (if prodErr key Wd Hg l = 0 then textB key Wd Hg l else dS), .int .i64 (prodErr key Wd Hg l)]) ∧ Below w.heap.size w w' := by
  have HB0 : Hid (Below w.heap.size w (w.alloc (.cells #[.string key, .int .i64 Wd, .int .i64 Hg, .slice A l.length c] 44))) := (Below.refl _ _).alloc (Nat.le_refl _) _
  have HK0 : Hid ((w.alloc (.cells #[.string key, .int .i64 Wd, .int .i64 Hg, .slice A l.length c] 44)).heap[w.heap.size]? = some (.cells #[.string key, .int .i64 Wd, .int .i64 Hg, .slice A l.length c] 44 (0, 0))) := blk_new w _ rfl
  have CC := Lib.hid (fun (u : World) (hu : PlAt u A l) => checkProduct_any key Wd Hg A c l hl u hu)
  have HF := Lib.hid (fun (h : prodErr key Wd Hg l = 0) => prodErr_fit h)
  have HA : Hid (PlAt (w.alloc (.cells #[.string key, .int .i64 Wd, .int .i64 Hg, .slice A l.length c] 44)) A l) := hA.below HB0.out
  generalize prodErr key Wd Hg l = E at *
  have CX := Lib.hid (CC.out _ HA.out)
  clear CC
  by_cases hE : E = 0
  rotate_left
  · rw [if_neg hE]
    have hne1 : (E == 0) = false := by simpa using hE
    have hne2 : (E != 0) = true := by simpa using hE
    go_enter Tryz.func19, Tryz.ntmps19
    go_wp2_with fail
    refine CX.out.mono ?_
    rintro e w1 ⟨rfl, b1⟩
    have HB := Lib.hid (HB0.out.then_below b1 HB0.out.size)
    clear b1
    go_wp2_with fail
    refine bodyPost_ret (v := .tuple #[.string ⟨#[]⟩, .int .i64 E]) (by unfold results; simp only [Tryz.results19]; go_simp) rfl ⟨rfl, HB.out⟩
  subst hE
  rw [if_pos rfl]
  have HP := Lib.hid (HF.out rfl)
  clear HF
  go_enter Tryz.func19, Tryz.ntmps19
  go_wp2_with fail
  refine CX.out.mono ?_
  rintro e w1 ⟨rfl, b1⟩
  have H1 : Hid (Below w.heap.size w w1 ∧ w1.heap[w.heap.size]? = some (.cells #[.string key, .int .i64 Wd, .int .i64 Hg, .slice A l.length c] 44 (0, 0)) ∧ PlAt w1 A l) :=
    ⟨HB0.out.then_below b1 HB0.out.size, blk_below b1 HK0.out, HA.out.below b1⟩
  clear b1 CX HA HB0 HK0
  obtain ⟨p0, p1, p2, p3⟩ := blk4 H1.out.2.1
  have hpl := lt_of_blk H1.out.2.1
  have hw1 : gLow ≤ w1.heap.size := by omega
  have CI := Lib.hid (fun (n : Int) (h0 : -9223372036854775808 ≤ n) (h1 : n ≤ 9223372036854775807) (u : World) (hu : Below w.heap.size w u) => itoa_any n h0 h1 u (hGl.below hu hw))
  have HL0 := Lib.hid (fun (v : Value) (u : World) (h : StrsAt v (headW key Wd Hg) u) => line_any (headW key Wd Hg) h (by simp [headW]) (by
    have h1 := headLine_size HP.out
    unfold lineB at h1
    rw [size_append, ← bt_size, bt_joinB] at h1
    have : bt (⟨#[32]⟩ : ByteArray) = [32] := rfl
    rw [this] at h1
    omega))
  go_wp2_with fail
  refine Rg.rgL (fun a b => Below a.heap.size a b)
    [(fun vs u => vs 0 = .pointer (some ⟨w.heap.size, 0, none⟩)), (fun vs u => vs 1 = .string key), (fun vs u => vs 2 = .func (.func 62) #[] #[]), (fun vs u => vs 3 = .pointer (some ⟨w.heap.size, 1, none⟩)), (fun vs u => vs 4 = .int .i64 Wd), (fun vs u => vs 5 = .string (itB Wd)), (fun vs u => vs 6 = .func (.func 62) #[] #[]), (fun vs u => vs 7 = .pointer (some ⟨w.heap.size, 2, none⟩)), (fun vs u => vs 8 = .int .i64 Hg), (fun vs u => vs 9 = .string (itB Hg))]
    [[], [0], [], [], [3], [2, 3, 4], [], [], [7], [2, 3, 4, 5, 6, 7, 8]] [some 14, some 15, some 16, some 17, some 18, some 19, some 20, some 21, some 22, some 23, some 24, some 25, some 26, some 6] [] (fun _ _ => True) [[], [0], [], [], [3], [2, 3, 4], [], [], [7], [2, 3, 4, 5, 6, 7, 8], [0, 1, 2, 3, 4, 5, 6, 7, 8, 9], [0, 1, 2, 3, 4, 5, 6, 7, 8, 9, 10], [0, 1, 2, 3, 4, 5, 6, 7, 8, 9, 10, 11], [0, 1, 2, 3, 4, 5, 6, 7, 8, 9, 10, 11, 12]]
    (by kernel_rfl) (by decide) (by kernel_rfl) (by kernel_rfl) (by kernel_rfl) (by kernel_rfl) (by kernel_rfl) (fun _ => Below.refl _ _) (fun _ _ _ h k => h.ext k) (fun _ _ h => h.size) ?_ trivial ?_ ?_
  · intro t ht vs w w' h hE
    simp only [List.mem_cons, List.not_mem_nil, or_false] at ht
    rcases ht with rfl | rfl | rfl | rfl | rfl | rfl | rfl | rfl | rfl | rfl
    · exact h
    · exact h
    · exact h
    · exact h
    · exact h
    · exact h
    · exact h
    · exact h
    · exact h
    · exact h
  ·
    refine Rg.cons 0 1 rfl (Rg.plain rfl ?_) ?_
    · intro vs W n hn hI hG hT hF K hK
      simp only [Rg.putsD, List.getD_cons_zero, List.getD_cons_succ, Act.put, List.setIfInBounds_toArray, List.set_cons_zero, List.set_cons_succ] at hK ⊢
      clear hn
      clear hF hI
      have H := Lib.hid hK
      clear hK hT
      go_simp
      exact H.out _ _ (Below.refl _ _) rfl (fun h => by cases h) trivial
    refine Rg.cons 1 2 rfl (Rg.plain rfl ?_) ?_
    · intro vs W n hn hI hG hT hF K hK
      simp only [Rg.putsD, List.getD_cons_zero, List.getD_cons_succ, Act.put, List.setIfInBounds_toArray, List.set_cons_zero, List.set_cons_succ] at hK ⊢
      clear hn
      clear hF hI
      have t0 : vs 0 = .pointer (some ⟨w.heap.size, 0, none⟩) := hT 0 (by decide)
      obtain ⟨c0, c1, c2, c3⟩ := blk4 (blk_below hG H1.out.2.1)
      simp only [t0] at hK
      have H := Lib.hid hK
      clear hK hT
      go_simp
      exact H.out _ _ (Below.refl _ _) rfl (fun h => by cases h) trivial
    refine Rg.cons 2 3 rfl (Rg.plain rfl ?_) ?_
    · intro vs W n hn hI hG hT hF K hK
      simp only [Rg.putsD, List.getD_cons_zero, List.getD_cons_succ, Act.put, List.setIfInBounds_toArray, List.set_cons_zero, List.set_cons_succ] at hK ⊢
      clear hn
      clear hF hI
      have H := Lib.hid hK
      clear hK hT
      go_simp
      exact H.out _ _ (Below.refl _ _) rfl (fun h => by cases h) trivial
    refine Rg.cons 3 4 rfl (Rg.plain rfl ?_) ?_
    · intro vs W n hn hI hG hT hF K hK
      simp only [Rg.putsD, List.getD_cons_zero, List.getD_cons_succ, Act.put, List.setIfInBounds_toArray, List.set_cons_zero, List.set_cons_succ] at hK ⊢
      clear hn
      clear hF hI
      have H := Lib.hid hK
      clear hK hT
      go_simp
      exact H.out _ _ (Below.refl _ _) rfl (fun h => by cases h) trivial
    refine Rg.cons 4 5 rfl (Rg.plain rfl ?_) ?_
    · intro vs W n hn hI hG hT hF K hK
      simp only [Rg.putsD, List.getD_cons_zero, List.getD_cons_succ, Act.put, List.setIfInBounds_toArray, List.set_cons_zero, List.set_cons_succ] at hK ⊢
      clear hn
      clear hF hI
      have t3 : vs 3 = .pointer (some ⟨w.heap.size, 1, none⟩) := hT 3 (by decide)
      obtain ⟨c0, c1, c2, c3⟩ := blk4 (blk_below hG H1.out.2.1)
      simp only [t3] at hK
      have H := Lib.hid hK
      clear hK hT
      go_simp
      exact H.out _ _ (Below.refl _ _) rfl (fun h => by cases h) trivial
    refine Rg.cons 5 6 rfl (Rg.plain rfl ?_) ?_
    · intro vs W n hn hI hG hT hF K hK
      simp only [Rg.putsD, List.getD_cons_zero, List.getD_cons_succ, Act.put, List.setIfInBounds_toArray, List.set_cons_zero, List.set_cons_succ] at hK ⊢
      clear hn
      clear hF hI
      have t2 : vs 2 = .func (.func 62) #[] #[] := hT 2 (by decide)
      have t3 : vs 3 = .pointer (some ⟨w.heap.size, 1, none⟩) := hT 3 (by decide)
      have t4 : vs 4 = .int .i64 Wd := hT 4 (by decide)
      have HG := Lib.hid hG
      clear hG
      simp only [t2, t3, t4] at hK
      have H := Lib.hid hK
      clear hK hT
      go_simp
      refine (CI.out Wd (by have := HP.out.w0; omega) (by have := HP.out.w1; omega) _ (H1.out.1.drew.then_below HG.out (Nat.le_of_lt hpl))).mono ?_
      rintro e w6 ⟨rfl, b6⟩
      exact H.out _ _ b6 rfl (fun h => by cases h) trivial
    refine Rg.cons 6 7 rfl (Rg.plain rfl ?_) ?_
    · intro vs W n hn hI hG hT hF K hK
      simp only [Rg.putsD, List.getD_cons_zero, List.getD_cons_succ, Act.put, List.setIfInBounds_toArray, List.set_cons_zero, List.set_cons_succ] at hK ⊢
      clear hn
      clear hF hI
      have H := Lib.hid hK
      clear hK hT
      go_simp
      exact H.out _ _ (Below.refl _ _) rfl (fun h => by cases h) trivial
    refine Rg.cons 7 8 rfl (Rg.plain rfl ?_) ?_
    · intro vs W n hn hI hG hT hF K hK
      simp only [Rg.putsD, List.getD_cons_zero, List.getD_cons_succ, Act.put, List.setIfInBounds_toArray, List.set_cons_zero, List.set_cons_succ] at hK ⊢
      clear hn
      clear hF hI
      have H := Lib.hid hK
      clear hK hT
      go_simp
      exact H.out _ _ (Below.refl _ _) rfl (fun h => by cases h) trivial
    refine Rg.cons 8 9 rfl (Rg.plain rfl ?_) ?_
    · intro vs W n hn hI hG hT hF K hK
      simp only [Rg.putsD, List.getD_cons_zero, List.getD_cons_succ, Act.put, List.setIfInBounds_toArray, List.set_cons_zero, List.set_cons_succ] at hK ⊢
      clear hn
      clear hF hI
      have t7 : vs 7 = .pointer (some ⟨w.heap.size, 2, none⟩) := hT 7 (by decide)
      obtain ⟨c0, c1, c2, c3⟩ := blk4 (blk_below hG H1.out.2.1)
      simp only [t7] at hK
      have H := Lib.hid hK
      clear hK hT
      go_simp
      exact H.out _ _ (Below.refl _ _) rfl (fun h => by cases h) trivial
    refine Rg.cons 9 10 rfl (Rg.plain rfl ?_) ?_
    · intro vs W n hn hI hG hT hF K hK
      simp only [Rg.putsD, List.getD_cons_zero, List.getD_cons_succ, Act.put, List.setIfInBounds_toArray, List.set_cons_zero, List.set_cons_succ] at hK ⊢
      clear hn
      clear hF hI
      have t2 : vs 2 = .func (.func 62) #[] #[] := hT 2 (by decide)
      have t3 : vs 3 = .pointer (some ⟨w.heap.size, 1, none⟩) := hT 3 (by decide)
      have t4 : vs 4 = .int .i64 Wd := hT 4 (by decide)
      have t5 : vs 5 = .string (itB Wd) := hT 5 (by decide)
      have t6 : vs 6 = .func (.func 62) #[] #[] := hT 6 (by decide)
      have t7 : vs 7 = .pointer (some ⟨w.heap.size, 2, none⟩) := hT 7 (by decide)
      have t8 : vs 8 = .int .i64 Hg := hT 8 (by decide)
      have HG := Lib.hid hG
      clear hG
      simp only [t2, t3, t4, t5, t6, t7, t8] at hK
      have H := Lib.hid hK
      clear hK hT
      go_simp
      refine (CI.out Hg (by have := HP.out.h0; omega) (by have := HP.out.h1; omega) _ (H1.out.1.drew.then_below HG.out (Nat.le_of_lt hpl))).mono ?_
      rintro e w6 ⟨rfl, b6⟩
      exact H.out _ _ b6 rfl (fun h => by cases h) trivial
    exact Rg.nil
  · intro vs W hG hI hT hF
    have t0 : vs 0 = .pointer (some ⟨w.heap.size, 0, none⟩) := hT 0 (by decide)
    have t1 : vs 1 = .string key := hT 1 (by decide)
    have t2 : vs 2 = .func (.func 62) #[] #[] := hT 2 (by decide)
    have t3 : vs 3 = .pointer (some ⟨w.heap.size, 1, none⟩) := hT 3 (by decide)
    have t4 : vs 4 = .int .i64 Wd := hT 4 (by decide)
    have t5 : vs 5 = .string (itB Wd) := hT 5 (by decide)
    have t6 : vs 6 = .func (.func 62) #[] #[] := hT 6 (by decide)
    have t7 : vs 7 = .pointer (some ⟨w.heap.size, 2, none⟩) := hT 7 (by decide)
    have t8 : vs 8 = .int .i64 Hg := hT 8 (by decide)
    have t9 : vs 9 = .string (itB Hg) := hT 9 (by decide)
    simp only [List.length_cons, List.length_nil, Nat.reduceAdd, List.range, List.range.loop, List.drop_succ_cons, List.drop_zero, Rg.putsD, List.getD_cons_zero, List.getD_cons_succ, Act.put, List.setIfInBounds_toArray, List.set_cons_zero, List.set_cons_succ, t0, t1, t2, t3, t4, t5, t6, t7, t8, t9]
    clear hT t0 t1 t2 t3 t4 t5 t6 t7 t8 t9
    have H2 : Hid (Below w.heap.size w W ∧ W.heap[w.heap.size]? = some (.cells #[.string key, .int .i64 Wd, .int .i64 Hg, .slice A l.length c] 44 (0, 0)) ∧ PlAt W A l) :=
      ⟨H1.out.1.drew.then_below hG (Nat.le_of_lt hpl), blk_below hG H1.out.2.1, PlAt.below (w := w1.drew) H1.out.2.2 hG⟩
    clear hF hG hI H1 CI p0 p1 p2 p3 hpl hw1
    go_wp2_with fail
    refine (HL0.out _ _ (strs_blk (ws := headW key Wd Hg) (blk_new W _ rfl) rfl)).mono ?_
    rintro e w3 ⟨rfl, b3⟩
    have H3 : Hid (Below w.heap.size w w3) := (H2.out.1.alloc H2.out.1.size _).then_below b3 (by have := H2.out.1.size; simp; omega)
    have k3 := (H2.out.2.1)
    have k4 : w3.heap[w.heap.size]? = some (.cells #[.string key, .int .i64 Wd, .int .i64 Hg, .slice A l.length c] 44 (0, 0)) := (b3.block _ (by have := lt_of_blk k3; simp; omega)).trans (blk_alloc k3 _)
    clear b3 k3 HL0
    have H4 : Hid (Below w.heap.size w (w3.alloc (.cells #[.string (lineB (headW key Wd Hg))] 9)) ∧ (w3.alloc (.cells #[.string (lineB (headW key Wd Hg))] 9)).heap[w.heap.size]? = some (.cells #[.string key, .int .i64 Wd, .int .i64 Hg, .slice A l.length c] 44 (0, 0)) ∧ (w3.alloc (.cells #[.string (lineB (headW key Wd Hg))] 9)).ownsRow w.heap.size 9 1 (.slice (some ⟨w3.heap.size, 0, none⟩) 1 1) 1 ((textL key Wd Hg (l.take 0)).map Value.string)) :=
      ⟨H3.out.alloc H3.out.size _, blk_alloc k4 _, own_one (blk_new w3 _ rfl) H3.out.size⟩
    have hz3 := H3.out.size
    clear k4 H2
    generalize lineB (headW key Wd Hg) = hd at *
    go_upto_region 6 with (fail)
    generalize w3.alloc (.cells #[.string hd] 9) = w5 at *
    have HS5 : Hid (Below w.heap.size w w5 ∧ w5.ownsRow w.heap.size 9 1 (.slice (some ⟨w3.heap.size, 0, none⟩) 1 1) 1 ((textL key Wd Hg (l.take 0)).map Value.string)) := ⟨H4.out.1, H4.out.2.2⟩
    obtain ⟨p0, p1, p2, p3⟩ := blk4 H4.out.2.1
    have hpl := lt_of_blk H4.out.2.1
    have hz5 := H4.out.1.size
    clear H4
    have hl1 := HP.out.len
    go_wp2_with fail
    go_loopw [6, 30] (fun v6 kk wr => ∃ k : Nat, k ≤ l.length ∧ kk = .int .i64 k ∧ w.heap.size ≤ wr.heap.size ∧ Hid (Below w.heap.size w wr ∧ wr.ownsRow w.heap.size 9 1 v6 (k + 1) ((textL key Wd Hg (l.take k)).map Value.string))) (fun _ kk _ => l.length - (intOf kk).toNat)
    case atStart => exact ⟨0, by omega, rfl, hz5, HS5⟩
    case round =>
      obtain ⟨k, hk, rfl, hwz, HS⟩ := hrel
      obtain ⟨A6, c6, rfl, hc6, _⟩ := own_slice' HS.out.2
      by_cases hlt : k < l.length
      · obtain ⟨p, hp⟩ : ∃ p, l[k] = p := ⟨_, rfl⟩
        have HN := Lib.hid (textL_succ key Wd Hg l hlt)
        rw [hp] at HN
        have HFp : Hid (PlFit p) := HP.out.pls p (by rw [← hp]; exact List.getElem_mem hlt)
        obtain ⟨g, rfl, hrow⟩ : ∃ g : Nat, A = some ⟨g, 0, none⟩ ∧ LineAt w g (flatP l) := by
          rcases hA with rfl | h
          · simp at hlt
          · exact h
        obtain ⟨q0, q1, q2, q3, q4⟩ := row_pl (hrow.below HS.out.1) hlt
        rw [hp] at q0 q1 q2 q3 q4
        obtain ⟨nm, pt, x, y, q⟩ := p
        dsimp only at q0 q1 q2 q3 q4
        have hg1 : g < wr.heap.size := Nat.lt_of_lt_of_le hrow.1 hwz
        have HP9 := Lib.hid hp
        have CI := Lib.hid (fun (n : Int) (h0 : 0 ≤ n) (h1 : n ≤ 500000) (u : World) (hu : Below w.heap.size w u) => itoa_any n (by omega) (by omega) u (hGl.below hu hw))
        have CL := Lib.hid (fun (v : Value) (u : World) (h : StrsAt v (placeW ⟨nm, pt, x, y, q⟩) u) => line_any (placeW ⟨nm, pt, x, y, q⟩) h (by simp [placeW]) (Nat.le_trans (line_len (placeLine_size HFp.out)) (by omega)))
        have H6 : Hid (Below w.heap.size w (wr.alloc (.cells #[.string nm, .string pt, .int .i64 x, .int .i64 y, .int .i64 q] 124)) ∧ (wr.alloc (.cells #[.string nm, .string pt, .int .i64 x, .int .i64 y, .int .i64 q] 124)).ownsRow w.heap.size 9 1 (.slice A6 (k + 1) c6) (k + 1) ((textL key Wd Hg (l.take k)).map Value.string) ∧ (wr.alloc (.cells #[.string nm, .string pt, .int .i64 x, .int .i64 y, .int .i64 q] 124)).heap[wr.heap.size]? = some (.cells #[.string nm, .string pt, .int .i64 x, .int .i64 y, .int .i64 q] 124 (0, 0))) :=
          ⟨HS.out.1.alloc hwz _, World.ownsRow.alloc HS.out.2 _, blk_new wr _ rfl⟩
        clear hrow hp hA HS HS5
        go_upto_region 9 with (fail)
        generalize wr.alloc (.cells #[.string nm, .string pt, .int .i64 x, .int .i64 y, .int .i64 q] 124) = wx at *
        have hxl := lt_of_blk H6.out.2.2
        have hzx := H6.out.1.size
        refine Rg.rgL (fun a b => Below a.heap.size a b)
          [(fun vs u => vs 0 = .slice A6 (k + 1) c6), (fun vs u => vs 1 = .pointer (some ⟨wr.heap.size, 0, none⟩)), (fun vs u => vs 2 = .string nm), (fun vs u => vs 3 = .pointer (some ⟨wr.heap.size, 1, none⟩)), (fun vs u => vs 4 = .string pt), (fun vs u => vs 5 = .func (.func 62) #[] #[]), (fun vs u => vs 6 = .pointer (some ⟨wr.heap.size, 2, none⟩)), (fun vs u => vs 7 = .int .i64 x), (fun vs u => vs 8 = .string (itB x)), (fun vs u => vs 9 = .func (.func 62) #[] #[]), (fun vs u => vs 10 = .pointer (some ⟨wr.heap.size, 3, none⟩)), (fun vs u => vs 11 = .int .i64 y), (fun vs u => vs 12 = .string (itB y)), (fun vs u => vs 13 = .func (.func 62) #[] #[]), (fun vs u => vs 14 = .pointer (some ⟨wr.heap.size, 4, none⟩)), (fun vs u => vs 15 = .int .i64 q), (fun vs u => vs 16 = .string (itB q)), (fun vs u => ∃ b : Nat, vs 17 = .slice (some ⟨b, 0, none⟩) 6 6 ∧ u.heap[b]? = some (.cells #[.string dPlace, .string nm, .string pt, .string (itB x), .string (itB y), .string (itB q)] 9 (0, 0))), (fun vs u => vs 18 = .string (lineB (placeW ⟨nm, pt, x, y, q⟩))), (fun vs u => ∃ b : Nat, vs 19 = .slice (some ⟨b, 0, none⟩) 1 1 ∧ u.heap[b]? = some (.cells #[.string (lineB (placeW ⟨nm, pt, x, y, q⟩))] 9 (0, 0)))]
          [[], [], [1], [], [3], [], [], [6], [5, 6, 7], [], [], [10], [5, 6, 7, 8, 9, 10, 11], [], [], [14], [5, 6, 7, 8, 9, 10, 11, 12, 13, 14, 15], [1, 2, 3, 4, 5, 6, 7, 8, 9, 10, 11, 12, 13, 14, 15, 16], [1, 2, 3, 4, 5, 6, 7, 8, 9, 10, 11, 12, 13, 14, 15, 16, 17], [1, 2, 3, 4, 5, 6, 7, 8, 9, 10, 11, 12, 13, 14, 15, 16, 17, 18]] [some 34, some 35, some 36, some 37, some 38, some 39, some 40, some 41, some 42, some 43, some 44, some 45, some 46, some 47, some 48, some 49, some 50, some 51, some 52, some 53, some 54, some 6] [17, 19] (fun _ _ => True) [[], [], [1], [], [3], [], [], [6], [5, 6, 7], [], [], [10], [5, 6, 7, 8, 9, 10, 11], [], [], [14], [5, 6, 7, 8, 9, 10, 11, 12, 13, 14, 15], [1, 2, 3, 4, 5, 6, 7, 8, 9, 10, 11, 12, 13, 14, 15, 16], [1, 2, 3, 4, 5, 6, 7, 8, 9, 10, 11, 12, 13, 14, 15, 16, 17], [1, 2, 3, 4, 5, 6, 7, 8, 9, 10, 11, 12, 13, 14, 15, 16, 17, 18], [0, 1, 2, 3, 4, 5, 6, 7, 8, 9, 10, 11, 12, 13, 14, 15, 16, 17, 18, 19], [0, 1, 2, 3, 4, 5, 6, 7, 8, 9, 10, 11, 12, 13, 14, 15, 16, 17, 18, 19, 20]]
          (by kernel_rfl) (by decide) (by kernel_rfl) (by kernel_rfl) (by kernel_rfl) (by kernel_rfl) (by kernel_rfl) (fun _ => Below.refl _ _) (fun _ _ _ h k => h.ext k) (fun _ _ h => h.size) ?_ trivial ?_ ?_
        · intro t ht vs w w' h hE
          simp only [List.mem_cons, List.not_mem_nil, or_false] at ht
          rcases ht with rfl | rfl | rfl | rfl | rfl | rfl | rfl | rfl | rfl | rfl | rfl | rfl | rfl | rfl | rfl | rfl | rfl | rfl | rfl | rfl
          · exact h
          · exact h
          · exact h
          · exact h
          · exact h
          · exact h
          · exact h
          · exact h
          · exact h
          · exact h
          · exact h
          · exact h
          · exact h
          · exact h
          · exact h
          · exact h
          · exact h
          · obtain ⟨b, e, k⟩ := h
            exact ⟨b, e, blk_below hE k⟩
          · exact h
          · obtain ⟨b, e, k⟩ := h
            exact ⟨b, e, blk_below hE k⟩
        ·
          refine Rg.cons 0 1 rfl (Rg.plain rfl ?_) ?_
          · intro vs W n hn hI hG hT hF K hK
            simp only [Rg.putsD, List.getD_cons_zero, List.getD_cons_succ, Act.put, List.setIfInBounds_toArray, List.set_cons_zero, List.set_cons_succ] at hK ⊢
            clear hn
            clear hF hI
            have H := Lib.hid hK
            clear hK hT
            go_simp
            exact H.out _ _ (Below.refl _ _) rfl (fun h => by cases h) trivial
          refine Rg.cons 1 2 rfl (Rg.plain rfl ?_) ?_
          · intro vs W n hn hI hG hT hF K hK
            simp only [Rg.putsD, List.getD_cons_zero, List.getD_cons_succ, Act.put, List.setIfInBounds_toArray, List.set_cons_zero, List.set_cons_succ] at hK ⊢
            clear hn
            clear hF hI
            have H := Lib.hid hK
            clear hK hT
            go_simp
            exact H.out _ _ (Below.refl _ _) rfl (fun h => by cases h) trivial
          refine Rg.cons 2 3 rfl (Rg.plain rfl ?_) ?_
          · intro vs W n hn hI hG hT hF K hK
            simp only [Rg.putsD, List.getD_cons_zero, List.getD_cons_succ, Act.put, List.setIfInBounds_toArray, List.set_cons_zero, List.set_cons_succ] at hK ⊢
            clear hn
            clear hF hI
            have t1 : vs 1 = .pointer (some ⟨wr.heap.size, 0, none⟩) := hT 1 (by decide)
            obtain ⟨c0, c1, c2, c3, c4⟩ := blk5p (blk_below hG H6.out.2.2)
            simp only [t1] at hK
            have H := Lib.hid hK
            clear hK hT
            go_simp
            exact H.out _ _ (Below.refl _ _) rfl (fun h => by cases h) trivial
          refine Rg.cons 3 4 rfl (Rg.plain rfl ?_) ?_
          · intro vs W n hn hI hG hT hF K hK
            simp only [Rg.putsD, List.getD_cons_zero, List.getD_cons_succ, Act.put, List.setIfInBounds_toArray, List.set_cons_zero, List.set_cons_succ] at hK ⊢
            clear hn
            clear hF hI
            have H := Lib.hid hK
            clear hK hT
            go_simp
            exact H.out _ _ (Below.refl _ _) rfl (fun h => by cases h) trivial
          refine Rg.cons 4 5 rfl (Rg.plain rfl ?_) ?_
          · intro vs W n hn hI hG hT hF K hK
            simp only [Rg.putsD, List.getD_cons_zero, List.getD_cons_succ, Act.put, List.setIfInBounds_toArray, List.set_cons_zero, List.set_cons_succ] at hK ⊢
            clear hn
            clear hF hI
            have t3 : vs 3 = .pointer (some ⟨wr.heap.size, 1, none⟩) := hT 3 (by decide)
            obtain ⟨c0, c1, c2, c3, c4⟩ := blk5p (blk_below hG H6.out.2.2)
            simp only [t3] at hK
            have H := Lib.hid hK
            clear hK hT
            go_simp
            exact H.out _ _ (Below.refl _ _) rfl (fun h => by cases h) trivial
          refine Rg.cons 5 6 rfl (Rg.plain rfl ?_) ?_
          · intro vs W n hn hI hG hT hF K hK
            simp only [Rg.putsD, List.getD_cons_zero, List.getD_cons_succ, Act.put, List.setIfInBounds_toArray, List.set_cons_zero, List.set_cons_succ] at hK ⊢
            clear hn
            clear hF hI
            have H := Lib.hid hK
            clear hK hT
            go_simp
            exact H.out _ _ (Below.refl _ _) rfl (fun h => by cases h) trivial
          refine Rg.cons 6 7 rfl (Rg.plain rfl ?_) ?_
          · intro vs W n hn hI hG hT hF K hK
            simp only [Rg.putsD, List.getD_cons_zero, List.getD_cons_succ, Act.put, List.setIfInBounds_toArray, List.set_cons_zero, List.set_cons_succ] at hK ⊢
            clear hn
            clear hF hI
            have H := Lib.hid hK
            clear hK hT
            go_simp
            exact H.out _ _ (Below.refl _ _) rfl (fun h => by cases h) trivial
          refine Rg.cons 7 8 rfl (Rg.plain rfl ?_) ?_
          · intro vs W n hn hI hG hT hF K hK
            simp only [Rg.putsD, List.getD_cons_zero, List.getD_cons_succ, Act.put, List.setIfInBounds_toArray, List.set_cons_zero, List.set_cons_succ] at hK ⊢
            clear hn
            clear hF hI
            have t6 : vs 6 = .pointer (some ⟨wr.heap.size, 2, none⟩) := hT 6 (by decide)
            obtain ⟨c0, c1, c2, c3, c4⟩ := blk5p (blk_below hG H6.out.2.2)
            simp only [t6] at hK
            have H := Lib.hid hK
            clear hK hT
            go_simp
            exact H.out _ _ (Below.refl _ _) rfl (fun h => by cases h) trivial
          refine Rg.cons 8 9 rfl (Rg.plain rfl ?_) ?_
          · intro vs W n hn hI hG hT hF K hK
            simp only [Rg.putsD, List.getD_cons_zero, List.getD_cons_succ, Act.put, List.setIfInBounds_toArray, List.set_cons_zero, List.set_cons_succ] at hK ⊢
            clear hn
            clear hF hI
            have t5 : vs 5 = .func (.func 62) #[] #[] := hT 5 (by decide)
            have t6 : vs 6 = .pointer (some ⟨wr.heap.size, 2, none⟩) := hT 6 (by decide)
            have t7 : vs 7 = .int .i64 x := hT 7 (by decide)
            have HG := Lib.hid hG
            clear hG
            simp only [t5, t6, t7] at hK
            have H := Lib.hid hK
            clear hK hT
            go_simp
            refine (CI.out x HFp.out.x0 HFp.out.x1 _ (H6.out.1.drew.then_below HG.out hzx)).mono ?_
            rintro e w6 ⟨rfl, b6⟩
            exact H.out _ _ b6 rfl (fun h => by cases h) trivial
          refine Rg.cons 9 10 rfl (Rg.plain rfl ?_) ?_
          · intro vs W n hn hI hG hT hF K hK
            simp only [Rg.putsD, List.getD_cons_zero, List.getD_cons_succ, Act.put, List.setIfInBounds_toArray, List.set_cons_zero, List.set_cons_succ] at hK ⊢
            clear hn
            clear hF hI
            have H := Lib.hid hK
            clear hK hT
            go_simp
            exact H.out _ _ (Below.refl _ _) rfl (fun h => by cases h) trivial
          refine Rg.cons 10 11 rfl (Rg.plain rfl ?_) ?_
          · intro vs W n hn hI hG hT hF K hK
            simp only [Rg.putsD, List.getD_cons_zero, List.getD_cons_succ, Act.put, List.setIfInBounds_toArray, List.set_cons_zero, List.set_cons_succ] at hK ⊢
            clear hn
            clear hF hI
            have H := Lib.hid hK
            clear hK hT
            go_simp
            exact H.out _ _ (Below.refl _ _) rfl (fun h => by cases h) trivial
          refine Rg.cons 11 12 rfl (Rg.plain rfl ?_) ?_
          · intro vs W n hn hI hG hT hF K hK
            simp only [Rg.putsD, List.getD_cons_zero, List.getD_cons_succ, Act.put, List.setIfInBounds_toArray, List.set_cons_zero, List.set_cons_succ] at hK ⊢
            clear hn
            clear hF hI
            have t10 : vs 10 = .pointer (some ⟨wr.heap.size, 3, none⟩) := hT 10 (by decide)
            obtain ⟨c0, c1, c2, c3, c4⟩ := blk5p (blk_below hG H6.out.2.2)
            simp only [t10] at hK
            have H := Lib.hid hK
            clear hK hT
            go_simp
            exact H.out _ _ (Below.refl _ _) rfl (fun h => by cases h) trivial
          refine Rg.cons 12 13 rfl (Rg.plain rfl ?_) ?_
          · intro vs W n hn hI hG hT hF K hK
            simp only [Rg.putsD, List.getD_cons_zero, List.getD_cons_succ, Act.put, List.setIfInBounds_toArray, List.set_cons_zero, List.set_cons_succ] at hK ⊢
            clear hn
            clear hF hI
            have t5 : vs 5 = .func (.func 62) #[] #[] := hT 5 (by decide)
            have t6 : vs 6 = .pointer (some ⟨wr.heap.size, 2, none⟩) := hT 6 (by decide)
            have t7 : vs 7 = .int .i64 x := hT 7 (by decide)
            have t8 : vs 8 = .string (itB x) := hT 8 (by decide)
            have t9 : vs 9 = .func (.func 62) #[] #[] := hT 9 (by decide)
            have t10 : vs 10 = .pointer (some ⟨wr.heap.size, 3, none⟩) := hT 10 (by decide)
            have t11 : vs 11 = .int .i64 y := hT 11 (by decide)
            have HG := Lib.hid hG
            clear hG
            simp only [t5, t6, t7, t8, t9, t10, t11] at hK
            have H := Lib.hid hK
            clear hK hT
            go_simp
            refine (CI.out y HFp.out.y0 HFp.out.y1 _ (H6.out.1.drew.then_below HG.out hzx)).mono ?_
            rintro e w6 ⟨rfl, b6⟩
            exact H.out _ _ b6 rfl (fun h => by cases h) trivial
          refine Rg.cons 13 14 rfl (Rg.plain rfl ?_) ?_
          · intro vs W n hn hI hG hT hF K hK
            simp only [Rg.putsD, List.getD_cons_zero, List.getD_cons_succ, Act.put, List.setIfInBounds_toArray, List.set_cons_zero, List.set_cons_succ] at hK ⊢
            clear hn
            clear hF hI
            have H := Lib.hid hK
            clear hK hT
            go_simp
            exact H.out _ _ (Below.refl _ _) rfl (fun h => by cases h) trivial
          refine Rg.cons 14 15 rfl (Rg.plain rfl ?_) ?_
          · intro vs W n hn hI hG hT hF K hK
            simp only [Rg.putsD, List.getD_cons_zero, List.getD_cons_succ, Act.put, List.setIfInBounds_toArray, List.set_cons_zero, List.set_cons_succ] at hK ⊢
            clear hn
            clear hF hI
            have H := Lib.hid hK
            clear hK hT
            go_simp
            exact H.out _ _ (Below.refl _ _) rfl (fun h => by cases h) trivial
          refine Rg.cons 15 16 rfl (Rg.plain rfl ?_) ?_
          · intro vs W n hn hI hG hT hF K hK
            simp only [Rg.putsD, List.getD_cons_zero, List.getD_cons_succ, Act.put, List.setIfInBounds_toArray, List.set_cons_zero, List.set_cons_succ] at hK ⊢
            clear hn
            clear hF hI
            have t14 : vs 14 = .pointer (some ⟨wr.heap.size, 4, none⟩) := hT 14 (by decide)
            obtain ⟨c0, c1, c2, c3, c4⟩ := blk5p (blk_below hG H6.out.2.2)
            simp only [t14] at hK
            have H := Lib.hid hK
            clear hK hT
            go_simp
            exact H.out _ _ (Below.refl _ _) rfl (fun h => by cases h) trivial
          refine Rg.cons 16 17 rfl (Rg.plain rfl ?_) ?_
          · intro vs W n hn hI hG hT hF K hK
            simp only [Rg.putsD, List.getD_cons_zero, List.getD_cons_succ, Act.put, List.setIfInBounds_toArray, List.set_cons_zero, List.set_cons_succ] at hK ⊢
            clear hn
            clear hF hI
            have t5 : vs 5 = .func (.func 62) #[] #[] := hT 5 (by decide)
            have t6 : vs 6 = .pointer (some ⟨wr.heap.size, 2, none⟩) := hT 6 (by decide)
            have t7 : vs 7 = .int .i64 x := hT 7 (by decide)
            have t8 : vs 8 = .string (itB x) := hT 8 (by decide)
            have t9 : vs 9 = .func (.func 62) #[] #[] := hT 9 (by decide)
            have t10 : vs 10 = .pointer (some ⟨wr.heap.size, 3, none⟩) := hT 10 (by decide)
            have t11 : vs 11 = .int .i64 y := hT 11 (by decide)
            have t12 : vs 12 = .string (itB y) := hT 12 (by decide)
            have t13 : vs 13 = .func (.func 62) #[] #[] := hT 13 (by decide)
            have t14 : vs 14 = .pointer (some ⟨wr.heap.size, 4, none⟩) := hT 14 (by decide)
            have t15 : vs 15 = .int .i64 q := hT 15 (by decide)
            have HG := Lib.hid hG
            clear hG
            simp only [t5, t6, t7, t8, t9, t10, t11, t12, t13, t14, t15] at hK
            have H := Lib.hid hK
            clear hK hT
            go_simp
            refine (CI.out q HFp.out.q0 (Int.le_trans HFp.out.q1 (by decide)) _ (H6.out.1.drew.then_below HG.out hzx)).mono ?_
            rintro e w6 ⟨rfl, b6⟩
            exact H.out _ _ b6 rfl (fun h => by cases h) trivial
          refine Rg.cons 17 18 rfl (Rg.plain rfl ?_) ?_
          · intro vs W n hn hI hG hT hF K hK
            simp only [Rg.putsD, List.getD_cons_zero, List.getD_cons_succ, Act.put, List.setIfInBounds_toArray, List.set_cons_zero, List.set_cons_succ] at hK ⊢
            clear hn
            clear hF hI
            have t1 : vs 1 = .pointer (some ⟨wr.heap.size, 0, none⟩) := hT 1 (by decide)
            have t2 : vs 2 = .string nm := hT 2 (by decide)
            have t3 : vs 3 = .pointer (some ⟨wr.heap.size, 1, none⟩) := hT 3 (by decide)
            have t4 : vs 4 = .string pt := hT 4 (by decide)
            have t5 : vs 5 = .func (.func 62) #[] #[] := hT 5 (by decide)
            have t6 : vs 6 = .pointer (some ⟨wr.heap.size, 2, none⟩) := hT 6 (by decide)
            have t7 : vs 7 = .int .i64 x := hT 7 (by decide)
            have t8 : vs 8 = .string (itB x) := hT 8 (by decide)
            have t9 : vs 9 = .func (.func 62) #[] #[] := hT 9 (by decide)
            have t10 : vs 10 = .pointer (some ⟨wr.heap.size, 3, none⟩) := hT 10 (by decide)
            have t11 : vs 11 = .int .i64 y := hT 11 (by decide)
            have t12 : vs 12 = .string (itB y) := hT 12 (by decide)
            have t13 : vs 13 = .func (.func 62) #[] #[] := hT 13 (by decide)
            have t14 : vs 14 = .pointer (some ⟨wr.heap.size, 4, none⟩) := hT 14 (by decide)
            have t15 : vs 15 = .int .i64 q := hT 15 (by decide)
            have t16 : vs 16 = .string (itB q) := hT 16 (by decide)
            simp only [t1, t2, t3, t4, t5, t6, t7, t8, t9, t10, t11, t12, t13, t14, t15, t16] at hK
            have H := Lib.hid hK
            clear hK hT
            go_simp
            exact H.out _ _ ((Below.refl _ _).alloc (Nat.le_refl _) _) (show ∃ b : Nat, _ = _ ∧ _ = _ from ⟨_, rfl, blk_new W _ rfl⟩) (fun _ => ⟨W.heap.size, rfl, Nat.le_refl _, by simp⟩) trivial
          refine Rg.cons 18 19 rfl (Rg.plain rfl ?_) ?_
          · intro vs W n hn hI hG hT hF K hK
            simp only [Rg.putsD, List.getD_cons_zero, List.getD_cons_succ, Act.put, List.setIfInBounds_toArray, List.set_cons_zero, List.set_cons_succ] at hK ⊢
            clear hn
            clear hF hI
            have t1 : vs 1 = .pointer (some ⟨wr.heap.size, 0, none⟩) := hT 1 (by decide)
            have t2 : vs 2 = .string nm := hT 2 (by decide)
            have t3 : vs 3 = .pointer (some ⟨wr.heap.size, 1, none⟩) := hT 3 (by decide)
            have t4 : vs 4 = .string pt := hT 4 (by decide)
            have t5 : vs 5 = .func (.func 62) #[] #[] := hT 5 (by decide)
            have t6 : vs 6 = .pointer (some ⟨wr.heap.size, 2, none⟩) := hT 6 (by decide)
            have t7 : vs 7 = .int .i64 x := hT 7 (by decide)
            have t8 : vs 8 = .string (itB x) := hT 8 (by decide)
            have t9 : vs 9 = .func (.func 62) #[] #[] := hT 9 (by decide)
            have t10 : vs 10 = .pointer (some ⟨wr.heap.size, 3, none⟩) := hT 10 (by decide)
            have t11 : vs 11 = .int .i64 y := hT 11 (by decide)
            have t12 : vs 12 = .string (itB y) := hT 12 (by decide)
            have t13 : vs 13 = .func (.func 62) #[] #[] := hT 13 (by decide)
            have t14 : vs 14 = .pointer (some ⟨wr.heap.size, 4, none⟩) := hT 14 (by decide)
            have t15 : vs 15 = .int .i64 q := hT 15 (by decide)
            have t16 : vs 16 = .string (itB q) := hT 16 (by decide)
            have t17 : ∃ b : Nat, vs 17 = .slice (some ⟨b, 0, none⟩) 6 6 ∧ W.heap[b]? = some (.cells #[.string dPlace, .string nm, .string pt, .string (itB x), .string (itB y), .string (itB q)] 9 (0, 0)) := hT 17 (by decide)
            obtain ⟨b17, e17, k17⟩ := t17
            simp only [e17] at hK
            have K17 := Lib.hid k17
            clear k17
            simp only [t1, t2, t3, t4, t5, t6, t7, t8, t9, t10, t11, t12, t13, t14, t15, t16] at hK
            have H := Lib.hid hK
            clear hK hT
            go_simp
            refine (CL.out _ _ (strs_blk (ws := placeW ⟨nm, pt, x, y, q⟩) K17.out rfl)).mono ?_
            rintro e w6 ⟨rfl, b6⟩
            exact H.out _ _ b6 rfl (fun h => by cases h) trivial
          refine Rg.cons 19 20 rfl (Rg.plain rfl ?_) ?_
          · intro vs W n hn hI hG hT hF K hK
            simp only [Rg.putsD, List.getD_cons_zero, List.getD_cons_succ, Act.put, List.setIfInBounds_toArray, List.set_cons_zero, List.set_cons_succ] at hK ⊢
            clear hn
            clear hF hI
            have t1 : vs 1 = .pointer (some ⟨wr.heap.size, 0, none⟩) := hT 1 (by decide)
            have t2 : vs 2 = .string nm := hT 2 (by decide)
            have t3 : vs 3 = .pointer (some ⟨wr.heap.size, 1, none⟩) := hT 3 (by decide)
            have t4 : vs 4 = .string pt := hT 4 (by decide)
            have t5 : vs 5 = .func (.func 62) #[] #[] := hT 5 (by decide)
            have t6 : vs 6 = .pointer (some ⟨wr.heap.size, 2, none⟩) := hT 6 (by decide)
            have t7 : vs 7 = .int .i64 x := hT 7 (by decide)
            have t8 : vs 8 = .string (itB x) := hT 8 (by decide)
            have t9 : vs 9 = .func (.func 62) #[] #[] := hT 9 (by decide)
            have t10 : vs 10 = .pointer (some ⟨wr.heap.size, 3, none⟩) := hT 10 (by decide)
            have t11 : vs 11 = .int .i64 y := hT 11 (by decide)
            have t12 : vs 12 = .string (itB y) := hT 12 (by decide)
            have t13 : vs 13 = .func (.func 62) #[] #[] := hT 13 (by decide)
            have t14 : vs 14 = .pointer (some ⟨wr.heap.size, 4, none⟩) := hT 14 (by decide)
            have t15 : vs 15 = .int .i64 q := hT 15 (by decide)
            have t16 : vs 16 = .string (itB q) := hT 16 (by decide)
            have t17 : ∃ b : Nat, vs 17 = .slice (some ⟨b, 0, none⟩) 6 6 ∧ W.heap[b]? = some (.cells #[.string dPlace, .string nm, .string pt, .string (itB x), .string (itB y), .string (itB q)] 9 (0, 0)) := hT 17 (by decide)
            have t18 : vs 18 = .string (lineB (placeW ⟨nm, pt, x, y, q⟩)) := hT 18 (by decide)
            simp only [t1, t2, t3, t4, t5, t6, t7, t8, t9, t10, t11, t12, t13, t14, t15, t16, t18] at hK
            have H := Lib.hid hK
            clear hK hT
            go_simp
            exact H.out _ _ ((Below.refl _ _).alloc (Nat.le_refl _) _) (show ∃ b : Nat, _ = _ ∧ _ = _ from ⟨_, rfl, blk_new W _ rfl⟩) (fun _ => ⟨W.heap.size, rfl, Nat.le_refl _, by simp⟩) trivial
          exact Rg.nil
        · intro vs W hG hI hT hF
          have t0 : vs 0 = .slice A6 (k + 1) c6 := hT 0 (by decide)
          have t1 : vs 1 = .pointer (some ⟨wr.heap.size, 0, none⟩) := hT 1 (by decide)
          have t2 : vs 2 = .string nm := hT 2 (by decide)
          have t3 : vs 3 = .pointer (some ⟨wr.heap.size, 1, none⟩) := hT 3 (by decide)
          have t4 : vs 4 = .string pt := hT 4 (by decide)
          have t5 : vs 5 = .func (.func 62) #[] #[] := hT 5 (by decide)
          have t6 : vs 6 = .pointer (some ⟨wr.heap.size, 2, none⟩) := hT 6 (by decide)
          have t7 : vs 7 = .int .i64 x := hT 7 (by decide)
          have t8 : vs 8 = .string (itB x) := hT 8 (by decide)
          have t9 : vs 9 = .func (.func 62) #[] #[] := hT 9 (by decide)
          have t10 : vs 10 = .pointer (some ⟨wr.heap.size, 3, none⟩) := hT 10 (by decide)
          have t11 : vs 11 = .int .i64 y := hT 11 (by decide)
          have t12 : vs 12 = .string (itB y) := hT 12 (by decide)
          have t13 : vs 13 = .func (.func 62) #[] #[] := hT 13 (by decide)
          have t14 : vs 14 = .pointer (some ⟨wr.heap.size, 4, none⟩) := hT 14 (by decide)
          have t15 : vs 15 = .int .i64 q := hT 15 (by decide)
          have t16 : vs 16 = .string (itB q) := hT 16 (by decide)
          have t17 : ∃ b : Nat, vs 17 = .slice (some ⟨b, 0, none⟩) 6 6 ∧ W.heap[b]? = some (.cells #[.string dPlace, .string nm, .string pt, .string (itB x), .string (itB y), .string (itB q)] 9 (0, 0)) := hT 17 (by decide)
          have t18 : vs 18 = .string (lineB (placeW ⟨nm, pt, x, y, q⟩)) := hT 18 (by decide)
          have t19 : ∃ b : Nat, vs 19 = .slice (some ⟨b, 0, none⟩) 1 1 ∧ W.heap[b]? = some (.cells #[.string (lineB (placeW ⟨nm, pt, x, y, q⟩))] 9 (0, 0)) := hT 19 (by decide)
          simp only [List.length_cons, List.length_nil, Nat.reduceAdd, List.range, List.range.loop, List.drop_succ_cons, List.drop_zero, Rg.putsD, List.getD_cons_zero, List.getD_cons_succ, Act.put, List.setIfInBounds_toArray, List.set_cons_zero, List.set_cons_succ, t0, t1, t2, t3, t4, t5, t6, t7, t8, t9, t10, t11, t12, t13, t14, t15, t16, t18]
          clear hT t0 t1 t2 t3 t4 t5 t6 t7 t8 t9 t10 t11 t12 t13 t14 t15 t16 t18
          obtain ⟨bq, e19, k19⟩ := t19
          have H7 : Hid (Below w.heap.size w W ∧ W.ownsRow w.heap.size 9 1 (.slice A6 (k + 1) c6) (k + 1) ((textL key Wd Hg (l.take k)).map Value.string) ∧ W.heap[bq]? = some (.cells #[.string (lineB (placeW ⟨nm, pt, x, y, q⟩))] 9 (0, 0))) :=
            ⟨H6.out.1.drew.then_below hG hzx, own_below (w := wx.drew) H6.out.2.1.drew hG, k19⟩
          have E19 := Lib.hid e19
          have hWs : w.heap.size ≤ W.heap.size := H7.out.1.size
          clear hF hI hG e19 k19 t17 H6 hxl
          simp only [E19.out]
          obtain ⟨i0, hi, hz0, hz1, hz2⟩ := info_parts str_infoT
          have HI := Lib.hid (And.intro hi (And.intro hz0 (And.intro hz1 hz2)))
          clear hi hz0 hz1 hz2
          refine wpList_append_own _ rfl _ _ 46 rfl w.heap.size 9 i0 _ 1 16 Tryz.underlying46 HI.out.1 HI.out.2.1 HI.out.2.2.1 HI.out.2.2.2 rfl (by omega) _ (k + 1) ((textL key Wd Hg (l.take k)).map Value.string) rfl H7.out.2.1 ⟨bq, 0, none⟩ 1 1 [.string (lineB (placeW ⟨nm, pt, x, y, q⟩))] rfl rfl ?c1 (by intro u hu; simp at hu; subst hu; rfl) ?c2 ?c3 hWs ?_
          case c1 =>
            intro j u hu
            rw [addr_new, cell_of_blk H7.out.2.2]
            simpa using hu
          case c2 => unfold maxLen; omega
          case c3 => omega
          intro v' w8 hown' hg' _
          have HF8 : Hid (Below w.heap.size w w8 ∧ w8.ownsRow w.heap.size 9 1 v' (k + 1 + 1) ((textL key Wd Hg (l.take (k + 1))).map Value.string)) := by
            refine ⟨H7.out.1.grown hg' hWs (fun j hj => (H7.out.2.1.lt j hj).1), ?_⟩
            rw [HN.out, List.map_append]
            exact hown'
          have hz8 := HF8.out.1.size
          clear hown' hg' H7 HN
          go_wp2_with fail
          go_roundw
          case rel => exact ⟨k + 1, by omega, by go_num, hz8, HF8⟩
          case measure => simp [intOf]; omega
      · obtain rfl : k = l.length := by omega
        have HS9 := HS.out.2
        rw [List.take_of_length_le (Nat.le_refl _)] at HS9
        have CT := Lib.hid (text_any (textL key Wd Hg l) (strs_own HS9 (by simp [textL])) (by simp [textL]; omega) (by
          have h1 := text_size HP.out
          unfold textB at h1
          rw [← bt_size, bt_joinB] at h1
          exact Nat.le_trans h1 (by omega)))
        have hts : ¬ 200000 < (joinB (textL key Wd Hg l) dS).size := Nat.not_lt.mpr (text_size HP.out)
        rw [if_neg hts, if_neg hts] at CT
        have HB9 := Lib.hid HS.out.1
        clear HS HS9 HS5 hts
        go_wp2_with fail
        refine CT.out.mono ?_
        rintro e w9 ⟨rfl, b9⟩
        have HBF := Lib.hid (HB9.out.then_below b9 HB9.out.size)
        clear b9 CT
        go_wp2_with fail
        refine bodyPost_ret (v := .tuple #[.string (joinB (textL key Wd Hg l) dS), .int .i64 0]) (by unfold results; simp only [Tryz.results19]; go_simp) rfl ⟨rfl, HBF.out⟩
end Go.Proofs.YtalconjnjaffkaaGreatDoor
