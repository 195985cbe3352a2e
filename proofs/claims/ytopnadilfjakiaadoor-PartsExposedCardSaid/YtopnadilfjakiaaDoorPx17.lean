/-
  The maker of stays.
-/
import Derived.Test.YtopnadilfjakiaaDoorPx16
import Derived.Test.YtopnadilfjakiaaDoorPx4
import Derived.Test.YtopnadilfjakiaaDoorRg
namespace Go.Proofs.YtopnadilfjakiaaDoor
open Go.RowKit
set_option linter.unusedSimpArgs false
set_option linter.unusedVariables false

/-- A row of structs beside a stream of which an operation may take more than one number. -/
def RowJ {α : Type} (enc : α → List Value) (T k sb b g len cap base n : Nat) (W : World) : Prop := RowI enc T k sb (b + 2 * n) g len cap base n W
section
variable {α : Type} {enc : α → List Value} {T k sb b g len cap base n : Nat} {W W' : World}
theorem RowJ.more {c m : Nat} (h : RowI enc T k sb c g len cap base m W) (hc : c + m ≤ b + 2 * n + n) : RowJ enc T k sb b g len cap base n W := ⟨h.1.more hc, h.2⟩
theorem RowJ.step (h : RowJ enc T k sb b g len cap base n W) : RowJ enc T k sb b g len cap base (n + 1) W := ⟨h.1.more (by omega), h.2⟩
theorem RowJ.alloc (h : RowJ enc T k sb b g len cap base n W) (o : Obj) : RowJ enc T k sb b g len cap base (n + 1) (W.alloc o) := by
  obtain ⟨h1, l, h2, h3⟩ := h
  exact ⟨(h1.more (by omega)).alloc o, l, h2, h3.alloc o⟩
theorem RowJ.took {c : Nat} (h : RowJ enc T k sb b g len cap base n W) (ht : Took sb c W W') (hb : sb < base ∧ c ≤ b + 3 * n + 3) : RowJ enc T k sb b g len cap base (n + 1) W' := by
  obtain ⟨h1, l, h2, h3⟩ := h
  exact ⟨ht.1.more (by omega), l, h2, kept_own h3 ht.2 hb.1⟩
theorem RowJ.frozen (h : RowJ enc T k sb b g len cap base n W) (j : Nat) : W.frozen? ⟨g, j, none⟩ = false := RowI.frozen h j
theorem RowJ.store (h : RowJ enc T k sb b g len cap base n W) (hk : ∀ x, (enc x).length = k) {i j : Nat} (hi : i < len) (hj : j < k) (u : Value) (hsb : sb < base) (hu : ∀ x, ∃ y, (enc x).set j u = enc y) : RowJ enc T k sb b g len cap base (n + 1) (W.setCell ⟨g, i * k + j, none⟩ u) :=
  RowJ.more (RowI.store h hk hi hj u hsb hu) (by omega)
end
theorem sy_row {T k sb b g len cap base n i : Nat} {W : World} (h : RowJ Sy.cells T k sb b g len cap base n W) (hk : k = 2) (hi : i < len) :
    ∃ (x y : Int), W.cell? ⟨g, i * 2, none⟩ = some (.int .i64 x) ∧ W.cell? ⟨g, i * 2 + 1, none⟩ = some (.int .i64 y) := by
  subst hk
  obtain ⟨p, hp⟩ := RowI.cell h (fun _ => rfl) hi
  exact ⟨p.place, p.frm, hp 0 (by omega), hp 1 (by omega)⟩
theorem sy_typ (x : Sy) : (Sy.cells x).length = 2 := rfl
theorem sy_int0 (s : Int) (x : Sy) : ∃ y, (Sy.cells x).set 0 (.int .i64 s) = Sy.cells y := ⟨{ x with place := s }, rfl⟩
theorem sy_int1 (s : Int) (x : Sy) : ∃ y, (Sy.cells x).set 1 (.int .i64 s) = Sy.cells y := ⟨{ x with frm := s }, rfl⟩
theorem sy_info : (Tryd.prog.info? 61).map (fun i => (i.zero, i.size, i.bytes)) = some (some (.agg #[.int .i64 0, .int .i64 0]), 2, 16) := by kernel_rfl

/-- Stays that a stream makes. -/
def StaysOf (sb b : Nat) (w : World) (e : Ending) (w' : World) : Prop :=
  ∃ (v : Value) (l : List Sy), e = .returned v ∧ l.length ≤ 7 ∧ w'.ownsRow w.heap.size 61 2 v l.length (flatSy l) ∧ Took sb b w w'

set_option maxRecDepth 100000 in
set_option maxHeartbeats 4000000 in
theorem stays_any (sb b : Nat) (w : World) (hb : b ≤ 800000) (hs : IsStream w sb b) :
    Calls Tryd.prog 5 #[.pointer (some ⟨sb, 0, none⟩)] w (StaysOf sb (b + 100) w) := by
  have hlt := hs.lt
  go_enter Tryd.func5, Tryd.ntmps5
  go_wp2_with fail
  refine (pick_lit sb b [0, 0, 1000, 3600000] _ _ 4 rfl (by omega) (by omega) rfl (by omega) hs).mono ?_
  rintro e w1 ⟨a0, _, rfl, t1⟩
  go_wp2_with fail
  refine (range_any sb (b + 1) 1 7 _ (by omega) (by omega) (by omega) (by omega) t1.1).mono ?_
  rintro e w2 ⟨n, hn1, hn7, rfl, t2⟩
  obtain ⟨n, rfl⟩ := Int.eq_ofNat_of_zero_le (show 0 ≤ n by omega)
  have H0 := Lib.hid (t1.trans t2)
  clear t1 t2 hs
  go_wp2_with fail
  go_loopw [3, 4, 11] (fun av v kk wr => ∃ (l : List Sy) (at_ : Int), l.length ≤ n ∧ kk = .int .i64 l.length ∧ av = .int .i64 at_ ∧ Hid (wr.ownsRow w.heap.size 61 2 v l.length (flatSy l) ∧ Took sb (b + 2 + 3 * l.length) w wr)) (fun _ _ kk _ => n - (intOf kk).toNat)
  case atStart => exact ⟨[], a0, by simp, rfl, rfl, World.ownsRow_nil _ _ _ _, H0.out⟩
  case round =>
    clear H0
    obtain ⟨l, at_, hk, rfl, rfl, HR⟩ := hrel
    obtain ⟨A3, k3, rfl, hA3⟩ := own_form HR.out.1
    have HA3 := Lib.hid hA3
    have hwr := HR.out.2.size
    clear hA3
    by_cases hlt3 : l.length < n
    · go_wp2_with fail
      refine (pick_lit sb (b + 2 + 3 * l.length) [1, 2, 2, 2, 3, 3, 4] _ _ 7 rfl (by omega) (by omega) rfl (by omega) HR.out.2.1).mono ?_
      rintro e w3 ⟨pl, _, rfl, t3⟩
      have hsz3 := t3.size
      have HR3 : Hid (w3.ownsRow w.heap.size 61 2 (.slice A3 l.length k3) l.length (flatSy l) ∧ Took sb (b + 2 + 3 * l.length + 1) w w3) := ⟨kept_own HR.out.1 t3.2 hlt, HR.out.2.trans t3⟩
      clear t3 HR
      go_wp2_with (at_builtin; refine hold ?_)
      refine loose ?_
      obtain ⟨i0, hi0, hz0, hz1, hz2⟩ := info_parts sy_info
      refine wpList_append_own _ rfl _ _ 29 rfl w.heap.size 61 i0 _ 2 16 Tryd.underlying29 hi0 hz0 hz1 hz2 rfl (by omega) _ l.length (flatSy l) rfl (HR3.out.1.alloc _) ⟨w3.heap.size, 0, none⟩ 1 1 (Sy.cells ⟨pl, at_⟩) rfl rfl ?c1 (by intro u hu; simp [Sy.cells] at hu; rcases hu with rfl | rfl <;> rfl) ?c2 ?c3 (by simp; omega) ?_
      case c1 =>
        intro j u hu
        rw [addr_new, cell_of_blk (blk_new (g := w3.heap.size) _ _ rfl)]
        simpa [Sy.cells] using hu
      case c2 => unfold maxLen; omega
      case c3 => omega
      intro v' w' hown' hg' _
      have hsw' := hg'.size
      simp at hsw'
      have HF : Hid (w'.ownsRow w.heap.size 61 2 v' (l ++ [(⟨pl, at_⟩ : Sy)]).length (flatSy (l ++ [(⟨pl, at_⟩ : Sy)])) ∧ Took sb (b + 2 + 3 * l.length + 1) w w') := by
        have hr := own_row HR3.out.1
        have e1 : flatSy (l ++ [(⟨pl, at_⟩ : Sy)]) = flatSy l ++ Sy.cells ⟨pl, at_⟩ := by simp [flatSy]
        refine ⟨?_, (HR3.out.2.alloc _).grown hlt hg' (fun j e => hr j e)⟩
        rw [e1, List.length_append]
        exact hown'
      clear hown' hg' hi0 hz0 hz1 hz2 hsw' HR3
      go_wp2_with fail
      refine (hours_any sb (b + 2 + 3 * l.length + 1) _ (by omega) HF.out.2.1).mono ?_
      rintro e w4 ⟨x, rfl, t4⟩
      have HF4 : Hid (w4.ownsRow w.heap.size 61 2 v' (l ++ [(⟨pl, at_⟩ : Sy)]).length (flatSy (l ++ [(⟨pl, at_⟩ : Sy)])) ∧ Took sb (b + 2 + 3 * (l ++ [(⟨pl, at_⟩ : Sy)]).length) w w4) :=
        ⟨kept_own HF.out.1 t4.2 hlt, (HF.out.2.trans t4).more (by rw [List.length_append]; simp; omega)⟩
      clear t4 HF
      go_wp2_with fail
      go_roundw
      case rel => exact ⟨l ++ [(⟨pl, at_⟩ : Sy)], _, by rw [List.length_append, List.length_singleton]; omega, by rw [List.length_append, List.length_singleton]; go_num, rfl, HF4⟩
      case measure => simp [intOf]; omega
    · obtain rfl : n = l.length := by omega
      obtain ⟨g, rfl, hgl, hgb⟩ := HA3.out (by omega)
      go_wp2_with fail
      refine (flip_any sb (b + 2 + 3 * l.length) _ _ (by omega) (by omega) (by omega) HR.out.2.1).mono ?_
      rintro e w4 ⟨f, rfl, t4⟩
      have hsz4 := t4.size
      have HR5 : Hid (w4.ownsRow w.heap.size 61 2 (.slice (some ⟨g, 0, none⟩) l.length k3) l.length (flatSy l) ∧ Took sb (b + 30) w w4) := ⟨kept_own HR.out.1 t4.2 hlt, (HR.out.2.trans t4).more (by omega)⟩
      clear t4 HR
      cases f
      · go_wp2_with fail
        refine (flip_any sb (b + 30) _ _ (by omega) (by omega) (by omega) HR5.out.2.1).mono ?_
        rintro e w5 ⟨f, rfl, t5⟩
        have HR6 : Hid (w5.ownsRow w.heap.size 61 2 (.slice (some ⟨g, 0, none⟩) l.length k3) l.length (flatSy l) ∧ Took sb (b + 31) w w5) := ⟨kept_own HR5.out.1 t5.2 hlt, HR5.out.2.trans t5⟩
        clear t5 HR5
        cases f
        · go_wp2_with fail
          go_ret
          exact ⟨_, l, rfl, by omega, HR6.out.1, HR6.out.2.more (by omega)⟩
        · go_wp2_with fail
          go_ret
          exact ⟨_, [], rfl, by simp, World.ownsRow_nil _ _ _ _, HR6.out.2.more (by omega)⟩
      · go_wp2_with fail
        refine (next_any sb (b + 30) _ _ (by omega) (by omega) (by omega) HR5.out.2.1).mono ?_
        rintro e w5 ⟨x5, q0, q1, rfl, t5⟩
        obtain ⟨j, rfl⟩ := Int.eq_ofNat_of_zero_le q0
        have hj : j < l.length := by omega
        have hsz5 := t5.size
        have HR6 : Hid (w5.ownsRow w.heap.size 61 2 (.slice (some ⟨g, 0, none⟩) l.length k3) l.length (flatSy l) ∧ Took sb (b + 31) w w5) := ⟨kept_own HR5.out.1 t5.2 hlt, HR5.out.2.trans t5⟩
        clear t5 HR5
        have hg5 : g < w5.heap.size := by omega
        go_wp2_with fail
        have HI0 : Hid (RowJ Sy.cells 61 2 sb (b + 31) g l.length k3 w.heap.size 0 w5.drew) := ⟨HR6.out.2.1.drew, l, rfl, HR6.out.1⟩
        refine Rg.rgL (Kept2 sb g)
          [(fun vs u => vs 0 = .pointer (some ⟨g, j * 2, none⟩)), (fun vs u => vs 1 = .pointer (some ⟨g, j * 2, none⟩)), (fun vs u => vs 2 = .pointer (some ⟨sb, 0, none⟩)), (fun vs u => ∃ x : Int, vs 3 = .int .i64 x), (fun vs u => vs 4 = .pointer (some ⟨sb, 0, none⟩)), (fun vs u => vs 5 = .pointer (some ⟨g, j * 2, none⟩)), (fun vs u => vs 6 = .pointer (some ⟨g, j * 2, none⟩)), (fun vs u => vs 7 = .pointer (some ⟨g, j * 2 + 1, none⟩)), (fun vs u => ∃ x : Int, vs 8 = .int .i64 x), (fun vs u => IntSl w5.heap.size 4 (vs 9) u), (fun vs u => ∃ x : Int, vs 10 = .int .i64 x), (fun vs u => vs 11 = .pointer (some ⟨g, j * 2, none⟩)), (fun vs u => vs 12 = .pointer (some ⟨g, j * 2, none⟩)), (fun _ _ => True)]
          [[], [], [], [2], [], [], [5], [5, 6], [5, 6, 7], [5, 6, 7, 8], [2, 3, 4, 5, 6, 7, 8, 9], [0, 2, 3, 4, 5, 6, 7, 8, 9, 10], [0, 2, 3, 4, 5, 6, 7, 8, 9, 10, 11], [0, 2, 3, 4, 5, 6, 7, 8, 9, 10, 11, 12]] [some 34, some 35, some 36, some 37, some 38, some 39, some 40, some 41, some 42, some 43, some 44, some 45, some 46, none, some 47, some 48, none] [] (RowJ Sy.cells 61 2 sb (b+31) g l.length k3 w.heap.size) [[], [], [], [2], [], [], [5], [5, 6], [5, 6, 7], [5, 6, 7, 8], [2, 3, 4, 5, 6, 7, 8, 9], [0, 2, 3, 4, 5, 6, 7, 8, 9, 10], [0, 2, 3, 4, 5, 6, 7, 8, 9, 10, 11], [0, 2, 3, 4, 5, 6, 7, 8, 9, 10, 11, 12], [0, 1, 2, 3, 4, 5, 6, 7, 8, 9, 10, 11, 12, 13], [0, 1, 2, 3, 4, 5, 6, 7, 8, 9, 10, 11, 12, 13, 14], [0, 1, 2, 3, 4, 5, 6, 7, 8, 9, 10, 11, 12, 13, 14, 15]]
          (by kernel_rfl) (by decide) (by kernel_rfl) (by kernel_rfl) (by kernel_rfl) (by kernel_rfl) (by kernel_rfl) (fun _ => Kept2.same _ _ _) (fun _ _ _ h k => h.then_ k) (fun _ _ h => h.more) ?_ (HI0.out) ?_ ?_
        · intro t ht vs w w' h hE
          simp only [List.mem_cons, List.not_mem_nil, or_false] at ht
          rcases ht with rfl | rfl | rfl | rfl | rfl | rfl | rfl | rfl | rfl | rfl | rfl | rfl | rfl | rfl
          · exact h
          · exact h
          · exact h
          · exact h
          · exact h
          · exact h
          · exact h
          · exact h
          · exact h
          · exact h.kept2 hE (by omega) (by omega)
          · exact h
          · exact h
          · exact h
          · exact h
        ·
          refine Rg.cons 0 1 rfl (Rg.plain rfl ?_) ?_
          · intro vs W n hn hI hG hT hF K hK
            simp only [Rg.putsD, List.getD_cons_zero, List.getD_cons_succ, Act.put, List.setIfInBounds_toArray, List.set_cons_zero, List.set_cons_succ] at hK ⊢
            have hn1 : n < 17 := hn
            clear hn
            clear hF
            have H := Lib.hid hK
            clear hK hT
            go_simp
            exact H.out _ _ (Kept2.same _ _ _) rfl (fun h => by cases h) hI.step
          refine Rg.cons 1 2 rfl (Rg.plain rfl ?_) ?_
          · intro vs W n hn hI hG hT hF K hK
            simp only [Rg.putsD, List.getD_cons_zero, List.getD_cons_succ, Act.put, List.setIfInBounds_toArray, List.set_cons_zero, List.set_cons_succ] at hK ⊢
            have hn1 : n < 17 := hn
            clear hn
            clear hF
            have H := Lib.hid hK
            clear hK hT
            go_simp
            exact H.out _ _ (Kept2.same _ _ _) rfl (fun h => by cases h) hI.step
          refine Rg.cons 2 3 rfl (Rg.plain rfl ?_) ?_
          · intro vs W n hn hI hG hT hF K hK
            simp only [Rg.putsD, List.getD_cons_zero, List.getD_cons_succ, Act.put, List.setIfInBounds_toArray, List.set_cons_zero, List.set_cons_succ] at hK ⊢
            have hn1 : n < 17 := hn
            clear hn
            clear hF
            have H := Lib.hid hK
            clear hK hT
            go_simp
            exact H.out _ _ (Kept2.same _ _ _) rfl (fun h => by cases h) hI.step
          refine Rg.cons 3 4 rfl (Rg.plain rfl ?_) ?_
          · intro vs W n hn hI hG hT hF K hK
            simp only [Rg.putsD, List.getD_cons_zero, List.getD_cons_succ, Act.put, List.setIfInBounds_toArray, List.set_cons_zero, List.set_cons_succ] at hK ⊢
            have hn1 : n < 17 := hn
            clear hn
            clear hF
            have t2 : vs 2 = .pointer (some ⟨sb, 0, none⟩) := hT 2 (by decide)
            simp only [t2] at hK
            have H := Lib.hid hK
            clear hK hT
            go_simp
            refine (odd_any sb _ _ _ _ (by omega) (by omega) (by omega) (by omega) hI.1).mono ?_
            rintro e w1 ⟨x, rfl, ht⟩
            exact H.out _ _ (.of_took ht) ⟨_, rfl⟩ (fun h => by cases h) (hI.took ht (by omega))
          refine Rg.cons 4 5 rfl (Rg.plain rfl ?_) ?_
          · intro vs W n hn hI hG hT hF K hK
            simp only [Rg.putsD, List.getD_cons_zero, List.getD_cons_succ, Act.put, List.setIfInBounds_toArray, List.set_cons_zero, List.set_cons_succ] at hK ⊢
            have hn1 : n < 17 := hn
            clear hn
            clear hF
            have H := Lib.hid hK
            clear hK hT
            go_simp
            exact H.out _ _ (Kept2.same _ _ _) rfl (fun h => by cases h) hI.step
          refine Rg.cons 5 6 rfl (Rg.plain rfl ?_) ?_
          · intro vs W n hn hI hG hT hF K hK
            simp only [Rg.putsD, List.getD_cons_zero, List.getD_cons_succ, Act.put, List.setIfInBounds_toArray, List.set_cons_zero, List.set_cons_succ] at hK ⊢
            have hn1 : n < 17 := hn
            clear hn
            clear hF
            have H := Lib.hid hK
            clear hK hT
            go_simp
            exact H.out _ _ (Kept2.same _ _ _) rfl (fun h => by cases h) hI.step
          refine Rg.cons 6 7 rfl (Rg.plain rfl ?_) ?_
          · intro vs W n hn hI hG hT hF K hK
            simp only [Rg.putsD, List.getD_cons_zero, List.getD_cons_succ, Act.put, List.setIfInBounds_toArray, List.set_cons_zero, List.set_cons_succ] at hK ⊢
            have hn1 : n < 17 := hn
            clear hn
            clear hF
            have t5 : vs 5 = .pointer (some ⟨g, j * 2, none⟩) := hT 5 (by decide)
            simp only [t5] at hK
            have H := Lib.hid hK
            clear hK hT
            go_simp
            exact H.out _ _ (Kept2.same _ _ _) rfl (fun h => by cases h) hI.step
          refine Rg.cons 7 8 rfl (Rg.plain rfl ?_) ?_
          · intro vs W n hn hI hG hT hF K hK
            simp only [Rg.putsD, List.getD_cons_zero, List.getD_cons_succ, Act.put, List.setIfInBounds_toArray, List.set_cons_zero, List.set_cons_succ] at hK ⊢
            have hn1 : n < 17 := hn
            clear hn
            clear hF
            have t6 : vs 6 = .pointer (some ⟨g, j * 2, none⟩) := hT 6 (by decide)
            simp only [t6] at hK
            have H := Lib.hid hK
            clear hK hT
            go_simp
            exact H.out _ _ (Kept2.same _ _ _) rfl (fun h => by cases h) hI.step
          refine Rg.cons 8 9 rfl (Rg.plain rfl ?_) ?_
          · intro vs W n hn hI hG hT hF K hK
            simp only [Rg.putsD, List.getD_cons_zero, List.getD_cons_succ, Act.put, List.setIfInBounds_toArray, List.set_cons_zero, List.set_cons_succ] at hK ⊢
            have hn1 : n < 17 := hn
            clear hn
            clear hF
            have t7 : vs 7 = .pointer (some ⟨g, j * 2 + 1, none⟩) := hT 7 (by decide)
            obtain ⟨z1, z2, c0, c1⟩ := sy_row hI rfl hj
            simp only [t7] at hK
            have H := Lib.hid hK
            clear hK hT
            go_simp
            exact H.out _ _ (Kept2.same _ _ _) ⟨_, rfl⟩ (fun h => by cases h) hI.step
          refine Rg.cons 9 10 rfl (Rg.plain rfl ?_) ?_
          · intro vs W n hn hI hG hT hF K hK
            simp only [Rg.putsD, List.getD_cons_zero, List.getD_cons_succ, Act.put, List.setIfInBounds_toArray, List.set_cons_zero, List.set_cons_succ] at hK ⊢
            have hn1 : n < 17 := hn
            clear hn
            clear hF
            have t8 : ∃ x : Int, vs 8 = .int .i64 x := hT 8 (by decide)
            obtain ⟨x8, e8⟩ := t8
            simp only [e8] at hK
            have H := Lib.hid hK
            clear hK hT
            go_simp
            exact H.out _ _ (Kept2.alloc _) (IntSl.new [x8, (-1), 345686400000, 0] rfl hG.more) (fun h => by cases h) (hI.alloc _)
          refine Rg.cons 10 11 rfl (Rg.plain rfl ?_) ?_
          · intro vs W n hn hI hG hT hF K hK
            simp only [Rg.putsD, List.getD_cons_zero, List.getD_cons_succ, Act.put, List.setIfInBounds_toArray, List.set_cons_zero, List.set_cons_succ] at hK ⊢
            have hn1 : n < 17 := hn
            clear hn
            clear hF
            have t4 : vs 4 = .pointer (some ⟨sb, 0, none⟩) := hT 4 (by decide)
            have t9 : IntSl w5.heap.size 4 (vs 9) W := hT 9 (by decide)
            obtain ⟨b9, xs9, n9, c9, e9, k9⟩ := t9
            have N9 := Lib.hid (And.intro n9 k9)
            clear n9 k9
            simp only [e9] at hK
            simp only [t4] at hK
            have H := Lib.hid hK
            clear hK hT
            go_simp
            refine (pick_blk N9.out.2 N9.out.1 (by decide) (by decide) (by omega) (by omega) hI.1).mono ?_
            rintro e w1 ⟨x, _, rfl, ht⟩
            exact H.out _ _ (.of_took ht) ⟨_, rfl⟩ (fun h => by cases h) (hI.took ht (by omega))
          refine Rg.cons 11 12 rfl (Rg.plain rfl ?_) ?_
          · intro vs W n hn hI hG hT hF K hK
            simp only [Rg.putsD, List.getD_cons_zero, List.getD_cons_succ, Act.put, List.setIfInBounds_toArray, List.set_cons_zero, List.set_cons_succ] at hK ⊢
            have hn1 : n < 17 := hn
            clear hn
            clear hF
            have t0 : vs 0 = .pointer (some ⟨g, j * 2, none⟩) := hT 0 (by decide)
            simp only [t0] at hK
            have H := Lib.hid hK
            clear hK hT
            go_simp
            exact H.out _ _ (Kept2.same _ _ _) rfl (fun h => by cases h) hI.step
          refine Rg.cons 12 13 rfl (Rg.plain rfl ?_) ?_
          · intro vs W n hn hI hG hT hF K hK
            simp only [Rg.putsD, List.getD_cons_zero, List.getD_cons_succ, Act.put, List.setIfInBounds_toArray, List.set_cons_zero, List.set_cons_succ] at hK ⊢
            have hn1 : n < 17 := hn
            clear hn
            clear hF
            have t11 : vs 11 = .pointer (some ⟨g, j * 2, none⟩) := hT 11 (by decide)
            simp only [t11] at hK
            have H := Lib.hid hK
            clear hK hT
            go_simp
            exact H.out _ _ (Kept2.same _ _ _) rfl (fun h => by cases h) hI.step
          refine Rg.cons 13 14 rfl (Rg.plain rfl ?_) ?_
          · intro vs W n hn hI hG hT hF K hK
            simp only [Rg.putsD, List.getD_cons_zero, List.getD_cons_succ, Act.put, List.setIfInBounds_toArray, List.set_cons_zero, List.set_cons_succ] at hK ⊢
            have hn1 : n < 17 := hn
            clear hn
            clear hF
            have t12 : vs 12 = .pointer (some ⟨g, j * 2, none⟩) := hT 12 (by decide)
            have t3 : ∃ x : Int, vs 3 = .int .i64 x := hT 3 (by decide)
            obtain ⟨x3, e3⟩ := t3
            simp only [e3] at hK
            obtain ⟨z1, z2, c0, c1⟩ := sy_row hI rfl hj
            have fz := hI.frozen (j * 2)
            simp only [t12] at hK
            have H := Lib.hid hK
            clear hK hT
            go_simp
            exact H.out (.bool true) _ ((Kept2.same sb g W).store (p := ⟨g, _, none⟩) rfl _) trivial (fun h => by cases h) (hI.store (j := 0) sy_typ hj (by decide) _ (by omega) (sy_int0 _))
          exact Rg.nil
        · intro vs W hG hI hT hF
          have t0 : vs 0 = .pointer (some ⟨g, j * 2, none⟩) := hT 0 (by decide)
          have t1 : vs 1 = .pointer (some ⟨g, j * 2, none⟩) := hT 1 (by decide)
          have t2 : vs 2 = .pointer (some ⟨sb, 0, none⟩) := hT 2 (by decide)
          have t3 : ∃ x : Int, vs 3 = .int .i64 x := hT 3 (by decide)
          have t4 : vs 4 = .pointer (some ⟨sb, 0, none⟩) := hT 4 (by decide)
          have t5 : vs 5 = .pointer (some ⟨g, j * 2, none⟩) := hT 5 (by decide)
          have t6 : vs 6 = .pointer (some ⟨g, j * 2, none⟩) := hT 6 (by decide)
          have t7 : vs 7 = .pointer (some ⟨g, j * 2 + 1, none⟩) := hT 7 (by decide)
          have t8 : ∃ x : Int, vs 8 = .int .i64 x := hT 8 (by decide)
          have t9 : IntSl w5.heap.size 4 (vs 9) W := hT 9 (by decide)
          have t10 : ∃ x : Int, vs 10 = .int .i64 x := hT 10 (by decide)
          have t11 : vs 11 = .pointer (some ⟨g, j * 2, none⟩) := hT 11 (by decide)
          have t12 : vs 12 = .pointer (some ⟨g, j * 2, none⟩) := hT 12 (by decide)
          simp only [List.length_cons, List.length_nil, Nat.reduceAdd, List.range, List.range.loop, List.drop_succ_cons, List.drop_zero, Rg.putsD, List.getD_cons_zero, List.getD_cons_succ, Act.put, List.setIfInBounds_toArray, List.set_cons_zero, List.set_cons_succ, t0, t1, t2, t4, t5, t6, t7, t11, t12]
          clear hT t0 t1 t2 t4 t5 t6 t7 t11 t12
          obtain ⟨x10, e10⟩ := t10
          have hIv : RowJ Sy.cells 61 2 sb (b + 31) g l.length k3 w.heap.size 14 W := hI
          obtain ⟨z1, z2, c0, c1⟩ := sy_row hIv rfl hj
          have fz1 := hIv.frozen (j * 2 + 1)
          have hst := hIv.store sy_typ hj (j := 1) (by decide) (.int .i64 x10) (by omega) (sy_int1 x10)
          have HW2 := Lib.hid (And.intro hst ((kept_of2 HR6.out.2.drew.2 hG (by omega)).store (p := ⟨g, j * 2 + 1, none⟩) (.inr (by show w.heap.size ≤ g; omega)) (.int .i64 x10)))
          have hgW : g < W.heap.size := by have := hG.more; simp at this; omega
          have E10 := Lib.hid e10
          clear hst hI hIv hG hF HR6 HI0 e10 t8 t9 t3
          simp only [E10.out]
          go_wp2_with fail
          refine (flip_any sb (b + 76) _ _ (by omega) (by omega) (by omega) (HW2.out.1.1.more (by omega))).mono ?_
          rintro e w6 ⟨f, rfl, t6⟩
          have HR7 : Hid (∃ l2 : List Sy, l2.length = l.length ∧ w6.ownsRow w.heap.size 61 2 (.slice (some ⟨g, 0, none⟩) l.length k3) l.length (flatSy l2) ∧ Took sb (b + 77) w w6) := by
            obtain ⟨_, l2, hl2, ho2⟩ := HW2.out.1
            exact ⟨l2, hl2, kept_own ho2 t6.2 hlt, t6.1.more (by omega), HW2.out.2.then_ t6.2⟩
          clear t6 HW2 c0 c1 fz1
          cases f
          · go_wp2_with fail
            go_ret
            obtain ⟨l2, hl2, ho2, ht2⟩ := HR7.out
            exact ⟨_, l2, rfl, by omega, by rw [hl2]; exact ho2, ht2.more (by omega)⟩
          · go_wp2_with fail
            go_ret
            obtain ⟨l2, hl2, ho2, ht2⟩ := HR7.out
            exact ⟨_, [], rfl, by simp, World.ownsRow_nil _ _ _ _, ht2.more (by omega)⟩
end Go.Proofs.YtopnadilfjakiaaDoor
