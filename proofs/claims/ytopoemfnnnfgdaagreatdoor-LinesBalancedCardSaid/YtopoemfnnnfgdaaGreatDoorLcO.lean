/-
  The maker of needs.
-/
import Derived.Test.YtopoemfnnnfgdaaGreatDoorLmB
import Derived.Test.YtopoemfnnnfgdaaGreatDoorLmA
import Derived.Test.YtopoemfnnnfgdaaGreatDoorRg
namespace Go.Proofs.YtopoemfnnnfgdaaGreatDoor
open Go.RowKit
set_option linter.unusedSimpArgs false
set_option linter.unusedVariables false

theorem nd_info : (Tryz.prog.info? 62).map (fun i => (i.zero, i.size, i.bytes)) = some (some (.agg #[.string ⟨#[]⟩, .int .i64 0]), 2, 24) := by kernel_rfl
theorem nd_typ (x : Nd) : (encD x).length = 2 := rfl
theorem nd_str0 (s : ByteArray) (x : Nd) : ∃ y, (encD x).set 0 (.string s) = encD y := ⟨{ x with part := s }, rfl⟩
theorem nd_int1 (s : Int) (x : Nd) : ∃ y, (encD x).set 1 (.int .i64 s) = encD y := ⟨{ x with many := s }, rfl⟩
theorem nd_row {T k sb b g len cap base n i : Nat} {W : World} (h : RowI encD T k sb b g len cap base n W) (hk : k = 2) (hi : i < len) :
    ∃ (s1 : ByteArray) (x : Int), W.cell? ⟨g, i * 2, none⟩ = some (.string s1) ∧ W.cell? ⟨g, i * 2 + 1, none⟩ = some (.int .i64 x) := by
  subst hk
  obtain ⟨p, hp⟩ := h.cell (fun _ => rfl) hi
  exact ⟨p.part, p.many, hp 0 (by omega), hp 1 (by omega)⟩
/-- Needs that a stream makes. -/
def NedOf (sb b : Nat) (w : World) (e : Ending) (w' : World) : Prop :=
  ∃ (v : Value) (l : List Nd), e = .returned v ∧ l.length ≤ 5 ∧ w'.ownsRow w.heap.size 62 2 v l.length (l.flatMap encD) ∧ Took sb b w w'
def NSt (B sb b : Nat) (w0 : World) (v : Value) (l : List Nd) (W : World) : Prop := W.ownsRow (B + 1) 62 2 v l.length (l.flatMap encD) ∧ Took sb b w0 W

set_option maxRecDepth 100000 in
set_option maxHeartbeats 8000000 in
theorem needList_any (sb b : Nat) (w : World) (hb : b ≤ 800000) (hs : IsStream w sb b) :
    Calls Tryz.prog 5 #[.pointer (some ⟨sb, 0, none⟩)] w (NedOf sb (b + 80) w) := by
  have hlt := hs.lt
  have HS0 := Lib.hid hs
  clear hs
  go_enter Tryz.func5, Tryz.ntmps5
  go_wp2_with fail
  go_loopw [3, 9] (fun v kk wr => ∃ (k : Nat) (l : List Nd), k ≤ 5 ∧ kk = .int .i64 k ∧ l.length ≤ k ∧ w.heap.size < wr.heap.size ∧ Hid (
    wr.heap[w.heap.size]? = some (.cells #[.string ⟨#[97]⟩, .string ⟨#[98]⟩, .string ⟨#[99]⟩, .string ⟨#[100]⟩, .string ⟨#[101]⟩] 9 (0, 0)) ∧ NSt w.heap.size sb (b + 3 * k) w v l wr)) (fun _ kk _ => 5 - (intOf kk).toNat)
  case atStart => exact ⟨0, [], by omega, rfl, by simp, by simp, blk_new w _ rfl, World.ownsRow_nil _ _ _ _, (Took.refl HS0.out).alloc _⟩
  case round =>
    obtain ⟨k, l, hk, rfl, hl, hsz, HR⟩ := hrel
    obtain ⟨A3, k3, rfl, hA3⟩ := own_form HR.out.2.1
    have HA3 := Lib.hid hA3
    clear hA3
    by_cases hlt3 : k < 5
    · have hsl : ∃ sk : ByteArray, wr.cell? ⟨w.heap.size, k, none⟩ = some (.string sk) := by
        rw [cell_of_blk HR.out.1]
        have : k = 0 ∨ k = 1 ∨ k = 2 ∨ k = 3 ∨ k = 4 := by omega
        rcases this with rfl | rfl | rfl | rfl | rfl <;> exact ⟨_, rfl⟩
      obtain ⟨sk, hsk⟩ := hsl
      go_wp2_with fail
      refine (flip_any sb (b + 3 * k) _ _ (by omega) (by omega) (by omega) HR.out.2.2.1).mono ?_
      rintro e w3 ⟨f, rfl, t3⟩
      have hsz3 := t3.size
      have HR3 : Hid (w3.heap[w.heap.size]? = some (.cells #[.string ⟨#[97]⟩, .string ⟨#[98]⟩, .string ⟨#[99]⟩, .string ⟨#[100]⟩, .string ⟨#[101]⟩] 9 (0, 0)) ∧ NSt w.heap.size sb (b + 3 * k + 1) w (.slice A3 l.length k3) l w3) :=
        ⟨t3.blk HR.out.1 (by omega), kept_own HR.out.2.1 t3.2 (by omega), HR.out.2.2.trans t3⟩
      clear t3 HR hsk
      cases f
      case false =>
        go_wp2_with fail
        go_roundw
        case rel => exact ⟨k + 1, l, by omega, by go_num, by omega, by omega, HR3.out.1, HR3.out.2.1, HR3.out.2.2.more (by omega)⟩
        case measure => simp [intOf]; omega
      case true =>
        go_wp2_with fail
        refine (pick_lit sb (b + 3 * k + 1) [1, 2, 3, 5, 10] _ _ 5 rfl (by omega) (by omega) rfl (by omega) HR3.out.2.2.1).mono ?_
        rintro e w5 ⟨x4, _, rfl, t4⟩
        have hsz5 := t4.size
        have HR5 : Hid (w5.heap[w.heap.size]? = some (.cells #[.string ⟨#[97]⟩, .string ⟨#[98]⟩, .string ⟨#[99]⟩, .string ⟨#[100]⟩, .string ⟨#[101]⟩] 9 (0, 0)) ∧ NSt w.heap.size sb (b + 3 * k + 3) w (.slice A3 l.length k3) l w5) :=
          ⟨t4.blk HR3.out.1 (by omega), kept_own HR3.out.2.1 t4.2 (by omega), (HR3.out.2.2.trans t4).more (by omega)⟩
        clear t4 HR3
        go_wp2_with (at_builtin; refine hold ?_)
        refine loose ?_
        obtain ⟨i0, hi0, hz0, hz1, hz2⟩ := info_parts nd_info
        refine wpList_append_own _ rfl _ _ 28 rfl (w.heap.size + 1) 62 i0 _ 2 24 Tryz.underlying28 hi0 hz0 hz1 hz2 rfl (by omega) _ l.length (l.flatMap encD) rfl (HR5.out.2.1.alloc _) ⟨w5.heap.size, 0, none⟩ 1 1 (encD ⟨sk, x4⟩) rfl rfl ?c1 (by intro u hu; simp [encD] at hu; rcases hu with rfl | rfl <;> rfl) ?c2 ?c3 (by simp; omega) ?_
        case c1 =>
          intro j u hu
          rw [addr_new, cell_of_blk (blk_new (g := w5.heap.size) _ _ rfl)]
          simpa [encD] using hu
        case c2 => unfold maxLen; omega
        case c3 => omega
        intro v' w' hown' hg' _
        have hsw' := hg'.size
        simp at hsw'
        have HF : Hid (w'.heap[w.heap.size]? = some (.cells #[.string ⟨#[97]⟩, .string ⟨#[98]⟩, .string ⟨#[99]⟩, .string ⟨#[100]⟩, .string ⟨#[101]⟩] 9 (0, 0)) ∧ NSt w.heap.size sb (b + 3 * k + 3) w v' (l ++ [⟨sk, x4⟩]) w') := by
          have hr := own_row HR5.out.2.1
          refine ⟨(hg'.block _ (by simp; omega) (fun e => by have := hr _ e.symm; omega)).trans (blk_alloc HR5.out.1 _), ?_, (HR5.out.2.2.alloc _).grown hlt hg' (fun j e => by have := hr j e; omega)⟩
          have e1 : (l ++ [(⟨sk, x4⟩ : Nd)]).flatMap encD = l.flatMap encD ++ encD ⟨sk, x4⟩ := by simp
          rw [e1, List.length_append]
          exact hown'
        have hszF : w.heap.size < w'.heap.size := by omega
        clear hown' hg' hi0 hz0 hz1 hz2 hsw'
        go_wp2_with fail
        go_roundw
        case rel => exact ⟨k + 1, _, by omega, by go_num, by simp; omega, hszF, HF.out.1, HF.out.2.1, HF.out.2.2.more (by omega)⟩
        case measure => simp [intOf]; omega
    · have HR4 : Hid (NSt w.heap.size sb (b + 15) w (.slice A3 l.length k3) l wr) := ⟨HR.out.2.1, HR.out.2.2.more (by omega)⟩
      clear HR
      by_cases hl0 : l.length = 0
      · have hd0 : decide (0 < l.length) = false := decide_eq_false (by omega)
        go_wp2_with fail
        go_ret
        exact ⟨_, l, rfl, by omega, own_mono HR4.out.1 (by omega), HR4.out.2.more (by omega)⟩
      · obtain ⟨g, rfl, hgl, hgb⟩ := HA3.out (by omega)
        have hd0 : 0 < l.length := by omega
        clear hl0
        go_wp2_with fail
        refine (flip_any sb (b + 15) _ _ (by omega) (by omega) (by omega) HR4.out.2.1).mono ?_
        rintro e w4 ⟨f, rfl, t4⟩
        have hsz4 := t4.size
        have HR5 : Hid (NSt w.heap.size sb (b + 16) w (.slice (some ⟨g, 0, none⟩) l.length k3) l w4) := ⟨kept_own HR4.out.1 t4.2 (by omega), HR4.out.2.trans t4⟩
        clear t4 HR4
        cases f
        · go_wp2_with fail
          go_ret
          exact ⟨_, l, rfl, by omega, own_mono HR5.out.1 (by omega), HR5.out.2.more (by omega)⟩
        · go_wp2_with fail
          refine (next_any sb (b + 16) _ _ (by omega) (by omega) (by omega) HR5.out.2.1).mono ?_
          rintro e w5 ⟨x5, q0, q1, rfl, t5⟩
          obtain ⟨j, rfl⟩ := Int.eq_ofNat_of_zero_le q0
          have hj : j < l.length := by omega
          have hsz5 := t5.size
          have HR6 : Hid (NSt w.heap.size sb (b + 17) w (.slice (some ⟨g, 0, none⟩) l.length k3) l w5) := ⟨kept_own HR5.out.1 t5.2 (by omega), HR5.out.2.trans t5⟩
          clear t5 HR5
          have hg5 : g < w5.heap.size := by omega
          go_wp2_with fail
          have HI0 : Hid (RowI encD 62 2 sb (b + 17) g l.length k3 (w.heap.size + 1) 0 w5.drew) := ⟨HR6.out.2.1.drew, l, rfl, HR6.out.1⟩
          refine Rg.rgL (Kept2 sb g)
            [(fun vs u => vs 0 = .pointer (some ⟨g, j * 2, none⟩)), (fun vs u => vs 1 = .pointer (some ⟨g, j * 2, none⟩)), (fun vs u => vs 2 = .pointer (some ⟨sb, 0, none⟩)), (fun vs u => vs 3 = .pointer (some ⟨g, j * 2, none⟩)), (fun vs u => vs 4 = .pointer (some ⟨g, j * 2, none⟩)), (fun vs u => vs 5 = .pointer (some ⟨g, j * 2, none⟩)), (fun vs u => ∃ s : ByteArray, vs 6 = .string s), (fun vs u => StrSl w5.heap.size 4 (vs 7) u), (fun vs u => ∃ s : ByteArray, vs 8 = .string s), (fun vs u => vs 9 = .pointer (some ⟨sb, 0, none⟩)), (fun vs u => vs 10 = .pointer (some ⟨g, j * 2, none⟩)), (fun vs u => vs 11 = .pointer (some ⟨g, j * 2, none⟩)), (fun vs u => vs 12 = .pointer (some ⟨g, j * 2 + 1, none⟩)), (fun vs u => ∃ x : Int, vs 13 = .int .i64 x), (fun vs u => IntSl w5.heap.size 4 (vs 14) u), (fun vs u => ∃ x : Int, vs 15 = .int .i64 x), (fun vs u => vs 16 = .pointer (some ⟨g, j * 2, none⟩)), (fun vs u => vs 17 = .pointer (some ⟨g, j * 2, none⟩)), (fun _ _ => True)]
            [[], [], [], [], [3], [3, 4], [3, 4, 5], [3, 4, 5, 6], [2, 3, 4, 5, 6, 7], [], [], [10], [10, 11], [10, 11, 12], [10, 11, 12, 13], [2, 3, 4, 5, 6, 7, 8, 9, 10, 11, 12, 13, 14], [0, 2, 3, 4, 5, 6, 7, 8, 9, 10, 11, 12, 13, 14, 15], [0, 2, 3, 4, 5, 6, 7, 8, 9, 10, 11, 12, 13, 14, 15, 16], [0, 2, 3, 4, 5, 6, 7, 8, 9, 10, 11, 12, 13, 14, 15, 16, 17]] [some 37, some 38, some 39, some 40, some 41, some 42, some 43, some 44, some 45, some 46, some 47, some 48, some 49, some 50, some 51, some 52, some 53, some 54, none, some 55, some 56, none] [] (RowI encD 62 2 sb (b+17) g l.length k3 (w.heap.size+1)) [[], [], [], [], [3], [3, 4], [3, 4, 5], [3, 4, 5, 6], [2, 3, 4, 5, 6, 7], [], [], [10], [10, 11], [10, 11, 12], [10, 11, 12, 13], [2, 3, 4, 5, 6, 7, 8, 9, 10, 11, 12, 13, 14], [0, 2, 3, 4, 5, 6, 7, 8, 9, 10, 11, 12, 13, 14, 15], [0, 2, 3, 4, 5, 6, 7, 8, 9, 10, 11, 12, 13, 14, 15, 16], [0, 2, 3, 4, 5, 6, 7, 8, 9, 10, 11, 12, 13, 14, 15, 16, 17], [0, 1, 2, 3, 4, 5, 6, 7, 8, 9, 10, 11, 12, 13, 14, 15, 16, 17, 18], [0, 1, 2, 3, 4, 5, 6, 7, 8, 9, 10, 11, 12, 13, 14, 15, 16, 17, 18, 19], [0, 1, 2, 3, 4, 5, 6, 7, 8, 9, 10, 11, 12, 13, 14, 15, 16, 17, 18, 19, 20]]
            (by kernel_rfl) (by decide) (by kernel_rfl) (by kernel_rfl) (by kernel_rfl) (by kernel_rfl) (by kernel_rfl) (fun _ => Kept2.same _ _ _) (fun _ _ _ h k => h.then_ k) (fun _ _ h => h.more) ?_ (HI0.out) ?_ ?_
          · intro t ht vs w w' h hE
            simp only [List.mem_cons, List.not_mem_nil, or_false] at ht
            rcases ht with rfl | rfl | rfl | rfl | rfl | rfl | rfl | rfl | rfl | rfl | rfl | rfl | rfl | rfl | rfl | rfl | rfl | rfl | rfl
            · exact h
            · exact h
            · exact h
            · exact h
            · exact h
            · exact h
            · exact h
            · exact h.kept2 hE (by omega) (by omega)
            · exact h
            · exact h
            · exact h
            · exact h
            · exact h
            · exact h
            · exact h.kept2 hE (by omega) (by omega)
            · exact h
            · exact h
            · exact h
            · exact h
          ·
            refine Rg.cons 0 1 rfl (Rg.plain rfl ?_) ?_
            · intro vs W n hn hI hG hT hF K hK
              simp only [Rg.putsD, List.getD_cons_zero, List.getD_cons_succ, Act.put, List.setIfInBounds_toArray, List.set_cons_zero, List.set_cons_succ] at hK ⊢
              have hn1 : n < 22 := hn
              clear hn
              clear hF
              have H := Lib.hid hK
              clear hK hT
              go_simp
              exact H.out _ _ (Kept2.same _ _ _) rfl (fun h => by cases h) hI.step
            refine Rg.cons 1 2 rfl (Rg.plain rfl ?_) ?_
            · intro vs W n hn hI hG hT hF K hK
              simp only [Rg.putsD, List.getD_cons_zero, List.getD_cons_succ, Act.put, List.setIfInBounds_toArray, List.set_cons_zero, List.set_cons_succ] at hK ⊢
              have hn1 : n < 22 := hn
              clear hn
              clear hF
              have H := Lib.hid hK
              clear hK hT
              go_simp
              exact H.out _ _ (Kept2.same _ _ _) rfl (fun h => by cases h) hI.step
            refine Rg.cons 2 3 rfl (Rg.plain rfl ?_) ?_
            · intro vs W n hn hI hG hT hF K hK
              simp only [Rg.putsD, List.getD_cons_zero, List.getD_cons_succ, Act.put, List.setIfInBounds_toArray, List.set_cons_zero, List.set_cons_succ] at hK ⊢
              have hn1 : n < 22 := hn
              clear hn
              clear hF
              have H := Lib.hid hK
              clear hK hT
              go_simp
              exact H.out _ _ (Kept2.same _ _ _) rfl (fun h => by cases h) hI.step
            refine Rg.cons 3 4 rfl (Rg.plain rfl ?_) ?_
            · intro vs W n hn hI hG hT hF K hK
              simp only [Rg.putsD, List.getD_cons_zero, List.getD_cons_succ, Act.put, List.setIfInBounds_toArray, List.set_cons_zero, List.set_cons_succ] at hK ⊢
              have hn1 : n < 22 := hn
              clear hn
              clear hF
              have H := Lib.hid hK
              clear hK hT
              go_simp
              exact H.out _ _ (Kept2.same _ _ _) rfl (fun h => by cases h) hI.step
            refine Rg.cons 4 5 rfl (Rg.plain rfl ?_) ?_
            · intro vs W n hn hI hG hT hF K hK
              simp only [Rg.putsD, List.getD_cons_zero, List.getD_cons_succ, Act.put, List.setIfInBounds_toArray, List.set_cons_zero, List.set_cons_succ] at hK ⊢
              have hn1 : n < 22 := hn
              clear hn
              clear hF
              have t3 : vs 3 = .pointer (some ⟨g, j * 2, none⟩) := hT 3 (by decide)
              simp only [t3] at hK
              have H := Lib.hid hK
              clear hK hT
              go_simp
              exact H.out _ _ (Kept2.same _ _ _) rfl (fun h => by cases h) hI.step
            refine Rg.cons 5 6 rfl (Rg.plain rfl ?_) ?_
            · intro vs W n hn hI hG hT hF K hK
              simp only [Rg.putsD, List.getD_cons_zero, List.getD_cons_succ, Act.put, List.setIfInBounds_toArray, List.set_cons_zero, List.set_cons_succ] at hK ⊢
              have hn1 : n < 22 := hn
              clear hn
              clear hF
              have t4 : vs 4 = .pointer (some ⟨g, j * 2, none⟩) := hT 4 (by decide)
              simp only [t4] at hK
              have H := Lib.hid hK
              clear hK hT
              go_simp
              exact H.out _ _ (Kept2.same _ _ _) rfl (fun h => by cases h) hI.step
            refine Rg.cons 6 7 rfl (Rg.plain rfl ?_) ?_
            · intro vs W n hn hI hG hT hF K hK
              simp only [Rg.putsD, List.getD_cons_zero, List.getD_cons_succ, Act.put, List.setIfInBounds_toArray, List.set_cons_zero, List.set_cons_succ] at hK ⊢
              have hn1 : n < 22 := hn
              clear hn
              clear hF
              have t5 : vs 5 = .pointer (some ⟨g, j * 2, none⟩) := hT 5 (by decide)
              obtain ⟨z1, z2, c0, c1⟩ := nd_row hI rfl hj
              simp only [t5] at hK
              have H := Lib.hid hK
              clear hK hT
              go_simp
              exact H.out _ _ (Kept2.same _ _ _) ⟨_, rfl⟩ (fun h => by cases h) hI.step
            refine Rg.cons 7 8 rfl (Rg.plain rfl ?_) ?_
            · intro vs W n hn hI hG hT hF K hK
              simp only [Rg.putsD, List.getD_cons_zero, List.getD_cons_succ, Act.put, List.setIfInBounds_toArray, List.set_cons_zero, List.set_cons_succ] at hK ⊢
              have hn1 : n < 22 := hn
              clear hn
              clear hF
              have t6 : ∃ s : ByteArray, vs 6 = .string s := hT 6 (by decide)
              obtain ⟨s6, e6⟩ := t6
              simp only [e6] at hK
              have H := Lib.hid hK
              clear hK hT
              go_simp
              exact H.out _ _ (Kept2.alloc _) (StrSl.new [s6, ⟨#[]⟩, ⟨#[97]⟩, ⟨#[122, 122]⟩] rfl hG.more) (fun h => by cases h) (hI.alloc _)
            refine Rg.cons 8 9 rfl (Rg.plain rfl ?_) ?_
            · intro vs W n hn hI hG hT hF K hK
              simp only [Rg.putsD, List.getD_cons_zero, List.getD_cons_succ, Act.put, List.setIfInBounds_toArray, List.set_cons_zero, List.set_cons_succ] at hK ⊢
              have hn1 : n < 22 := hn
              clear hn
              clear hF
              have t2 : vs 2 = .pointer (some ⟨sb, 0, none⟩) := hT 2 (by decide)
              have t7 : StrSl w5.heap.size 4 (vs 7) W := hT 7 (by decide)
              obtain ⟨b7, xs7, n7, c7, e7, k7⟩ := t7
              have N7 := Lib.hid (And.intro n7 k7)
              clear n7 k7
              simp only [e7] at hK
              simp only [t2] at hK
              have H := Lib.hid hK
              clear hK hT
              go_simp
              refine (some_blk N7.out.2 N7.out.1 (by decide) (by decide) (by omega) (by omega) hI.1).mono ?_
              rintro e w1 ⟨x, _, rfl, ht⟩
              exact H.out _ _ (.of_took ht) ⟨_, rfl⟩ (fun h => by cases h) (hI.took ht (by omega))
            refine Rg.cons 9 10 rfl (Rg.plain rfl ?_) ?_
            · intro vs W n hn hI hG hT hF K hK
              simp only [Rg.putsD, List.getD_cons_zero, List.getD_cons_succ, Act.put, List.setIfInBounds_toArray, List.set_cons_zero, List.set_cons_succ] at hK ⊢
              have hn1 : n < 22 := hn
              clear hn
              clear hF
              have H := Lib.hid hK
              clear hK hT
              go_simp
              exact H.out _ _ (Kept2.same _ _ _) rfl (fun h => by cases h) hI.step
            refine Rg.cons 10 11 rfl (Rg.plain rfl ?_) ?_
            · intro vs W n hn hI hG hT hF K hK
              simp only [Rg.putsD, List.getD_cons_zero, List.getD_cons_succ, Act.put, List.setIfInBounds_toArray, List.set_cons_zero, List.set_cons_succ] at hK ⊢
              have hn1 : n < 22 := hn
              clear hn
              clear hF
              have H := Lib.hid hK
              clear hK hT
              go_simp
              exact H.out _ _ (Kept2.same _ _ _) rfl (fun h => by cases h) hI.step
            refine Rg.cons 11 12 rfl (Rg.plain rfl ?_) ?_
            · intro vs W n hn hI hG hT hF K hK
              simp only [Rg.putsD, List.getD_cons_zero, List.getD_cons_succ, Act.put, List.setIfInBounds_toArray, List.set_cons_zero, List.set_cons_succ] at hK ⊢
              have hn1 : n < 22 := hn
              clear hn
              clear hF
              have t10 : vs 10 = .pointer (some ⟨g, j * 2, none⟩) := hT 10 (by decide)
              simp only [t10] at hK
              have H := Lib.hid hK
              clear hK hT
              go_simp
              exact H.out _ _ (Kept2.same _ _ _) rfl (fun h => by cases h) hI.step
            refine Rg.cons 12 13 rfl (Rg.plain rfl ?_) ?_
            · intro vs W n hn hI hG hT hF K hK
              simp only [Rg.putsD, List.getD_cons_zero, List.getD_cons_succ, Act.put, List.setIfInBounds_toArray, List.set_cons_zero, List.set_cons_succ] at hK ⊢
              have hn1 : n < 22 := hn
              clear hn
              clear hF
              have t11 : vs 11 = .pointer (some ⟨g, j * 2, none⟩) := hT 11 (by decide)
              simp only [t11] at hK
              have H := Lib.hid hK
              clear hK hT
              go_simp
              exact H.out _ _ (Kept2.same _ _ _) rfl (fun h => by cases h) hI.step
            refine Rg.cons 13 14 rfl (Rg.plain rfl ?_) ?_
            · intro vs W n hn hI hG hT hF K hK
              simp only [Rg.putsD, List.getD_cons_zero, List.getD_cons_succ, Act.put, List.setIfInBounds_toArray, List.set_cons_zero, List.set_cons_succ] at hK ⊢
              have hn1 : n < 22 := hn
              clear hn
              clear hF
              have t12 : vs 12 = .pointer (some ⟨g, j * 2 + 1, none⟩) := hT 12 (by decide)
              obtain ⟨z1, z2, c0, c1⟩ := nd_row hI rfl hj
              simp only [t12] at hK
              have H := Lib.hid hK
              clear hK hT
              go_simp
              exact H.out _ _ (Kept2.same _ _ _) ⟨_, rfl⟩ (fun h => by cases h) hI.step
            refine Rg.cons 14 15 rfl (Rg.plain rfl ?_) ?_
            · intro vs W n hn hI hG hT hF K hK
              simp only [Rg.putsD, List.getD_cons_zero, List.getD_cons_succ, Act.put, List.setIfInBounds_toArray, List.set_cons_zero, List.set_cons_succ] at hK ⊢
              have hn1 : n < 22 := hn
              clear hn
              clear hF
              have t13 : ∃ x : Int, vs 13 = .int .i64 x := hT 13 (by decide)
              obtain ⟨x13, e13⟩ := t13
              simp only [e13] at hK
              have H := Lib.hid hK
              clear hK hT
              go_simp
              exact H.out _ _ (Kept2.alloc _) (IntSl.new [x13, 0, 1000, 1001] rfl hG.more) (fun h => by cases h) (hI.alloc _)
            refine Rg.cons 15 16 rfl (Rg.plain rfl ?_) ?_
            · intro vs W n hn hI hG hT hF K hK
              simp only [Rg.putsD, List.getD_cons_zero, List.getD_cons_succ, Act.put, List.setIfInBounds_toArray, List.set_cons_zero, List.set_cons_succ] at hK ⊢
              have hn1 : n < 22 := hn
              clear hn
              clear hF
              have t9 : vs 9 = .pointer (some ⟨sb, 0, none⟩) := hT 9 (by decide)
              have t14 : IntSl w5.heap.size 4 (vs 14) W := hT 14 (by decide)
              obtain ⟨b14, xs14, n14, c14, e14, k14⟩ := t14
              have N14 := Lib.hid (And.intro n14 k14)
              clear n14 k14
              simp only [e14] at hK
              simp only [t9] at hK
              have H := Lib.hid hK
              clear hK hT
              go_simp
              refine (pick_blk N14.out.2 N14.out.1 (by decide) (by decide) (by omega) (by omega) hI.1).mono ?_
              rintro e w1 ⟨x, _, rfl, ht⟩
              exact H.out _ _ (.of_took ht) ⟨_, rfl⟩ (fun h => by cases h) (hI.took ht (by omega))
            refine Rg.cons 16 17 rfl (Rg.plain rfl ?_) ?_
            · intro vs W n hn hI hG hT hF K hK
              simp only [Rg.putsD, List.getD_cons_zero, List.getD_cons_succ, Act.put, List.setIfInBounds_toArray, List.set_cons_zero, List.set_cons_succ] at hK ⊢
              have hn1 : n < 22 := hn
              clear hn
              clear hF
              have t0 : vs 0 = .pointer (some ⟨g, j * 2, none⟩) := hT 0 (by decide)
              simp only [t0] at hK
              have H := Lib.hid hK
              clear hK hT
              go_simp
              exact H.out _ _ (Kept2.same _ _ _) rfl (fun h => by cases h) hI.step
            refine Rg.cons 17 18 rfl (Rg.plain rfl ?_) ?_
            · intro vs W n hn hI hG hT hF K hK
              simp only [Rg.putsD, List.getD_cons_zero, List.getD_cons_succ, Act.put, List.setIfInBounds_toArray, List.set_cons_zero, List.set_cons_succ] at hK ⊢
              have hn1 : n < 22 := hn
              clear hn
              clear hF
              have t16 : vs 16 = .pointer (some ⟨g, j * 2, none⟩) := hT 16 (by decide)
              simp only [t16] at hK
              have H := Lib.hid hK
              clear hK hT
              go_simp
              exact H.out _ _ (Kept2.same _ _ _) rfl (fun h => by cases h) hI.step
            refine Rg.cons 18 19 rfl (Rg.plain rfl ?_) ?_
            · intro vs W n hn hI hG hT hF K hK
              simp only [Rg.putsD, List.getD_cons_zero, List.getD_cons_succ, Act.put, List.setIfInBounds_toArray, List.set_cons_zero, List.set_cons_succ] at hK ⊢
              have hn1 : n < 22 := hn
              clear hn
              clear hF
              have t17 : vs 17 = .pointer (some ⟨g, j * 2, none⟩) := hT 17 (by decide)
              have t8 : ∃ s : ByteArray, vs 8 = .string s := hT 8 (by decide)
              obtain ⟨s8, e8⟩ := t8
              simp only [e8] at hK
              obtain ⟨z1, z2, c0, c1⟩ := nd_row hI rfl hj
              have fz := hI.frozen (j * 2)
              simp only [t17] at hK
              have H := Lib.hid hK
              clear hK hT
              go_simp
              exact H.out (.bool true) _ ((Kept2.same sb g W).store (p := ⟨g, _, none⟩) rfl _) trivial (fun h => by cases h) (hI.store (j := 0) nd_typ hj (by decide) _ (by omega) (nd_str0 _))
            exact Rg.nil
          · intro vs W hG hI hT hF
            have t0 : vs 0 = .pointer (some ⟨g, j * 2, none⟩) := hT 0 (by decide)
            have t1 : vs 1 = .pointer (some ⟨g, j * 2, none⟩) := hT 1 (by decide)
            have t2 : vs 2 = .pointer (some ⟨sb, 0, none⟩) := hT 2 (by decide)
            have t3 : vs 3 = .pointer (some ⟨g, j * 2, none⟩) := hT 3 (by decide)
            have t4 : vs 4 = .pointer (some ⟨g, j * 2, none⟩) := hT 4 (by decide)
            have t5 : vs 5 = .pointer (some ⟨g, j * 2, none⟩) := hT 5 (by decide)
            have t6 : ∃ s : ByteArray, vs 6 = .string s := hT 6 (by decide)
            have t7 : StrSl w5.heap.size 4 (vs 7) W := hT 7 (by decide)
            have t8 : ∃ s : ByteArray, vs 8 = .string s := hT 8 (by decide)
            have t9 : vs 9 = .pointer (some ⟨sb, 0, none⟩) := hT 9 (by decide)
            have t10 : vs 10 = .pointer (some ⟨g, j * 2, none⟩) := hT 10 (by decide)
            have t11 : vs 11 = .pointer (some ⟨g, j * 2, none⟩) := hT 11 (by decide)
            have t12 : vs 12 = .pointer (some ⟨g, j * 2 + 1, none⟩) := hT 12 (by decide)
            have t13 : ∃ x : Int, vs 13 = .int .i64 x := hT 13 (by decide)
            have t14 : IntSl w5.heap.size 4 (vs 14) W := hT 14 (by decide)
            have t15 : ∃ x : Int, vs 15 = .int .i64 x := hT 15 (by decide)
            have t16 : vs 16 = .pointer (some ⟨g, j * 2, none⟩) := hT 16 (by decide)
            have t17 : vs 17 = .pointer (some ⟨g, j * 2, none⟩) := hT 17 (by decide)
            simp only [List.length_cons, List.length_nil, Nat.reduceAdd, List.range, List.range.loop, List.drop_succ_cons, List.drop_zero, Rg.putsD, List.getD_cons_zero, List.getD_cons_succ, Act.put, List.setIfInBounds_toArray, List.set_cons_zero, List.set_cons_succ, t0, t1, t2, t3, t4, t5, t9, t10, t11, t12, t16, t17]
            clear hT t0 t1 t2 t3 t4 t5 t9 t10 t11 t12 t16 t17
            obtain ⟨x15, e15⟩ := t15
            have hIv : RowI encD 62 2 sb (b + 17) g l.length k3 (w.heap.size + 1) 19 W := hI
            obtain ⟨z1, z2, c0, c1⟩ := nd_row hIv rfl hj
            have fz := hIv.frozen (j * 2 + 1)
            have hst := hIv.store nd_typ hj (j := 1) (by decide) (.int .i64 x15) (by omega) (nd_int1 x15)
            have HW2 := Lib.hid (And.intro hst (kept_of2 HR6.out.2.drew.2 hG (by omega)))
            have E15 := Lib.hid e15
            clear hst hI hIv hG hF e15 HR6 HI0
            simp only [E15.out]
            go_wp2_with fail
            go_ret
            obtain ⟨hs2, l2, hl2, ho2⟩ := HW2.out.1
            exact ⟨_, l2, rfl, by omega, by rw [hl2]; exact own_mono ho2 (by omega), hs2.more (by omega), HW2.out.2.store (.inr (by simp; omega)) _⟩
end Go.Proofs.YtopoemfnnnfgdaaGreatDoor
