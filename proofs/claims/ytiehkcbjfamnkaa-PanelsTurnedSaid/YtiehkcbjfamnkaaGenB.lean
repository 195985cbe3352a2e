/-
  The walks of the makers of bodies and gaps.
-/
import Derived.Test.YtiehkcbjfamnkaaGen0
import Derived.Test.YtiehkcbjfamnkaaRg
namespace Go.Proofs.Ytiehkcbjfamnkaa
open Go.RowKit

set_option maxHeartbeats 1000000 in
theorem agap_any (sb b : Nat) (w : World) (hb : b ≤ 900000) (hs : IsStream w sb b) :
    Calls Try.prog 37 #[.pointer (some ⟨sb, 0, none⟩)] w (fun e w' => ∃ x : Int, e = .returned (.int .i64 x) ∧ Took sb (b + 1) w w') := by
  go_enter Try.func37, Try.ntmps37
  go_wp2_with fail
  refine (pick_lit sb b [0, 1, 2, 5, 10, 15, 30, -1, 500001] _ _ 9 rfl (by omega) (by omega) rfl (by omega) hs).mono ?_
  rintro e w1 ⟨x, _, rfl, t1⟩
  go_wp2_with fail
  go_ret
  exact ⟨x, rfl, t1⟩

theorem bo_info : (Try.prog.info? 146).map (fun i => (i.zero, i.size, i.bytes)) = some (some (.agg #[.string ⟨#[]⟩, .int .i64 0, .int .i64 0]), 3, 32) := by kernel_rfl
/-- Bodies that a stream makes. -/
def BodOf (sb b : Nat) (w : World) (e : Ending) (w' : World) : Prop :=
  ∃ (v : Value) (l : List Bo), e = .returned v ∧ l.length ≤ 3 ∧ w'.ownsRow w.heap.size 146 3 v l.length (flatB l) ∧ Took sb b w w'
def BSt (B sb b : Nat) (w0 : World) (v : Value) (l : List Bo) (W : World) : Prop := W.ownsRow (B + 1) 146 3 v l.length (flatB l) ∧ Took sb b w0 W
def BEnd (B sb b : Nat) (w0 : World) (v : Value) (W : World) : Prop := ∃ l : List Bo, l.length ≤ 3 ∧ BSt B sb b w0 v l W

set_option maxRecDepth 100000 in
set_option maxHeartbeats 4000000 in
theorem bodies_any (sb b : Nat) (w : World) (hb : b ≤ 900000) (hs : IsStream w sb b) :
    Calls Try.prog 36 #[.pointer (some ⟨sb, 0, none⟩)] w (BodOf sb (b + 80) w) := by
  have hlt := hs.lt
  have HS0 := Lib.hid hs
  clear hs
  go_enter Try.func36, Try.ntmps36
  go_wp2_with fail
  go_loopw [3, 9] (fun v kk wr => ∃ (k : Nat) (l : List Bo), k ≤ 3 ∧ kk = .int .i64 k ∧ l.length ≤ k ∧ w.heap.size < wr.heap.size ∧ Hid (
    wr.heap[w.heap.size]? = some (.cells #[.string ⟨#[99, 97, 112]⟩, .string ⟨#[105, 99]⟩, .string ⟨#[114, 101, 115]⟩] 9 (0, 0)) ∧ BSt w.heap.size sb (b + 3 * k) w v l wr)) (fun _ kk _ => 3 - (intOf kk).toNat)
  case atStart => exact ⟨0, [], by omega, rfl, by simp, by simp, blk_new w _ rfl, World.ownsRow_nil _ _ _ _, (Took.refl HS0.out).alloc _⟩
  case round =>
    obtain ⟨k, l, hk, rfl, hl, hsz, HR⟩ := hrel
    obtain ⟨A3, k3, rfl, hA3⟩ := own_form HR.out.2.1
    have HA3 := Lib.hid hA3
    clear hA3
    by_cases hlt3 : k < 3
    · have hsl : ∃ sk : ByteArray, wr.cell? ⟨w.heap.size, k, none⟩ = some (.string sk) := by
        rw [cell_of_blk HR.out.1]
        have : k = 0 ∨ k = 1 ∨ k = 2 := by omega
        rcases this with rfl | rfl | rfl <;> exact ⟨_, rfl⟩
      obtain ⟨sk, hsk⟩ := hsl
      go_wp2_with fail
      refine (flip_any sb (b + 3 * k) _ _ (by omega) (by omega) (by omega) HR.out.2.2.1).mono ?_
      rintro e w3 ⟨f, rfl, t3⟩
      have hsz3 := t3.size
      have HR3 : Hid (w3.heap[w.heap.size]? = some (.cells #[.string ⟨#[99, 97, 112]⟩, .string ⟨#[105, 99]⟩, .string ⟨#[114, 101, 115]⟩] 9 (0, 0)) ∧ BSt w.heap.size sb (b + 3 * k + 1) w (.slice A3 l.length k3) l w3) :=
        ⟨t3.blk HR.out.1 (by omega), kept_own HR.out.2.1 t3.2 (by omega), HR.out.2.2.trans t3⟩
      clear t3 HR hsk
      cases f
      case true =>
        go_wp2_with fail
        go_roundw
        case rel => exact ⟨k + 1, l, by omega, by go_num, by omega, by omega, HR3.out.1, HR3.out.2.1, HR3.out.2.2.more (by omega)⟩
        case measure => simp [intOf]; omega
      case false =>
        go_wp2_with fail
        refine (pick_lit sb (b + 3 * k + 1) [3, 10, 11, 40] _ _ 4 rfl (by omega) (by omega) rfl (by omega) HR3.out.2.2.1).mono ?_
        rintro e w4 ⟨x4, _, rfl, t4⟩
        have hsz4 := t4.size
        go_wp2_with fail
        refine (pick_lit sb (b + 3 * k + 1 + 1) [3, 5, 10] _ _ 3 rfl (by omega) (by omega) rfl (by omega) t4.1).mono ?_
        rintro e w5 ⟨x5, _, rfl, t5⟩
        have hsz5 := t5.size
        have t45 := t4.trans t5
        have HR5 : Hid (w5.heap[w.heap.size]? = some (.cells #[.string ⟨#[99, 97, 112]⟩, .string ⟨#[105, 99]⟩, .string ⟨#[114, 101, 115]⟩] 9 (0, 0)) ∧ BSt w.heap.size sb (b + 3 * k + 3) w (.slice A3 l.length k3) l w5) :=
          ⟨t45.blk HR3.out.1 (by omega), kept_own HR3.out.2.1 t45.2 (by omega), HR3.out.2.2.trans t45⟩
        clear t4 t5 t45 HR3
        go_wp2_with (at_builtin; refine hold ?_)
        refine loose ?_
        obtain ⟨i0, hi0, hz0, hz1, hz2⟩ := info_parts bo_info
        refine wpList_append_own _ rfl _ _ 77 rfl (w.heap.size + 1) 146 i0 _ 3 32 Try.underlying77 hi0 hz0 hz1 hz2 rfl (by omega) _ l.length (flatB l) rfl (HR5.out.2.1.alloc _) ⟨w5.heap.size, 0, none⟩ 1 1 (Bo.cells ⟨sk, x4, x5⟩) rfl rfl ?c1 (by intro u hu; simp [Bo.cells] at hu; rcases hu with rfl | rfl | rfl <;> rfl) ?c2 ?c3 (by simp; omega) ?_
        case c1 =>
          intro j u hu
          rw [addr_new, cell_of_blk (blk_new (g := w5.heap.size) _ _ rfl)]
          simpa [Bo.cells] using hu
        case c2 => unfold maxLen; omega
        case c3 => omega
        intro v' w' hown' hg' _
        have hsw' := hg'.size
        simp at hsw'
        have HF : Hid (w'.heap[w.heap.size]? = some (.cells #[.string ⟨#[99, 97, 112]⟩, .string ⟨#[105, 99]⟩, .string ⟨#[114, 101, 115]⟩] 9 (0, 0)) ∧ BSt w.heap.size sb (b + 3 * k + 3) w v' (l ++ [⟨sk, x4, x5⟩]) w') := by
          have hr := own_row HR5.out.2.1
          refine ⟨(hg'.block _ (by simp; omega) (fun e => by have := hr _ e.symm; omega)).trans (blk_alloc HR5.out.1 _), ?_, (HR5.out.2.2.alloc _).grown hlt hg' (fun j e => by have := hr j e; omega)⟩
          have e1 : flatB (l ++ [⟨sk, x4, x5⟩]) = flatB l ++ Bo.cells ⟨sk, x4, x5⟩ := by simp [flatB]
          rw [e1, List.length_append]
          exact hown'
        have hszF : w.heap.size < w'.heap.size := by omega
        clear hown' hg' hi0 hz0 hz1 hz2 hsw'
        go_wp2_with fail
        go_roundw
        case rel => exact ⟨k + 1, _, by omega, by go_num, by simp; omega, hszF, HF.out.1, HF.out.2.1, HF.out.2.2.more (by omega)⟩
        case measure => simp [intOf]; omega
    · have HR4 : Hid (BSt w.heap.size sb (b + 9) w (.slice A3 l.length k3) l wr) := ⟨HR.out.2.1, HR.out.2.2.more (by omega)⟩
      clear HR
      by_cases hl0 : l.length = 0
      · have hd0 : decide (0 < l.length) = false := decide_eq_false (by omega)
        go_wp2_with fail
        go_ret
        exact ⟨_, l, rfl, by omega, own_mono HR4.out.1 (by omega), HR4.out.2.more (by omega)⟩
      · obtain ⟨g, rfl, hgl, hgb⟩ := HA3.out (by omega)
        have hd0 : 0 < l.length := by omega
        clear hl0
        go_wp2_with fail
        refine (flip_any sb (b + 9) _ _ (by omega) (by omega) (by omega) HR4.out.2.1).mono ?_
        rintro e w4 ⟨f, rfl, t4⟩
        have hsz4 := t4.size
        have HR5 : Hid (BSt w.heap.size sb (b + 10) w (.slice (some ⟨g, 0, none⟩) l.length k3) l w4) := ⟨kept_own HR4.out.1 t4.2 (by omega), HR4.out.2.trans t4⟩
        clear t4 HR4
        cases f
        · go_wp2_with fail
          go_ret
          exact ⟨_, l, rfl, by omega, own_mono HR5.out.1 (by omega), HR5.out.2.more (by omega)⟩
        · go_wp2_with fail
          refine (next_any sb (b + 10) _ _ (by omega) (by omega) (by omega) HR5.out.2.1).mono ?_
          rintro e w5 ⟨x5, q0, q1, rfl, t5⟩
          obtain ⟨j, rfl⟩ := Int.eq_ofNat_of_zero_le q0
          have hj : j < l.length := by omega
          have hsz5 := t5.size
          have HR6 : Hid (BSt w.heap.size sb (b + 11) w (.slice (some ⟨g, 0, none⟩) l.length k3) l w5) := ⟨kept_own HR5.out.1 t5.2 (by omega), HR5.out.2.trans t5⟩
          clear t5 HR5
          have hg5 : g < w5.heap.size := by omega
          go_wp2_with fail
          have HI0 : Hid (RowI Bo.cells 146 3 sb (b + 11) g l.length k3 (w.heap.size + 1) 0 w5.drew) := ⟨HR6.out.2.1.drew, l, rfl, HR6.out.1⟩
          refine Rg.rgL (Kept2 sb g)
            [(fun vs u => vs 0 = .pointer (some ⟨g, j * 3, none⟩)), (fun vs u => vs 1 = .pointer (some ⟨g, j * 3, none⟩)), (fun vs u => vs 2 = .pointer (some ⟨g, j * 3, none⟩)), (fun vs u => vs 3 = .pointer (some ⟨sb, 0, none⟩)), (fun vs u => vs 4 = .pointer (some ⟨g, j * 3, none⟩)), (fun vs u => vs 5 = .pointer (some ⟨g, j * 3, none⟩)), (fun vs u => vs 6 = .pointer (some ⟨g, j * 3, none⟩)), (fun vs u => ∃ s : ByteArray, vs 7 = .string s), (fun vs u => StrSl w5.heap.size 3 (vs 8) u), (fun vs u => ∃ s : ByteArray, vs 9 = .string s), (fun vs u => vs 10 = .pointer (some ⟨sb, 0, none⟩)), (fun vs u => vs 11 = .pointer (some ⟨g, j * 3, none⟩)), (fun vs u => vs 12 = .pointer (some ⟨g, j * 3, none⟩)), (fun vs u => vs 13 = .pointer (some ⟨g, j * 3 + 1, none⟩)), (fun vs u => ∃ x : Int, vs 14 = .int .i64 x), (fun vs u => IntSl w5.heap.size 3 (vs 15) u), (fun vs u => ∃ x : Int, vs 16 = .int .i64 x), (fun vs u => vs 17 = .pointer (some ⟨sb, 0, none⟩)), (fun vs u => vs 18 = .pointer (some ⟨g, j * 3, none⟩)), (fun vs u => vs 19 = .pointer (some ⟨g, j * 3, none⟩)), (fun vs u => vs 20 = .pointer (some ⟨g, j * 3 + 2, none⟩)), (fun vs u => ∃ x : Int, vs 21 = .int .i64 x), (fun vs u => vs 22 = .pointer (some ⟨g, j * 3, none⟩)), (fun vs u => vs 23 = .pointer (some ⟨g, j * 3, none⟩)), (fun vs u => vs 24 = .pointer (some ⟨g, j * 3 + 2, none⟩)), (fun vs u => ∃ x : Int, vs 25 = .int .i64 x), (fun vs u => IntSl w5.heap.size 3 (vs 26) u), (fun vs u => ∃ x : Int, vs 27 = .int .i64 x), (fun vs u => vs 28 = .pointer (some ⟨g, j * 3, none⟩)), (fun vs u => vs 29 = .pointer (some ⟨g, j * 3, none⟩)), (fun _ _ => True), (fun vs u => vs 31 = .pointer (some ⟨g, j * 3, none⟩)), (fun vs u => vs 32 = .pointer (some ⟨g, j * 3 + 1, none⟩)), (fun _ _ => True)]
            [[], [], [], [], [], [4], [4, 5], [4, 5, 6], [4, 5, 6, 7], [3, 4, 5, 6, 7, 8], [], [], [11], [11, 12], [11, 12, 13], [11, 12, 13, 14], [3, 4, 5, 6, 7, 8, 9, 10, 11, 12, 13, 14, 15], [], [], [18], [18, 19], [18, 19, 20], [], [22], [22, 23], [22, 23, 24], [18, 19, 20, 21, 22, 23, 24, 25], [3, 4, 5, 6, 7, 8, 9, 10, 11, 12, 13, 14, 15, 16, 17, 18, 19, 20, 21, 22, 23, 24, 25, 26], [0, 3, 4, 5, 6, 7, 8, 9, 10, 11, 12, 13, 14, 15, 16, 17, 18, 19, 20, 21, 22, 23, 24, 25, 26, 27], [0, 3, 4, 5, 6, 7, 8, 9, 10, 11, 12, 13, 14, 15, 16, 17, 18, 19, 20, 21, 22, 23, 24, 25, 26, 27, 28], [0, 3, 4, 5, 6, 7, 8, 9, 10, 11, 12, 13, 14, 15, 16, 17, 18, 19, 20, 21, 22, 23, 24, 25, 26, 27, 28, 29], [0, 1, 3, 4, 5, 6, 7, 8, 9, 10, 11, 12, 13, 14, 15, 16, 17, 18, 19, 20, 21, 22, 23, 24, 25, 26, 27, 28, 29, 30], [0, 1, 3, 4, 5, 6, 7, 8, 9, 10, 11, 12, 13, 14, 15, 16, 17, 18, 19, 20, 21, 22, 23, 24, 25, 26, 27, 28, 29, 30, 31], [0, 1, 3, 4, 5, 6, 7, 8, 9, 10, 11, 12, 13, 14, 15, 16, 17, 18, 19, 20, 21, 22, 23, 24, 25, 26, 27, 28, 29, 30, 31, 32]] [some 41, some 42, some 43, some 44, some 45, some 46, some 47, some 48, some 49, some 50, some 51, some 52, some 53, some 54, some 55, some 56, some 57, some 58, some 59, some 60, some 61, some 62, some 63, some 64, some 65, some 66, some 67, some 68, some 69, some 70, none, some 71, some 72, none, some 73, some 74, none] [] (RowI Bo.cells 146 3 sb (b+11) g l.length k3 (w.heap.size+1)) [[], [], [], [], [], [4], [4, 5], [4, 5, 6], [4, 5, 6, 7], [3, 4, 5, 6, 7, 8], [], [], [11], [11, 12], [11, 12, 13], [11, 12, 13, 14], [3, 4, 5, 6, 7, 8, 9, 10, 11, 12, 13, 14, 15], [], [], [18], [18, 19], [18, 19, 20], [], [22], [22, 23], [22, 23, 24], [18, 19, 20, 21, 22, 23, 24, 25], [3, 4, 5, 6, 7, 8, 9, 10, 11, 12, 13, 14, 15, 16, 17, 18, 19, 20, 21, 22, 23, 24, 25, 26], [0, 3, 4, 5, 6, 7, 8, 9, 10, 11, 12, 13, 14, 15, 16, 17, 18, 19, 20, 21, 22, 23, 24, 25, 26, 27], [0, 3, 4, 5, 6, 7, 8, 9, 10, 11, 12, 13, 14, 15, 16, 17, 18, 19, 20, 21, 22, 23, 24, 25, 26, 27, 28], [0, 3, 4, 5, 6, 7, 8, 9, 10, 11, 12, 13, 14, 15, 16, 17, 18, 19, 20, 21, 22, 23, 24, 25, 26, 27, 28, 29], [0, 1, 3, 4, 5, 6, 7, 8, 9, 10, 11, 12, 13, 14, 15, 16, 17, 18, 19, 20, 21, 22, 23, 24, 25, 26, 27, 28, 29, 30], [0, 1, 3, 4, 5, 6, 7, 8, 9, 10, 11, 12, 13, 14, 15, 16, 17, 18, 19, 20, 21, 22, 23, 24, 25, 26, 27, 28, 29, 30, 31], [0, 1, 3, 4, 5, 6, 7, 8, 9, 10, 11, 12, 13, 14, 15, 16, 17, 18, 19, 20, 21, 22, 23, 24, 25, 26, 27, 28, 29, 30, 31, 32], [0, 1, 2, 3, 4, 5, 6, 7, 8, 9, 10, 11, 12, 13, 14, 15, 16, 17, 18, 19, 20, 21, 22, 23, 24, 25, 26, 27, 28, 29, 30, 31, 32, 33], [0, 1, 2, 3, 4, 5, 6, 7, 8, 9, 10, 11, 12, 13, 14, 15, 16, 17, 18, 19, 20, 21, 22, 23, 24, 25, 26, 27, 28, 29, 30, 31, 32, 33, 34], [0, 1, 2, 3, 4, 5, 6, 7, 8, 9, 10, 11, 12, 13, 14, 15, 16, 17, 18, 19, 20, 21, 22, 23, 24, 25, 26, 27, 28, 29, 30, 31, 32, 33, 34, 35]]
            (by kernel_rfl) (by decide) (by kernel_rfl) (by kernel_rfl) (by kernel_rfl) (by kernel_rfl) (by kernel_rfl) (fun _ => Kept2.same _ _ _) (fun _ _ _ h k => h.then_ k) (fun _ _ h => h.more) ?_ (HI0.out) ?_ ?_
          · intro t ht vs w w' h hE
            simp only [List.mem_cons, List.not_mem_nil, or_false] at ht
            rcases ht with rfl | rfl | rfl | rfl | rfl | rfl | rfl | rfl | rfl | rfl | rfl | rfl | rfl | rfl | rfl | rfl | rfl | rfl | rfl | rfl | rfl | rfl | rfl | rfl | rfl | rfl | rfl | rfl | rfl | rfl | rfl | rfl | rfl | rfl
            · exact h
            · exact h
            · exact h
            · exact h
            · exact h
            · exact h
            · exact h
            · exact h
            · exact h.kept2 hE (by omega) (by omega)
            · exact h
            · exact h
            · exact h
            · exact h
            · exact h
            · exact h
            · exact h.kept2 hE (by omega) (by omega)
            · exact h
            · exact h
            · exact h
            · exact h
            · exact h
            · exact h
            · exact h
            · exact h
            · exact h
            · exact h
            · exact h.kept2 hE (by omega) (by omega)
            · exact h
            · exact h
            · exact h
            · exact h
            · exact h
            · exact h
            · exact h
          ·
            refine Rg.cons 0 1 rfl (Rg.plain rfl ?_) ?_
            · intro vs W n hn hI hG hT hF K hK
              simp only [Rg.putsD, List.getD_cons_zero, List.getD_cons_succ, Act.put, List.setIfInBounds_toArray, List.set_cons_zero, List.set_cons_succ] at hK ⊢
              have hn1 : n < 37 := hn
              clear hn
              clear hF
              have H := Lib.hid hK
              clear hK hT
              go_simp
              exact H.out _ _ (Kept2.same _ _ _) rfl (fun h => by cases h) hI.step
            refine Rg.cons 1 2 rfl (Rg.plain rfl ?_) ?_
            · intro vs W n hn hI hG hT hF K hK
              simp only [Rg.putsD, List.getD_cons_zero, List.getD_cons_succ, Act.put, List.setIfInBounds_toArray, List.set_cons_zero, List.set_cons_succ] at hK ⊢
              have hn1 : n < 37 := hn
              clear hn
              clear hF
              have H := Lib.hid hK
              clear hK hT
              go_simp
              exact H.out _ _ (Kept2.same _ _ _) rfl (fun h => by cases h) hI.step
            refine Rg.cons 2 3 rfl (Rg.plain rfl ?_) ?_
            · intro vs W n hn hI hG hT hF K hK
              simp only [Rg.putsD, List.getD_cons_zero, List.getD_cons_succ, Act.put, List.setIfInBounds_toArray, List.set_cons_zero, List.set_cons_succ] at hK ⊢
              have hn1 : n < 37 := hn
              clear hn
              clear hF
              have H := Lib.hid hK
              clear hK hT
              go_simp
              exact H.out _ _ (Kept2.same _ _ _) rfl (fun h => by cases h) hI.step
            refine Rg.cons 3 4 rfl (Rg.plain rfl ?_) ?_
            · intro vs W n hn hI hG hT hF K hK
              simp only [Rg.putsD, List.getD_cons_zero, List.getD_cons_succ, Act.put, List.setIfInBounds_toArray, List.set_cons_zero, List.set_cons_succ] at hK ⊢
              have hn1 : n < 37 := hn
              clear hn
              clear hF
              have H := Lib.hid hK
              clear hK hT
              go_simp
              exact H.out _ _ (Kept2.same _ _ _) rfl (fun h => by cases h) hI.step
            refine Rg.cons 4 5 rfl (Rg.plain rfl ?_) ?_
            · intro vs W n hn hI hG hT hF K hK
              simp only [Rg.putsD, List.getD_cons_zero, List.getD_cons_succ, Act.put, List.setIfInBounds_toArray, List.set_cons_zero, List.set_cons_succ] at hK ⊢
              have hn1 : n < 37 := hn
              clear hn
              clear hF
              have H := Lib.hid hK
              clear hK hT
              go_simp
              exact H.out _ _ (Kept2.same _ _ _) rfl (fun h => by cases h) hI.step
            refine Rg.cons 5 6 rfl (Rg.plain rfl ?_) ?_
            · intro vs W n hn hI hG hT hF K hK
              simp only [Rg.putsD, List.getD_cons_zero, List.getD_cons_succ, Act.put, List.setIfInBounds_toArray, List.set_cons_zero, List.set_cons_succ] at hK ⊢
              have hn1 : n < 37 := hn
              clear hn
              clear hF
              have t4 : vs 4 = .pointer (some ⟨g, j * 3, none⟩) := hT 4 (by decide)
              simp only [t4] at hK
              have H := Lib.hid hK
              clear hK hT
              go_simp
              exact H.out _ _ (Kept2.same _ _ _) rfl (fun h => by cases h) hI.step
            refine Rg.cons 6 7 rfl (Rg.plain rfl ?_) ?_
            · intro vs W n hn hI hG hT hF K hK
              simp only [Rg.putsD, List.getD_cons_zero, List.getD_cons_succ, Act.put, List.setIfInBounds_toArray, List.set_cons_zero, List.set_cons_succ] at hK ⊢
              have hn1 : n < 37 := hn
              clear hn
              clear hF
              have t5 : vs 5 = .pointer (some ⟨g, j * 3, none⟩) := hT 5 (by decide)
              simp only [t5] at hK
              have H := Lib.hid hK
              clear hK hT
              go_simp
              exact H.out _ _ (Kept2.same _ _ _) rfl (fun h => by cases h) hI.step
            refine Rg.cons 7 8 rfl (Rg.plain rfl ?_) ?_
            · intro vs W n hn hI hG hT hF K hK
              simp only [Rg.putsD, List.getD_cons_zero, List.getD_cons_succ, Act.put, List.setIfInBounds_toArray, List.set_cons_zero, List.set_cons_succ] at hK ⊢
              have hn1 : n < 37 := hn
              clear hn
              clear hF
              have t6 : vs 6 = .pointer (some ⟨g, j * 3, none⟩) := hT 6 (by decide)
              obtain ⟨z1, z2, z3, c0, c1, c2⟩ := bo_row hI rfl hj
              simp only [t6] at hK
              have H := Lib.hid hK
              clear hK hT
              go_simp
              exact H.out _ _ (Kept2.same _ _ _) ⟨_, rfl⟩ (fun h => by cases h) hI.step
            refine Rg.cons 8 9 rfl (Rg.plain rfl ?_) ?_
            · intro vs W n hn hI hG hT hF K hK
              simp only [Rg.putsD, List.getD_cons_zero, List.getD_cons_succ, Act.put, List.setIfInBounds_toArray, List.set_cons_zero, List.set_cons_succ] at hK ⊢
              have hn1 : n < 37 := hn
              clear hn
              clear hF
              have t7 : ∃ s : ByteArray, vs 7 = .string s := hT 7 (by decide)
              obtain ⟨s7, e7⟩ := t7
              simp only [e7] at hK
              have H := Lib.hid hK
              clear hK hT
              go_simp
              exact H.out _ _ (Kept2.alloc _) (StrSl.new [s7, ⟨#[]⟩, ⟨#[99, 97, 112]⟩] rfl hG.more) (fun h => by cases h) (hI.alloc _)
            refine Rg.cons 9 10 rfl (Rg.plain rfl ?_) ?_
            · intro vs W n hn hI hG hT hF K hK
              simp only [Rg.putsD, List.getD_cons_zero, List.getD_cons_succ, Act.put, List.setIfInBounds_toArray, List.set_cons_zero, List.set_cons_succ] at hK ⊢
              have hn1 : n < 37 := hn
              clear hn
              clear hF
              have t3 : vs 3 = .pointer (some ⟨sb, 0, none⟩) := hT 3 (by decide)
              have t8 : StrSl w5.heap.size 3 (vs 8) W := hT 8 (by decide)
              obtain ⟨b8, xs8, n8, c8, e8, k8⟩ := t8
              have N8 := Lib.hid (And.intro n8 k8)
              clear n8 k8
              simp only [e8] at hK
              simp only [t3] at hK
              have H := Lib.hid hK
              clear hK hT
              go_simp
              refine (some_blk N8.out.2 N8.out.1 (by decide) (by decide) (by omega) (by omega) hI.1).mono ?_
              rintro e w1 ⟨x, _, rfl, ht⟩
              exact H.out _ _ (.of_took ht) ⟨_, rfl⟩ (fun h => by cases h) (hI.took ht (by omega))
            refine Rg.cons 10 11 rfl (Rg.plain rfl ?_) ?_
            · intro vs W n hn hI hG hT hF K hK
              simp only [Rg.putsD, List.getD_cons_zero, List.getD_cons_succ, Act.put, List.setIfInBounds_toArray, List.set_cons_zero, List.set_cons_succ] at hK ⊢
              have hn1 : n < 37 := hn
              clear hn
              clear hF
              have H := Lib.hid hK
              clear hK hT
              go_simp
              exact H.out _ _ (Kept2.same _ _ _) rfl (fun h => by cases h) hI.step
            refine Rg.cons 11 12 rfl (Rg.plain rfl ?_) ?_
            · intro vs W n hn hI hG hT hF K hK
              simp only [Rg.putsD, List.getD_cons_zero, List.getD_cons_succ, Act.put, List.setIfInBounds_toArray, List.set_cons_zero, List.set_cons_succ] at hK ⊢
              have hn1 : n < 37 := hn
              clear hn
              clear hF
              have H := Lib.hid hK
              clear hK hT
              go_simp
              exact H.out _ _ (Kept2.same _ _ _) rfl (fun h => by cases h) hI.step
            refine Rg.cons 12 13 rfl (Rg.plain rfl ?_) ?_
            · intro vs W n hn hI hG hT hF K hK
              simp only [Rg.putsD, List.getD_cons_zero, List.getD_cons_succ, Act.put, List.setIfInBounds_toArray, List.set_cons_zero, List.set_cons_succ] at hK ⊢
              have hn1 : n < 37 := hn
              clear hn
              clear hF
              have t11 : vs 11 = .pointer (some ⟨g, j * 3, none⟩) := hT 11 (by decide)
              simp only [t11] at hK
              have H := Lib.hid hK
              clear hK hT
              go_simp
              exact H.out _ _ (Kept2.same _ _ _) rfl (fun h => by cases h) hI.step
            refine Rg.cons 13 14 rfl (Rg.plain rfl ?_) ?_
            · intro vs W n hn hI hG hT hF K hK
              simp only [Rg.putsD, List.getD_cons_zero, List.getD_cons_succ, Act.put, List.setIfInBounds_toArray, List.set_cons_zero, List.set_cons_succ] at hK ⊢
              have hn1 : n < 37 := hn
              clear hn
              clear hF
              have t12 : vs 12 = .pointer (some ⟨g, j * 3, none⟩) := hT 12 (by decide)
              simp only [t12] at hK
              have H := Lib.hid hK
              clear hK hT
              go_simp
              exact H.out _ _ (Kept2.same _ _ _) rfl (fun h => by cases h) hI.step
            refine Rg.cons 14 15 rfl (Rg.plain rfl ?_) ?_
            · intro vs W n hn hI hG hT hF K hK
              simp only [Rg.putsD, List.getD_cons_zero, List.getD_cons_succ, Act.put, List.setIfInBounds_toArray, List.set_cons_zero, List.set_cons_succ] at hK ⊢
              have hn1 : n < 37 := hn
              clear hn
              clear hF
              have t13 : vs 13 = .pointer (some ⟨g, j * 3 + 1, none⟩) := hT 13 (by decide)
              obtain ⟨z1, z2, z3, c0, c1, c2⟩ := bo_row hI rfl hj
              simp only [t13] at hK
              have H := Lib.hid hK
              clear hK hT
              go_simp
              exact H.out _ _ (Kept2.same _ _ _) ⟨_, rfl⟩ (fun h => by cases h) hI.step
            refine Rg.cons 15 16 rfl (Rg.plain rfl ?_) ?_
            · intro vs W n hn hI hG hT hF K hK
              simp only [Rg.putsD, List.getD_cons_zero, List.getD_cons_succ, Act.put, List.setIfInBounds_toArray, List.set_cons_zero, List.set_cons_succ] at hK ⊢
              have hn1 : n < 37 := hn
              clear hn
              clear hF
              have t14 : ∃ x : Int, vs 14 = .int .i64 x := hT 14 (by decide)
              obtain ⟨x14, e14⟩ := t14
              simp only [e14] at hK
              have H := Lib.hid hK
              clear hK hT
              go_simp
              exact H.out _ _ (Kept2.alloc _) (IntSl.new [x14, 0, 500001] rfl hG.more) (fun h => by cases h) (hI.alloc _)
            refine Rg.cons 16 17 rfl (Rg.plain rfl ?_) ?_
            · intro vs W n hn hI hG hT hF K hK
              simp only [Rg.putsD, List.getD_cons_zero, List.getD_cons_succ, Act.put, List.setIfInBounds_toArray, List.set_cons_zero, List.set_cons_succ] at hK ⊢
              have hn1 : n < 37 := hn
              clear hn
              clear hF
              have t10 : vs 10 = .pointer (some ⟨sb, 0, none⟩) := hT 10 (by decide)
              have t15 : IntSl w5.heap.size 3 (vs 15) W := hT 15 (by decide)
              obtain ⟨b15, xs15, n15, c15, e15, k15⟩ := t15
              have N15 := Lib.hid (And.intro n15 k15)
              clear n15 k15
              simp only [e15] at hK
              simp only [t10] at hK
              have H := Lib.hid hK
              clear hK hT
              go_simp
              refine (pick_blk N15.out.2 N15.out.1 (by decide) (by decide) (by omega) (by omega) hI.1).mono ?_
              rintro e w1 ⟨x, _, rfl, ht⟩
              exact H.out _ _ (.of_took ht) ⟨_, rfl⟩ (fun h => by cases h) (hI.took ht (by omega))
            refine Rg.cons 17 18 rfl (Rg.plain rfl ?_) ?_
            · intro vs W n hn hI hG hT hF K hK
              simp only [Rg.putsD, List.getD_cons_zero, List.getD_cons_succ, Act.put, List.setIfInBounds_toArray, List.set_cons_zero, List.set_cons_succ] at hK ⊢
              have hn1 : n < 37 := hn
              clear hn
              clear hF
              have H := Lib.hid hK
              clear hK hT
              go_simp
              exact H.out _ _ (Kept2.same _ _ _) rfl (fun h => by cases h) hI.step
            refine Rg.cons 18 19 rfl (Rg.plain rfl ?_) ?_
            · intro vs W n hn hI hG hT hF K hK
              simp only [Rg.putsD, List.getD_cons_zero, List.getD_cons_succ, Act.put, List.setIfInBounds_toArray, List.set_cons_zero, List.set_cons_succ] at hK ⊢
              have hn1 : n < 37 := hn
              clear hn
              clear hF
              have H := Lib.hid hK
              clear hK hT
              go_simp
              exact H.out _ _ (Kept2.same _ _ _) rfl (fun h => by cases h) hI.step
            refine Rg.cons 19 20 rfl (Rg.plain rfl ?_) ?_
            · intro vs W n hn hI hG hT hF K hK
              simp only [Rg.putsD, List.getD_cons_zero, List.getD_cons_succ, Act.put, List.setIfInBounds_toArray, List.set_cons_zero, List.set_cons_succ] at hK ⊢
              have hn1 : n < 37 := hn
              clear hn
              clear hF
              have t18 : vs 18 = .pointer (some ⟨g, j * 3, none⟩) := hT 18 (by decide)
              simp only [t18] at hK
              have H := Lib.hid hK
              clear hK hT
              go_simp
              exact H.out _ _ (Kept2.same _ _ _) rfl (fun h => by cases h) hI.step
            refine Rg.cons 20 21 rfl (Rg.plain rfl ?_) ?_
            · intro vs W n hn hI hG hT hF K hK
              simp only [Rg.putsD, List.getD_cons_zero, List.getD_cons_succ, Act.put, List.setIfInBounds_toArray, List.set_cons_zero, List.set_cons_succ] at hK ⊢
              have hn1 : n < 37 := hn
              clear hn
              clear hF
              have t19 : vs 19 = .pointer (some ⟨g, j * 3, none⟩) := hT 19 (by decide)
              simp only [t19] at hK
              have H := Lib.hid hK
              clear hK hT
              go_simp
              exact H.out _ _ (Kept2.same _ _ _) rfl (fun h => by cases h) hI.step
            refine Rg.cons 21 22 rfl (Rg.plain rfl ?_) ?_
            · intro vs W n hn hI hG hT hF K hK
              simp only [Rg.putsD, List.getD_cons_zero, List.getD_cons_succ, Act.put, List.setIfInBounds_toArray, List.set_cons_zero, List.set_cons_succ] at hK ⊢
              have hn1 : n < 37 := hn
              clear hn
              clear hF
              have t20 : vs 20 = .pointer (some ⟨g, j * 3 + 2, none⟩) := hT 20 (by decide)
              obtain ⟨z1, z2, z3, c0, c1, c2⟩ := bo_row hI rfl hj
              simp only [t20] at hK
              have H := Lib.hid hK
              clear hK hT
              go_simp
              exact H.out _ _ (Kept2.same _ _ _) ⟨_, rfl⟩ (fun h => by cases h) hI.step
            refine Rg.cons 22 23 rfl (Rg.plain rfl ?_) ?_
            · intro vs W n hn hI hG hT hF K hK
              simp only [Rg.putsD, List.getD_cons_zero, List.getD_cons_succ, Act.put, List.setIfInBounds_toArray, List.set_cons_zero, List.set_cons_succ] at hK ⊢
              have hn1 : n < 37 := hn
              clear hn
              clear hF
              have H := Lib.hid hK
              clear hK hT
              go_simp
              exact H.out _ _ (Kept2.same _ _ _) rfl (fun h => by cases h) hI.step
            refine Rg.cons 23 24 rfl (Rg.plain rfl ?_) ?_
            · intro vs W n hn hI hG hT hF K hK
              simp only [Rg.putsD, List.getD_cons_zero, List.getD_cons_succ, Act.put, List.setIfInBounds_toArray, List.set_cons_zero, List.set_cons_succ] at hK ⊢
              have hn1 : n < 37 := hn
              clear hn
              clear hF
              have t22 : vs 22 = .pointer (some ⟨g, j * 3, none⟩) := hT 22 (by decide)
              simp only [t22] at hK
              have H := Lib.hid hK
              clear hK hT
              go_simp
              exact H.out _ _ (Kept2.same _ _ _) rfl (fun h => by cases h) hI.step
            refine Rg.cons 24 25 rfl (Rg.plain rfl ?_) ?_
            · intro vs W n hn hI hG hT hF K hK
              simp only [Rg.putsD, List.getD_cons_zero, List.getD_cons_succ, Act.put, List.setIfInBounds_toArray, List.set_cons_zero, List.set_cons_succ] at hK ⊢
              have hn1 : n < 37 := hn
              clear hn
              clear hF
              have t23 : vs 23 = .pointer (some ⟨g, j * 3, none⟩) := hT 23 (by decide)
              simp only [t23] at hK
              have H := Lib.hid hK
              clear hK hT
              go_simp
              exact H.out _ _ (Kept2.same _ _ _) rfl (fun h => by cases h) hI.step
            refine Rg.cons 25 26 rfl (Rg.plain rfl ?_) ?_
            · intro vs W n hn hI hG hT hF K hK
              simp only [Rg.putsD, List.getD_cons_zero, List.getD_cons_succ, Act.put, List.setIfInBounds_toArray, List.set_cons_zero, List.set_cons_succ] at hK ⊢
              have hn1 : n < 37 := hn
              clear hn
              clear hF
              have t24 : vs 24 = .pointer (some ⟨g, j * 3 + 2, none⟩) := hT 24 (by decide)
              obtain ⟨z1, z2, z3, c0, c1, c2⟩ := bo_row hI rfl hj
              simp only [t24] at hK
              have H := Lib.hid hK
              clear hK hT
              go_simp
              exact H.out _ _ (Kept2.same _ _ _) ⟨_, rfl⟩ (fun h => by cases h) hI.step
            refine Rg.cons 26 27 rfl (Rg.plain rfl ?_) ?_
            · intro vs W n hn hI hG hT hF K hK
              simp only [Rg.putsD, List.getD_cons_zero, List.getD_cons_succ, Act.put, List.setIfInBounds_toArray, List.set_cons_zero, List.set_cons_succ] at hK ⊢
              have hn1 : n < 37 := hn
              clear hn
              clear hF
              have t21 : ∃ x : Int, vs 21 = .int .i64 x := hT 21 (by decide)
              have t25 : ∃ x : Int, vs 25 = .int .i64 x := hT 25 (by decide)
              obtain ⟨x21, e21⟩ := t21
              simp only [e21] at hK
              obtain ⟨x25, e25⟩ := t25
              simp only [e25] at hK
              have H := Lib.hid hK
              clear hK hT
              go_simp
              exact H.out _ _ (Kept2.alloc _) (IntSl.new [x21, x25, (-1)] rfl hG.more) (fun h => by cases h) (hI.alloc _)
            refine Rg.cons 27 28 rfl (Rg.plain rfl ?_) ?_
            · intro vs W n hn hI hG hT hF K hK
              simp only [Rg.putsD, List.getD_cons_zero, List.getD_cons_succ, Act.put, List.setIfInBounds_toArray, List.set_cons_zero, List.set_cons_succ] at hK ⊢
              have hn1 : n < 37 := hn
              clear hn
              clear hF
              have t17 : vs 17 = .pointer (some ⟨sb, 0, none⟩) := hT 17 (by decide)
              have t26 : IntSl w5.heap.size 3 (vs 26) W := hT 26 (by decide)
              obtain ⟨b26, xs26, n26, c26, e26, k26⟩ := t26
              have N26 := Lib.hid (And.intro n26 k26)
              clear n26 k26
              simp only [e26] at hK
              simp only [t17] at hK
              have H := Lib.hid hK
              clear hK hT
              go_simp
              refine (pick_blk N26.out.2 N26.out.1 (by decide) (by decide) (by omega) (by omega) hI.1).mono ?_
              rintro e w1 ⟨x, _, rfl, ht⟩
              exact H.out _ _ (.of_took ht) ⟨_, rfl⟩ (fun h => by cases h) (hI.took ht (by omega))
            refine Rg.cons 28 29 rfl (Rg.plain rfl ?_) ?_
            · intro vs W n hn hI hG hT hF K hK
              simp only [Rg.putsD, List.getD_cons_zero, List.getD_cons_succ, Act.put, List.setIfInBounds_toArray, List.set_cons_zero, List.set_cons_succ] at hK ⊢
              have hn1 : n < 37 := hn
              clear hn
              clear hF
              have t0 : vs 0 = .pointer (some ⟨g, j * 3, none⟩) := hT 0 (by decide)
              simp only [t0] at hK
              have H := Lib.hid hK
              clear hK hT
              go_simp
              exact H.out _ _ (Kept2.same _ _ _) rfl (fun h => by cases h) hI.step
            refine Rg.cons 29 30 rfl (Rg.plain rfl ?_) ?_
            · intro vs W n hn hI hG hT hF K hK
              simp only [Rg.putsD, List.getD_cons_zero, List.getD_cons_succ, Act.put, List.setIfInBounds_toArray, List.set_cons_zero, List.set_cons_succ] at hK ⊢
              have hn1 : n < 37 := hn
              clear hn
              clear hF
              have t28 : vs 28 = .pointer (some ⟨g, j * 3, none⟩) := hT 28 (by decide)
              simp only [t28] at hK
              have H := Lib.hid hK
              clear hK hT
              go_simp
              exact H.out _ _ (Kept2.same _ _ _) rfl (fun h => by cases h) hI.step
            refine Rg.cons 30 31 rfl (Rg.plain rfl ?_) ?_
            · intro vs W n hn hI hG hT hF K hK
              simp only [Rg.putsD, List.getD_cons_zero, List.getD_cons_succ, Act.put, List.setIfInBounds_toArray, List.set_cons_zero, List.set_cons_succ] at hK ⊢
              have hn1 : n < 37 := hn
              clear hn
              clear hF
              have t29 : vs 29 = .pointer (some ⟨g, j * 3, none⟩) := hT 29 (by decide)
              have t9 : ∃ s : ByteArray, vs 9 = .string s := hT 9 (by decide)
              obtain ⟨s9, e9⟩ := t9
              simp only [e9] at hK
              obtain ⟨z1, z2, z3, c0, c1, c2⟩ := bo_row hI rfl hj
              have fz := hI.frozen (j * 3)
              simp only [t29] at hK
              have H := Lib.hid hK
              clear hK hT
              go_simp
              exact H.out (.bool true) _ ((Kept2.same sb g W).store (p := ⟨g, _, none⟩) rfl _) trivial (fun h => by cases h) (hI.store (j := 0) bo_typ hj (by decide) _ (by omega) (bo_str0 _))
            refine Rg.cons 31 32 rfl (Rg.plain rfl ?_) ?_
            · intro vs W n hn hI hG hT hF K hK
              simp only [Rg.putsD, List.getD_cons_zero, List.getD_cons_succ, Act.put, List.setIfInBounds_toArray, List.set_cons_zero, List.set_cons_succ] at hK ⊢
              have hn1 : n < 37 := hn
              clear hn
              clear hF
              have t1 : vs 1 = .pointer (some ⟨g, j * 3, none⟩) := hT 1 (by decide)
              simp only [t1] at hK
              have H := Lib.hid hK
              clear hK hT
              go_simp
              exact H.out _ _ (Kept2.same _ _ _) rfl (fun h => by cases h) hI.step
            refine Rg.cons 32 33 rfl (Rg.plain rfl ?_) ?_
            · intro vs W n hn hI hG hT hF K hK
              simp only [Rg.putsD, List.getD_cons_zero, List.getD_cons_succ, Act.put, List.setIfInBounds_toArray, List.set_cons_zero, List.set_cons_succ] at hK ⊢
              have hn1 : n < 37 := hn
              clear hn
              clear hF
              have t31 : vs 31 = .pointer (some ⟨g, j * 3, none⟩) := hT 31 (by decide)
              simp only [t31] at hK
              have H := Lib.hid hK
              clear hK hT
              go_simp
              exact H.out _ _ (Kept2.same _ _ _) rfl (fun h => by cases h) hI.step
            refine Rg.cons 33 34 rfl (Rg.plain rfl ?_) ?_
            · intro vs W n hn hI hG hT hF K hK
              simp only [Rg.putsD, List.getD_cons_zero, List.getD_cons_succ, Act.put, List.setIfInBounds_toArray, List.set_cons_zero, List.set_cons_succ] at hK ⊢
              have hn1 : n < 37 := hn
              clear hn
              clear hF
              have t32 : vs 32 = .pointer (some ⟨g, j * 3 + 1, none⟩) := hT 32 (by decide)
              have t16 : ∃ x : Int, vs 16 = .int .i64 x := hT 16 (by decide)
              obtain ⟨x16, e16⟩ := t16
              simp only [e16] at hK
              obtain ⟨z1, z2, z3, c0, c1, c2⟩ := bo_row hI rfl hj
              have fz := hI.frozen (j * 3 + 1)
              simp only [t32] at hK
              have H := Lib.hid hK
              clear hK hT
              go_simp
              exact H.out (.bool true) _ ((Kept2.same sb g W).store (p := ⟨g, _, none⟩) rfl _) trivial (fun h => by cases h) (hI.store (j := 1) bo_typ hj (by decide) _ (by omega) (bo_int1 _))
            exact Rg.nil
          · intro vs W hG hI hT hF
            have t0 : vs 0 = .pointer (some ⟨g, j * 3, none⟩) := hT 0 (by decide)
            have t1 : vs 1 = .pointer (some ⟨g, j * 3, none⟩) := hT 1 (by decide)
            have t2 : vs 2 = .pointer (some ⟨g, j * 3, none⟩) := hT 2 (by decide)
            have t3 : vs 3 = .pointer (some ⟨sb, 0, none⟩) := hT 3 (by decide)
            have t4 : vs 4 = .pointer (some ⟨g, j * 3, none⟩) := hT 4 (by decide)
            have t5 : vs 5 = .pointer (some ⟨g, j * 3, none⟩) := hT 5 (by decide)
            have t6 : vs 6 = .pointer (some ⟨g, j * 3, none⟩) := hT 6 (by decide)
            have t7 : ∃ s : ByteArray, vs 7 = .string s := hT 7 (by decide)
            have t8 : StrSl w5.heap.size 3 (vs 8) W := hT 8 (by decide)
            have t9 : ∃ s : ByteArray, vs 9 = .string s := hT 9 (by decide)
            have t10 : vs 10 = .pointer (some ⟨sb, 0, none⟩) := hT 10 (by decide)
            have t11 : vs 11 = .pointer (some ⟨g, j * 3, none⟩) := hT 11 (by decide)
            have t12 : vs 12 = .pointer (some ⟨g, j * 3, none⟩) := hT 12 (by decide)
            have t13 : vs 13 = .pointer (some ⟨g, j * 3 + 1, none⟩) := hT 13 (by decide)
            have t14 : ∃ x : Int, vs 14 = .int .i64 x := hT 14 (by decide)
            have t15 : IntSl w5.heap.size 3 (vs 15) W := hT 15 (by decide)
            have t16 : ∃ x : Int, vs 16 = .int .i64 x := hT 16 (by decide)
            have t17 : vs 17 = .pointer (some ⟨sb, 0, none⟩) := hT 17 (by decide)
            have t18 : vs 18 = .pointer (some ⟨g, j * 3, none⟩) := hT 18 (by decide)
            have t19 : vs 19 = .pointer (some ⟨g, j * 3, none⟩) := hT 19 (by decide)
            have t20 : vs 20 = .pointer (some ⟨g, j * 3 + 2, none⟩) := hT 20 (by decide)
            have t21 : ∃ x : Int, vs 21 = .int .i64 x := hT 21 (by decide)
            have t22 : vs 22 = .pointer (some ⟨g, j * 3, none⟩) := hT 22 (by decide)
            have t23 : vs 23 = .pointer (some ⟨g, j * 3, none⟩) := hT 23 (by decide)
            have t24 : vs 24 = .pointer (some ⟨g, j * 3 + 2, none⟩) := hT 24 (by decide)
            have t25 : ∃ x : Int, vs 25 = .int .i64 x := hT 25 (by decide)
            have t26 : IntSl w5.heap.size 3 (vs 26) W := hT 26 (by decide)
            have t27 : ∃ x : Int, vs 27 = .int .i64 x := hT 27 (by decide)
            have t28 : vs 28 = .pointer (some ⟨g, j * 3, none⟩) := hT 28 (by decide)
            have t29 : vs 29 = .pointer (some ⟨g, j * 3, none⟩) := hT 29 (by decide)
            have t31 : vs 31 = .pointer (some ⟨g, j * 3, none⟩) := hT 31 (by decide)
            have t32 : vs 32 = .pointer (some ⟨g, j * 3 + 1, none⟩) := hT 32 (by decide)
            simp only [List.length_cons, List.length_nil, Nat.reduceAdd, List.range, List.range.loop, List.drop_succ_cons, List.drop_zero, Rg.putsD, List.getD_cons_zero, List.getD_cons_succ, Act.put, List.setIfInBounds_toArray, List.set_cons_zero, List.set_cons_succ, t0, t1, t2, t3, t4, t5, t6, t10, t11, t12, t13, t17, t18, t19, t20, t22, t23, t24, t28, t29, t31, t32]
            clear hT t0 t1 t2 t3 t4 t5 t6 t10 t11 t12 t13 t17 t18 t19 t20 t22 t23 t24 t28 t29 t31 t32
            obtain ⟨x27, e27⟩ := t27
            have hIv : RowI Bo.cells 146 3 sb (b + 11) g l.length k3 (w.heap.size + 1) 34 W := hI
            obtain ⟨z1, z2, z3, c0, c1, c2⟩ := bo_row hIv rfl hj
            have fz := hIv.frozen (j * 3 + 2)
            have hst := hIv.store bo_typ hj (j := 2) (by decide) (.int .i64 x27) (by omega) (bo_int2 x27)
            have HW2 := Lib.hid (And.intro hst (kept_of2 HR6.out.2.drew.2 hG (by omega)))
            have E27 := Lib.hid e27
            clear hst hI hIv hG hF e27 HR6 HI0 t8 t9 t7 t14 t15 t16 t21 t25 t26
            simp only [E27.out]
            go_wp2_with fail
            go_ret
            obtain ⟨hs2, l2, hl2, ho2⟩ := HW2.out.1
            exact ⟨_, l2, rfl, by omega, by rw [hl2]; exact own_mono ho2 (by omega), hs2.more (by omega), HW2.out.2.store (.inr (by simp; omega)) _⟩
end Go.Proofs.Ytiehkcbjfamnkaa
