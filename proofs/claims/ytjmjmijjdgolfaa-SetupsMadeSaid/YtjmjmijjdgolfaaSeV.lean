/-
  The maker of a setup.
-/
import Derived.Test.YtjmjmijjdgolfaaSeU
namespace Go.Proofs.Ytjmjmijjdgolfaa
open Go.RowKit
set_option linter.unusedSimpArgs false
set_option linter.unusedVariables false

abbrev eS : ByteArray := ⟨#[]⟩
theorem run_makeStrs (n : Nat) (hn : n ≤ 1000000) (W : World) : (Instr.makeSlice 51 (.int .i64 n) (.int .i64 n)).run Try.prog W = .ok (.slice (some ⟨W.heap.size, 0, none⟩) n n) (W.alloc (.cells (Array.replicate n (.string eS)) 9)) := by
  obtain ⟨i0, hi, hz0, hz1, hz2⟩ := info_parts str_info9
  have h := run_make (P := Try.prog) W 51 9 i0 (.string eS) Try.underlying51 hi hz0 .i64 .i64 n n (by omega) (by omega) (by rw [hz2]; omega) (by omega)
  rw [h, hz1]
  have e : madeCells (Value.string eS).cells ((n : Int).toNat * 1) = Array.replicate n (.string eS) := by
    apply Array.ext
    · simp [madeCells]
    · intro j h1 h2
      simp [madeCells, Value.cells, Nat.mod_one]
  rw [e]
  simp

set_option maxRecDepth 100000 in
set_option maxHeartbeats 2000000 in
theorem repeat_any (gx c : Nat) (h1 : 1 ≤ c) (h2 : c ≤ 1000) {w : World} (hx : w.heap[gx]? = some (.cells #[.string eS] 9 (0, 0))) :
    Calls Try.prog 70 #[.slice (some ⟨gx, 0, none⟩) 1 1, .int .i64 c] w fun e w' => ∃ g : Nat, e = .returned (.slice (some ⟨g, 0, none⟩) c c) ∧ Below w.heap.size w w' ∧ w.heap.size ≤ g ∧ w'.heap[g]? = some (.cells (Array.replicate c (.string eS)) 9 (0, 0)) := by
  have CM := Lib.hid (fun W => Try.bits_Mul 1 c (by omega) (by omega) W)
  have e1 : (1 * c / 18446744073709551616 : Nat) = 0 := by omega
  have e2 : (1 * c % 18446744073709551616 : Nat) = c := by omega
  rw [e1, e2] at CM
  have hmk := run_makeStrs c (by omega)
  have HX := Lib.hid hx
  have q0 := blk_cell0 hx
  have hgx := lt_of_blk hx
  clear e1 e2 hx
  go_enter Try.func70, Try.ntmps70
  go_wp2_with fail
  refine (CM.out _).mono ?_
  rintro e w' ⟨rfl, rfl⟩
  clear CM
  go_wp2_with fail
  have hg0 : (w'.alloc (.cells (Array.replicate c (.string eS)) 9)).heap[w'.heap.size]? = some (.cells (Array.replicate c (.string eS)) 9 (0, 0)) := blk_new w' _ rfl
  have hrun := run_copy_same (w := w'.alloc (.cells (Array.replicate c (.string eS)) 9)) 3 w'.heap.size 0 c c gx 0 1 1 c 1 (.string eS) hg0 (Nat.min_eq_left h1).symm (fun j hj => by
    obtain rfl : j = 0 := by omega
    exact blk_cell0 (blk_alloc HX.out _)) (by omega) rfl
  rw [hrun]
  clear hrun
  have H0 : Hid (Below w'.heap.size w' (w'.alloc (.cells (Array.replicate c (.string eS)) 9)) ∧ (w'.alloc (.cells (Array.replicate c (.string eS)) 9)).heap[w'.heap.size]? = some (.cells (Array.replicate c (.string eS)) 9 (0, 0))) := ⟨(Below.refl _ _).alloc (Nat.le_refl _) _, hg0⟩
  clear hg0
  obtain ⟨g, hg⟩ : ∃ g, w'.heap.size = g := ⟨_, rfl⟩
  have HG := Lib.hid hg
  clear hg
  go_wp2_with fail
  go_loopw [8] (fun nv wr => ∃ z : Nat, 1 ≤ z ∧ z ≤ c ∧ nv = .int .i64 z ∧ Hid (Below w'.heap.size w' wr ∧ wr.heap[w'.heap.size]? = some (.cells (Array.replicate c (.string eS)) 9 (0, 0)))) (fun nv _ => c - (intOf nv).toNat)
  case atStart => exact ⟨1, by omega, by omega, rfl, H0⟩
  case round =>
    clear H0
    obtain ⟨z, hz1, hz2, rfl, HS⟩ := hrel
    by_cases hlt : z < c
    · have hgl : w'.heap.size < wr.heap.size := lt_of_blk HS.out.2
      have hcz : ¬ c = z := by omega
      obtain ⟨m, HMm, hm1, hm2, hm3⟩ : ∃ m, Hid (m = Nat.min z (c - z)) ∧ m ≤ c - z ∧ m ≤ z ∧ 1 ≤ m := by
        refine ⟨Nat.min z (c - z), rfl, Nat.min_le_right _ _, Nat.min_le_left _ _, ?_⟩
        show 1 ≤ min z (c - z)
        rw [Nat.min_def]
        split <;> omega
      obtain ⟨W0, rfl⟩ : ∃ W0 : World, W0 = wr := ⟨_, rfl⟩
      go_wp2_with fail
      refine Rg.rgL (fun a b => Below a.heap.size a b)
        [(fun vs u => vs 0 = .int .i64 z), (fun vs u => vs 1 = .slice (some ⟨w'.heap.size, 0, none⟩) c c), (fun vs u => vs 2 = .int .i64 z), (fun vs u => vs 3 = .slice (some ⟨w'.heap.size, z, none⟩) (c - z) (c - z)), (fun vs u => vs 4 = .slice (some ⟨w'.heap.size, 0, none⟩) c c), (fun vs u => vs 5 = .int .i64 z), (fun vs u => vs 6 = .slice (some ⟨w'.heap.size, 0, none⟩) z c), (fun vs u => vs 7 = .int .i64 m)]
        [[], [], [], [1, 2], [], [], [4, 5], [1, 2, 3, 4, 5, 6]] [some 38, some 39, some 40, some 41, some 42, some 43, some 44, some 45, some 46, some 8] [] (fun _ _ => True) [[], [], [], [1, 2], [], [], [4, 5], [1, 2, 3, 4, 5, 6], [0, 1, 2, 3, 4, 5, 6, 7], [0, 1, 2, 3, 4, 5, 6, 7, 8]]
        (by kernel_rfl) (by decide) (by kernel_rfl) (by kernel_rfl) (by kernel_rfl) (by kernel_rfl) (by kernel_rfl) (fun _ => Below.refl _ _) (fun _ _ _ h k => h.ext k) (fun _ _ h => h.size) ?_ trivial ?_ ?_
      · intro t ht vs w w' h hE
        simp only [List.mem_cons, List.not_mem_nil, or_false] at ht
        rcases ht with rfl | rfl | rfl | rfl | rfl | rfl | rfl | rfl
        · exact h
        · exact h
        · exact h
        · exact h
        · exact h
        · exact h
        · exact h
        · exact h
      ·
        refine Rg.cons 0 1 rfl (Rg.plain rfl ?_) ?_
        · intro vs W n hn hI hG hT hF K hK
          simp only [Rg.putsD, List.getD_cons_zero, List.getD_cons_succ, Act.put, List.setIfInBounds_toArray, List.set_cons_zero, List.set_cons_succ] at hK ⊢
          clear hn
          clear hF hI
          have H := Lib.hid hK
          clear hK hT
          go_simp
          exact H.out _ _ (Below.refl _ _) rfl (fun h => by cases h) trivial
        refine Rg.cons 1 2 rfl (Rg.plain rfl ?_) ?_
        · intro vs W n hn hI hG hT hF K hK
          simp only [Rg.putsD, List.getD_cons_zero, List.getD_cons_succ, Act.put, List.setIfInBounds_toArray, List.set_cons_zero, List.set_cons_succ] at hK ⊢
          clear hn
          clear hF hI
          have H := Lib.hid hK
          clear hK hT
          go_simp
          exact H.out _ _ (Below.refl _ _) rfl (fun h => by cases h) trivial
        refine Rg.cons 2 3 rfl (Rg.plain rfl ?_) ?_
        · intro vs W n hn hI hG hT hF K hK
          simp only [Rg.putsD, List.getD_cons_zero, List.getD_cons_succ, Act.put, List.setIfInBounds_toArray, List.set_cons_zero, List.set_cons_succ] at hK ⊢
          clear hn
          clear hF hI
          have H := Lib.hid hK
          clear hK hT
          go_simp
          exact H.out _ _ (Below.refl _ _) rfl (fun h => by cases h) trivial
        refine Rg.cons 3 4 rfl (Rg.plain rfl ?_) ?_
        · intro vs W n hn hI hG hT hF K hK
          simp only [Rg.putsD, List.getD_cons_zero, List.getD_cons_succ, Act.put, List.setIfInBounds_toArray, List.set_cons_zero, List.set_cons_succ] at hK ⊢
          clear hn
          clear hF hI
          have t1 : vs 1 = .slice (some ⟨w'.heap.size, 0, none⟩) c c := hT 1 (by decide)
          have t2 : vs 2 = .int .i64 z := hT 2 (by decide)
          simp only [t1, t2] at hK
          have H := Lib.hid hK
          clear hK hT
          go_simp
          exact H.out _ _ (Below.refl _ _) rfl (fun h => by cases h) trivial
        refine Rg.cons 4 5 rfl (Rg.plain rfl ?_) ?_
        · intro vs W n hn hI hG hT hF K hK
          simp only [Rg.putsD, List.getD_cons_zero, List.getD_cons_succ, Act.put, List.setIfInBounds_toArray, List.set_cons_zero, List.set_cons_succ] at hK ⊢
          clear hn
          clear hF hI
          have H := Lib.hid hK
          clear hK hT
          go_simp
          exact H.out _ _ (Below.refl _ _) rfl (fun h => by cases h) trivial
        refine Rg.cons 5 6 rfl (Rg.plain rfl ?_) ?_
        · intro vs W n hn hI hG hT hF K hK
          simp only [Rg.putsD, List.getD_cons_zero, List.getD_cons_succ, Act.put, List.setIfInBounds_toArray, List.set_cons_zero, List.set_cons_succ] at hK ⊢
          clear hn
          clear hF hI
          have H := Lib.hid hK
          clear hK hT
          go_simp
          exact H.out _ _ (Below.refl _ _) rfl (fun h => by cases h) trivial
        refine Rg.cons 6 7 rfl (Rg.plain rfl ?_) ?_
        · intro vs W n hn hI hG hT hF K hK
          simp only [Rg.putsD, List.getD_cons_zero, List.getD_cons_succ, Act.put, List.setIfInBounds_toArray, List.set_cons_zero, List.set_cons_succ] at hK ⊢
          clear hn
          clear hF hI
          have t4 : vs 4 = .slice (some ⟨w'.heap.size, 0, none⟩) c c := hT 4 (by decide)
          have t5 : vs 5 = .int .i64 z := hT 5 (by decide)
          simp only [t4, t5] at hK
          have H := Lib.hid hK
          clear hK hT
          go_simp
          exact H.out _ _ (Below.refl _ _) rfl (fun h => by cases h) trivial
        refine Rg.cons 7 8 rfl (Rg.plain rfl ?_) ?_
        · intro vs W n hn hI hG hT hF K hK
          simp only [Rg.putsD, List.getD_cons_zero, List.getD_cons_succ, Act.put, List.setIfInBounds_toArray, List.set_cons_zero, List.set_cons_succ] at hK ⊢
          clear hn
          clear hF hI
          have t1 : vs 1 = .slice (some ⟨w'.heap.size, 0, none⟩) c c := hT 1 (by decide)
          have t2 : vs 2 = .int .i64 z := hT 2 (by decide)
          have t3 : vs 3 = .slice (some ⟨w'.heap.size, z, none⟩) (c - z) (c - z) := hT 3 (by decide)
          have t4 : vs 4 = .slice (some ⟨w'.heap.size, 0, none⟩) c c := hT 4 (by decide)
          have t5 : vs 5 = .int .i64 z := hT 5 (by decide)
          have t6 : vs 6 = .slice (some ⟨w'.heap.size, 0, none⟩) z c := hT 6 (by decide)
          have hbk := blk_below hG HS.out.2
          simp only [t1, t2, t3, t4, t5, t6] at hK
          have H := Lib.hid hK
          clear hK hT
          go_simp
          have hrun := run_copy_same (w := W) 3 w'.heap.size z (c - z) (c - z) w'.heap.size 0 z c c m (.string eS) hbk HMm.out (fun j hj => by
          have : j < c := by omega
          rw [cell_of_blk hbk]
          simp [this]) (by omega) rfl
          rw [hrun]
          exact H.out _ _ (Below.refl _ _) rfl (fun h => by cases h) trivial
        exact Rg.nil
      · intro vs W hG hI hT hF
        have t0 : vs 0 = .int .i64 z := hT 0 (by decide)
        have t1 : vs 1 = .slice (some ⟨w'.heap.size, 0, none⟩) c c := hT 1 (by decide)
        have t2 : vs 2 = .int .i64 z := hT 2 (by decide)
        have t3 : vs 3 = .slice (some ⟨w'.heap.size, z, none⟩) (c - z) (c - z) := hT 3 (by decide)
        have t4 : vs 4 = .slice (some ⟨w'.heap.size, 0, none⟩) c c := hT 4 (by decide)
        have t5 : vs 5 = .int .i64 z := hT 5 (by decide)
        have t6 : vs 6 = .slice (some ⟨w'.heap.size, 0, none⟩) z c := hT 6 (by decide)
        have t7 : vs 7 = .int .i64 m := hT 7 (by decide)
        simp only [List.length_cons, List.length_nil, Nat.reduceAdd, List.range, List.range.loop, List.drop_succ_cons, List.drop_zero, Rg.putsD, List.getD_cons_zero, List.getD_cons_succ, Act.put, List.setIfInBounds_toArray, List.set_cons_zero, List.set_cons_succ, t0, t1, t2, t3, t4, t5, t6, t7]
        clear hT t0 t1 t2 t3 t4 t5 t6 t7
        have HF : Hid (Below w'.heap.size w' W ∧ W.heap[w'.heap.size]? = some (.cells (Array.replicate c (.string eS)) 9 (0, 0))) := ⟨(HS.out.1.drew).then_below hG HS.out.1.size, blk_below hG HS.out.2⟩
        clear hF hG hI HS
        go_wp2_with fail
        go_roundw
        case rel => exact ⟨z + m, by omega, by omega, by go_num, HF⟩
        case measure => simp [intOf]; omega
    · obtain rfl : z = c := by omega
      go_wp2_with fail
      go_ret
      exact ⟨_, rfl, HS.out.1, Nat.le_refl _, HS.out.2⟩

/-- Nothing else than the stream turns, and a slice of strings is made. -/
def SetOf (sb b m : Nat) (w : World) (e : Ending) (w' : World) : Prop := ∃ (v : Value) (l : List ByteArray), e = .returned v ∧ l.length ≤ m ∧ Took sb b w w' ∧ ReadsF w.heap.size encS v l w'

set_option maxRecDepth 100000 in
set_option maxHeartbeats 4000000 in
theorem asetup_any (sb b n : Nat) (w : World) (hn : n ≤ 10) (hb : b ≤ 800000) (hs : IsStream w sb b) :
    Calls Try.prog 24 #[.pointer (some ⟨sb, 0, none⟩), .int .i64 n] w (SetOf sb (b + 20) 101 w) := by
  have hlt := hs.lt
  go_enter Try.func24, Try.ntmps24
  go_wp2_with fail
  go_loopw [5, 8] (fun ov kk wr => ∃ (k : Nat) (l : List ByteArray), k ≤ n ∧ kk = .int .i64 k ∧ l.length = k ∧ w.heap.size ≤ wr.heap.size ∧ Hid (Took sb (b + k) w wr ∧ wr.ownsRow w.heap.size 9 1 ov l.length (l.map Value.string))) (fun _ kk _ => n - (intOf kk).toNat)
  case atStart => exact ⟨0, [], by omega, rfl, rfl, Nat.le_refl _, Took.refl hs, World.ownsRow_nil _ _ _ _⟩
  case round =>
    obtain ⟨k, l, hk, rfl, hlk, hwz, HS⟩ := hrel
    obtain ⟨A5, c5, rfl, hc5, _⟩ := own_slice HS.out.2
    have HLK := Lib.hid hlk
    have hl10 : l.length ≤ 10 := by omega
    clear hlk
    by_cases hlt2 : k < n
    · have CS := Lib.hid (some_lit sb (b + k) [⟨#[]⟩, ⟨#[97]⟩, ⟨#[98]⟩, ⟨#[99]⟩, ⟨#[100]⟩, ⟨#[101]⟩] wr wr.heap.size 6 rfl (by omega) (by omega) rfl (by omega) HS.out.1.1)
      go_wp2_with fail
      refine CS.out.mono ?_
      rintro e w1 ⟨x, hx, rfl, t1⟩
      have hz1 := t1.size
      have HS1 : Hid (Took sb (b + (k + 1)) w w1 ∧ w1.ownsRow w.heap.size 9 1 (.slice A5 l.length c5) l.length (l.map Value.string)) := ⟨HS.out.1.trans t1, kept_own HS.out.2 t1.2 hlt⟩
      have CC := Lib.hid (contains_any x l.length (Nat.le_refl _) (by omega) (own_strs HS1.out.2) c5)
      rw [List.take_of_length_le (Nat.le_refl _)] at CC
      clear t1 hx CS HS
      go_wp2_with fail
      refine CC.out.mono ?_
      rintro e w' ⟨rfl, rfl⟩
      clear CC
      go_upto_if 15 with (fail)
      go_cut [6] (fun v6 wc => ∃ y : ByteArray, v6 = .string y ∧ Hid (Took sb (b + (k + 1)) w wc ∧ wc.ownsRow w.heap.size 9 1 (.slice A5 l.length c5) l.length (l.map Value.string)))
      case first =>
        cases has l x
        · go_wp2_with fail
          go_meet
          exact ⟨_, rfl, HS1⟩
        · go_wp2_with fail
          go_meet
          exact ⟨_, rfl, HS1⟩
      case rest =>
        clear HS1
        obtain ⟨y, rfl, HC⟩ := hcut
        have hzc : w.heap.size ≤ wc.heap.size := HC.out.1.size
        obtain ⟨i0, hi0, hz0, hzz1, hz2⟩ := info_parts str_info9
        have HI := Lib.hid (And.intro hi0 (And.intro hz0 (And.intro hzz1 hz2)))
        clear hi0 hz0 hzz1 hz2
        go_wp2_with (at_builtin; refine hold ?_)
        refine loose ?_
        refine wpList_append_own _ rfl _ _ 51 rfl w.heap.size 9 i0 _ 1 16 Try.underlying51 HI.out.1 HI.out.2.1 HI.out.2.2.1 HI.out.2.2.2 rfl (by omega) _ l.length (l.map Value.string) rfl (HC.out.2.alloc _) ⟨wc.heap.size, 0, none⟩ 1 1 [.string y] rfl rfl (cell_one_new _ _ _) (by intro u hu; simp at hu; subst hu; rfl) (by unfold maxLen; omega) (by omega) (by simp; omega) ?_
        intro v' w2 hown' hg' _
        have HF : Hid (Took sb (b + (k + 1)) w w2 ∧ w2.ownsRow w.heap.size 9 1 v' (l ++ [y]).length ((l ++ [y]).map Value.string)) := by
          refine ⟨(HC.out.1.alloc _).grown hlt hg' (own_row HC.out.2), ?_⟩
          rw [List.length_append, List.map_append]
          exact hown'
        have hz3 := HF.out.1.size
        clear hown' hg'
        go_wp2_with fail
        go_roundw
        case rel => exact ⟨k + 1, l ++ [y], by omega, by go_num, by rw [List.length_append, HLK.out]; rfl, hz3, HF⟩
        case measure => simp [intOf]; omega
    · obtain rfl : k = n := by omega
      have CF := Lib.hid (flip_any sb (b + k) 15 wr (by omega) (by omega) (by omega) HS.out.1.1)
      go_wp2_with fail
      refine CF.out.mono ?_
      rintro e w1 ⟨f, rfl, t1⟩
      have HS1 : Hid (Took sb (b + k + 1) w w1 ∧ w1.ownsRow w.heap.size 9 1 (.slice A5 l.length c5) l.length (l.map Value.string)) := ⟨HS.out.1.trans t1, kept_own HS.out.2 t1.2 hlt⟩
      clear t1 CF HS
      cases f
      · go_wp2_with fail
        go_ret
        exact ⟨_, l, rfl, by omega, HS1.out.1.more (by omega), own_strs HS1.out.2⟩
      · have CN := Lib.hid (next_any sb (b + k + 1) 3 w1 (by omega) (by omega) (by omega) HS1.out.1.1)
        go_wp2_with fail
        refine CN.out.mono ?_
        rintro e w2 ⟨q, hq0, hq1, rfl, t2⟩
        have HS2 : Hid (Took sb (b + k + 2) w w2 ∧ w2.ownsRow w.heap.size 9 1 (.slice A5 l.length c5) l.length (l.map Value.string)) := ⟨HS1.out.1.trans t2, kept_own HS1.out.2 t2.2 hlt⟩
        have hz2 : w.heap.size ≤ w2.heap.size := HS2.out.1.size
        clear t2 CN HS1
        by_cases h0 : q = 0
        · subst h0
          go_wp2_with fail
          go_ret
          exact ⟨_, [], rfl, by simp, HS2.out.1.more (by omega), readsF_nil _ _ _⟩
        by_cases h1 : q = 1
        · subst h1
          have CS := Lib.hid (some_lit sb (b + k + 2) [⟨#[65]⟩, ⟨#[97]⟩, ⟨#[45]⟩] w2 w2.heap.size 3 rfl (by omega) (by omega) rfl (by omega) HS2.out.1.1)
          go_wp2_with fail
          refine CS.out.mono ?_
          rintro e w3 ⟨y, hy, rfl, t3⟩
          have HS3 : Hid (Took sb (b + k + 3) w w3 ∧ w3.ownsRow w.heap.size 9 1 (.slice A5 l.length c5) l.length (l.map Value.string)) := ⟨HS2.out.1.trans t3, kept_own HS2.out.2 t3.2 hlt⟩
          have hz3 : w.heap.size ≤ w3.heap.size := HS3.out.1.size
          clear t3 hy CS HS2
          obtain ⟨i0, hi0, hz0, hzz1, hzz2⟩ := info_parts str_info9
          have HI := Lib.hid (And.intro hi0 (And.intro hz0 (And.intro hzz1 hzz2)))
          clear hi0 hz0 hzz1 hzz2
          go_wp2_with (at_builtin; refine hold ?_)
          refine loose ?_
          refine wpList_append_own _ rfl _ _ 51 rfl w.heap.size 9 i0 _ 1 16 Try.underlying51 HI.out.1 HI.out.2.1 HI.out.2.2.1 HI.out.2.2.2 rfl (by omega) _ l.length (l.map Value.string) rfl (HS3.out.2.alloc _) ⟨w3.heap.size, 0, none⟩ 1 1 [.string y] rfl rfl (cell_one_new _ _ _) (by intro u hu; simp at hu; subst hu; rfl) (by unfold maxLen; omega) (by omega) (by simp; omega) ?_
          intro v' w4 hown' hg' _
          have HF : Hid (Took sb (b + k + 3) w w4 ∧ w4.ownsRow w.heap.size 9 1 v' (l ++ [y]).length ((l ++ [y]).map Value.string)) := by
            refine ⟨(HS3.out.1.alloc _).grown hlt hg' (own_row HS3.out.2), ?_⟩
            rw [List.length_append, List.map_append]
            exact hown'
          clear hown' hg'
          go_wp2_with fail
          go_ret
          exact ⟨_, l ++ [y], rfl, by simp; omega, HF.out.1.more (by omega), own_strs HF.out.2⟩
        · have hd0 : (q == 0) = false := by simpa using h0
          have hd1 : (q == 1) = false := by simpa using h1
          have CR := Lib.hid (range_any sb (b + k + 2) 0 1 (w2.alloc (.cells #[.string eS] 9)) (by omega) (by omega) (by omega) (by omega) (HS2.out.1.1.alloc _))
          have HBK : Hid ((w2.alloc (.cells #[.string eS] 9)).heap[w2.heap.size]? = some (.cells #[.string eS] 9 (0, 0))) := blk_new w2 _ rfl
          go_wp2_with fail
          refine CR.out.mono ?_
          rintro e w3 ⟨z, hz0, hz1, rfl, t3⟩
          obtain ⟨zn, rfl⟩ := Int.eq_ofNat_of_zero_le hz0
          have hne : w2.heap.size ≠ sb := by omega
          have HB3 := Lib.hid (t3.blk HBK.out hne)
          have HT3 : Hid (Took sb (b + k + 3) w w3) := (HS2.out.1.alloc _).trans t3
          have CP := Lib.hid (repeat_any w2.heap.size (100 + zn) (by omega) (by omega) HB3.out)
          have e9 : ((100 + zn : Nat) : Int) = 100 + (zn : Int) := by omega
          rw [e9] at CP
          clear t3 HBK CR HS2
          go_wp2_with fail
          refine CP.out.mono ?_
          rintro e w4 ⟨g, rfl, hb4, hg4, hk4⟩
          have HF : Hid (Took sb (b + k + 3) w w4 ∧ ReadsF w.heap.size encS (.slice (some ⟨g, 0, none⟩) (100 + zn) (100 + zn)) (List.replicate (100 + zn) eS) w4) := by
            refine ⟨HT3.out.below hb4, readsF_lit (t := 9) (by simp) (Nat.le_refl _) ?_ (Nat.le_trans HT3.out.size hg4)⟩
            rw [hk4]
            simp
          clear hb4 hk4
          go_wp2_with fail
          go_ret
          exact ⟨_, _, rfl, by simp; omega, HF.out.1.more (by omega), HF.out.2⟩
end Go.Proofs.Ytjmjmijjdgolfaa
