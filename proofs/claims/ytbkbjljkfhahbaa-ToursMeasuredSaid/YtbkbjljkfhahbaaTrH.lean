/-
  The maker of an order that may be wrong.
-/
import Derived.Test.YtbkbjljkfhahbaaTrG
import Derived.Deep.DeepCutAuto
namespace Go.Proofs.Ytbkbjljkfhahbaa
open Go.RowKit
set_option linter.unusedSimpArgs false
set_option linter.unusedVariables false

theorem IntRow.took {B n sb b : Nat} {v : Value} {W W' : World} (h : IntRow B n v W) (t : Took sb b W W') (hs : sb < B) : IntRow B n v W' := by
  obtain ⟨xs, hx, ho⟩ := h
  exact ⟨xs, hx, kept_own ho t.2 hs⟩
theorem IntRow.alloc {B n : Nat} {v : Value} {W : World} (h : IntRow B n v W) (o : Obj) : IntRow B n v (W.alloc o) := by
  obtain ⟨xs, hx, ho⟩ := h
  exact ⟨xs, hx, ho.alloc o⟩

set_option maxRecDepth 100000 in
set_option maxHeartbeats 8000000 in
theorem anOrder_any (sb b n : Nat) (hn : n ≤ 100) (w : World) (hb : b ≤ 800000) (hs : IsStream w sb b) :
    Calls Try.prog 6 #[.pointer (some ⟨sb, 0, none⟩), .int .i64 n] w fun e w' => ∃ v m, e = .returned v ∧ m ≤ n + 1 ∧ IntRow w.heap.size m v w' ∧ Took sb (b + n + 4) w w' := by
  have hlt := hs.lt
  have CO := Lib.hid (order_any sb b n (by omega) w hb hs)
  clear hs
  go_enter Try.func6, Try.ntmps6
  go_wp2_with fail
  refine CO.out.mono ?_
  rintro e w1 ⟨v, rfl, r1, t1⟩
  have H1 : Hid (Took sb (b + n) w w1 ∧ IntRow w.heap.size n v w1) := ⟨t1, r1⟩
  have hz1 := t1.size
  obtain ⟨A, c, rfl, hA⟩ := own_form r1.choose_spec.2
  have HA : Hid (0 < n → ∃ g, A = some ⟨g, 0, none⟩ ∧ g < w1.heap.size ∧ w.heap.size ≤ g) := hA
  clear t1 r1 hA CO
  go_upto_region 2 with (fail)
  go_cut [14] (fun v14 wc => ∃ f : Bool, v14 = .bool f ∧ (f = true → 0 < n) ∧ Hid (Took sb (b + n + 1) w wc ∧ IntRow w.heap.size n (.slice A n c) wc))
  case first =>
    by_cases hn0 : 0 < n
    · have hn1 : (0 : Int) < (n : Int) := by omega
      go_wp2_with fail
      refine (flip_any sb (b + n) 12 w1 (by omega) (by omega) (by omega) H1.out.1.1).mono ?_
      rintro e w2 ⟨f, rfl, t2⟩
      have H2 : Hid (Took sb (b + n + 1) w w2 ∧ IntRow w.heap.size n (.slice A n c) w2) := ⟨H1.out.1.trans t2, H1.out.2.took t2 hlt⟩
      clear t2 H1
      go_wp2_with fail
      go_meet
      exact ⟨f, rfl, fun _ => hn0, H2⟩
    · obtain rfl : n = 0 := by omega
      go_wp2_with fail
      go_meet
      exact ⟨false, rfl, (fun h => by simp at h), H1.out.1.more (by omega), H1.out.2⟩
  case rest =>
    obtain ⟨f, rfl, hf, H2⟩ := hcut
    clear H1
    go_upto_if 14 with (fail)
    go_cut [] (fun wc => Hid (Took sb (b + n + 3) w wc ∧ IntRow w.heap.size n (.slice A n c) wc))
    case first =>
      cases f
      · go_wp2_with fail
        go_meet
        exact ⟨H2.out.1.more (by omega), H2.out.2⟩
      · obtain ⟨g, rfl, hg1, hg2⟩ := HA.out (hf rfl)
        have hn0 := hf rfl
        have hn1 : (0 : Int) < (n : Int) := by omega
        go_wp2_with fail
        refine (next_any sb (b + n + 1) (n : Int) wc (by omega) (by omega) (by omega) H2.out.1.1).mono ?_
        rintro e w3 ⟨x, hx0, hx1, rfl, t3⟩
        obtain ⟨q, rfl⟩ := Int.eq_ofNat_of_zero_le hx0
        have H3 : Hid (Took sb (b + n + 2) w w3 ∧ IntRow w.heap.size n (.slice (some ⟨g, 0, none⟩) n c) w3) := ⟨H2.out.1.trans t3, H2.out.2.took t3 hlt⟩
        clear t3 H2
        have hqn : q < n := by omega
        have hqn2 : (q : Int) < (n : Int) := by omega
        go_wp2_with fail
        refine (pick_lit sb (b + n + 2) [-1, (n : Int), 0] w3 _ 3 rfl (by omega) (by omega) rfl (by omega) H3.out.1.1).mono ?_
        rintro e w4 ⟨y, _, rfl, t4⟩
        have H4 : Hid (Took sb (b + n + 3) w w4 ∧ IntRow w.heap.size n (.slice (some ⟨g, 0, none⟩) n c) w4) := ⟨H3.out.1.trans t4, H3.out.2.took t4 hlt⟩
        clear t4 H3
        obtain ⟨⟨x0, c0⟩, f0, hgl⟩ := H4.out.2.cell hqn
        go_wp2_with fail
        go_meet
        exact ⟨H4.out.1.setCell hg2 hlt _, H4.out.2.set q y⟩
    case rest =>
      have H3 := hcut
      clear H2 hcut
      go_wp2_with fail
      refine (flip_any sb (b + n + 3) 30 wc (by omega) (by omega) (by omega) H3.out.1.1).mono ?_
      rintro e w5 ⟨f5, rfl, t5⟩
      have H5 : Hid (Took sb (b + n + 4) w w5 ∧ IntRow w.heap.size n (.slice A n c) w5) := ⟨H3.out.1.trans t5, H3.out.2.took t5 hlt⟩
      clear t5 H3
      cases f5
      · go_wp2_with fail
        go_ret
        exact ⟨_, n, rfl, by omega, H5.out.2, H5.out.1⟩
      · obtain ⟨xs, hxs, ho⟩ := H5.out.2
        have HO := Lib.hid ho
        have HX := Lib.hid hxs
        have hz5 := H5.out.1.size
        clear ho hxs
        obtain ⟨i0, hi0, hz0, hzz1, hz20⟩ := info_parts int_infoN
        have HI := Lib.hid (And.intro hi0 (And.intro hz0 (And.intro hzz1 hz20)))
        clear hi0 hz0 hzz1 hz20
        go_wp2_with (at_builtin; refine hold ?_)
        refine loose ?_
        refine wpList_append_own _ rfl _ _ 22 rfl w.heap.size 3 i0 _ 1 8 Try.underlying22 HI.out.1 HI.out.2.1 HI.out.2.2.1 HI.out.2.2.2 rfl (by omega) _ n (xs.map (Value.int .i64)) rfl (HO.out.alloc _) ⟨w5.heap.size, 0, none⟩ 1 1 [.int .i64 0] rfl rfl ?c1 (by intro u hu; simp at hu; subst hu; rfl) (by unfold maxLen; omega) (by omega) (by simp; omega) ?_
        case c1 =>
          intro j u hu
          rw [addr_new, cell_of_blk (blk_new w5 _ rfl)]
          simpa using hu
        intro v' w6 hown' hg' _
        have H6 : Hid (Took sb (b + n + 4) w w6 ∧ IntRow w.heap.size (n + 1) v' w6) := by
          refine ⟨(H5.out.1.alloc _).grown hlt hg' (own_row HO.out), xs ++ [0], by rw [List.length_append, HX.out]; rfl, ?_⟩
          rw [List.map_append]
          exact hown'
        clear hown' hg' H5 HO
        go_wp2_with fail
        go_ret
        exact ⟨_, n + 1, rfl, by omega, H6.out.2, H6.out.1⟩
end Go.Proofs.Ytbkbjljkfhahbaa
