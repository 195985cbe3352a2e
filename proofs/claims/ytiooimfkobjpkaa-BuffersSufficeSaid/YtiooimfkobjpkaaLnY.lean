/-
  When each board leaves the line: the reference's answer.
-/
import Derived.Test.YtiooimfkobjpkaaLnX
namespace Go.Proofs.Ytiooimfkobjpkaa
open Go.RowKit
set_option linter.unusedSimpArgs false
set_option linter.unusedVariables false

set_option maxRecDepth 100000 in
set_option maxHeartbeats 8000000 in
theorem leaveOf_any (cs bs : List Int) (m : Nat) (hcs : CsOk cs) (h1 : 1 ≤ cs.length) (h6 : cs.length ≤ 6) (hb : (bs.length : Int) = (cs.length : Int) - 1) (hbs : ∀ x ∈ bs, 0 ≤ x ∧ x ≤ 2000) (hm : m ≤ 2000) {v1 v2 : Value} {w : World} (r1 : Reads encN v1 cs w) (r2 : Reads encN v2 bs w) :
    Calls Try.prog 29 #[v1, v2, .int .i64 m] w fun e w' => ∃ v, e = .returned v ∧ ReadsF w.heap.size encN v (leaveL cs bs m) w' ∧ Below w.heap.size w w' := by
  have CP := Lib.hid (moves_any cs bs m hcs h1 h6 hb hbs hm r1 r2)
  obtain ⟨A1, c1, rfl, _⟩ := r1
  obtain ⟨A2, c2, rfl, _⟩ := r2
  clear hcs hbs hb
  have hn0 : cs.length - 1 < cs.length := by omega
  have hcast : ((cs.length : Int) - 1) = ((cs.length - 1 : Nat) : Int) := by omega
  obtain ⟨last, hlast⟩ : ∃ last, cs.length - 1 = last := ⟨_, rfl⟩
  have hlast6 : last < 6 := by omega
  have HLA := Lib.hid hlast
  rw [hlast] at hcast hn0
  have wk : IntKind.i64.wrap ((cs.length : Int) - 1) = (last : Int) := by rw [IntKind.wrap_i64]; omega
  clear hlast hcast
  have i1 : (0 : Int) ≤ (last : Int) := by omega
  have i2 : (last : Int) < (cs.length : Int) := by omega
  go_enter Try.func29, Try.ntmps29
  go_wp2_with fail
  refine CP.out.mono ?_
  rintro e w3 ⟨u1, u2, u3, fx, fy, fz, rfl, hmv⟩
  have HM := Lib.hid hmv
  have hz3 := hmv.bel.size
  obtain ⟨A8, c8, rfl, _⟩ := own_form hmv.gz.own
  clear hmv CP
  go_wp2_with fail
  go_loopw [10, 23] (fun v10 kk wr => ∃ (b : Nat), b ≤ m ∧ kk = .int .i64 b ∧ w.heap.size ≤ wr.heap.size ∧ Hid (Below w3.heap.size w3 wr ∧ wr.ownsRow w3.heap.size 3 1 v10 b ((leaveL cs bs b).map (Value.int .i64)))) (fun _ kk _ => m - (intOf kk).toNat)
  case atStart => exact ⟨0, by omega, rfl, hz3, Below.refl _ _, World.ownsRow_nil _ _ _ _⟩
  case round =>
    obtain ⟨b, hb2, rfl, hwz, HS⟩ := hrel
    obtain ⟨A5, c5, rfl, _⟩ := own_form HS.out.2
    have HLN : Hid (leaveL cs bs (b + 1) = leaveL cs bs b ++ [lv cs bs b last]) := by rw [← HLA.out]; exact leaveL_snoc cs bs b
    by_cases hbm : b < m
    · obtain ⟨g8, cap8, e8, hg8, z0⟩ := (HM.out.gz.below HS.out.1).cell hbm
      cases e8
      have hrz := blk_below HS.out.1 (HM.out.gz.rows b hbm)
      have z1 := (cell_of_blk hrz last).trans (intsR_at (lv cs bs b) hn0)
      have hlz := lt_of_blk hrz
      have i3 : (0 : Int) ≤ (b : Int) := by omega
      have i4 : (b : Int) < (m : Int) := by omega
      have hz4 := HS.out.1.size
      clear hrz
      generalize lv cs bs b last = Z at *
      obtain ⟨i0, hi0, hz0, hzz1, hz20⟩ := info_parts int_infoN
      have HI := Lib.hid (And.intro hi0 (And.intro hz0 (And.intro hzz1 hz20)))
      clear hi0 hz0 hzz1 hz20
      go_wp2_with (at_builtin; refine hold ?_)
      refine loose ?_
      refine wpList_append_own _ rfl _ _ 22 rfl w3.heap.size 3 i0 _ 1 8 Try.underlying22 HI.out.1 HI.out.2.1 HI.out.2.2.1 HI.out.2.2.2 rfl (by omega) _ b ((leaveL cs bs b).map (Value.int .i64)) rfl (HS.out.2.alloc _) ⟨wr.heap.size, 0, none⟩ 1 1 [.int .i64 Z] rfl rfl (cell_one_new _ _ _) (by intro u hu; simp at hu; subst hu; rfl) (by unfold maxLen; omega) (by omega) (by simp; omega) ?_
      intro v' w4 hown' hg' _
      have H4 : Hid (Below w3.heap.size w3 w4 ∧ w4.ownsRow w3.heap.size 3 1 v' (b + 1) ((leaveL cs bs (b + 1)).map (Value.int .i64))) := by
        refine ⟨(HS.out.1.alloc HS.out.1.size _).grown hg' (by simp; omega) (own_row HS.out.2), ?_⟩
        rw [HLN.out, List.map_append]
        exact hown'
      have hz5 : w.heap.size ≤ w4.heap.size := by have := H4.out.1.size; omega
      clear hown' hg' z0 z1 hlz hg8 HS
      go_wp2_with fail
      go_roundw
      case rel => exact ⟨b + 1, by omega, by go_num, hz5, H4⟩
      case measure => simp [intOf]; omega
    · obtain rfl : b = m := by omega
      go_wp2_with fail
      go_ret
      refine ⟨_, rfl, ?_, HM.out.bel.trans (HS.out.1.mono hz3)⟩
      have h := HS.out.2
      refine (readsF_own (base := w3.heap.size) (T := 3) (size := 1) ?_).least hz3
      rw [flatN_map, leaveL_len]
      exact h
end Go.Proofs.Ytiooimfkobjpkaa
