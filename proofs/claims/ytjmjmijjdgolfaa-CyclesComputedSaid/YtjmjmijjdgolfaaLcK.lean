/-
  The slowest machine: the reference's answer.
-/
import Derived.Test.YtjmjmijjdgolfaaLcJ
namespace Go.Proofs.Ytjmjmijjdgolfaa
open Go.RowKit
set_option linter.unusedSimpArgs false
set_option linter.unusedVariables false

theorem idx_slow {cs : List Int} (h : 0 < cs.length) : Lib.idxOf cs (slowC cs) = (slow cs : Nat) := by
  have := Lib.idxFrom_hit (slowC cs) cs (slow cs) 0 (slow_lt h) rfl (fun j hj => slow_first h j hj)
  rw [Nat.zero_add] at this
  exact this

set_option maxRecDepth 100000 in
set_option maxHeartbeats 1000000 in
theorem slowestOf_any {base : Nat} (ms : List Mc) (ns : List Nd) (plan : List Int) (hm : MsOk ms) (hn : NsOk ns) (hpl : plan.length ≤ ns.length) {v1 v2 v3 : Value} {w : World} (h1 : MsF base v1 ms w) (h2 : Reads encD v2 ns w) (h3 : Reads encN v3 plan w) :
    Calls Try.prog 17 #[v1, v2, v3] w fun e w' => e = .returned (.tuple #[.int .i64 (slow (cyL ms ns plan) : Nat), .int .i64 (slowC (cyL ms ns plan))]) ∧ Below w.heap.size w w' := by
  have CC := Lib.hid (cyclesOf_any ms ns plan hm hn hpl h1 h2 h3)
  have hms1 := hm.some
  have hmf := hm.few
  obtain ⟨A1, c1, rfl, hc1, _⟩ := h1
  obtain ⟨A2, c2, rfl, _⟩ := h2
  obtain ⟨A3, c3, rfl, _⟩ := h3
  have hcl := cyL_len ms ns plan
  generalize cyL ms ns plan = cs at *
  rw [← hcl] at hms1 hmf
  have hmx := slow_max (c := cs) (by omega)
  have hix : Lib.idxOf cs (slowC cs) = (slow cs : Nat) := idx_slow (by omega)
  have HMX := Lib.hid hmx
  have HIX := Lib.hid hix
  have HLEN := Lib.hid hcl
  clear hmx hix hcl hm hn
  go_enter Try.func17, Try.ntmps17
  go_wp2_with fail
  refine CC.out.mono ?_
  rintro e w2 ⟨v, rfl, hown, b2⟩
  rw [← HLEN.out] at hown
  obtain ⟨g, c, rfl, hb, hlt, _, _, hrd⟩ := own_read hown (by omega)
  have HB := Lib.hid b2
  have hcell : ∀ j, j < cs.length → w2.cell? ⟨g, 0 + j, none⟩ = some (.int .i64 (cs.getD j 0)) := fun j hj => by
    rw [Nat.zero_add, List.getD_eq_getElem?_getD, List.getElem?_eq_getElem hj]
    exact hrd j _ (by rw [List.getElem?_map, List.getElem?_eq_getElem hj]; rfl)
  have CM := Lib.hid (Try.slices_Max_int g 0 cs.length c cs w2 (by omega) (Nat.le_refl _) (by omega) hcell)
  have CI := Lib.hid (Try.slices_Index_int g 0 cs.length c cs (slowC cs) w2 (Nat.le_refl _) (by omega) hcell)
  rw [List.take_of_length_le (Nat.le_refl _), HMX.out] at CM
  rw [List.take_of_length_le (Nat.le_refl _), HIX.out] at CI
  clear b2 hown hrd hcell CC HMX HIX
  obtain ⟨sa, hsa⟩ : ∃ sa, slow cs = sa := ⟨_, rfl⟩
  obtain ⟨sc, hsc⟩ : ∃ sc, slowC cs = sc := ⟨_, rfl⟩
  rw [hsa] at CI
  rw [hsc] at CM CI
  have HA := Lib.hid (And.intro hsa hsc)
  clear hsa hsc
  go_wp2_with fail
  refine CM.out.mono ?_
  rintro e w3 ⟨rfl, rfl⟩
  go_wp2_with fail
  refine CI.out.mono ?_
  rintro e w3 ⟨rfl, rfl⟩
  go_wp2_with fail
  refine CM.out.mono ?_
  rintro e w3 ⟨rfl, rfl⟩
  go_wp2_with fail
  refine bodyPost_ret (v := .tuple #[.int .i64 (sa : Nat), .int .i64 sc]) (by unfold results; simp only [Try.results17]; go_simp) rfl ⟨by rw [HA.out.1, HA.out.2], HB.out⟩
end Go.Proofs.Ytjmjmijjdgolfaa
