/-
  The balance: the program's answer.
-/
import Derived.Test.YtmjonmoagpkdiabGreatDoorLbX
namespace Go.Proofs.YtmjonmoagpkdiabGreatDoor
open Go.RowKit
set_option linter.unusedSimpArgs false
set_option linter.unusedVariables false

def balErr (ms : List Mc) (ns : List Nd) : Int := if bothErr ms ns = 0 then (if 12 < ns.length then 2 else 0) else bothErr ms ns
def bPV (ms : List Mc) (ns : List Nd) : List Int := if balErr ms ns = 0 then balP ms ns else []
def bXV (ms : List Mc) (ns : List Nd) : Int := if balErr ms ns = 0 then balX ms ns else 0
def bFV (ms : List Mc) (ns : List Nd) : Bool := if balErr ms ns = 0 then balF ms ns else false
theorem bV_bad {ms : List Mc} {ns : List Nd} (h : balErr ms ns ≠ 0) : bPV ms ns = [] ∧ bXV ms ns = 0 ∧ bFV ms ns = false := ⟨if_neg h, if_neg h, if_neg h⟩
theorem bV_good {ms : List Mc} {ns : List Nd} (h : balErr ms ns = 0) : bPV ms ns = balP ms ns ∧ bXV ms ns = balX ms ns ∧ bFV ms ns = balF ms ns := ⟨if_pos h, if_pos h, if_pos h⟩
set_option maxRecDepth 100000 in
set_option maxHeartbeats 8000000 in
theorem balanceL_any {base : Nat} (ms : List Mc) (ns : List Nd) (hl : ms.length ≤ 1000000) (hc : ∀ m ∈ ms, m.can.length ≤ 1000000) (hnl : ns.length ≤ 1000000) {v1 v2 : Value} {w : World} (h1 : MsF base v1 ms w) (h2 : Reads encD v2 ns w) (hT : Tz w) :
    Calls Tryz.prog 6 #[v1, v2] w fun e w' => ∃ v, e = .returned (.tuple #[v, .int .i64 (bXV ms ns), .bool (bFV ms ns), .int .i64 (balErr ms ns)]) ∧ Reads encN v (bPV ms ns) w' ∧ Below w.heap.size w w' := by
  have HR := Lib.hid (And.intro h1 (And.intro h2 hT))
  have C0 := Lib.hid (check_line ms ns hl hc hnl h1 h2)
  obtain ⟨A1, c1, rfl, hc1, _⟩ := h1
  obtain ⟨A2, c2, rfl, _⟩ := h2
  by_cases h0 : bothErr ms ns = 0
  rotate_left
  · have hE : balErr ms ns = bothErr ms ns := if_neg h0
    have HV := Lib.hid (bV_bad (ms := ms) (ns := ns) (by rw [hE]; exact h0))
    have HE := Lib.hid hE
    have hne : (bothErr ms ns != 0) = true := by simp [h0]
    clear hE
    generalize bothErr ms ns = E at *
    clear h0
    go_enter Tryz.func6, Tryz.ntmps6
    go_wp2_with fail
    refine C0.out.mono ?_
    rintro e w2 ⟨rfl, b2⟩
    have HB := Lib.hid b2
    clear b2 C0
    go_wp2_with fail
    refine bodyPost_ret (v := .tuple #[.slice none 0 0, .int .i64 0, .bool false, .int .i64 E]) (by unfold results; simp only [Tryz.results6]; go_simp) rfl ⟨.slice none 0 0, by rw [HV.out.2.1, HV.out.2.2, HE.out], by rw [HV.out.1]; exact nil_readsN _, HB.out⟩
  by_cases h12 : 12 < ns.length
  · have hE : balErr ms ns = 2 := by unfold balErr; rw [if_pos h0, if_pos h12]
    have HV := Lib.hid (bV_bad (ms := ms) (ns := ns) (by rw [hE]; decide))
    have HE := Lib.hid hE
    clear hE
    rw [h0] at C0
    have i1 : (12 : Int) < (ns.length : Int) := by omega
    clear h0
    go_enter Tryz.func6, Tryz.ntmps6
    go_wp2_with fail
    refine C0.out.mono ?_
    rintro e w2 ⟨rfl, b2⟩
    have HB := Lib.hid b2
    clear b2 C0
    go_wp2_with fail
    refine bodyPost_ret (v := .tuple #[.slice none 0 0, .int .i64 0, .bool false, .int .i64 2]) (by unfold results; simp only [Tryz.results6]; go_simp) rfl ⟨.slice none 0 0, by rw [HV.out.2.1, HV.out.2.2, HE.out], by rw [HV.out.1]; exact nil_readsN _, HB.out⟩
  have hE : balErr ms ns = 0 := by unfold balErr; rw [if_pos h0, if_neg h12]
  have HV := Lib.hid (bV_good (ms := ms) (ns := ns) hE)
  have HE := Lib.hid hE
  have hm := machErr_ok (bothErr_ok h0).1
  have hn := needErr_ok (bothErr_ok h0).2
  have CB := Lib.hid (fun (W : World) (hb : Below w.heap.size w W) => balanceP_any ms ns hm hn (by omega) (HR.out.1.below hb) (HR.out.2.1.below hb) (HR.out.2.2.below hb))
  rw [h0] at C0
  have i1 : ¬ (12 : Int) < (ns.length : Int) := by omega
  clear h0 hE hm hn h12
  go_enter Tryz.func6, Tryz.ntmps6
  go_wp2_with fail
  refine C0.out.mono ?_
  rintro e w2 ⟨rfl, b2⟩
  have HB := Lib.hid b2
  clear b2 C0
  go_wp2_with fail
  refine (CB.out w2 HB.out).mono ?_
  rintro e w3 ⟨v, rfl, hr, b3⟩
  have H3 := Lib.hid (And.intro hr (HB.out.then_below b3 HB.out.size))
  clear hr b3 CB
  generalize hbx : balX ms ns = X at *
  generalize hbf : balF ms ns = F at *
  have HXF := Lib.hid (And.intro hbx hbf)
  clear hbx hbf
  go_wp2_with fail
  refine bodyPost_ret (v := .tuple #[v, .int .i64 X, .bool F, .int .i64 0]) (by unfold results; simp only [Tryz.results6]; go_simp) rfl ⟨v, by rw [HV.out.2.1, HV.out.2.2, HE.out], ?_, H3.out.2⟩
  rw [HV.out.1]
  exact H3.out.1
end Go.Proofs.YtmjonmoagpkdiabGreatDoor
