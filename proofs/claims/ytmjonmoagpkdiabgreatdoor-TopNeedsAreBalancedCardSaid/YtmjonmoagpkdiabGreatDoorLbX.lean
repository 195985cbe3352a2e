/-
  The balance: need by need.
-/
import Derived.Test.YtmjonmoagpkdiabGreatDoorLbW
namespace Go.Proofs.YtmjonmoagpkdiabGreatDoor
open Go.RowKit
set_option linter.unusedSimpArgs false
set_option linter.unusedVariables false

theorem goOn_iff {ms : List Mc} {ns : List Nd} (h : fastV ms ns [] < NV) (h0 : 0 ≤ fastV ms ns []) {pre : List Nat} (hl : pre.length ≤ ns.length) (hp : ∀ e ∈ pre, e < ms.length) : GoOn ms ns pre ↔ fastV ms ns pre ≤ fastV ms ns [] := by
  rw [fast_le h hl hp]
  exact ⟨fun x => ⟨h0, x⟩, fun x => x.2⟩
theorem goOn_mem {ms : List Mc} {ns : List Nd} {pre : List Nat} (h : GoOn ms ns pre) : ∀ e ∈ pre, e < ms.length := by
  obtain ⟨q, hq, r, rfl⟩ := h
  exact fun e he => hq.2.1 e (List.mem_append_left _ he)
theorem goOn_next {ms : List Mc} {ns : List Nd} {pre : List Nat} (h : GoOn ms ns pre) (hl : pre.length < ns.length) : ∃ x, x < ms.length ∧ GoOn ms ns (pre ++ [x]) := by
  obtain ⟨q, hq, r, rfl⟩ := h
  cases r with
  | nil =>
    have := hq.1
    simp at this
    omega
  | cons a r => exact ⟨a, hq.2.1 a (by simp), pre ++ a :: r, hq, r, by simp⟩
theorem toZ_snoc (p : List Nat) (x : Nat) : toZ (p ++ [x]) = toZ p ++ [(x : Int)] := by simp [toZ]
theorem toZ_set (p : List Nat) (x : Nat) (y : Int) : (toZ (p ++ [x])).set p.length y = toZ p ++ [y] := by
  rw [toZ_snoc, List.set_append_right _ _ (by rw [toZ_len]; exact Nat.le_refl _), toZ_len, Nat.sub_self]
  rfl
/-- The plan that the program finds, and how long its longest cycle is. -/
def balP (ms : List Mc) (ns : List Nd) : List Int := match balR ms ns with | none => [] | some (b, _) => toZ b
def balX (ms : List Mc) (ns : List Nd) : Int := match balR ms ns with | none => 0 | some (_, x) => x
def balF (ms : List Mc) (ns : List Nd) : Bool := (balR ms ns).isSome
theorem bal_none {ms : List Mc} {ns : List Nd} (h : balR ms ns = none) : balP ms ns = [] ∧ balX ms ns = 0 ∧ balF ms ns = false := by
  unfold balP balX balF
  rw [h]
  exact ⟨rfl, rfl, rfl⟩
theorem bal_some {ms : List Mc} {ns : List Nd} {b : List Nat} {x : Int} (h : balR ms ns = some (b, x)) : balP ms ns = toZ b ∧ balX ms ns = x ∧ balF ms ns = true := by
  unfold balP balX balF
  rw [h]
  exact ⟨rfl, rfl, rfl⟩
set_option maxRecDepth 100000 in
set_option maxHeartbeats 8000000 in
theorem balanceP_any {base : Nat} (ms : List Mc) (ns : List Nd) (hm : MsOk ms) (hn : NsOk ns) (hnl : ns.length ≤ 12) {v1 v2 : Value} {w : World} (h1 : MsF base v1 ms w) (h2 : Reads encD v2 ns w) (hT : Tz w) :
    Calls Tryz.prog 15 #[v1, v2] w fun e w' => ∃ v, e = .returned (.tuple #[v, .int .i64 (balX ms ns), .bool (balF ms ns)]) ∧ Reads encN v (balP ms ns) w' ∧ Below w.heap.size w w' := by
  have HR := Lib.hid (And.intro h1 (And.intro h2 hT))
  have HS := Lib.hid (bal_spec hm hn)
  have CL := Lib.hid (lengthening_any ms ns hm hn h1 h2)
  have CF := Lib.hid (fun (pre : List Nat) (hpl : pre.length ≤ ns.length) (v2 v3 : Value) (W : World) (hb : Below w.heap.size w W) (h2 : LgR v2 (rowsL ms ns) W) (h3 : Reads encN v3 (toZ pre) W) => fastest_any ms ns pre hm hn hpl hnl (h1.below hb) h2 h3 (hT.below hb))
  have hmf := hm.few
  obtain ⟨A1, c1, rfl, hc1, _⟩ := h1
  obtain ⟨A2, c2, rfl, _⟩ := h2
  clear hm hn hT
  go_enter Tryz.func15, Tryz.ntmps15
  go_wp2_with fail
  refine CL.out.mono ?_
  rintro e w2 ⟨vl, rfl, hlg, b2⟩
  have H2 := Lib.hid (And.intro hlg b2)
  clear hlg b2 CL
  have CF0 := Lib.hid (CF.out [] (Nat.zero_le _) vl (.slice none 0 0) w2 H2.out.2 H2.out.1 (nil_readsN w2))
  obtain ⟨X, hX⟩ : ∃ X, fastV ms ns [] = X := ⟨_, rfl⟩
  have HX := Lib.hid hX
  rw [hX] at CF0
  clear hX
  go_wp2_with fail
  refine CF0.out.mono ?_
  rintro e w3 ⟨rfl, b3⟩
  have H3 := Lib.hid (And.intro (H2.out.1.below b3) (H2.out.2.then_below b3 H2.out.2.size))
  clear b3 H2 CF0
  rcases HS.out with ⟨hb, hx⟩ | ⟨b, hb, hx, hx0, hg0, hgr⟩
  · have hge : 1125899906842624 ≤ X := by rw [← HX.out]; exact hx
    have HB := Lib.hid (bal_none hb)
    clear hb hx HS
    go_wp2_with fail
    refine bodyPost_ret (v := .tuple #[.slice none 0 0, .int .i64 0, .bool false]) (by unfold results; simp only [Tryz.results15]; go_simp) rfl ⟨.slice none 0 0, by rw [HB.out.2.1, HB.out.2.2], by rw [HB.out.1]; exact nil_readsN _, H3.out.2⟩
  · have hlt : X < 1125899906842624 := by rw [← HX.out]; exact hx
    obtain ⟨i0, hi0, hz0, hzz1, hz20⟩ := info_parts int_infoN
    have HI := Lib.hid (And.intro hi0 (And.intro hz0 (And.intro hzz1 hz20)))
    have HB := Lib.hid (bal_some hb)
    have HGI := Lib.hid (fun (pre : List Nat) (hl : pre.length ≤ ns.length) (hp : ∀ e ∈ pre, e < ms.length) => goOn_iff hx hx0 hl hp)
    have HG0 := Lib.hid hg0
    have HGR := Lib.hid hgr
    have hXi : ¬ (1125899906842624 ≤ X) := by omega
    rw [HX.out] at HGI HB
    clear hb hx hx0 hg0 hgr HS hi0 hz0 hzz1 hz20
    go_wp2_with fail
    go_loopw [9, 21] (fun v9 kk wr => ∃ pre : List Nat, pre.length ≤ ns.length ∧ kk = .int .i64 pre.length ∧ w.heap.size ≤ wr.heap.size ∧ Hid (Below w3.heap.size w3 wr ∧ wr.ownsRow w3.heap.size 3 1 v9 pre.length ((toZ pre).map (Value.int .i64)) ∧ Gr (GoOn ms ns) pre ∧ GoOn ms ns pre)) (fun _ kk _ => ns.length - (intOf kk).toNat)
    case atStart => exact ⟨[], by simp, rfl, H3.out.2.size, Below.refl _ _, World.ownsRow_nil _ _ _ _, Gr.nil, HG0.out⟩
    case round =>
      obtain ⟨pre, hpl, rfl, hwz, HP⟩ := hrel
      obtain ⟨A9, c9, rfl, _⟩ := own_form HP.out.2.1
      have HGE := Lib.hid (goOn_mem HP.out.2.2.2)
      have hwz3 := H3.out.2.size
      by_cases hlt : pre.length < ns.length
      · have HNX := Lib.hid (goOn_next HP.out.2.2.2 hlt)
        have i1 : (0 : Int) ≤ (pre.length : Int) := by omega
        have i2 : (pre.length : Int) < (ns.length : Int) := by omega
        go_wp2_with (at_builtin; refine hold ?_)
        refine loose ?_
        refine wpList_append_own _ rfl _ _ 22 rfl w3.heap.size 3 i0 _ 1 8 Tryz.underlying22 HI.out.1 HI.out.2.1 HI.out.2.2.1 HI.out.2.2.2 rfl (by omega) _ pre.length ((toZ pre).map (Value.int .i64)) rfl (HP.out.2.1.alloc _) ⟨wr.heap.size, 0, none⟩ 1 1 [.int .i64 0] rfl rfl (cell_one_new _ _ _) (by intro u hu; simp at hu; subst hu; rfl) (by unfold maxLen; omega) (by omega) (by simp; have := HP.out.1.size; omega) ?_
        intro v' w5 hown' hg' _
        have hown2 : w5.ownsRow w3.heap.size 3 1 v' (pre.length + 1) ((toZ (pre ++ [0])).map (Value.int .i64)) := by
          rw [toZ_snoc, List.map_append]
          exact hown'
        obtain ⟨gp, cp, rfl, hgb, hgl, _, _, _⟩ := own_read hown2 (by omega)
        have H5 : Hid (Below w3.heap.size w3 w5 ∧ w5.ownsRow w3.heap.size 3 1 (.slice (some ⟨gp, 0, none⟩) (pre.length + 1) cp) (pre.length + 1) ((toZ (pre ++ [0])).map (Value.int .i64))) := ⟨(HP.out.1.alloc HP.out.1.size _).grown hg' (by simp; have := HP.out.1.size; omega) (own_row HP.out.2.1), hown2⟩
        clear hown' hg' hown2
        go_wp2_with fail
        go_loopw [30] (fun v30 wq => ∃ x : Nat, x < ms.length ∧ Hid (Below w3.heap.size w3 wq ∧ wq.ownsRow w3.heap.size 3 1 (.slice (some ⟨gp, 0, none⟩) (pre.length + 1) cp) (pre.length + 1) ((toZ (pre ++ [x])).map (Value.int .i64)) ∧ ∀ y, y < x → ¬ GoOn ms ns (pre ++ [y]))) (fun _ wq => ms.length - (intOf ((wq.cell? ⟨gp, pre.length, none⟩).getD (.int .i64 0))).toNat)
        case atStart => exact ⟨0, by obtain ⟨x, hx, _⟩ := HNX.out; omega, H5.out.1, H5.out.2, fun y hy => by omega⟩
        case round =>
          clear H5
          obtain ⟨x, hxm, HQ⟩ := hrel
          obtain ⟨gp', cp', ev, _, hgl2, _, _, hrd⟩ := own_read HQ.out.2.1 (by omega)
          cases ev
          have hcell : wr.cell? ⟨gp, pre.length, none⟩ = some (.int .i64 x) := by
            have h := hrd pre.length (.int .i64 x) (by rw [toZ_snoc, List.map_append, List.getElem?_append_right (by rw [List.length_map, toZ_len]; exact Nat.le_refl _), List.length_map, toZ_len, Nat.sub_self]; rfl)
            exact h
          have hfz := own_frozen HQ.out.2.1 pre.length
          have CFX := Lib.hid (CF.out (pre ++ [x]) (by simp; omega) vl (.slice (some ⟨gp, 0, none⟩) (pre.length + 1) cp) wr (H3.out.2.then_below HQ.out.1 hwz3) (H3.out.1.below HQ.out.1) (readsN_own' HQ.out.2.1 (by rw [toZ_len]; simp)))
          have HGX : Hid (GoOn ms ns (pre ++ [x]) ↔ fastV ms ns (pre ++ [x]) ≤ X) := HGI.out (pre ++ [x]) (by simp; omega) (fun e he => by
            rcases List.mem_append.mp he with h | h
            · exact HGE.out e h
            · rw [List.mem_singleton.mp h]; exact hxm)
          generalize fastV ms ns (pre ++ [x]) = Y at *
          have HCL := Lib.hid hcell
          clear hcell hrd
          have hg2 := hgb
          have i3 : (pre.length : Int) < ((pre.length + 1 : Nat) : Int) := by omega
          by_cases hY : X < Y
          · have HNO : Hid (¬ GoOn ms ns (pre ++ [x])) := fun h => by have := HGX.out.mp h; omega
            go_wp2_with fail
            refine CFX.out.mono ?_
            rintro e w6 ⟨rfl, b6⟩
            have H6 : Hid (Below w3.heap.size w3 w6 ∧ w6.ownsRow w3.heap.size 3 1 (.slice (some ⟨gp, 0, none⟩) (pre.length + 1) cp) (pre.length + 1) ((toZ (pre ++ [x])).map (Value.int .i64))) := ⟨HQ.out.1.then_below b6 HQ.out.1.size, own_below HQ.out.2.1 b6⟩
            have hc6 : w6.cell? ⟨gp, pre.length, none⟩ = some (.int .i64 x) := (b6.cell (p := ⟨gp, pre.length, none⟩) hgl2).trans HCL.out
            have hf6 := own_frozen H6.out.2 pre.length
            have hl6 : gp < w6.heap.size := Nat.lt_of_lt_of_le hgl2 b6.size
            clear b6 hfz CFX
            have hxb : (x : Int) < 1000 := by omega
            have H7 : Hid (Below w3.heap.size w3 (w6.setCell ⟨gp, pre.length, none⟩ (.int .i64 ((x : Int) + 1))) ∧ (w6.setCell ⟨gp, pre.length, none⟩ (.int .i64 ((x : Int) + 1))).ownsRow w3.heap.size 3 1 (.slice (some ⟨gp, 0, none⟩) (pre.length + 1) cp) (pre.length + 1) ((toZ (pre ++ [x + 1])).map (Value.int .i64))) := by
              refine ⟨H6.out.1.setCell hg2 _, ?_⟩
              have h := own_set H6.out.2 pre.length (.int .i64 ((x : Int) + 1))
              rw [← List.map_set, toZ_set] at h
              rw [toZ_snoc, show ((x + 1 : Nat) : Int) = (x : Int) + 1 by omega]
              exact h
            have hx1 : x + 1 < ms.length := by
              obtain ⟨y, hy, hyg⟩ := HNX.out
              rcases Nat.lt_or_ge y x with h | h
              · exact absurd hyg (HQ.out.2.2 y h)
              · rcases Nat.lt_or_ge x y with h' | h'
                · omega
                · obtain rfl : y = x := by omega
                  exact absurd hyg HNO.out
            have HM2 : Hid (wr.cell? ⟨gp, pre.length, none⟩ = some (.int .i64 x) ∧ (w6.setCell ⟨gp, pre.length, none⟩ (.int .i64 ((x : Int) + 1))).cell? ⟨gp, pre.length, none⟩ = some (.int .i64 ((x : Int) + 1))) := ⟨HCL.out, by
              obtain ⟨_, _, ev, _, _, _, _, hrd⟩ := own_read H7.out.2 (by omega)
              cases ev
              exact hrd pre.length _ (by rw [toZ_snoc, show ((x + 1 : Nat) : Int) = (x : Int) + 1 by omega, List.map_append, List.getElem?_append_right (by rw [List.length_map, toZ_len]; exact Nat.le_refl _), List.length_map, toZ_len, Nat.sub_self]; rfl)⟩
            go_wp2_with fail
            go_roundw
            case rel => exact ⟨x + 1, hx1, H7.out.1, H7.out.2, fun y hy => by
              rcases Nat.lt_or_ge y x with h | h
              · exact HQ.out.2.2 y h
              · obtain rfl : y = x := by omega
                exact HNO.out⟩
            case measure =>
              rw [HM2.out.1, HM2.out.2]
              simp only [Option.getD_some, intOf]
              omega
          · have HYES : Hid (GoOn ms ns (pre ++ [x])) := HGX.out.mpr (by omega)
            go_wp2_with fail
            refine CFX.out.mono ?_
            rintro e w6 ⟨rfl, b6⟩
            have H6 : Hid (Below w3.heap.size w3 w6 ∧ w6.ownsRow w3.heap.size 3 1 (.slice (some ⟨gp, 0, none⟩) (pre.length + 1) cp) (pre.length + 1) ((toZ (pre ++ [x])).map (Value.int .i64))) := ⟨HQ.out.1.then_below b6 HQ.out.1.size, own_below HQ.out.2.1 b6⟩
            have hz6 : w.heap.size ≤ w6.heap.size := by have := H6.out.1.size; omega
            clear b6 hfz CFX
            have hsn : (pre ++ [x]).length = pre.length + 1 := by simp
            have HSN := Lib.hid hsn
            clear hsn
            go_wp2_with fail
            go_roundw
            case rel => exact ⟨pre ++ [x], by rw [HSN.out]; omega, by rw [HSN.out]; go_num, hz6, H6.out.1, by rw [HSN.out]; exact H6.out.2, Gr.snoc pre x HP.out.2.2.1 HQ.out.2.2 HYES.out, HYES.out⟩
            case measure => simp [intOf] <;> omega
      · have hpe : pre.length = ns.length := by omega
        have HE : Hid (pre = b ∧ wr.ownsRow w3.heap.size 3 1 (.slice A9 pre.length c9) pre.length ((toZ pre).map (Value.int .i64)) ∧ Below w.heap.size w wr) := ⟨HGR.out pre hpe HP.out.2.2.1 HP.out.2.2.2, HP.out.2.1, H3.out.2.then_below HP.out.1 hwz3⟩
        have i3 : ¬ (pre.length : Int) < (ns.length : Int) := by omega
        clear hpe
        go_wp2_with fail
        refine bodyPost_ret (v := .tuple #[.slice A9 pre.length c9, .int .i64 X, .bool true]) (by unfold results; simp only [Tryz.results15]; go_simp) rfl ⟨_, by rw [HB.out.2.1, HB.out.2.2], ?_, HE.out.2.2⟩
        rw [HB.out.1, ← HE.out.1]
        exact readsN_own' HE.out.2.1 (toZ_len pre).symm
end Go.Proofs.YtmjonmoagpkdiabGreatDoor
