/-
  The first change of a plan that makes the longest cycle shorter: the program's search.
-/
import Derived.Test.YtjmjmijjdgolfaaLcI
namespace Go.Proofs.Ytjmjmijjdgolfaa
open Go.RowKit
set_option linter.unusedSimpArgs false
set_option linter.unusedVariables false

theorem cloneI_any (o : List Int) (ho : o.length ≤ 1000000) {v : Value} {W : World} (h : Reads encN v o W) :
    Calls Try.prog 65 #[v] W fun e w' => ∃ v', e = .returned v' ∧ w'.ownsRow W.heap.size 3 1 v' o.length (o.map (Value.int .i64)) ∧ Below W.heap.size W w' := by
  obtain ⟨A, c, rfl, h⟩ := h
  by_cases h0 : o = []
  · subst h0
    cases A with
    | none =>
      refine (Try.slices_Clone_int_nil 0 c W).mono ?_
      rintro e w' ⟨rfl, rfl⟩
      exact ⟨_, rfl, World.ownsRow_nil _ _ _ _, Below.refl _ _⟩
    | some a =>
      refine (Try.slices_Clone_int_zero a c W).mono ?_
      rintro e w' ⟨v', rfl, h1, _, h2⟩
      exact ⟨_, rfl, h1, h2⟩
  · rcases h with h | ⟨g, rfl, h⟩
    · exact absurd h h0
    · refine (Try.slices_Clone_int g 0 o.length c o W (Nat.le_refl _) (by omega) (fun j hj => ?_)).mono ?_
      · rw [Nat.zero_add, row_n h hj, List.getD_eq_getElem?_getD, List.getElem?_eq_getElem hj]
        rfl
      · rintro e w' ⟨v', rfl, h1, _, h2⟩
        rw [List.take_of_length_le (Nat.le_refl _)] at h1
        exact ⟨_, rfl, h1, h2⟩

def btI : Option (Nat × Nat) → Int × Int × Bool
  | none => (0, 0, false)
  | some (i, k) => (i, k, true)
def toI : Option Nat → Int
  | none => 0
  | some q => q
theorem bst_yes {ms : List Mc} {ns : List Nd} {plan : List Int} {i k : Nat} (h : okAt ms ns plan i k = true) (h2 : thenC ms ns plan i k < (bst ms ns plan i k).2) : bst ms ns plan i (k + 1) = (some k, thenC ms ns plan i k) := by rw [bst, if_pos ⟨h, h2⟩]
theorem bst_no {ms : List Mc} {ns : List Nd} {plan : List Int} {i k : Nat} (h : ¬ (okAt ms ns plan i k = true ∧ thenC ms ns plan i k < (bst ms ns plan i k).2)) : bst ms ns plan i (k + 1) = bst ms ns plan i k := by rw [bst, if_neg h]
theorem idx_set {ms : List Mc} {plan : List Int} (h : Idx ms plan) (i k : Nat) (hk : k < ms.length) : Idx ms (plan.set i k) := fun x hx => by
  rcases List.mem_or_eq_of_mem_set hx with h2 | rfl
  · exact h x h2
  · omega
/-- The loads and the slowest machine, one after the other. -/
theorem slowL_any {base : Nat} (ms : List Mc) (ns : List Nd) (plan : List Int) (hm : MsOk ms) {wo : World} {gb : Nat} {W : World} (h : LS wo gb (ldL ms ns plan) W) :
    Calls Try.prog 56 #[.slice (some ⟨gb, 0, none⟩) ms.length ms.length] W fun e w' => e = .returned (.tuple #[.int .i64 (slow (cyL ms ns plan) : Nat), .int .i64 (slowC (cyL ms ns plan))]) ∧ Below W.heap.size W w' := by
  have h1 := hm.some
  have h2 := hm.few
  have := slowest_any (ldL ms ns plan) (by rw [ldL_len]; exact h1) (by rw [ldL_len]; omega) wo gb W h
  rw [ldL_len, ldL_fst] at this
  exact this

set_option maxRecDepth 100000 in
set_option maxHeartbeats 8000000 in
theorem betterIn_any {base : Nat} (ms : List Mc) (ns : List Nd) (plan : List Int) (hm : MsOk ms) (hn : NsOk ns) (hp : planErr ms ns plan = 0) {v1 v2 v3 : Value} {w : World} (h1 : MsF base v1 ms w) (h2 : Reads encD v2 ns w) (h3 : Reads encN v3 plan w) :
    Calls Try.prog 57 #[v1, v2, v3] w fun e w' => e = .returned (.tuple #[.int .i64 (btI (btrL ms ns plan)).1, .int .i64 (btI (btrL ms ns plan)).2.1, .bool (btI (btrL ms ns plan)).2.2]) ∧ Below w.heap.size w w' := by
  have HR := Lib.hid (And.intro h1 (And.intro h2 h3))
  obtain ⟨hlen, hI⟩ := planErr_ok hp
  have HM := Lib.hid hm
  have HN := Lib.hid hn
  have HI := Lib.hid hI
  have HLEN := Lib.hid hlen
  have hmf := hm.few
  have hms := hm.some
  have hnf := hn.few
  have hpl : plan.length ≤ 1000 := by omega
  have CL := Lib.hid (loads_any ms ns plan hm hn hI (by omega) h1 h2 h3)
  have CLK := Lib.hid (fun (i k : Nat) (hk : k < ms.length) (W : World) (v : Value) (hb : Below w.heap.size w W) (hv : Reads encN v (plan.set i k) W) => loads_any ms ns (plan.set i k) hm hn (idx_set hI i k hk) (by rw [List.length_set]; omega) (h1.below hb) (h2.below hb) hv)
  obtain ⟨A1, c1, rfl, hc1, _⟩ := h1
  obtain ⟨A2, c2, rfl, _⟩ := h2
  obtain ⟨A3, c3, rfl, _⟩ := h3
  have HBT : Hid (btrL ms ns plan = btr ms ns plan (plan.length - 0) 0) := rfl
  generalize btrL ms ns plan = BT at *
  clear hm hn hI hlen hp
  go_enter Try.func57, Try.ntmps57
  go_wp2_with fail
  refine CL.out.mono ?_
  rintro e w3 ⟨gb, rfl, hLS⟩
  have HL := Lib.hid hLS
  clear hLS CL
  go_wp2_with fail
  refine (slowL_any (base := base) ms ns plan HM.out HL.out).mono ?_
  rintro e w4 ⟨rfl, b4⟩
  have HL4 := Lib.hid (HL.out.then_ b4)
  clear b4 HL
  have HNOW : Hid (slowC (cyL ms ns plan) = nowC ms ns plan) := rfl
  rw [HNOW.out]
  generalize slow (cyL ms ns plan) = sa at *
  have HNO := Lib.hid (fun i => bst_none ms ns plan i ms.length)
  clear HNOW
  generalize hnow : nowC ms ns plan = now at *
  have HNW := Lib.hid hnow
  clear hnow
  go_wp2_with fail
  go_loopw [32] (fun kk wr => ∃ i : Nat, i ≤ plan.length ∧ kk = .int .i64 i ∧ Hid (Below w4.heap.size w4 wr ∧ BT = btr ms ns plan (plan.length - i) i)) (fun kk _ => plan.length - (intOf kk).toNat)
  case atStart => exact ⟨0, by omega, rfl, Below.refl _ _, HBT.out⟩
  case round =>
    clear HBT
    obtain ⟨i, hi, rfl, HS⟩ := hrel
    by_cases hil : i < plan.length
    · have hin : i < ns.length := by have := HLEN.out; omega
      obtain ⟨hp0, hp1⟩ := HI.out plan[i] (List.getElem_mem hil)
      obtain ⟨p, hpp⟩ := Int.eq_ofNat_of_zero_le hp0
      have hbw := HL4.out.bel.then_below HS.out.1 HL4.out.bel.size
      obtain ⟨g3, e3, hg3, d0⟩ := readsN_at (HR.out.2.2.below hbw) hil
      cases e3
      rw [hpp] at d0 hp1
      have HPP := Lib.hid hpp
      have HB0 := Lib.hid HS.out.1
      have HBT2 : Hid (BT = btr ms ns plan ((plan.length - (i + 1)) + 1) i) := HS.out.2.trans (by rw [show plan.length - i = (plan.length - (i + 1)) + 1 by omega])
      clear hpp hp0 hbw HS
      have i1 : (0 : Int) ≤ (i : Int) := by omega
      have i2 : (i : Int) < (plan.length : Int) := by omega
      have i5 : (i : Int) < (ns.length : Int) := by omega
      obtain ⟨wq, hwq⟩ : ∃ wq : World, wq = wr := ⟨_, rfl⟩
      rw [← hwq] at HB0 d0 hg3 ⊢
      clear hwq
      go_wp2_with fail
      clear d0 hg3
      go_loopw [14, 15, 40] (fun v14 v15 kk wr => ∃ k : Nat, k ≤ ms.length ∧ kk = .int .i64 k ∧ v14 = .int .i64 (toI (bst ms ns plan i k).1) ∧ v15 = .int .i64 (bst ms ns plan i k).2 ∧ Hid (Below w4.heap.size w4 wr)) (fun _ _ kk _ => ms.length - (intOf kk).toNat)
      case atStart => exact ⟨0, by omega, rfl, rfl, by show _ = Value.int .i64 (nowC ms ns plan); rw [HNW.out], HB0⟩
      case round =>
        clear HB0
        obtain ⟨k, hk, rfl, rfl, rfl, HB⟩ := hrel
        by_cases hkl : k < ms.length
        · have hbw := HL4.out.bel.then_below HB.out HL4.out.bel.size
          obtain ⟨g1, e1, hg1, q0, q1, q2, q3, u, q4, A4, c4, rfl, hc4, hr4⟩ := (HR.out.1.below hbw).at_ hkl
          cases e1
          have hmo := HM.out.ok _ (List.getElem_mem hkl)
          have HOK : Hid (okAt ms ns plan i k = (decide ((p : Int) ≠ (k : Int)) && (decide ((plan.count (k : Int) : Int) < ms[k].feed) && has ms[k].can ns[i].part))) := by
            show _ = _
            unfold okAt
            rw [mcA_at hkl, ndA_at hin, List.getD_eq_getElem?_getD, List.getElem?_eq_getElem hil, Option.getD_some, HPP.out]
          have HY := Lib.hid (@bst_yes ms ns plan i k)
          have HNB := Lib.hid (@bst_no ms ns plan i k)
          have HBW := Lib.hid hbw
          have hLk : k < (ldL ms ns plan).length := by rw [ldL_len]; exact hkl
          have HLAT : Hid ((ldL ms ns plan)[k] = (cyOf ms[k] k plan ns, (plan.count (k : Int) : Int))) := ldL_at ms ns plan hkl
          clear hbw
          generalize cyOf ms[k] k plan ns = cy at *
          generalize (plan.count (k : Int) : Int) = pa at *
          generalize ms[k] = m at *
          obtain ⟨key, each, fixed, feed, can⟩ := m
          have hcl := hmo.few
          have hco := hmo.can
          dsimp only at q0 q1 q2 q3 q4 HOK hcl hco hc4 hr4
          have HU : Hid (ReadsF base encS (.slice A4 can.length c4) can wr) := ⟨A4, c4, rfl, hc4, hr4⟩
          have CT := Lib.hid (fun (part : ByteArray) (many : Int) (W : World) (h : ReadsF base encS (.slice A4 can.length c4) can W) => takes_any cy pa key each fixed feed can part many (by omega) hco h)
          clear hmo hco hr4
          generalize hto : toI (bst ms ns plan i k).1 = to_ at *
          generalize hle : (bst ms ns plan i k).2 = least at *
          have HTL := Lib.hid (And.intro hto hle)
          clear hto hle
          have i3 : (0 : Int) ≤ (k : Int) := by omega
          have i4 : (k : Int) < (ms.length : Int) := by omega
          have HX : Hid (Below w4.heap.size w4 (wr.alloc (.cells #[.string key, .int .i64 each, .int .i64 fixed, .int .i64 feed, .slice A4 can.length c4] 85)) ∧ ReadsF base encS (.slice A4 can.length c4) can (wr.alloc (.cells #[.string key, .int .i64 each, .int .i64 fixed, .int .i64 feed, .slice A4 can.length c4] 85)) ∧ (wr.alloc (.cells #[.string key, .int .i64 each, .int .i64 fixed, .int .i64 feed, .slice A4 can.length c4] 85)).heap[wr.heap.size]? = some (.cells #[.string key, .int .i64 each, .int .i64 fixed, .int .i64 feed, .slice A4 can.length c4] 85 (0, 0))) :=
            ⟨HB.out.alloc HB.out.size _, HU.out.below ((Below.refl _ _).alloc (Nat.le_refl _) _), blk_new wr _ rfl⟩
          go_upto_region 10 with (fail)
          generalize wr.alloc (.cells #[.string key, .int .i64 each, .int .i64 fixed, .int .i64 feed, .slice A4 can.length c4] 85) = wx at *
          obtain ⟨gx, hgx⟩ : ∃ gx, wr.heap.size = gx := ⟨_, rfl⟩
          rw [hgx] at HX ⊢
          clear hgx q0 q1 q2 q3 q4 HU HB HBW
          obtain ⟨p0, p1, p2, p3, p4⟩ := blk5 HX.out.2.2
          have pl := lt_of_blk HX.out.2.2
          have hbx := HL4.out.bel.then_below HX.out.1 HL4.out.bel.size
          obtain ⟨g2, e2, hg2, n0, n1⟩ := readsD_at (HR.out.2.1.below hbx) hin
          cases e2
          obtain ⟨l0, l1⟩ := (HL4.out.then_ HX.out.1).at_ hLk
          have hgb := lt_of_blk (HL4.out.then_ HX.out.1).row
          rw [HLAT.out] at l0 l1
          dsimp only at l0 l1
          have HBX := Lib.hid hbx
          clear hbx
          by_cases hkp : k = p
          · have HF : Hid (bst ms ns plan i (k + 1) = bst ms ns plan i k) := HNB.out (by rw [HOK.out, hkp]; simp)
            subst hkp
            clear HOK HY HNB CT n0 n1 l0 l1 p0 p1 p2 p3 p4
            go_wp2_with fail
            go_quiet (fail)
            go_wp2_with fail
            go_roundw
            case rel => exact ⟨k + 1, by omega, by go_num, by rw [HF.out, HTL.out.1], by rw [HF.out, HTL.out.2], HX.out.1.drawN _⟩
            case measure => simp [intOf]; omega
          have HOK2 : Hid (okAt ms ns plan i k = (decide (pa < feed) && has can ns[i].part)) := HOK.out.trans (by rw [decide_eq_true (show (p : Int) ≠ (k : Int) by omega), Bool.true_and])
          have hkp2 : ((k : Int) == (p : Int)) = false := beq_eq_false_iff_ne.mpr (by omega)
          generalize ns[i] = nd at *
          obtain ⟨part, many⟩ := nd
          dsimp only at n0 n1 HOK2
          have CT2 := Lib.hid (CT.out part many)
          generalize hok : (decide (pa < feed) && has can part) = b at *
          have hzx := HX.out.1.size
          clear HOK CT hok
          refine Rg.rgL (fun a b => Below a.heap.size a b)
            [(fun vs u => vs 0 = .int .i64 k), (fun vs u => vs 1 = .int .i64 p), (fun vs u => vs 2 = .bool false), (fun vs u => vs 3 = .bool false), (fun vs u => vs 4 = .slice (some ⟨gb, 0, none⟩) ms.length ms.length), (fun vs u => vs 5 = .int .i64 k), (fun vs u => vs 6 = .pointer (some ⟨gb, k * 2, none⟩)), (fun vs u => vs 7 = .agg #[.int .i64 cy, .int .i64 pa]), (fun vs u => vs 8 = .agg #[.string key, .int .i64 each, .int .i64 fixed, .int .i64 feed, .slice A4 can.length c4]), (fun vs u => vs 9 = .slice (some ⟨g2, 0, none⟩) ns.length c2), (fun vs u => vs 10 = .int .i64 i), (fun vs u => vs 11 = .pointer (some ⟨g2, i * 2, none⟩)), (fun vs u => vs 12 = .agg #[.string part, .int .i64 many])]
            [[], [], [0, 1], [0, 1, 2], [0, 1, 2, 3], [0, 1, 2, 3], [0, 1, 2, 3, 4, 5], [0, 1, 2, 3, 4, 5, 6], [0, 1, 2, 3], [0, 1, 2, 3], [0, 1, 2, 3], [0, 1, 2, 3, 9, 10], [0, 1, 2, 3, 9, 10, 11]] [some 45, some 46, some 47, some 48, some 49, some 50, some 51, some 52, some 53, some 54, some 55, some 56, some 57, some 58, some 59, some 60] [] (fun _ _ => True) [[], [], [0, 1], [0, 1, 2], [0, 1, 2, 3], [0, 1, 2, 3], [0, 1, 2, 3, 4, 5], [0, 1, 2, 3, 4, 5, 6], [0, 1, 2, 3], [0, 1, 2, 3], [0, 1, 2, 3], [0, 1, 2, 3, 9, 10], [0, 1, 2, 3, 9, 10, 11], [0, 1, 2, 3, 4, 5, 6, 7, 8, 9, 10, 11, 12], [0, 1, 2, 3, 4, 5, 6, 7, 8, 9, 10, 11, 12, 13], [0, 1, 2, 3, 4, 5, 6, 7, 8, 9, 10, 11, 12, 13, 14]]
            (by kernel_rfl) (by decide) (by kernel_rfl) (by kernel_rfl) (by kernel_rfl) (by kernel_rfl) (by kernel_rfl) (fun _ => Below.refl _ _) (fun _ _ _ h k => h.ext k) (fun _ _ h => h.size) ?_ trivial ?_ ?_
          · intro t ht vs w w' h hE
            simp only [List.mem_cons, List.not_mem_nil, or_false] at ht
            rcases ht with rfl | rfl | rfl | rfl | rfl | rfl | rfl | rfl | rfl | rfl | rfl | rfl | rfl
            · exact h
            · exact h
            · exact h
            · exact h
            · exact h
            · exact h
            · exact h
            · exact h
            · exact h
            · exact h
            · exact h
            · exact h
            · exact h
          ·
            refine Rg.cons 0 1 rfl (Rg.plain rfl ?_) ?_
            · intro vs W n hn hI hG hT hF K hK
              simp only [Rg.putsD, List.getD_cons_zero, List.getD_cons_succ, Act.put, List.setIfInBounds_toArray, List.set_cons_zero, List.set_cons_succ] at hK ⊢
              clear hn
              clear hF hI
              have H := Lib.hid hK
              clear hK hT
              go_simp
              exact H.out _ _ (Below.refl _ _) rfl (fun h => by cases h) trivial
            refine Rg.cons 1 2 rfl (Rg.plain rfl ?_) ?_
            · intro vs W n hn hI hG hT hF K hK
              simp only [Rg.putsD, List.getD_cons_zero, List.getD_cons_succ, Act.put, List.setIfInBounds_toArray, List.set_cons_zero, List.set_cons_succ] at hK ⊢
              clear hn
              clear hF hI
              have H := Lib.hid hK
              clear hK hT
              go_simp
              exact H.out _ _ (Below.refl _ _) rfl (fun h => by cases h) trivial
            refine Rg.cons 2 3 rfl (Rg.plain rfl ?_) ?_
            · intro vs W n hn hI hG hT hF K hK
              simp only [Rg.putsD, List.getD_cons_zero, List.getD_cons_succ, Act.put, List.setIfInBounds_toArray, List.set_cons_zero, List.set_cons_succ] at hK ⊢
              clear hn
              clear hF hI
              have t0 : vs 0 = .int .i64 k := hT 0 (by decide)
              have t1 : vs 1 = .int .i64 p := hT 1 (by decide)
              simp only [t0, t1] at hK
              have H := Lib.hid hK
              clear hK hT
              go_simp
              exact H.out _ _ (Below.refl _ _) rfl (fun h => by cases h) trivial
            refine Rg.cons 3 4 rfl (Rg.plain rfl ?_) ?_
            · intro vs W n hn hI hG hT hF K hK
              simp only [Rg.putsD, List.getD_cons_zero, List.getD_cons_succ, Act.put, List.setIfInBounds_toArray, List.set_cons_zero, List.set_cons_succ] at hK ⊢
              clear hn
              clear hF hI
              have t0 : vs 0 = .int .i64 k := hT 0 (by decide)
              have t1 : vs 1 = .int .i64 p := hT 1 (by decide)
              have t2 : vs 2 = .bool false := hT 2 (by decide)
              simp only [t0, t1, t2] at hK
              have H := Lib.hid hK
              clear hK hT
              go_simp
              exact H.out _ _ (Below.refl _ _) rfl (fun h => by cases h) trivial
            refine Rg.cons 4 5 rfl (Rg.guarded ?_ ?_) ?_
            · intro vs W hT
              have tg : vs 3 = .bool false := hT 3 (by decide)
              simp only [Rg.putsD, List.getD_cons_zero, List.getD_cons_succ, Act.put, List.setIfInBounds_toArray, List.set_cons_zero, List.set_cons_succ, tg]
              rfl
            · intro vs W n hn hI hG hT hF K hK
              simp only [Rg.putsD, List.getD_cons_zero, List.getD_cons_succ, Act.put, List.setIfInBounds_toArray, List.set_cons_zero, List.set_cons_succ] at hK ⊢
              clear hn
              clear hF hI
              have t0 : vs 0 = .int .i64 k := hT 0 (by decide)
              have t1 : vs 1 = .int .i64 p := hT 1 (by decide)
              have t2 : vs 2 = .bool false := hT 2 (by decide)
              have t3 : vs 3 = .bool false := hT 3 (by decide)
              simp only [t0, t1, t2, t3] at hK
              have H := Lib.hid hK
              clear hK hT
              go_simp
              exact H.out _ _ (Below.refl _ _) rfl (fun h => by cases h) trivial
            refine Rg.cons 5 6 rfl (Rg.guarded ?_ ?_) ?_
            · intro vs W hT
              have tg : vs 3 = .bool false := hT 3 (by decide)
              simp only [Rg.putsD, List.getD_cons_zero, List.getD_cons_succ, Act.put, List.setIfInBounds_toArray, List.set_cons_zero, List.set_cons_succ, tg]
              rfl
            · intro vs W n hn hI hG hT hF K hK
              simp only [Rg.putsD, List.getD_cons_zero, List.getD_cons_succ, Act.put, List.setIfInBounds_toArray, List.set_cons_zero, List.set_cons_succ] at hK ⊢
              clear hn
              clear hF hI
              have t0 : vs 0 = .int .i64 k := hT 0 (by decide)
              have t1 : vs 1 = .int .i64 p := hT 1 (by decide)
              have t2 : vs 2 = .bool false := hT 2 (by decide)
              have t3 : vs 3 = .bool false := hT 3 (by decide)
              simp only [t0, t1, t2, t3] at hK
              have H := Lib.hid hK
              clear hK hT
              go_simp
              exact H.out _ _ (Below.refl _ _) rfl (fun h => by cases h) trivial
            refine Rg.cons 6 7 rfl (Rg.guarded ?_ ?_) ?_
            · intro vs W hT
              have tg : vs 3 = .bool false := hT 3 (by decide)
              simp only [Rg.putsD, List.getD_cons_zero, List.getD_cons_succ, Act.put, List.setIfInBounds_toArray, List.set_cons_zero, List.set_cons_succ, tg]
              rfl
            · intro vs W n hn hI hG hT hF K hK
              simp only [Rg.putsD, List.getD_cons_zero, List.getD_cons_succ, Act.put, List.setIfInBounds_toArray, List.set_cons_zero, List.set_cons_succ] at hK ⊢
              clear hn
              clear hF hI
              have t0 : vs 0 = .int .i64 k := hT 0 (by decide)
              have t1 : vs 1 = .int .i64 p := hT 1 (by decide)
              have t2 : vs 2 = .bool false := hT 2 (by decide)
              have t3 : vs 3 = .bool false := hT 3 (by decide)
              have t4 : vs 4 = .slice (some ⟨gb, 0, none⟩) ms.length ms.length := hT 4 (by decide)
              have t5 : vs 5 = .int .i64 k := hT 5 (by decide)
              simp only [t0, t1, t2, t3, t4, t5] at hK
              have H := Lib.hid hK
              clear hK hT
              go_simp
              exact H.out _ _ (Below.refl _ _) rfl (fun h => by cases h) trivial
            refine Rg.cons 7 8 rfl (Rg.guarded ?_ ?_) ?_
            · intro vs W hT
              have tg : vs 3 = .bool false := hT 3 (by decide)
              simp only [Rg.putsD, List.getD_cons_zero, List.getD_cons_succ, Act.put, List.setIfInBounds_toArray, List.set_cons_zero, List.set_cons_succ, tg]
              rfl
            · intro vs W n hn hI hG hT hF K hK
              simp only [Rg.putsD, List.getD_cons_zero, List.getD_cons_succ, Act.put, List.setIfInBounds_toArray, List.set_cons_zero, List.set_cons_succ] at hK ⊢
              clear hn
              clear hF hI
              have t0 : vs 0 = .int .i64 k := hT 0 (by decide)
              have t1 : vs 1 = .int .i64 p := hT 1 (by decide)
              have t2 : vs 2 = .bool false := hT 2 (by decide)
              have t3 : vs 3 = .bool false := hT 3 (by decide)
              have t4 : vs 4 = .slice (some ⟨gb, 0, none⟩) ms.length ms.length := hT 4 (by decide)
              have t5 : vs 5 = .int .i64 k := hT 5 (by decide)
              have t6 : vs 6 = .pointer (some ⟨gb, k * 2, none⟩) := hT 6 (by decide)
              have c0 := (hG.cell (p := ⟨gb, k * 2, none⟩) hgb).trans l0
              have c1 := (hG.cell (p := ⟨gb, k * 2 + 1, none⟩) hgb).trans l1
              simp only [t0, t1, t2, t3, t4, t5, t6] at hK
              have H := Lib.hid hK
              clear hK hT
              go_simp
              exact H.out _ _ (Below.refl _ _) rfl (fun h => by cases h) trivial
            refine Rg.cons 8 9 rfl (Rg.guarded ?_ ?_) ?_
            · intro vs W hT
              have tg : vs 3 = .bool false := hT 3 (by decide)
              simp only [Rg.putsD, List.getD_cons_zero, List.getD_cons_succ, Act.put, List.setIfInBounds_toArray, List.set_cons_zero, List.set_cons_succ, tg]
              rfl
            · intro vs W n hn hI hG hT hF K hK
              simp only [Rg.putsD, List.getD_cons_zero, List.getD_cons_succ, Act.put, List.setIfInBounds_toArray, List.set_cons_zero, List.set_cons_succ] at hK ⊢
              clear hn
              clear hF hI
              have t0 : vs 0 = .int .i64 k := hT 0 (by decide)
              have t1 : vs 1 = .int .i64 p := hT 1 (by decide)
              have t2 : vs 2 = .bool false := hT 2 (by decide)
              have t3 : vs 3 = .bool false := hT 3 (by decide)
              obtain ⟨c0, c1, c2, c3, c4⟩ := blk5 (blk_below hG HX.out.2.2)
              simp only [t0, t1, t2, t3] at hK
              have H := Lib.hid hK
              clear hK hT
              go_simp
              exact H.out _ _ (Below.refl _ _) rfl (fun h => by cases h) trivial
            refine Rg.cons 9 10 rfl (Rg.guarded ?_ ?_) ?_
            · intro vs W hT
              have tg : vs 3 = .bool false := hT 3 (by decide)
              simp only [Rg.putsD, List.getD_cons_zero, List.getD_cons_succ, Act.put, List.setIfInBounds_toArray, List.set_cons_zero, List.set_cons_succ, tg]
              rfl
            · intro vs W n hn hI hG hT hF K hK
              simp only [Rg.putsD, List.getD_cons_zero, List.getD_cons_succ, Act.put, List.setIfInBounds_toArray, List.set_cons_zero, List.set_cons_succ] at hK ⊢
              clear hn
              clear hF hI
              have t0 : vs 0 = .int .i64 k := hT 0 (by decide)
              have t1 : vs 1 = .int .i64 p := hT 1 (by decide)
              have t2 : vs 2 = .bool false := hT 2 (by decide)
              have t3 : vs 3 = .bool false := hT 3 (by decide)
              simp only [t0, t1, t2, t3] at hK
              have H := Lib.hid hK
              clear hK hT
              go_simp
              exact H.out _ _ (Below.refl _ _) rfl (fun h => by cases h) trivial
            refine Rg.cons 10 11 rfl (Rg.guarded ?_ ?_) ?_
            · intro vs W hT
              have tg : vs 3 = .bool false := hT 3 (by decide)
              simp only [Rg.putsD, List.getD_cons_zero, List.getD_cons_succ, Act.put, List.setIfInBounds_toArray, List.set_cons_zero, List.set_cons_succ, tg]
              rfl
            · intro vs W n hn hI hG hT hF K hK
              simp only [Rg.putsD, List.getD_cons_zero, List.getD_cons_succ, Act.put, List.setIfInBounds_toArray, List.set_cons_zero, List.set_cons_succ] at hK ⊢
              clear hn
              clear hF hI
              have t0 : vs 0 = .int .i64 k := hT 0 (by decide)
              have t1 : vs 1 = .int .i64 p := hT 1 (by decide)
              have t2 : vs 2 = .bool false := hT 2 (by decide)
              have t3 : vs 3 = .bool false := hT 3 (by decide)
              simp only [t0, t1, t2, t3] at hK
              have H := Lib.hid hK
              clear hK hT
              go_simp
              exact H.out _ _ (Below.refl _ _) rfl (fun h => by cases h) trivial
            refine Rg.cons 11 12 rfl (Rg.guarded ?_ ?_) ?_
            · intro vs W hT
              have tg : vs 3 = .bool false := hT 3 (by decide)
              simp only [Rg.putsD, List.getD_cons_zero, List.getD_cons_succ, Act.put, List.setIfInBounds_toArray, List.set_cons_zero, List.set_cons_succ, tg]
              rfl
            · intro vs W n hn hI hG hT hF K hK
              simp only [Rg.putsD, List.getD_cons_zero, List.getD_cons_succ, Act.put, List.setIfInBounds_toArray, List.set_cons_zero, List.set_cons_succ] at hK ⊢
              clear hn
              clear hF hI
              have t0 : vs 0 = .int .i64 k := hT 0 (by decide)
              have t1 : vs 1 = .int .i64 p := hT 1 (by decide)
              have t2 : vs 2 = .bool false := hT 2 (by decide)
              have t3 : vs 3 = .bool false := hT 3 (by decide)
              have t9 : vs 9 = .slice (some ⟨g2, 0, none⟩) ns.length c2 := hT 9 (by decide)
              have t10 : vs 10 = .int .i64 i := hT 10 (by decide)
              simp only [t0, t1, t2, t3, t9, t10] at hK
              have H := Lib.hid hK
              clear hK hT
              go_simp
              exact H.out _ _ (Below.refl _ _) rfl (fun h => by cases h) trivial
            refine Rg.cons 12 13 rfl (Rg.guarded ?_ ?_) ?_
            · intro vs W hT
              have tg : vs 3 = .bool false := hT 3 (by decide)
              simp only [Rg.putsD, List.getD_cons_zero, List.getD_cons_succ, Act.put, List.setIfInBounds_toArray, List.set_cons_zero, List.set_cons_succ, tg]
              rfl
            · intro vs W n hn hI hG hT hF K hK
              simp only [Rg.putsD, List.getD_cons_zero, List.getD_cons_succ, Act.put, List.setIfInBounds_toArray, List.set_cons_zero, List.set_cons_succ] at hK ⊢
              clear hn
              clear hF hI
              have t0 : vs 0 = .int .i64 k := hT 0 (by decide)
              have t1 : vs 1 = .int .i64 p := hT 1 (by decide)
              have t2 : vs 2 = .bool false := hT 2 (by decide)
              have t3 : vs 3 = .bool false := hT 3 (by decide)
              have t9 : vs 9 = .slice (some ⟨g2, 0, none⟩) ns.length c2 := hT 9 (by decide)
              have t10 : vs 10 = .int .i64 i := hT 10 (by decide)
              have t11 : vs 11 = .pointer (some ⟨g2, i * 2, none⟩) := hT 11 (by decide)
              have c0 := (hG.cell (p := ⟨g2, i * 2, none⟩) hg2).trans n0
              have c1 := (hG.cell (p := ⟨g2, i * 2 + 1, none⟩) hg2).trans n1
              simp only [t0, t1, t2, t3, t9, t10, t11] at hK
              have H := Lib.hid hK
              clear hK hT
              go_simp
              exact H.out _ _ (Below.refl _ _) rfl (fun h => by cases h) trivial
            exact Rg.nil
          · intro vs W hG hI hT hF
            have t0 : vs 0 = .int .i64 k := hT 0 (by decide)
            have t1 : vs 1 = .int .i64 p := hT 1 (by decide)
            have t2 : vs 2 = .bool false := hT 2 (by decide)
            have t3 : vs 3 = .bool false := hT 3 (by decide)
            have t4 : vs 4 = .slice (some ⟨gb, 0, none⟩) ms.length ms.length := hT 4 (by decide)
            have t5 : vs 5 = .int .i64 k := hT 5 (by decide)
            have t6 : vs 6 = .pointer (some ⟨gb, k * 2, none⟩) := hT 6 (by decide)
            have t7 : vs 7 = .agg #[.int .i64 cy, .int .i64 pa] := hT 7 (by decide)
            have t8 : vs 8 = .agg #[.string key, .int .i64 each, .int .i64 fixed, .int .i64 feed, .slice A4 can.length c4] := hT 8 (by decide)
            have t9 : vs 9 = .slice (some ⟨g2, 0, none⟩) ns.length c2 := hT 9 (by decide)
            have t10 : vs 10 = .int .i64 i := hT 10 (by decide)
            have t11 : vs 11 = .pointer (some ⟨g2, i * 2, none⟩) := hT 11 (by decide)
            have t12 : vs 12 = .agg #[.string part, .int .i64 many] := hT 12 (by decide)
            simp only [List.length_cons, List.length_nil, Nat.reduceAdd, List.range, List.range.loop, List.drop_succ_cons, List.drop_zero, Rg.putsD, List.getD_cons_zero, List.getD_cons_succ, Act.put, List.setIfInBounds_toArray, List.set_cons_zero, List.set_cons_succ, t0, t1, t2, t3, t4, t5, t6, t7, t8, t9, t10, t11, t12]
            clear hT t0 t1 t2 t3 t4 t5 t6 t7 t8 t9 t10 t11 t12
            have hGW : Below wx.heap.size wx W := (Below.refl _ _).drew.then_below hG (Nat.le_refl _)
            have HBW : Hid (Below w4.heap.size w4 W) := HX.out.1.then_below hGW hzx
            have HU := Lib.hid (HX.out.2.1.below hGW)
            clear hF hI hG hGW n0 n1 l0 l1 p0 p1 p2 p3 p4 hkp2
            cases b
            · have HF : Hid (bst ms ns plan i (k + 1) = bst ms ns plan i k) := HNB.out (by rw [HOK2.out]; simp)
              clear HY HNB
              go_wp2_with fail
              refine (CT2.out _ HU.out).mono ?_
              rintro e w5 ⟨rfl, b5⟩
              have HB5 := Lib.hid (HBW.out.then_below b5 HBW.out.size)
              clear b5
              go_wp2_with fail
              go_roundw
              case rel => exact ⟨k + 1, by omega, by go_num, by rw [HF.out, HTL.out.1], by rw [HF.out, HTL.out.2], HB5.out⟩
              case measure => simp [intOf]; omega
            · go_wp2_with fail
              refine (CT2.out _ HU.out).mono ?_
              rintro e w5 ⟨rfl, b5⟩
              have HB5 := Lib.hid (HBW.out.then_below b5 HBW.out.size)
              clear b5 HU CT2 HX HBX HBW
              have CC := Lib.hid (cloneI_any plan (by omega) (HR.out.2.2.below (HL4.out.bel.then_below HB5.out HL4.out.bel.size)))
              go_wp2_with fail
              refine CC.out.mono ?_
              rintro e w6 ⟨v6, rfl, hown, b6⟩
              obtain ⟨gc, cc, rfl, hbc, hltc, hnc, _, hrd⟩ := own_read hown (by omega)
              have hcell := hrd i (.int .i64 plan[i]) (by rw [List.getElem?_map, List.getElem?_eq_getElem hil]; rfl)
              have hfro := own_frozen hown i
              have hset := own_set hown i (.int .i64 k)
              rw [show (plan.map (Value.int .i64)).set i (.int .i64 k) = (plan.set i (k : Int)).map (Value.int .i64) from (List.map_set ..).symm] at hset
              have HS6 : Hid (Below w4.heap.size w4 (w6.setCell ⟨gc, i, none⟩ (.int .i64 k)) ∧ Reads encN (.slice (some ⟨gc, 0, none⟩) plan.length cc) (plan.set i (k : Int)) (w6.setCell ⟨gc, i, none⟩ (.int .i64 k))) := by
                refine ⟨(HB5.out.then_below b6 HB5.out.size).setCell ?_ _, readsN_own' hset (by rw [List.length_set])⟩
                have := HB5.out.size
                show w4.heap.size ≤ gc
                omega
              clear hown hrd hset b6 CC
              go_upto_region 13 with (fail)
              generalize w6.setCell ⟨gc, i, none⟩ (.int .i64 k) = w7 at *
              clear hcell hfro hltc
              have CK := Lib.hid (CLK.out i k hkl w7 _ (HL4.out.bel.then_below HS6.out.1 HL4.out.bel.size) HS6.out.2)
              go_wp2_with fail
              refine CK.out.mono ?_
              rintro e w8 ⟨gd, rfl, hLS⟩
              have HLS := Lib.hid hLS
              have HB8 := Lib.hid (HS6.out.1.then_below hLS.bel HS6.out.1.size)
              clear hLS CK
              go_wp2_with fail
              refine (slowL_any (base := base) ms ns (plan.set i (k : Int)) HM.out HLS.out).mono ?_
              rintro e w9 ⟨rfl, b9⟩
              have HB9 := Lib.hid (HB8.out.then_below b9 HB8.out.size)
              have HTH : Hid (slowC (cyL ms ns (plan.set i (k : Int))) = thenC ms ns plan i k) := rfl
              rw [HTH.out]
              clear b9 HLS HB8 HTH
              generalize slow (cyL ms ns (plan.set i (k : Int))) = sb at *
              generalize thenC ms ns plan i k = th at *
              by_cases hth : th < least
              · have HF := Lib.hid (HY.out HOK2.out hth)
                go_wp2_with fail
                go_roundw
                case rel => exact ⟨k + 1, by omega, by go_num, by rw [HF.out]; rfl, by rw [HF.out], HB9.out⟩
                case measure => simp [intOf]; omega
              · have HF : Hid (bst ms ns plan i (k + 1) = bst ms ns plan i k) := HNB.out (fun h => hth h.2)
                go_wp2_with fail
                go_roundw
                case rel => exact ⟨k + 1, by omega, by go_num, by rw [HF.out, HTL.out.1], by rw [HF.out, HTL.out.2], HB9.out⟩
                case measure => simp [intOf]; omega
        · obtain rfl : k = ms.length := by omega
          have HNN := Lib.hid (HNO.out i)
          have HBS := Lib.hid (fun (q : Nat) (h : (bst ms ns plan i ms.length).1 = some q) => HBT2.out.trans (btr_some h))
          have HBN := Lib.hid (fun (h : (bst ms ns plan i ms.length).1 = none) => HBT2.out.trans (btr_none h))
          generalize bst ms ns plan i ms.length = B at *
          obtain ⟨o, least⟩ := B
          dsimp only at HNN HBS HBN ⊢
          cases o with
          | none =>
            have hnl : ¬ least < now := by have := HNN.out.2.1.mp rfl; omega
            have HF := Lib.hid (HBN.out rfl)
            go_wp2_with fail
            go_roundw
            case rel => exact ⟨i + 1, by omega, by go_num, HB.out, HF.out⟩
            case measure => simp [intOf]; omega
          | some q =>
            have hnl : least < now := by
              rcases Classical.em (least < now) with h | h
              · exact h
              · exact absurd (HNN.out.2.1.mpr (by omega)) (by simp)
            have HF := Lib.hid (HBS.out q rfl)
            have HBW := Lib.hid (HL4.out.bel.then_below HB.out HL4.out.bel.size)
            unfold toI
            go_wp2_with fail
            refine bodyPost_ret (v := .tuple #[.int .i64 i, .int .i64 q, .bool true]) (by unfold results; simp only [Try.results57]; go_simp) rfl ⟨by rw [HF.out]; rfl, HBW.out⟩
    · have HF : Hid (BT = none) := HS.out.2.trans (by rw [show plan.length - i = 0 by omega]; rfl)
      have HBW := Lib.hid (HL4.out.bel.then_below HS.out.1 HL4.out.bel.size)
      go_wp2_with fail
      refine bodyPost_ret (v := .tuple #[.int .i64 0, .int .i64 0, .bool false]) (by unfold results; simp only [Try.results57]; go_simp) rfl ⟨by rw [HF.out]; rfl, HBW.out⟩
end Go.Proofs.Ytjmjmijjdgolfaa
