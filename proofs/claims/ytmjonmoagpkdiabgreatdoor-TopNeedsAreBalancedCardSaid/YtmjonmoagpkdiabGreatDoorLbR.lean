/-
  The parts that no machine can place: the program's answer. The bound: plain words, the least time of a part.
-/
import Derived.Test.YtmjonmoagpkdiabGreatDoorLbQ
namespace Go.Proofs.YtmjonmoagpkdiabGreatDoor
open Go.RowKit
set_option linter.unusedSimpArgs false
set_option linter.unusedVariables false

/-! ### The least time of a part -/
def stE (x : ByteArray) (o : Option Int) (m : Mc) : Option Int := if has m.can x = true ∧ (∀ a, o = some a → m.each < a) then some m.each else o
def leO (ms : List Mc) (x : ByteArray) : Option Int := ms.foldl (stE x) none
theorem leO_take {ms : List Mc} (x : ByteArray) {k : Nat} (hk : k < ms.length) : leO (ms.take (k + 1)) x = stE x (leO (ms.take k) x) ms[k] := by
  unfold leO
  rw [List.take_succ_eq_append_getElem hk, List.foldl_append]
  rfl
theorem leO_bd {ms : List Mc} (hm : ∀ m ∈ ms, McOk m) (x : ByteArray) : ∀ k, k ≤ ms.length → ∀ a, leO (ms.take k) x = some a → 0 ≤ a ∧ a ≤ 10000000
  | 0, _, a, h => by simp [leO] at h
  | k + 1, hk, a, h => by
    rw [leO_take x (by omega)] at h
    unfold stE at h
    split at h
    · injection h with h
      subst h
      exact (hm _ (List.getElem_mem (by omega))).each
    · exact leO_bd hm x k (by omega) a h
def leI (o : Option Int) : Int := o.getD 0
def leM (o : Option Int) : Int := o.getD (-1)

set_option maxRecDepth 100000 in
set_option maxHeartbeats 8000000 in
theorem leastEach_any {base : Nat} (ms : List Mc) (x : ByteArray) (hm : MsOk ms) {v1 : Value} {w : World} (h1 : MsF base v1 ms w) :
    Calls Tryz.prog 18 #[v1, .string x] w fun e w' => e = .returned (.int .i64 (leI (leO ms x))) ∧ Below w.heap.size w w' := by
  have HR := Lib.hid h1
  have HM := Lib.hid hm
  have hmf := hm.few
  obtain ⟨A1, c1, rfl, hc1, _⟩ := h1
  clear hm
  go_enter Tryz.func18, Tryz.ntmps18
  go_wp2_with fail
  go_loopw [5, 6, 11] (fun v5 v6 kk wr => ∃ (k : Nat) (o : Option Int), k ≤ ms.length ∧ kk = .int .i64 k ∧ v5 = .int .i64 (leI o) ∧ v6 = .bool o.isSome ∧ Hid (leO (ms.take k) x = o ∧ Below w.heap.size w wr)) (fun _ _ kk _ => ms.length - (intOf kk).toNat)
  case atStart => exact ⟨0, none, by omega, rfl, rfl, rfl, rfl, Below.refl _ _⟩
  case round =>
    obtain ⟨k, o, hk, rfl, rfl, rfl, HS⟩ := hrel
    by_cases hlt : k < ms.length
    · obtain ⟨g1, e1, hg1, q0, q1, q2, q3, u, q4, A4, c4, rfl, hc4, hr4⟩ := (HR.out.below HS.out.2).at_ hlt
      cases e1
      have hmo := HM.out.ok _ (List.getElem_mem hlt)
      have HT : Hid (leO (ms.take (k + 1)) x = stE x o ms[k]) := (leO_take x hlt).trans (by rw [HS.out.1])
      generalize ms[k] = m at *
      obtain ⟨key, each, fixed, feed, can⟩ := m
      have hcl := hmo.few
      have hco := hmo.can
      dsimp only at q0 q1 q2 q3 q4 hcl hco hc4 hr4
      have HU : Hid (ReadsF base encS (.slice A4 can.length c4) can wr) := ⟨A4, c4, rfl, hc4, hr4⟩
      have CP := Lib.hid (fun (W : World) (h : ReadsF base encS (.slice A4 can.length c4) can W) => canPlace_any key each fixed feed can x (by omega) hco h)
      have i1 : (0 : Int) ≤ (k : Int) := by omega
      have i2 : (k : Int) < (ms.length : Int) := by omega
      have HX : Hid (Below w.heap.size w (wr.alloc (.cells #[.string key, .int .i64 each, .int .i64 fixed, .int .i64 feed, .slice A4 can.length c4] 38)) ∧ ReadsF base encS (.slice A4 can.length c4) can (wr.alloc (.cells #[.string key, .int .i64 each, .int .i64 fixed, .int .i64 feed, .slice A4 can.length c4] 38)) ∧ (wr.alloc (.cells #[.string key, .int .i64 each, .int .i64 fixed, .int .i64 feed, .slice A4 can.length c4] 38)).heap[wr.heap.size]? = some (.cells #[.string key, .int .i64 each, .int .i64 fixed, .int .i64 feed, .slice A4 can.length c4] 38 (0, 0))) := ⟨HS.out.2.alloc HS.out.2.size _, HU.out.below ((Below.refl _ _).alloc (Nat.le_refl _) _), blk_new wr _ rfl⟩
      clear hmo hr4 hco
      go_upto_region 5 with (fail)
      generalize wr.alloc (.cells #[.string key, .int .i64 each, .int .i64 fixed, .int .i64 feed, .slice A4 can.length c4] 38) = wx at *
      obtain ⟨gx, hgx⟩ : ∃ gx, wr.heap.size = gx := ⟨_, rfl⟩
      rw [hgx] at HX ⊢
      clear hgx q0 q1 q2 q3 q4 HU HS
      obtain ⟨p0, p1, p2, p3, p4⟩ := blk5 HX.out.2.2
      have pl := lt_of_blk HX.out.2.2
      have CPX := Lib.hid (CP.out wx HX.out.2.1)
      have hzx := HX.out.1.size
      cases hf : has can x
      · have HF : Hid (leO (ms.take (k + 1)) x = o) := HT.out.trans (by unfold stE; rw [if_neg (by rw [hf]; simp)])
        rw [hf] at CPX
        clear hf HT CP
        go_wp2_with fail
        refine CPX.out.mono ?_
        rintro e w4 ⟨rfl, b4⟩
        have H4 := Lib.hid (HX.out.1.then_below b4 hzx)
        clear b4 HX p0 p1 p2 p3 p4 pl CPX
        go_wp2_with fail
        go_roundw
        case rel => exact ⟨k + 1, o, by omega, by go_num, rfl, rfl, HF.out, H4.out⟩
        case measure => simp [intOf]; omega
      · rw [hf] at CPX
        clear CP
        cases o with
        | none =>
          have HF : Hid (leO (ms.take (k + 1)) x = some each) := HT.out.trans (by unfold stE; rw [if_pos ⟨hf, fun a h => by cases h⟩])
          clear hf HT
          simp only [Option.isSome_none]
          go_wp2_with fail
          refine CPX.out.mono ?_
          rintro e w4 ⟨rfl, b4⟩
          have H4 : Hid (Below w.heap.size w w4 ∧ w4.heap[gx]? = some (.cells #[.string key, .int .i64 each, .int .i64 fixed, .int .i64 feed, .slice A4 can.length c4] 38 (0, 0))) := ⟨HX.out.1.then_below b4 hzx, blk_below b4 HX.out.2.2⟩
          clear b4 HX p0 p1 p2 p3 p4 pl CPX
          obtain ⟨p0, p1, p2, p3, p4⟩ := blk5 H4.out.2
          have pl := lt_of_blk H4.out.2
          go_wp2_with fail
          go_roundw
          case rel => exact ⟨k + 1, some each, by omega, by go_num, rfl, rfl, HF.out, H4.out.1⟩
          case measure => simp [intOf]; omega
        | some a =>
          have HA : Hid (leI (some a) = a) := rfl
          rw [HA.out]
          simp only [Option.isSome_some]
          by_cases hlt2 : each < a
          · have HF : Hid (leO (ms.take (k + 1)) x = some each) := HT.out.trans (by unfold stE; rw [if_pos ⟨hf, fun b h => by cases h; exact hlt2⟩])
            clear hf HT
            go_wp2_with fail
            refine CPX.out.mono ?_
            rintro e w4 ⟨rfl, b4⟩
            have H4 : Hid (Below w.heap.size w w4 ∧ w4.heap[gx]? = some (.cells #[.string key, .int .i64 each, .int .i64 fixed, .int .i64 feed, .slice A4 can.length c4] 38 (0, 0))) := ⟨HX.out.1.then_below b4 hzx, blk_below b4 HX.out.2.2⟩
            clear b4 HX p0 p1 p2 p3 p4 pl CPX
            obtain ⟨p0, p1, p2, p3, p4⟩ := blk5 H4.out.2
            have pl := lt_of_blk H4.out.2
            go_wp2_with fail
            go_roundw
            case rel => exact ⟨k + 1, some each, by omega, by go_num, rfl, rfl, HF.out, H4.out.1⟩
            case measure => simp [intOf]; omega
          · have HF : Hid (leO (ms.take (k + 1)) x = some a) := HT.out.trans (by unfold stE; rw [if_neg (fun h => hlt2 (h.2 a rfl))])
            clear hf HT
            go_wp2_with fail
            refine CPX.out.mono ?_
            rintro e w4 ⟨rfl, b4⟩
            have H4 : Hid (Below w.heap.size w w4 ∧ w4.heap[gx]? = some (.cells #[.string key, .int .i64 each, .int .i64 fixed, .int .i64 feed, .slice A4 can.length c4] 38 (0, 0))) := ⟨HX.out.1.then_below b4 hzx, blk_below b4 HX.out.2.2⟩
            clear b4 HX p0 p1 p2 p3 p4 pl CPX
            obtain ⟨p0, p1, p2, p3, p4⟩ := blk5 H4.out.2
            have pl := lt_of_blk H4.out.2
            go_wp2_with fail
            go_roundw
            case rel => exact ⟨k + 1, some a, by omega, by go_num, rfl, rfl, HF.out, H4.out.1⟩
            case measure => simp [intOf]; omega
    · obtain rfl : k = ms.length := by omega
      have HF : Hid (leO ms x = o) := by
        have := HS.out.1
        rw [List.take_of_length_le (Nat.le_refl _)] at this
        exact this
      go_wp2_with fail
      go_ret
      exact ⟨by rw [HF.out]; rfl, HS.out.2⟩
end Go.Proofs.YtmjonmoagpkdiabGreatDoor
