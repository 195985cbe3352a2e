/-
  The walks of the reference's boxes.
-/
import Derived.Test.YtiehkcbjfamnkaaRefP
import Derived.Test.YtiehkcbjfamnkaaNear
namespace Go.Proofs.Ytiehkcbjfamnkaa
open Go.RowKit

def eqS (a b : ByteArray) : Bool := a.toList == b.toList
theorem eqS_iff (a b : ByteArray) : eqS a b = true ↔ bt a = bt b := by
  unfold eqS
  rw [Lib.toList_data, Lib.toList_data, beq_iff_eq]
set_option maxHeartbeats 1000000 in
theorem isBody_any (p : ByteArray) (x y : Int) (xb : Nat) (nm part : ByteArray) (u v q : Int) (w : World) (hx : w.heap[xb]? = some (.cells #[.string nm, .string part, .int .i64 u, .int .i64 v, .int .i64 q] 50 (0, 0))) :
    Calls Try.prog 109 #[.agg #[.string p, .int .i64 x, .int .i64 y], .pointer (some ⟨xb, 0, none⟩)] w fun e w' => e = .returned (.bool (eqS p part)) ∧ Below w.heap.size w w' := by
  have hlt := lt_of_blk hx
  obtain ⟨_, c1, _⟩ := blk5 hx
  have HE : Hid (eqS p part = (p.toList == part.toList)) := rfl
  clear hx
  go_enter Try.func109, Try.ntmps109
  go_wp2_with fail
  go_ret
  exact ⟨ret_bool HE.out.symm, (Below.refl _ _).alloc (Nat.le_refl _) _⟩

/-- What the search for a body says. -/
def Indexed (b : List Bo) (part : ByteArray) (e : Ending) : Prop :=
  (e = .returned (.int .i64 (-1)) ∧ boOf b part = none) ∨ ∃ (i : Nat) (h : i < b.length), e = .returned (.int .i64 i) ∧ boOf b part = some b[i]
set_option maxHeartbeats 2000000 in
theorem indexBo_any (A : Option Addr) (c : Nat) (l : List Bo) (hl : l.length ≤ 1000) (xb : Nat) (nm part : ByteArray) (u v q : Int) (w : World) (hA : BoAt w A l) (hx : w.heap[xb]? = some (.cells #[.string nm, .string part, .int .i64 u, .int .i64 v, .int .i64 q] 50 (0, 0))) :
    Calls Try.prog 108 #[.slice A l.length c, .func (.func 109) #[] #[.pointer (some ⟨xb, 0, none⟩)]] w fun e w' => Indexed l part e ∧ Below w.heap.size w w' := by
  have HX := Lib.hid hx
  clear hx
  go_enter Try.func108, Try.ntmps108
  go_wp2_with fail
  go_loopw [8] (fun kk wr => ∃ k : Nat, k ≤ l.length ∧ kk = .int .i64 k ∧ Hid (Below w.heap.size w wr) ∧ Hid (∀ j (h : j < l.length), j < k → ¬ bt (l[j]'h).part = bt part)) (fun kk _ => l.length - (intOf kk).toNat)
  case atStart => exact ⟨0, by omega, rfl, Below.refl _ _, fun j _ h => by omega⟩
  case round =>
    obtain ⟨k, hk, rfl, HB, HO⟩ := hrel
    by_cases hlt : k < l.length
    · obtain ⟨p, hp⟩ : ∃ p, l[k] = p := ⟨_, rfl⟩
      rcases hA with rfl | ⟨g, rfl, hrow⟩
      · simp at hlt
      obtain ⟨p0, p1, p2⟩ := row_bo (hrow.below HB.out) hlt
      rw [hp] at p0 p1 p2
      have HP := Lib.hid hp
      have HROW := Lib.hid hrow
      have hg : g < wr.heap.size := Nat.lt_of_lt_of_le hrow.1 HB.out.size
      clear hp hrow
      obtain ⟨pt, x, y⟩ := p
      dsimp only at p0 p1 p2
      cases he : eqS pt part
      · have HE := Lib.hid he
        have hne : ¬ bt pt = bt part := fun h => by rw [(eqS_iff _ _).mpr h] at he; cases he
        have HNE := Lib.hid hne
        clear he hne
        go_wp2_with fail
        refine (isBody_any pt x y xb nm part u v q _ (blk_below HB.out HX.out)).mono ?_
        rw [HE.out]
        rintro e w' ⟨rfl, hb'⟩
        have HB' : Hid (Below w.heap.size w w') := HB.out.then_below hb' HB.out.size
        clear hb'
        go_wp2_with fail
        go_roundw
        case rel => exact ⟨k + 1, by omega, by go_num, HB', fun j h hj => by
          by_cases e : j = k
          · subst e; rw [HP.out]; exact HNE.out
          · exact HO.out j h (by omega)⟩
        case measure => simp [intOf]; omega
      · have HE := Lib.hid he
        have HEQ : Hid (boOf l part = some (l[k]'hlt)) := by
          show boOf l part = _
          unfold boOf
          rw [List.find?_eq_some_iff_getElem]
          refine ⟨by rw [HP.out]; simpa using (eqS_iff _ _).mp he, k, hlt, rfl, fun j hj => ?_⟩
          simpa using HO.out j (by omega) hj
        clear he
        go_wp2_with fail
        refine (isBody_any pt x y xb nm part u v q _ (blk_below HB.out HX.out)).mono ?_
        rw [HE.out]
        rintro e w' ⟨rfl, hb'⟩
        have HB' : Hid (Below w.heap.size w w') := HB.out.then_below hb' HB.out.size
        clear hb'
        go_wp2_with fail
        go_ret
        exact ⟨.inr ⟨k, hlt, rfl, HEQ.out⟩, HB'.out⟩
    · have HN : Hid (boOf l part = none) := boOf_none fun x hx => by
        obtain ⟨j, hj, rfl⟩ := List.getElem_of_mem hx
        exact HO.out j hj (by omega)
      go_wp2_with fail
      go_ret
      exact ⟨.inl ⟨rfl, HN.out⟩, HB.out⟩

/-- A box, as cells: left, low, right, high. -/
def boxC (a : Ar) : Array Value := #[.int .i64 a.xf, .int .i64 a.yf, .int .i64 a.xt, .int .i64 a.yt]
set_option maxRecDepth 100000 in
set_option maxHeartbeats 4000000 in
theorem bodyBox_none (A : Option Addr) (c : Nat) (l : List Bo) (hl : l.length ≤ 1000) (p : Pl) (w : World) (hA : BoAt w A l) (hn : boxOf l p = none) :
    Calls Try.prog 81 #[.slice A l.length c, .agg #[.string p.name, .string p.part, .int .i64 p.x, .int .i64 p.y, .int .i64 p.q]] w fun e w' =>
      e = .returned (.tuple #[.agg #[.int .i64 0, .int .i64 0, .int .i64 0, .int .i64 0], .bool false]) ∧ Below w.heap.size w w' := by
  obtain ⟨nm, pt, x, y, q⟩ := p
  dsimp only at *
  have hno : boOf l pt = none := by
    unfold boxOf at hn
    simpa using hn
  have HNO := Lib.hid hno
  clear hn hno
  go_enter Try.func81, Try.ntmps81
  go_wp2_with fail
  have k1 : ((w.alloc (Obj.cells #[.string nm, .string pt, .int .i64 x, .int .i64 y, .int .i64 q] 50)).alloc (Obj.cells #[.int .i64 0, .int .i64 0, .int .i64 0, .int .i64 0] 141)).heap[w.heap.size]? = some (.cells #[.string nm, .string pt, .int .i64 x, .int .i64 y, .int .i64 q] 50 (0, 0)) := blk_alloc (blk_new w _ rfl) _
  have k2 : ((w.alloc (Obj.cells #[.string nm, .string pt, .int .i64 x, .int .i64 y, .int .i64 q] 50)).alloc (Obj.cells #[.int .i64 0, .int .i64 0, .int .i64 0, .int .i64 0] 141)).heap[w.heap.size + 1]? = some (.cells #[.int .i64 0, .int .i64 0, .int .i64 0, .int .i64 0] 141 (0, 0)) := blk_new _ _ (by simp)
  have hb0 : Below w.heap.size w ((w.alloc (Obj.cells #[.string nm, .string pt, .int .i64 x, .int .i64 y, .int .i64 q] 50)).alloc (Obj.cells #[.int .i64 0, .int .i64 0, .int .i64 0, .int .i64 0] 141)) := ((Below.refl _ _).alloc (Nat.le_refl _) _).alloc (by simp) _
  refine (indexBo_any A c l hl w.heap.size nm pt x y q _ (hA.below hb0) k1).mono ?_
  rintro e w1 ⟨hi, hb1⟩
  have kb := blk_below hb1 k2
  have HB1 := Lib.hid (And.intro (hb0.then_below hb1 hb0.size) kb)
  clear hb1 k1 k2 hb0
  rcases hi with ⟨rfl, _⟩ | ⟨i, h, _, hs⟩
  · obtain ⟨c0, c1, c2, c3⟩ := blk4 kb
    have f0 := frozen_of_blk kb 0
    have f1 := frozen_of_blk kb 1
    have f2 := frozen_of_blk kb 2
    have f3 := frozen_of_blk kb 3
    clear kb
    go_wp2_with fail
    refine bodyPost_ret (v := .tuple #[.agg #[.int .i64 0, .int .i64 0, .int .i64 0, .int .i64 0], .bool false]) (by unfold results; simp only [Try.results81]; go_simp) rfl ⟨rfl, ?_⟩
    exact (((HB1.out.1.setCell (by simp) _).setCell (by simp) _).setCell (by simp) _).setCell (by simp) _
  · rw [HNO.out] at hs
    cases hs

set_option maxRecDepth 100000 in
set_option maxHeartbeats 4000000 in
theorem bodyBox_some (A : Option Addr) (c : Nat) (l : List Bo) (hl : l.length ≤ 1000) (hbo : ∀ o ∈ l, (1 ≤ o.w ∧ o.w ≤ 500000) ∧ (1 ≤ o.h ∧ o.h ≤ 500000)) (p : Pl) (hp : (0 ≤ p.x ∧ p.x ≤ 500000) ∧ (0 ≤ p.y ∧ p.y ≤ 500000) ∧ 0 ≤ p.q) (a : Ar) (w : World) (hA : BoAt w A l) (hn : boxOf l p = some a) :
    Calls Try.prog 81 #[.slice A l.length c, .agg #[.string p.name, .string p.part, .int .i64 p.x, .int .i64 p.y, .int .i64 p.q]] w fun e w' =>
      e = .returned (.tuple #[.agg (boxC a), .bool true]) ∧ Below w.heap.size w w' := by
  have hno : ∃ o, boOf l p.part = some o ∧ a = arOf p o := by
    unfold boxOf at hn
    cases ho : boOf l p.part with
    | none => simp [ho] at hn
    | some o => simp [ho] at hn; exact ⟨o, rfl, hn.symm⟩
  obtain ⟨o, hno, hao⟩ := hno
  obtain ⟨nm, pt, x, y, q⟩ := p
  dsimp only at *
  obtain ⟨⟨hx0, hx1⟩, ⟨hy0, hy1⟩, hq0⟩ := hp
  have hom : o ∈ l := List.mem_of_find?_eq_some hno
  obtain ⟨⟨hw0, hw1⟩, hh0, hh1⟩ := hbo o hom
  have HNO := Lib.hid hno
  have HBX : Hid (boxC a = #[.int .i64 (2 * x - turnW o.w o.h q), .int .i64 (2 * y - turnH o.w o.h q), .int .i64 (2 * x + turnW o.w o.h q), .int .i64 (2 * y + turnH o.w o.h q)]) := by
    show boxC a = _
    rw [hao]; rfl
  clear hn hno hao hom hbo
  go_enter Try.func81, Try.ntmps81
  go_wp2_with fail
  have k1 : ((w.alloc (Obj.cells #[.string nm, .string pt, .int .i64 x, .int .i64 y, .int .i64 q] 50)).alloc (Obj.cells #[.int .i64 0, .int .i64 0, .int .i64 0, .int .i64 0] 141)).heap[w.heap.size]? = some (.cells #[.string nm, .string pt, .int .i64 x, .int .i64 y, .int .i64 q] 50 (0, 0)) := blk_alloc (blk_new w _ rfl) _
  have k2 : ((w.alloc (Obj.cells #[.string nm, .string pt, .int .i64 x, .int .i64 y, .int .i64 q] 50)).alloc (Obj.cells #[.int .i64 0, .int .i64 0, .int .i64 0, .int .i64 0] 141)).heap[w.heap.size + 1]? = some (.cells #[.int .i64 0, .int .i64 0, .int .i64 0, .int .i64 0] 141 (0, 0)) := blk_new _ _ (by simp)
  have hb0 : Below w.heap.size w ((w.alloc (Obj.cells #[.string nm, .string pt, .int .i64 x, .int .i64 y, .int .i64 q] 50)).alloc (Obj.cells #[.int .i64 0, .int .i64 0, .int .i64 0, .int .i64 0] 141)) := ((Below.refl _ _).alloc (Nat.le_refl _) _).alloc (by simp) _
  refine (indexBo_any A c l hl w.heap.size nm pt x y q _ (hA.below hb0) k1).mono ?_
  rintro e w1 ⟨hi, hb1⟩
  have ka := blk_below hb1 k1
  have kb := blk_below hb1 k2
  have HB1 := Lib.hid (hb0.then_below hb1 hb0.size)
  clear hb1 k1 k2 hb0
  rcases hi with ⟨_, hs⟩ | ⟨i, hil, rfl, hs⟩
  · rw [HNO.out] at hs
    cases hs
  · rw [HNO.out] at hs
    have hoi : l[i] = o := (Option.some.inj hs).symm
    rcases hA with rfl | ⟨g, rfl, hrow⟩
    · simp at hil
    obtain ⟨_, p1, p2⟩ := row_bo (hrow.below HB1.out) hil
    rw [hoi] at p1 p2
    have hg1 : g < w1.heap.size := Nat.lt_of_lt_of_le hrow.1 HB1.out.size
    obtain ⟨c0, c1, c2, c3⟩ := blk4 kb
    obtain ⟨d0, d1, d2, d3, d4⟩ := blk5 ka
    have f0 := frozen_of_blk kb 0
    have f1 := frozen_of_blk kb 1
    have f2 := frozen_of_blk kb 2
    have f3 := frozen_of_blk kb 3
    have hi1 : (0 : Int) ≤ (i : Int) := by omega
    have hi2 : (i : Int) < (l.length : Int) := by omega
    have HROW := Lib.hid hrow
    clear ka kb hs hoi hrow
    obtain ⟨op, ow, oh⟩ := o
    dsimp only at *
    by_cases hq : q % 2 = 1
    · have hq1 : (q % 2 == 1) = true := by simpa using hq
      have HV : Hid (boxC a = #[.int .i64 (2 * x - oh), .int .i64 (2 * y - ow), .int .i64 (2 * x + oh), .int .i64 (2 * y + ow)]) := by
        refine HBX.out.trans ?_
        unfold turnW turnH
        rw [if_pos hq, if_pos hq]
      clear hq
      go_wp2_with fail
      go_quiet (fail)
      go_wp2_with fail
      rw [HV.out]
      refine bodyPost_ret (v := .tuple #[.agg #[.int .i64 (2 * x - oh), .int .i64 (2 * y - ow), .int .i64 (2 * x + oh), .int .i64 (2 * y + ow)], .bool true]) (by unfold results; simp only [Try.results81]; go_simp) rfl ⟨rfl, ?_⟩
      exact ((((HB1.out.drawN _).setCell (by simp) _).setCell (by simp) _).setCell (by simp) _).setCell (by simp) _
    · have hq1 : (q % 2 == 1) = false := by simpa using hq
      have HV : Hid (boxC a = #[.int .i64 (2 * x - ow), .int .i64 (2 * y - oh), .int .i64 (2 * x + ow), .int .i64 (2 * y + oh)]) := by
        refine HBX.out.trans ?_
        unfold turnW turnH
        rw [if_neg hq, if_neg hq]
      clear hq
      go_wp2_with fail
      go_quiet (fail)
      go_wp2_with fail
      rw [HV.out]
      refine bodyPost_ret (v := .tuple #[.agg #[.int .i64 (2 * x - ow), .int .i64 (2 * y - oh), .int .i64 (2 * x + ow), .int .i64 (2 * y + oh)], .bool true]) (by unfold results; simp only [Try.results81]; go_simp) rfl ⟨rfl, ?_⟩
      exact ((((HB1.out.drawN _).setCell (by simp) _).setCell (by simp) _).setCell (by simp) _).setCell (by simp) _
end Go.Proofs.Ytiehkcbjfamnkaa
