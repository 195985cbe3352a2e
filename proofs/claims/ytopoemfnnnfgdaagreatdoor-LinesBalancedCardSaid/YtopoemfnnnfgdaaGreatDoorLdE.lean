/-
  The order of needs, the greatest first: the stable sort and both comparisons.
-/
import Derived.Test.YtopoemfnnnfgdaaGreatDoorLdD
namespace Go.Proofs.YtopoemfnnnfgdaaGreatDoor
open Go.RowKit
set_option linter.unusedSimpArgs false
set_option linter.unusedVariables false

set_option maxRecDepth 100000 in
set_option maxHeartbeats 8000000 in
theorem stable_any {F : FuncId} (hFn : ∀ args w, (callFunc F args).run Tryz.prog w = .ok (.enter F args) w) (p : Nat) (c : Int → Int → Int) (N : Int) (base : Nat) (l : List Int) (hl : l.length < 20) (hin : ∀ x ∈ l, 0 ≤ x ∧ x < N) {A : Option Addr} {cc : Nat} {w : World} (hbase : base ≤ w.heap.size)
    (hp : ∀ (a b : Int) (W : World), 0 ≤ a → a < N → 0 ≤ b → b < N → Below base w W → Calls Tryz.prog F #[.int .i64 a, .int .i64 b, .pointer (some ⟨p, 0, none⟩)] W fun e w' => e = .returned (.int .i64 (c a b)) ∧ Below W.heap.size W w')
    (h : w.ownsRow base 3 1 (.slice A l.length cc) l.length (l.map (Value.int .i64))) :
    Calls Tryz.prog 60 #[.slice A l.length cc, .int .i64 l.length, .func (.func F) #[] #[.pointer (some ⟨p, 0, none⟩)]] w fun e w' => e = .returned (.tuple #[]) ∧ Below base w w' ∧ w'.ownsRow base 3 1 (.slice A l.length cc) l.length ((sortS c l).map (Value.int .i64)) := by
  have CI := Lib.hid (insertion_any hFn p c N base l (by omega) hin hbase hp h)
  have i1 : ¬ (20 : Int) ≤ (l.length : Int) := by omega
  have i2 : ¬ (20 : Int) < (l.length : Int) := by omega
  clear hp h hin
  go_enter Tryz.func60, Tryz.ntmps60
  go_wp2_with fail
  go_loopw [7, 8] (fun v7 v8 wr => v7 = .int .i64 0 ∧ v8 = .int .i64 20 ∧ wr = w) (fun _ _ _ => 0)
  case atStart => exact ⟨rfl, rfl, rfl⟩
  case round =>
    obtain ⟨rfl, rfl, rfl⟩ := hrel
    go_wp2_with fail
    refine CI.out.mono ?_
    rintro e w2 ⟨rfl, b2, o2⟩
    have H2 := Lib.hid (And.intro b2 o2)
    clear b2 o2 CI
    go_wp2_with fail
    go_loopw [6] (fun v6 wq => v6 = .int .i64 20 ∧ wq = w2) (fun _ _ => 0)
    case atStart => exact ⟨rfl, rfl⟩
    case round =>
      obtain ⟨rfl, rfl⟩ := hrel
      go_wp2_with fail
      refine bodyPost_end (v := .tuple #[]) (by unfold results; simp only [Tryz.results60]; go_simp) rfl ⟨rfl, H2.out.1, H2.out.2⟩
set_option maxRecDepth 100000 in
set_option maxHeartbeats 8000000 in
theorem sortStable_any {F : FuncId} (hFn : ∀ args w, (callFunc F args).run Tryz.prog w = .ok (.enter F args) w) (p : Nat) (c : Int → Int → Int) (N : Int) (base : Nat) (l : List Int) (hl : l.length < 20) (hin : ∀ x ∈ l, 0 ≤ x ∧ x < N) {A : Option Addr} {cc : Nat} {w : World} (hbase : base ≤ w.heap.size)
    (hp : ∀ (a b : Int) (W : World), 0 ≤ a → a < N → 0 ≤ b → b < N → Below base w W → Calls Tryz.prog F #[.int .i64 a, .int .i64 b, .pointer (some ⟨p, 0, none⟩)] W fun e w' => e = .returned (.int .i64 (c a b)) ∧ Below W.heap.size W w')
    (h : w.ownsRow base 3 1 (.slice A l.length cc) l.length (l.map (Value.int .i64))) :
    Calls Tryz.prog 37 #[.slice A l.length cc, .func (.func F) #[] #[.pointer (some ⟨p, 0, none⟩)]] w fun e w' => e = .returned (.tuple #[]) ∧ Below base w w' ∧ w'.ownsRow base 3 1 (.slice A l.length cc) l.length ((sortS c l).map (Value.int .i64)) := by
  have CI := Lib.hid (stable_any hFn p c N base l hl hin hbase hp h)
  clear hp h hin
  go_enter Tryz.func37, Tryz.ntmps37
  go_wp2_with fail
  refine CI.out.mono ?_
  rintro e w2 ⟨rfl, b2, o2⟩
  have H2 := Lib.hid (And.intro b2 o2)
  clear b2 o2 CI
  go_wp2_with fail
  refine bodyPost_end (v := .tuple #[]) (by unfold results; simp only [Tryz.results37]; go_simp) rfl ⟨rfl, H2.out.1, H2.out.2⟩

/-- Which of two needs is the greater one. -/
def cfN (ns : List Nd) (a b : Int) : Int := if (ndA ns b.toNat).many < (ndA ns a.toNat).many then -1 else if (ndA ns a.toNat).many < (ndA ns b.toNat).many then 1 else 0
/-- The captured needs. -/
def NAt (p : Nat) (ns : List Nd) (W : World) : Prop := ∃ A c, W.heap[p]? = some (.cells #[.slice A ns.length c] 28 (0, 0)) ∧ Reads encD (.slice A ns.length c) ns W
theorem NAt.below {p : Nat} {ns : List Nd} {W W' : World} (h : NAt p ns W) (hb : Below W.heap.size W W') : NAt p ns W' := by
  obtain ⟨A, c, h1, h2⟩ := h
  exact ⟨A, c, blk_below hb h1, h2.below hb⟩
set_option maxRecDepth 100000 in
set_option maxHeartbeats 8000000 in
theorem greater_any (ns : List Nd) (hn : NsOk ns) (p : Nat) (a b : Int) (ha : 0 ≤ a) (ha2 : a < ns.length) (hb : 0 ≤ b) (hb2 : b < ns.length) (w : World) (h : NAt p ns w) :
    Calls Tryz.prog 69 #[.int .i64 a, .int .i64 b, .pointer (some ⟨p, 0, none⟩)] w fun e w' => e = .returned (.int .i64 (cfN ns a b)) ∧ Below w.heap.size w w' := by
  obtain ⟨A, c, hk, hr⟩ := h
  obtain ⟨i, rfl⟩ : ∃ i : Nat, a = (i : Int) := ⟨a.toNat, by omega⟩
  obtain ⟨j, rfl⟩ : ∃ j : Nat, b = (j : Int) := ⟨b.toNat, by omega⟩
  obtain ⟨g, e, hg, _, m1⟩ := readsD_at hr (by omega : i < ns.length)
  cases e
  obtain ⟨g', e, _, _, m2⟩ := readsD_at hr (by omega : j < ns.length)
  cases e
  have HC : Hid (cfN ns i j = if ns[j].many < ns[i].many then -1 else if ns[i].many < ns[j].many then 1 else 0) := by
    show _ = _
    unfold cfN
    rw [Int.toNat_natCast, Int.toNat_natCast, ndA_at (by omega), ndA_at (by omega)]
  have b1 := hn.many _ (List.getElem_mem (by omega : i < ns.length))
  have b2 := hn.many _ (List.getElem_mem (by omega : j < ns.length))
  generalize ns[i].many = x at *
  generalize ns[j].many = y at *
  have c0 := cell_of_blk hk 0
  simp at c0
  have l0 := lt_of_blk hk
  have CC := Lib.hid (fun (W : World) => Tryz.cmp_Compare_int y x W)
  clear hk hr
  go_enter Tryz.func69, Tryz.ntmps69
  go_wp2_with fail
  go_quiet ((go_at_call 70; exact Calls.quiet_of_same (CC.out _)))
  go_wp2_with fail
  refine bodyPost_ret (v := .int .i64 (Lib.compareInt y x)) (by unfold results; simp only [Tryz.results69]; go_simp) rfl ⟨?_, (Below.refl _ _).drawN _⟩
  rw [HC.out]
  rfl
def sgn (d : Int) : Int := if d < 0 then -1 else if 0 < d then 1 else 0
set_option maxRecDepth 100000 in
set_option maxHeartbeats 8000000 in
theorem sign_any (d : Int) (w : World) : Calls Tryz.prog 39 #[.int .i64 d] w fun e w' => e = .returned (.int .i64 (sgn d)) ∧ w' = w := by
  by_cases h1 : d < 0
  · have HE : Hid (sgn d = -1) := if_pos h1
    go_enter Tryz.func39, Tryz.ntmps39
    go_wp2_with fail
    go_ret
    exact ⟨ret_int HE.out.symm, rfl⟩
  · by_cases h2 : 0 < d
    · have HE : Hid (sgn d = 1) := (if_neg h1).trans (if_pos h2)
      go_enter Tryz.func39, Tryz.ntmps39
      go_wp2_with fail
      go_ret
      exact ⟨ret_int HE.out.symm, rfl⟩
    · have HE : Hid (sgn d = 0) := (if_neg h1).trans (if_neg h2)
      go_enter Tryz.func39, Tryz.ntmps39
      go_wp2_with fail
      go_ret
      exact ⟨ret_int HE.out.symm, rfl⟩
set_option maxRecDepth 100000 in
set_option maxHeartbeats 8000000 in
theorem greaterR_any (ns : List Nd) (hn : NsOk ns) (p : Nat) (a b : Int) (ha : 0 ≤ a) (ha2 : a < ns.length) (hb : 0 ≤ b) (hb2 : b < ns.length) (w : World) (h : NAt p ns w) :
    Calls Tryz.prog 38 #[.int .i64 a, .int .i64 b, .pointer (some ⟨p, 0, none⟩)] w fun e w' => e = .returned (.int .i64 (cfN ns a b)) ∧ Below w.heap.size w w' := by
  obtain ⟨A, c, hk, hr⟩ := h
  obtain ⟨i, rfl⟩ : ∃ i : Nat, a = (i : Int) := ⟨a.toNat, by omega⟩
  obtain ⟨j, rfl⟩ : ∃ j : Nat, b = (j : Int) := ⟨b.toNat, by omega⟩
  obtain ⟨g, e, hg, _, m1⟩ := readsD_at hr (by omega : i < ns.length)
  cases e
  obtain ⟨g', e, _, _, m2⟩ := readsD_at hr (by omega : j < ns.length)
  cases e
  have HC : Hid (cfN ns i j = if ns[j].many < ns[i].many then -1 else if ns[i].many < ns[j].many then 1 else 0) := by
    show _ = _
    unfold cfN
    rw [Int.toNat_natCast, Int.toNat_natCast, ndA_at (by omega), ndA_at (by omega)]
  have b1 := hn.many _ (List.getElem_mem (by omega : i < ns.length))
  have b2 := hn.many _ (List.getElem_mem (by omega : j < ns.length))
  generalize ns[i].many = x at *
  generalize ns[j].many = y at *
  have c0 := cell_of_blk hk 0
  simp at c0
  have l0 := lt_of_blk hk
  have hw1 : IntKind.i64.wrap (y - x) = y - x := IntWalk.i64_in _ (by omega)
  have CC := Lib.hid (fun (W : World) => sign_any (y - x) W)
  have HS : Hid (sgn (y - x) = cfN ns i j) := by
    show _ = _
    rw [HC.out]
    unfold sgn
    repeat' split
    all_goals first | rfl | (exfalso; omega)
  clear hk hr
  go_enter Tryz.func38, Tryz.ntmps38
  go_wp2_with fail
  go_quiet ((go_at_call 39; exact Calls.quiet_of_same (CC.out _)))
  go_wp2_with fail
  refine bodyPost_ret (v := .int .i64 (sgn (y - x))) (by unfold results; simp only [Tryz.results38]; go_simp) rfl ⟨?_, (Below.refl _ _).drawN _⟩
  rw [HS.out]
end Go.Proofs.YtopoemfnnnfgdaaGreatDoor
