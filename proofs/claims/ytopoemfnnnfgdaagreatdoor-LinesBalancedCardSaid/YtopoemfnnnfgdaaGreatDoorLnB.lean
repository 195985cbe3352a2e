/-
  Numbers in memory: equality, a search with any test; the rules of a line.
-/
import Derived.Test.YtopoemfnnnfgdaaGreatDoorLmA
import Derived.Test.YtopoemfnnnfgdaaGreatDoorLmC
import Derived.Test.YtopoemfnnnfgdaaGreatDoorShelf
import Derived.Laws.MakeOwn
namespace Go.Proofs.YtopoemfnnnfgdaaGreatDoor
open Go.RowKit
set_option linter.unusedSimpArgs false
set_option linter.unusedVariables false

/-- A number in memory. -/
def encN (x : Int) : List Value := [.int .i64 x]
theorem flatN_map (l : List Int) : l.flatMap encN = l.map (Value.int .i64) := by
  induction l with
  | nil => rfl
  | cons x l ih => rw [List.flatMap_cons, ih]; rfl
theorem row_n {w : World} {g : Nat} {l : List Int} (h : LineAt w g (l.flatMap encN)) {k : Nat} (hk : k < l.length) : w.cell? ⟨g, k, none⟩ = some (.int .i64 l[k]) := by
  refine h.2 k _ ?_
  rw [flatN_map, List.getElem?_map, List.getElem?_eq_getElem hk]
  rfl
theorem readsN_own {w : World} {base : Nat} {v : Value} {l : List Int} {T : TypeId} (h : w.ownsRow base T 1 v l.length (l.map (Value.int .i64))) : Reads encN v l w := by
  refine reads_own (base := base) (T := T) (size := 1) ?_
  rw [flatN_map]
  exact h
theorem readsN_own' {w : World} {base : Nat} {v : Value} {l : List Int} {T : TypeId} {n : Nat} (h : w.ownsRow base T 1 v n (l.map (Value.int .i64))) (hn : n = l.length) : Reads encN v l w := by
  subst hn
  exact readsN_own h
theorem nil_readsN (W : World) : Reads encN (.slice none 0 0) [] W := ⟨none, 0, rfl, .inl rfl⟩
theorem int_infoN : (Tryz.prog.info? 3).map (fun i => (i.zero, i.size, i.bytes)) = some (some (.int .i64 0), 1, 8) := by kernel_rfl
theorem eqN_any (xs : List Int) (hx : xs.length ≤ 100000) {v1 v2 : Value} {w : World} (h1 : Reads encN v1 xs w) (h2 : Reads encN v2 xs w) :
    Calls Tryz.prog 19 #[v1, v2] w fun e w' => e = .returned (.bool true) ∧ Below w.heap.size w w' := by
  obtain ⟨A1, c1, rfl, h1⟩ := h1
  obtain ⟨A2, c2, rfl, h2⟩ := h2
  by_cases h0 : xs = []
  · subst h0
    refine (Tryz.slices_Equal_int_empty A1 A2 c1 0 c2 w (by omega)).mono ?_
    rintro e w' ⟨rfl, rfl⟩
    exact ⟨by simp, Below.refl _ _⟩
  · rcases h1 with h1 | ⟨g1, rfl, h1⟩
    · exact absurd h1 h0
    rcases h2 with h2 | ⟨g2, rfl, h2⟩
    · exact absurd h2 h0
    refine (Tryz.slices_Equal_int g1 0 xs.length c1 g2 0 xs.length c2 xs xs w (Nat.le_refl _) (Nat.le_refl _) (by omega) (by omega) (fun j hj => ?_) (fun j hj => ?_)).mono ?_
    · rw [Nat.zero_add, row_n h1 hj, List.getD_eq_getElem?_getD, List.getElem?_eq_getElem hj]
      rfl
    · rw [Nat.zero_add, row_n h2 hj, List.getD_eq_getElem?_getD, List.getElem?_eq_getElem hj]
      rfl
    · rintro e w' ⟨rfl, q, rfl⟩
      exact ⟨by simp, below_drewN (Below.refl _ _) q⟩

/-! ### A search with any test -/
def ixF (p : Int → Bool) : List Int → Int → Int
  | [], _ => -1
  | x :: l, k => if p x = true then k else ixF p l (k + 1)
theorem ixF_any (p : Int → Bool) : ∀ (l : List Int) (k : Int), 0 ≤ k → decide (0 ≤ ixF p l k) = l.any p
  | [], _, _ => rfl
  | x :: l, k, hk => by
    rw [ixF, List.any_cons]
    by_cases h : p x = true
    · rw [if_pos h, h]; simpa using hk
    · rw [if_neg h, ixF_any p l (k + 1) (by omega)]; simp [h]

set_option maxHeartbeats 2000000 in
theorem indexFN_any {F : FuncId} (hF : ∀ args w, (callFunc F args).run Tryz.prog w = .ok (.enter F args) w) (p : Int → Bool) (hp : ∀ x W, Calls Tryz.prog F #[.int .i64 x] W fun e w' => e = .returned (.bool (p x)) ∧ Below W.heap.size W w')
    (l : List Int) (hl : l.length ≤ 1000000) {v : Value} {w : World} (h : Reads encN v l w) :
    Calls Tryz.prog 96 #[v, .func (.func F) #[] #[]] w fun r w' => r = .returned (.int .i64 (ixF p l 0)) ∧ Below w.heap.size w w' := by
  have HH := Lib.hid h
  have HP := Lib.hid hp
  clear hp
  obtain ⟨A, c, rfl, _⟩ := h
  go_enter Tryz.func96, Tryz.ntmps96
  go_wp2_with fail
  go_loopw [8] (fun kk wr => ∃ k : Nat, k ≤ l.length ∧ kk = .int .i64 k ∧ Hid (ixF p l 0 = ixF p (l.drop k) k) ∧ Hid (Below w.heap.size w wr)) (fun kk _ => l.length - (intOf kk).toNat)
  case atStart => exact ⟨0, by omega, rfl, by simp [Hid], Below.refl _ _⟩
  case round =>
    obtain ⟨k, hk, rfl, HI, HB⟩ := hrel
    by_cases hlt : k < l.length
    · obtain ⟨x, hx⟩ : ∃ x, l[k] = x := ⟨_, rfl⟩
      obtain ⟨A', c', e, hr⟩ := HH.out.below HB.out
      cases e
      rcases hr with rfl | ⟨g, rfl, hrow⟩
      · simp at hlt
      have hc := row_n hrow hlt
      rw [hx] at hc
      have hgl := hrow.1
      have hI : ixF p l 0 = if p x = true then (k : Int) else ixF p (l.drop (k + 1)) (k + 1) := HI.out.trans (by rw [drop_at l hlt, hx]; rfl)
      have HI2 := Lib.hid hI
      clear hx hI HI hrow
      have i1 : (0 : Int) ≤ (k : Int) := by omega
      have i2 : (k : Int) < (l.length : Int) := by omega
      go_wp2_with fail
      refine (HP.out _ _).mono ?_
      rintro e w2 ⟨rfl, b2⟩
      have HB2 := Lib.hid (HB.out.then_below b2 HB.out.size)
      clear b2 HB hc
      cases hb : p x
      · have HF : Hid (ixF p l 0 = ixF p (l.drop (k + 1)) (k + 1)) := HI2.out.trans (if_neg (by rw [hb]; simp))
        clear HI2
        go_wp2_with fail
        go_roundw
        case rel => exact ⟨k + 1, by omega, by go_num, HF, HB2⟩
        case measure => simp [intOf]; omega
      · have HFF : Hid (ixF p l 0 = k) := HI2.out.trans (if_pos hb)
        clear HI2
        go_wp2_with fail
        go_ret
        exact ⟨ret_int HFF.out.symm, HB2.out⟩
    · have HFF : Hid (ixF p l 0 = -1) := HI.out.trans (by rw [List.drop_eq_nil_of_le (by omega)]; rfl)
      go_wp2_with fail
      go_ret
      exact ⟨ret_int HFF.out.symm, HB.out⟩
theorem containsFN_any {F : FuncId} (hF : ∀ args w, (callFunc F args).run Tryz.prog w = .ok (.enter F args) w) (p : Int → Bool) (hp : ∀ x W, Calls Tryz.prog F #[.int .i64 x] W fun e w' => e = .returned (.bool (p x)) ∧ Below W.heap.size W w')
    (l : List Int) (hl : l.length ≤ 1000000) {v : Value} {w : World} (h : Reads encN v l w) :
    Calls Tryz.prog 81 #[v, .func (.func F) #[] #[]] w fun r w' => r = .returned (.bool (l.any p)) ∧ Below w.heap.size w w' := by
  have CI := Lib.hid (indexFN_any hF p hp l hl h)
  have HX := Lib.hid (ixF_any p l 0 (Int.le_refl _))
  obtain ⟨A, c, rfl, _⟩ := h
  generalize ixF p l 0 = ix at *
  generalize l.any p = r at *
  clear hp hF
  go_enter Tryz.func81, Tryz.ntmps81
  go_wp2_with fail
  refine CI.out.mono ?_
  rintro e w2 ⟨rfl, b2⟩
  have HB2 := Lib.hid b2
  clear b2
  go_wp2_with fail
  go_ret
  exact ⟨ret_bool HX.out, HB2.out⟩

/-! ### What is wrong with a line -/
def outC (x : Int) : Bool := !(decide (1 ≤ x) && decide (x ≤ 10000000))
def outR (x : Int) : Bool := !(decide (0 ≤ x) && decide (x ≤ 2000))
theorem outR1_any (x : Int) (W : World) : Calls Tryz.prog 80 #[.int .i64 x] W fun e w' => e = .returned (.bool (outR x)) ∧ Below W.heap.size W w' := by
  have CW := Lib.hid (within_any x 0 2000 W)
  have HO : Hid (outR x = !(decide (0 ≤ x) && decide (x ≤ 2000))) := rfl
  generalize (decide (0 ≤ x) && decide (x ≤ 2000)) = b at *
  go_enter Tryz.func80, Tryz.ntmps80
  go_wp2_with fail
  refine CW.out.mono ?_
  rintro e w2 ⟨rfl, rfl⟩
  go_wp2_with fail
  go_ret
  exact ⟨ret_bool HO.out.symm, Below.refl _ _⟩
theorem outC1_any (x : Int) (W : World) : Calls Tryz.prog 95 #[.int .i64 x] W fun e w' => e = .returned (.bool (outC x)) ∧ Below W.heap.size W w' := by
  have CW := Lib.hid (within_any x 1 10000000 W)
  have HO : Hid (outC x = !(decide (1 ≤ x) && decide (x ≤ 10000000))) := rfl
  generalize (decide (1 ≤ x) && decide (x ≤ 10000000)) = b at *
  go_enter Tryz.func95, Tryz.ntmps95
  go_wp2_with fail
  refine CW.out.mono ?_
  rintro e w2 ⟨rfl, rfl⟩
  go_wp2_with fail
  go_ret
  exact ⟨ret_bool HO.out.symm, Below.refl _ _⟩
/-- What is wrong with cycles. -/
def cErr (cs : List Int) : Int := if cs.length = 0 then 8 else if 6 < cs.length then 2 else if cs.any outC = true then 1 else 0
theorem cErr_ok {cs : List Int} (h : cErr cs = 0) : 1 ≤ cs.length ∧ cs.length ≤ 6 ∧ CsOk cs := by
  unfold cErr at h
  split at h
  · cases h
  split at h
  · cases h
  split at h
  · cases h
  rename_i h1 h2 h3
  refine ⟨by omega, by omega, fun c hc => ?_⟩
  have : outC c = false := by
    rw [Bool.not_eq_true, List.any_eq_false] at h3
    simpa using h3 c hc
  unfold outC at this
  simp at this
  exact this
/-- What is wrong with cycles, buffers and a number of boards. -/
def bErr (cs bs : List Int) (n : Int) : Int :=
  if cErr cs ≠ 0 then cErr cs else if (bs.length : Int) ≠ (cs.length : Int) - 1 then 3 else if bs.any outR = true then 1 else if 1 ≤ n ∧ n ≤ 2000 then 0 else 1
theorem bErr_ok {cs bs : List Int} {n : Int} (h : bErr cs bs n = 0) : cErr cs = 0 ∧ (bs.length : Int) = (cs.length : Int) - 1 ∧ (∀ x ∈ bs, 0 ≤ x ∧ x ≤ 2000) ∧ 1 ≤ n ∧ n ≤ 2000 := by
  unfold bErr at h
  split at h
  · omega
  split at h
  · cases h
  split at h
  · cases h
  split at h
  · rename_i h1 h2 h3 h4
    refine ⟨by omega, by omega, fun c hc => ?_, h4.1, h4.2⟩
    have : outR c = false := by
      rw [Bool.not_eq_true, List.any_eq_false] at h3
      simpa using h3 c hc
    unfold outR at this
    simp at this
    exact this
  · cases h
end Go.Proofs.YtopoemfnnnfgdaaGreatDoor
