/-
  The reference's lines, for whatever takes them.
-/
import Derived.Test.YtiooimfkobjpkaaGreatDoorTxD
namespace Go.Proofs.YtiooimfkobjpkaaGreatDoor
open Go.RowKit
set_option linter.unusedSimpArgs false
set_option linter.unusedVariables false

/-- What a function that takes the lines is to do. -/
def TakesQ {σ : Type} (F : FuncId) (cb : Nat) (base : Nat) (take : Nat → σ → ByteArray → Option σ) (Inv : Nat → σ → World → Prop) : Prop :=
  ∀ (i : Nat) (st : σ) (l : ByteArray) (w : World), i ≤ 200000 → l.size ≤ 200000 → base ≤ w.heap.size → Inv i st w →
    Calls Tryz.prog F #[.string l, .pointer (some ⟨cb, 0, none⟩)] w fun e w' => e = .returned (.bool (take i st l).isSome) ∧ Below base w w' ∧ ∀ st', take i st l = some st' → Inv (i + 1) st' w'
/-- What a function that takes the lines is to do. -/
def TakesQ2 {σ : Type} (F : FuncId) (cb cc : Nat) (base : Nat) (take : Nat → σ → ByteArray → Option σ) (Inv : Nat → σ → World → Prop) : Prop :=
  ∀ (i : Nat) (st : σ) (l : ByteArray) (w : World), i ≤ 200000 → l.size ≤ 200000 → base ≤ w.heap.size → Inv i st w →
    Calls Tryz.prog F #[.string l, .pointer (some ⟨cb, 0, none⟩), .pointer (some ⟨cc, 0, none⟩)] w fun e w' => e = .returned (.bool (take i st l).isSome) ∧ Below base w w' ∧ ∀ st', take i st l = some st' → Inv (i + 1) st' w'
/-- What a function that takes the lines is to do. -/
def TakesR {σ : Type} (F : FuncId) (cb : Nat) (base : Nat) (take : Nat → σ → ByteArray → Option σ) (Inv : Nat → σ → World → Prop) : Prop :=
  ∀ (i : Nat) (st : σ) (l : ByteArray) (w : World), i ≤ 200000 → l.size ≤ 200000 → base ≤ w.heap.size → Inv i st w →
    Calls Tryz.prog F #[.string l, .pointer (some ⟨cb, 0, none⟩)] w fun e w' => e = .returned (.bool (take i st l).isSome) ∧ Below base w w' ∧ ∀ st', take i st l = some st' → Inv (i + 1) st' w'
set_option maxHeartbeats 4000000 in
theorem linesR_any {σ : Type} (F : FuncId) (hF : ∀ args w, (callFunc F args).run Tryz.prog w = .ok (.enter F args) w) (cb : Nat) (base : Nat) (take : Nat → σ → ByteArray → Option σ) (Inv : Nat → σ → World → Prop) (hI : ∀ i st w w', Inv i st w → Below w.heap.size w w' → Inv i st w') (HT : TakesR F cb base take Inv)
    (text : ByteArray) (hs : text.size ≤ 200000) (st : σ) (w : World) (hG : Gl w) (hb : gLow ≤ base) (hbw : base ≤ w.heap.size) (hi : Inv 0 st w) :
    Calls Tryz.prog 40 #[.string text, .func (.func F) #[] #[.pointer (some ⟨cb, 0, none⟩)]] w fun e w' =>
      e = .returned (.tuple #[.int .i64 (lineOf (scanT take text.size 0 st text)), .bool (isOk (scanT take text.size 0 st text))]) ∧ Below base w w' ∧
      (∀ st', scanT take text.size 0 st text = .ok st' → ∃ n, Inv n st' w' ∧ n ≤ text.size ∧ (n = 0 ↔ text.size = 0)) := by
  have HI := Lib.hid hI
  have HTK := Lib.hid HT
  obtain ⟨R, hR⟩ : ∃ R, scanT take text.size 0 st text = R := ⟨_, rfl⟩
  have HR := Lib.hid hR
  rw [hR]
  clear hR HT hI
  have H0 : Hid (Gl w ∧ Inv 0 st w) := ⟨hG, hi⟩
  clear hG hi
  go_enter Tryz.func40, Tryz.ntmps40
  go_wp2_with fail
  go_loopw [0, 6] (fun v0 v6 wr => ∃ (i f : Nat) (st' : σ) (t : ByteArray), v0 = .string t ∧ v6 = .int .i64 i ∧ t.size ≤ f ∧ i + f ≤ text.size ∧ base ≤ wr.heap.size ∧ (i = 0 → t = text) ∧ Hid (Below base w wr ∧ Inv i st' wr ∧ scanT take f i st' t = R)) (fun v0 _ _ => match v0 with | .string t => t.size | _ => 0)
  case atStart => exact ⟨0, text.size, st, text, rfl, rfl, Nat.le_refl _, by omega, hbw, fun _ => rfl, Below.refl _ _, H0.out.2, HR.out⟩
  case round =>
    obtain ⟨i, f, st', t, rfl, rfl, htf, hif, hbr, hit, HS⟩ := hrel
    have HIT := Lib.hid hit
    clear hit
    cases hE : t.toList.isEmpty
    rotate_left
    · have h0 : t.size = 0 := by
        rw [Lib.toList_data] at hE
        have := List.isEmpty_iff.mp hE
        show t.data.toList.length = 0
        rw [this]; rfl
      have HX : Hid (R = .ok st') := HS.out.2.2.symm.trans (scanT_end h0)
      go_wp2_with fail
      refine bodyPost_ret (v := .tuple #[.int .i64 0, .bool true]) (by unfold results; simp only [Tryz.results40]; go_simp) rfl ⟨by rw [HX.out]; rfl, HS.out.1, fun st2 h => ?_⟩
      rw [HX.out] at h
      cases h
      exact ⟨i, HS.out.2.1, by omega, fun h => by rw [← HIT.out h]; exact h0, fun h => by omega⟩
    · have h0 : t.size ≠ 0 := fun h => by
        rw [Lib.toList_data] at hE
        have : t.data.toList = [] := List.length_eq_zero_iff.mp h
        rw [this] at hE
        cases hE
      have hGr : Gl wr := H0.out.1.below HS.out.1 hb
      obtain ⟨m, hm⟩ := hGr.1
      have CC : Hid (Calls Tryz.prog 64 #[.string t, .string ⟨#[10]⟩] wr fun e w' => e = .returned (.tuple #[.string (cutB t).1, .string (cutB t).2.1, .bool (cutB t).2.2]) ∧ ∃ n, w' = wr.drewN n) := Tryz.strings_Cut t ⟨#[10]⟩ m wr (by omega) hm
      have HC := Lib.hid (@cutB_lt t)
      have HN1 := Lib.hid (fun h => @scanT_open σ take f i st' t h0 h)
      have HN2 := Lib.hid (fun h => @scanT_bad σ take f i st' t h0 h)
      have HN3 := Lib.hid (fun f' s2 hc h => @scanT_good σ take f' i st' s2 t h0 hc h)
      clear hm hGr
      generalize cutB t = cu at *
      obtain ⟨ln, rest, en⟩ := cu
      go_wp2_with fail
      refine CC.out.mono ?_
      rintro e w1 ⟨rfl, nd, rfl⟩
      have H1 : Hid (Below base w (wr.drewN nd) ∧ Inv i st' (wr.drewN nd)) := ⟨HS.out.1.drawN nd, HI.out _ _ _ _ HS.out.2.1 ((Below.refl _ _).drawN nd)⟩
      have hz1 : base ≤ (wr.drewN nd).heap.size := hbr
      clear CC
      generalize wr.drewN nd = w1 at *
      cases en
      · have HX : Hid (R = .error i) := HS.out.2.2.symm.trans (HN1.out rfl)
        go_wp2_with fail
        refine bodyPost_ret (v := .tuple #[.int .i64 i, .bool false]) (by unfold results; simp only [Tryz.results40]; go_simp) rfl ⟨by rw [HX.out]; rfl, H1.out.1, fun st2 h => by rw [HX.out] at h; cases h⟩
      · obtain ⟨hc1, hc2, hc3⟩ := HC.out rfl
        have CT := Lib.hid (HTK.out i st' ln w1 (by omega) (by omega) hz1 H1.out.2)
        clear HC
        go_wp2_with fail
        refine CT.out.mono ?_
        rintro e w3 ⟨rfl, b3, hst⟩
        have H3 := Lib.hid (And.intro (H1.out.1.trans b3) hst)
        have hz3 : base ≤ w3.heap.size := Nat.le_trans hz1 b3.size
        clear b3 hst CT H1
        cases ho : take i st' ln with
        | none =>
          have HX : Hid (R = .error i) := HS.out.2.2.symm.trans (HN2.out ho)
          clear ho
          simp only [Option.isSome_none]
          go_wp2_with fail
          refine bodyPost_ret (v := .tuple #[.int .i64 i, .bool false]) (by unfold results; simp only [Tryz.results40]; go_simp) rfl ⟨by rw [HX.out]; rfl, H3.out.1, fun st2 h => by rw [HX.out] at h; cases h⟩
        | some st2 =>
          obtain ⟨f', rfl⟩ : ∃ f', f = f' + 1 := ⟨f - 1, by omega⟩
          have HX := Lib.hid ((HN3.out f' st2 trivial ho).symm.trans HS.out.2.2)
          have HY := Lib.hid (H3.out.2 st2 ho)
          clear ho
          simp only [Option.isSome_some]
          go_wp2_with fail
          go_roundw
          case rel => exact ⟨i + 1, f', st2, rest, rfl, by go_num, by omega, by omega, hz3, fun h => by omega, H3.out.1, HY.out, HX.out⟩
          case measure => omega

end Go.Proofs.YtiooimfkobjpkaaGreatDoor
