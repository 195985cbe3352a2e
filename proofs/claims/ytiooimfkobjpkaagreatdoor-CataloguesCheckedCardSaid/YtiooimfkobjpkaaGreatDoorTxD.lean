/-
  word.Scan, for whatever takes its lines.
-/
import Derived.Test.YtiooimfkobjpkaaGreatDoorTxC
namespace Go.Proofs.YtiooimfkobjpkaaGreatDoor
open Go.RowKit
set_option linter.unusedSimpArgs false
set_option linter.unusedVariables false

/-- What a function that takes the lines' words is to do: cb is the block of what it has captured; Inv says how a state stands in memory. -/
def Takes {σ : Type} (F : FuncId) (cb base : Nat) (take : Nat → σ → List ByteArray → Option σ) (Inv : Nat → σ → World → Prop) : Prop :=
  ∀ (i : Nat) (st : σ) (ws : List ByteArray) (v : Value) (w0 w : World), i ≤ 200000 → ws ≠ [] → ws.length ≤ 200001 → (∀ x ∈ ws, x.size ≤ 200000) → (∀ x ∈ ws, x ≠ dS) → base ≤ w0.heap.size → Inv i st w0 → Below w0.heap.size w0 w → ReadsF w0.heap.size encS v ws w →
    Calls Tryz.prog F #[.int .i64 i, v, .pointer (some ⟨cb, 0, none⟩)] w fun e w' => e = .returned (.bool (take i st ws).isSome) ∧ Below base w w' ∧ ∀ st', take i st ws = some st' → Inv (i + 1) st' w'

set_option maxHeartbeats 4000000 in
theorem scan_any {σ : Type} (F : FuncId) (hF : ∀ args w, (callFunc F args).run Tryz.prog w = .ok (.enter F args) w) (cb base : Nat) (take : Nat → σ → List ByteArray → Option σ) (Inv : Nat → σ → World → Prop) (hI : ∀ i st w w', Inv i st w → Below w.heap.size w w' → Inv i st w') (HT : Takes F cb base take Inv)
    (text : ByteArray) (hs : text.size < 4294967281) (st : σ) (w : World) (hG : Gl w) (hb : gLow ≤ base) (hbw : base ≤ w.heap.size) (hi : Inv 0 st w) :
    Calls Tryz.prog 36 #[.string text, .func (.func F) #[] #[.pointer (some ⟨cb, 0, none⟩)]] w fun e w' =>
      e = .returned (.tuple #[.int .i64 (if 200000 < text.size then 0 else lineOf (scanT (stepW take) text.size 0 st text)), .int .i64 (if 200000 < text.size then 2 else errOf (scanT (stepW take) text.size 0 st text))]) ∧ Below base w w' ∧
      (text.size ≤ 200000 → ∀ st', scanT (stepW take) text.size 0 st text = .ok st' → ∃ n, Inv n st' w' ∧ n ≤ text.size ∧ (n = 0 ↔ text.size = 0)) := by
  by_cases hlong : 200000 < text.size
  · rw [if_pos hlong, if_pos hlong]
    clear HT hI
    go_enter Tryz.func36, Tryz.ntmps36
    go_wp2_with fail
    refine bodyPost_ret (v := .tuple #[.int .i64 0, .int .i64 2]) (by unfold results; simp only [Tryz.results36]; go_simp) rfl ⟨rfl, Below.refl _ _, fun h => by omega⟩
  rw [if_neg hlong, if_neg hlong]
  have HI := Lib.hid hI
  have HTK := Lib.hid HT
  obtain ⟨R, hR⟩ : ∃ R, scanT (stepW take) text.size 0 st text = R := ⟨_, rfl⟩
  have HR := Lib.hid hR
  rw [hR]
  clear hR HT hI
  have H0 : Hid (Gl w ∧ Inv 0 st w) := ⟨hG, hi⟩
  clear hG hi
  go_enter Tryz.func36, Tryz.ntmps36
  go_wp2_with fail
  go_loopw [0, 6] (fun v0 v6 wr => ∃ (i f : Nat) (st' : σ) (t : ByteArray), v0 = .string t ∧ v6 = .int .i64 i ∧ t.size ≤ f ∧ i + f ≤ text.size ∧ base ≤ wr.heap.size ∧ (i = 0 → t = text) ∧ Hid (Below base w wr ∧ Inv i st' wr ∧ scanT (stepW take) f i st' t = R)) (fun v0 _ _ => match v0 with | .string t => t.size | _ => 0)
  case atStart => exact ⟨0, text.size, st, text, rfl, rfl, Nat.le_refl _, by omega, hbw, fun _ => rfl, Below.refl _ _, H0.out.2, HR.out⟩
  case round =>
    obtain ⟨i, f, st', t, rfl, rfl, htf, hif, hbr, hit, HS⟩ := hrel
    have HIT := Lib.hid hit
    clear hit
    cases hE : t.toList.isEmpty
    rotate_left
    · have h0 : t.size = 0 := by
        rw [Lib.toList_data] at hE
        have := List.isEmpty_iff.mp hE
        show t.data.toList.length = 0
        rw [this]; rfl
      have HX : Hid (R = .ok st') := HS.out.2.2.symm.trans (scanT_end h0)
      go_wp2_with fail
      refine bodyPost_ret (v := .tuple #[.int .i64 0, .int .i64 0]) (by unfold results; simp only [Tryz.results36]; go_simp) rfl ⟨by rw [HX.out]; rfl, HS.out.1, fun _ st2 h => ?_⟩
      rw [HX.out] at h
      cases h
      exact ⟨i, HS.out.2.1, by omega, fun h => by rw [← HIT.out h]; exact h0, fun h => by omega⟩
    · have h0 : t.size ≠ 0 := fun h => by
        rw [Lib.toList_data] at hE
        have : t.data.toList = [] := List.length_eq_zero_iff.mp h
        rw [this] at hE
        cases hE
      have hGr : Gl wr := H0.out.1.below HS.out.1 hb
      obtain ⟨m, hm⟩ := hGr.1
      have CC : Hid (Calls Tryz.prog 64 #[.string t, .string ⟨#[10]⟩] wr fun e w' => e = .returned (.tuple #[.string (cutB t).1, .string (cutB t).2.1, .bool (cutB t).2.2]) ∧ ∃ n, w' = wr.drewN n) := Tryz.strings_Cut t ⟨#[10]⟩ m wr (by omega) hm
      have HC := Lib.hid (@cutB_lt t)
      have HN1 := Lib.hid (fun h => @scanT_open σ (stepW take) f i st' t h0 h)
      have HN2 := Lib.hid (fun h => @scanT_bad σ (stepW take) f i st' t h0 h)
      have HN3 := Lib.hid (fun f' s2 hc h => @scanT_good σ (stepW take) f' i st' s2 t h0 hc h)
      clear hm hGr
      generalize cutB t = cu at *
      obtain ⟨ln, rest, en⟩ := cu
      go_wp2_with fail
      refine CC.out.mono ?_
      rintro e w1 ⟨rfl, nd, rfl⟩
      have H1 : Hid (Below base w (wr.drewN nd) ∧ Inv i st' (wr.drewN nd)) := ⟨HS.out.1.drawN nd, HI.out _ _ _ _ HS.out.2.1 ((Below.refl _ _).drawN nd)⟩
      have hz1 : base ≤ (wr.drewN nd).heap.size := hbr
      clear CC
      generalize wr.drewN nd = w1 at *
      cases en
      · have HX : Hid (R = .error i) := HS.out.2.2.symm.trans (HN1.out rfl)
        go_wp2_with fail
        refine bodyPost_ret (v := .tuple #[.int .i64 i, .int .i64 9]) (by unfold results; simp only [Tryz.results36]; go_simp) rfl ⟨by rw [HX.out]; rfl, H1.out.1, fun _ st2 h => by rw [HX.out] at h; cases h⟩
      · obtain ⟨hc1, hc2, hc3⟩ := HC.out rfl
        have HG1 := Lib.hid (H0.out.1.below H1.out.1 hb)
        obtain ⟨m, hm⟩ := HG1.out.1
        have CS : Hid (Calls Tryz.prog 65 #[.string ln, .string ⟨#[32]⟩] w1 fun e w' => e = .returned (.slice (some ⟨w1.heap.size, 0, none⟩) (wordsB ln).length (wordsB ln).length) ∧ w' = w1.alloc (.cells ((wordsB ln).map Value.string).toArray 9)) := by
          rw [wordsB_len]
          exact Tryz.strings_Split ln ⟨#[32]⟩ m w1 (by omega) hm (by decide)
        have hwl : (wordsB ln).length ≤ 200001 := by
          rw [wordsB_len]
          have := Lib.countB_mul_le ⟨#[32]⟩ (by decide) ln.size ln (Nat.le_refl _)
          have e : (⟨#[32]⟩ : ByteArray).size = 1 := rfl
          rw [e] at this
          omega
        have hwne : wordsB ln ≠ [] := fun h => by have := wordsB_len ln; rw [h] at this; simp at this
        have hwz : ∀ x ∈ wordsB ln, x.size ≤ 200000 := fun x hx => by have := wordsB_size hx; omega
        have HWZ := Lib.hid hwz
        have HSW : Hid (stepW take i st' ln = if has (wordsB ln) dS = true then none else take i st' (wordsB ln)) := rfl
        clear hm HC hwz
        generalize wordsB ln = ws at *
        go_wp2_with fail
        refine CS.out.mono ?_
        rintro e w2 ⟨rfl, rfl⟩
        have hbA : Below w1.heap.size w1 (w1.alloc (.cells (ws.map Value.string).toArray 9)) := (Below.refl _ _).alloc (Nat.le_refl _) _
        have H2 : Hid (Below base w (w1.alloc (.cells (ws.map Value.string).toArray 9)) ∧ Inv i st' (w1.alloc (.cells (ws.map Value.string).toArray 9)) ∧ ReadsF w1.heap.size encS (.slice (some ⟨w1.heap.size, 0, none⟩) ws.length ws.length) ws (w1.alloc (.cells (ws.map Value.string).toArray 9))) :=
          ⟨H1.out.1.alloc hz1 _, HI.out _ _ _ _ H1.out.2 hbA, readsF_lit rfl (Nat.le_refl _) (blk_new w1 _ rfl) (Nat.le_refl _)⟩
        have hz2 : base ≤ (w1.alloc (.cells (ws.map Value.string).toArray 9)).heap.size := by simp; omega
        have HBA := Lib.hid hbA
        clear hbA CS
        generalize w1.alloc (.cells (ws.map Value.string).toArray 9) = w2 at *
        have CH := Lib.hid (contains_any (c := ws.length) dS ws.length (Nat.le_refl _) (by omega) H2.out.2.2 ws.length)
        rw [List.take_of_length_le (Nat.le_refl _)] at CH
        go_wp2_with fail
        refine CH.out.mono ?_
        rintro e w3 ⟨rfl, rfl⟩
        cases hh : has ws dS
        rotate_left
        · have HX : Hid (R = .error i) := HS.out.2.2.symm.trans (HN2.out (HSW.out.trans (if_pos hh)))
          go_wp2_with fail
          refine bodyPost_ret (v := .tuple #[.int .i64 i, .int .i64 9]) (by unfold results; simp only [Tryz.results36]; go_simp) rfl ⟨by rw [HX.out]; rfl, H2.out.1, fun _ st2 h => by rw [HX.out] at h; cases h⟩
        · have HSW2 : Hid (stepW take i st' ln = take i st' ws) := HSW.out.trans (if_neg (by rw [hh]; simp))
          have CT := Lib.hid (HTK.out i st' ws _ w1 w2 (by omega) hwne hwl HWZ.out (fun x hx e => by subst e; exact (has_false.mp hh) hx) hz1 H1.out.2 HBA.out H2.out.2.2)
          clear hh HSW CH
          go_wp2_with fail
          refine CT.out.mono ?_
          rintro e w3 ⟨rfl, b3, hst⟩
          have H3 := Lib.hid (And.intro (H2.out.1.trans b3) hst)
          have hz3 : base ≤ w3.heap.size := Nat.le_trans hz2 b3.size
          clear b3 hst CT H2
          cases ho : take i st' ws with
          | none =>
            have HX : Hid (R = .error i) := HS.out.2.2.symm.trans (HN2.out (HSW2.out.trans ho))
            clear ho
            simp only [Option.isSome_none]
            go_wp2_with fail
            refine bodyPost_ret (v := .tuple #[.int .i64 i, .int .i64 9]) (by unfold results; simp only [Tryz.results36]; go_simp) rfl ⟨by rw [HX.out]; rfl, H3.out.1, fun _ st2 h => by rw [HX.out] at h; cases h⟩
          | some st2 =>
            obtain ⟨f', rfl⟩ : ∃ f', f = f' + 1 := ⟨f - 1, by omega⟩
            have HX := Lib.hid ((HN3.out f' st2 trivial (HSW2.out.trans ho)).symm.trans HS.out.2.2)
            have HY := Lib.hid (H3.out.2 st2 ho)
            clear ho
            simp only [Option.isSome_some]
            go_wp2_with fail
            go_roundw
            case rel => exact ⟨i + 1, f', st2, rest, rfl, by go_num, by omega, by omega, hz3, fun h => by omega, H3.out.1, HY.out, HX.out⟩
            case measure => omega
end Go.Proofs.YtiooimfkobjpkaaGreatDoor
