/-
  The walk of the law BuffersSuffice: its own function.
-/
import Derived.Test.YtiooimfkobjpkaaLnO
namespace Go.Proofs.Ytiooimfkobjpkaa
open Go.RowKit
set_option linter.unusedSimpArgs false
set_option linter.unusedVariables false

theorem lineAt_new (w : World) (cs : List Value) (t : TypeId) : LineAt (w.alloc (.cells cs.toArray t)) w.heap.size cs := by
  refine ⟨by simp, fun j x hx => ?_⟩
  rw [cell_of_blk (blk_new w _ rfl)]
  simpa using hx
set_option maxRecDepth 100000 in
set_option maxHeartbeats 16000000 in
theorem lawF_any (A0 : Option Addr) (n c0 : Nat) (w : World) (hc : n ≤ c0) (hm : c0 ≤ 9223372036854775807) (hA : IntsAt w A0 n w.heap.size) :
    Calls Try.prog 5 #[.slice A0 n c0] w fun e w' => e = .returned (.bool true) ∧ Below w.heap.size w w' := by
  have hs0 : IsStream (w.alloc (.cells #[.slice A0 n c0, .int .i64 0] 25)) w.heap.size 0 := by
    refine ⟨A0, n, c0, 0, hc, hm, Nat.le_refl _, blk_new w _ rfl, fun hn => ?_⟩
    obtain ⟨ad, e, h1, h2, h3⟩ := hA hn
    refine ⟨ad, e, by simp; omega, h2, fun k hk => ?_⟩
    obtain ⟨x, hx⟩ := h3 k hk
    exact ⟨x, ((((Below.refl w.heap.size w).alloc (Nat.le_refl _) _).cell (by rw [addr_block]; exact h1))).trans hx⟩
  obtain ⟨wo, hwo⟩ : ∃ wo, wo = w.alloc (.cells #[.slice A0 n c0, .int .i64 0] 25) := ⟨_, rfl⟩
  have HWO : Hid (Below w.heap.size w wo ∧ w.heap.size < wo.heap.size) := ⟨by rw [hwo]; exact (Below.refl _ _).alloc (Nat.le_refl _) _, by rw [hwo]; simp⟩
  have HW := Lib.hid hwo
  rw [← hwo] at hs0
  clear hwo
  have H0 := Lib.hid (Took.refl hs0)
  have hwz := HWO.out.2
  have HKB : Hid (∀ W, Kept w.heap.size wo W → Below w.heap.size w W) := fun W h => kept_belowL rfl (by rw [HW.out] at h; exact h)
  go_enter Try.func5, Try.ntmps5
  go_upto_region 2 with (fail)
  rw [← HW.out]
  go_wp2_with fail
  refine (line_any w.heap.size 0 wo (by omega) H0.out.1).mono ?_
  rintro e w1 ⟨v1, v2, n1, n2, rfl, hn1, hn2, t1, ⟨cs, e1, o1⟩, ⟨bs, e2, o2⟩⟩
  subst e1 e2
  have H1 : Hid (Took w.heap.size 20 wo w1 ∧ w1.ownsRow wo.heap.size 3 1 v1 cs.length (cs.map (Value.int .i64))) := ⟨t1, o1⟩
  obtain ⟨A2, c2, rfl, _⟩ := own_form o2
  clear t1 o1 o2
  obtain ⟨A1, c1, rfl, _⟩ := own_form H1.out.2
  go_wp2_with fail
  refine (pick_lit w.heap.size 20 [1, 3, 6, 0, 2001] w1 w1.heap.size 5 rfl (by omega) (by omega) rfl (by omega) H1.out.1.1).mono ?_
  rintro e w2 ⟨N, hN, rfl, t2⟩
  have H2 : Hid (Took w.heap.size 21 wo w2 ∧ w2.ownsRow wo.heap.size 3 1 (.slice A1 cs.length c1) cs.length (cs.map (Value.int .i64))) := ⟨H1.out.1.trans t2, kept_own H1.out.2 t2.2 hwz⟩
  have hN2 : 0 ≤ N ∧ N ≤ 2001 := by
    simp only [List.mem_cons, List.not_mem_nil, or_false] at hN
    omega
  clear t2 H1 hN
  go_wp2_with fail
  refine (pick_lit w.heap.size 21 [0, 1, 2, 3, -1, 4] w2 w2.heap.size 6 rfl (by omega) (by omega) rfl (by omega) H2.out.1.1).mono ?_
  rintro e w3 ⟨M, hM, rfl, t3⟩
  have H3 : Hid (Took w.heap.size 90 wo w3 ∧ Reads encN (.slice A1 cs.length c1) cs w3) := ⟨(H2.out.1.trans t3).more (by omega), readsN_own (kept_own H2.out.2 t3.2 hwz)⟩
  have hM2 : -1 ≤ M ∧ M ≤ 4 := by
    simp only [List.mem_cons, List.not_mem_nil, or_false] at hM
    omega
  clear t3 H2 hM H0 hs0 hA
  have C1 := Lib.hid (fun (W : World) (h : Reads encN (.slice A1 cs.length c1) cs W) => enough_any cs N M (by omega) h)
  have HOK := Lib.hid (@eErr_ok cs N M)
  have HCK := Lib.hid (@cErr_ok cs)
  obtain ⟨p, hpm⟩ : ∃ p : Nat, max 0 ((cs.length : Int) - 1) = (p : Int) := by
    rcases Int.eq_ofNat_of_zero_le (show 0 ≤ max 0 ((cs.length : Int) - 1) by omega) with ⟨p, hp⟩
    exact ⟨p, hp⟩
  have HFE := Lib.hid (fault_eq cs N M p hpm.symm)
  have hp5 : p ≤ 5 := by omega
  have HP : Hid (1 ≤ cs.length → p = cs.length - 1) := fun h => by omega
  have HEV : Hid ((eErr cs N M = 0 → enV cs N M = List.replicate (cs.length - 1) 0) ∧ (¬ eErr cs N M = 0 → enV cs N M = [])) := ⟨fun h => if_pos h, fun h => if_neg h⟩
  have C2 := Lib.hid (fun (vb : Value) (W : World) (h : Reads encN (.slice A1 cs.length c1) cs W) (h2 : Reads encN vb (List.replicate p 0) W) => boardsFault_any cs (List.replicate p 0) N (by omega) (by simp; omega) h h2)
  generalize bErr cs (List.replicate p 0) N = F at *
  generalize hEE : eErr cs N M = E at *
  have HEE := Lib.hid hEE
  clear hEE
  generalize enV cs N M = V at *
  have hmk := run_makeInts p (by omega)
  go_wp2_with fail
  refine (C1.out _ H3.out.2).mono ?_
  rintro e w4 ⟨x1, rfl, hx1, b4⟩
  have H4 := Lib.hid (And.intro (H3.out.1.below b4) (And.intro (H3.out.2.below b4) hx1))
  clear b4 hx1 H3 C1
  have ha : Below w4.heap.size w4 (w4.alloc (.cells (List.replicate p (Value.int .i64 0)).toArray 3)) := (Below.refl _ _).alloc (Nat.le_refl _) _
  have H5 : Hid (Took w.heap.size 90 wo (w4.alloc (.cells (List.replicate p (Value.int .i64 0)).toArray 3)) ∧ Reads encN (.slice A1 cs.length c1) cs (w4.alloc (.cells (List.replicate p (Value.int .i64 0)).toArray 3)) ∧ Reads encN x1 V (w4.alloc (.cells (List.replicate p (Value.int .i64 0)).toArray 3)) ∧ Reads encN (.slice (some ⟨w4.heap.size, 0, none⟩) p p) (List.replicate p 0) (w4.alloc (.cells (List.replicate p (Value.int .i64 0)).toArray 3))) :=
    ⟨H4.out.1.below ha, H4.out.2.1.below ha, H4.out.2.2.below ha, reads_ints (t := 3) (by simp) (by rw [List.map_replicate]; exact blk_new w4 _ rfl)⟩
  clear ha H4
  rw [List.toArray_replicate] at H5
  go_wp2_with fail
  generalize w4.alloc (.cells (Array.replicate p (.int .i64 0)) 3) = w5 at *
  refine (C2.out _ w5 H5.out.2.1 H5.out.2.2.2).mono ?_
  rintro e w6 ⟨rfl, b6⟩
  have H6 : Hid (Took w.heap.size 90 wo w6 ∧ Reads encN (.slice A1 cs.length c1) cs w6 ∧ Reads encN x1 V w6) := ⟨H5.out.1.below b6, H5.out.2.1.below b6, H5.out.2.2.1.below b6⟩
  clear b6 H5 C2 hmk hpm
  go_upto_region 6 with (fail)
  go_cut [10] (fun s10 wc => s10 = .int .i64 E ∧ Hid (Took w.heap.size 90 wo wc ∧ Reads encN (.slice A1 cs.length c1) cs wc ∧ Reads encN x1 V wc))
  case first => as_aux_lemma =>
    have HCF : Hid (∀ (b : Bool) (x : Int), (decide (M < 0) || decide (3 < M)) = b → (if b = true then 1 else 0) = x → ∀ W : World, Calls Try.prog 12 #[.slice (some ⟨W.heap.size, 0, none⟩) 2 2] (W.alloc (.cells #[.int .i64 F, .int .i64 x] 31)) fun e w' => e = .returned (.int .i64 E) ∧ w' = W.alloc (.cells #[.int .i64 F, .int .i64 x] 31)) := by
      rintro b x hb rfl W
      rw [← HFE.out, hb]
      refine (errs_any [F, if b = true then 1 else 0] (by simp) W.heap.size 2 _ (lineAt_new W _ _)).mono ?_
      rintro e w' ⟨rfl, rfl⟩
      exact ⟨rfl, rfl⟩
    have hcase : M < 0 ∨ (¬ M < 0 ∧ 3 < M) ∨ (¬ M < 0 ∧ ¬ 3 < M) := by omega
    rcases hcase with hM1 | ⟨hM1, hM3⟩ | ⟨hM1, hM3⟩
    · have HCX := Lib.hid (HCF.out true 1 (by simp; omega) rfl)
      clear HCF
      go_wp2_with fail
      refine (when_any true 1 _).mono ?_
      rintro e w7 ⟨rfl, rfl⟩
      go_wp2_with fail
      refine (HCX.out _).mono ?_
      rintro e w8 ⟨rfl, rfl⟩
      have ha : Below w7.heap.size w7 (w7.alloc (.cells #[.int .i64 F, .int .i64 1] 31)) := (Below.refl _ _).alloc (Nat.le_refl _) _
      have H8 := Lib.hid (And.intro (H6.out.1.below ha) (And.intro (H6.out.2.1.below ha) (H6.out.2.2.below ha)))
      clear ha
      go_wp2_with fail
      go_meet
      exact ⟨rfl, H8.out⟩
    · have HCX := Lib.hid (HCF.out true 1 (by simp; omega) rfl)
      clear HCF
      go_wp2_with fail
      refine (when_any true 1 _).mono ?_
      rintro e w7 ⟨rfl, rfl⟩
      go_wp2_with fail
      refine (HCX.out _).mono ?_
      rintro e w8 ⟨rfl, rfl⟩
      have ha : Below w7.heap.size w7 (w7.alloc (.cells #[.int .i64 F, .int .i64 1] 31)) := (Below.refl _ _).alloc (Nat.le_refl _) _
      have H8 := Lib.hid (And.intro (H6.out.1.below ha) (And.intro (H6.out.2.1.below ha) (H6.out.2.2.below ha)))
      clear ha
      go_wp2_with fail
      go_meet
      exact ⟨rfl, H8.out⟩
    · have HCX := Lib.hid (HCF.out false 0 (by simp; omega) rfl)
      clear HCF
      go_wp2_with fail
      refine (when_any false 1 _).mono ?_
      rintro e w7 ⟨rfl, rfl⟩
      go_wp2_with fail
      refine (HCX.out _).mono ?_
      rintro e w8 ⟨rfl, rfl⟩
      have ha : Below w7.heap.size w7 (w7.alloc (.cells #[.int .i64 F, .int .i64 0] 31)) := (Below.refl _ _).alloc (Nat.le_refl _) _
      have H8 := Lib.hid (And.intro (H6.out.1.below ha) (And.intro (H6.out.2.1.below ha) (H6.out.2.2.below ha)))
      clear ha
      go_wp2_with fail
      go_meet
      exact ⟨rfl, H8.out⟩
  case rest => as_aux_lemma =>
    obtain ⟨rfl, H7⟩ := hcut
    clear H6 HFE
    have EQ := Lib.hid (fun (l : List Int) (h : l.length ≤ 100000) (v1 v2 : Value) (W : World) h1 h2 => @eqN_any l h v1 v2 W h1 h2)
    have s1 : (E == E) = true := by simp
    by_cases hE : E = 0
    rotate_left
    · have hV := HEV.out.2 hE
      subst hV
      have hEb : (E == 0) = false := by simpa using hE
      clear HEV HOK HCK hE
      go_wp2_with fail
      refine (EQ.out [] (by simp) _ _ _ H7.out.2.2 (nil_readsN _)).mono ?_
      rintro e w9 ⟨rfl, b9⟩
      have H9 : Hid (Took w.heap.size 90 wo w9) := H7.out.1.below b9
      clear b9 H7
      go_wp2_with fail
      refine (lined_any _).mono ?_
      rintro e w12 ⟨rfl, b12⟩
      have H12 := Lib.hid (H9.out.below b12)
      clear b12 H9
      go_wp2_with fail
      go_ret
      exact ⟨rfl, HKB.out _ H12.out.2⟩
    · subst hE
      obtain ⟨hc0, ⟨hN1', hN2'⟩, hM1, hM3⟩ := HOK.out rfl
      obtain ⟨hc1, hc6, hcs⟩ := HCK.out hc0
      have hV := HEV.out.1 rfl
      subst hV
      obtain ⟨m, rfl⟩ := Int.eq_ofNat_of_zero_le (show 0 ≤ N by omega)
      obtain ⟨q, rfl⟩ := Int.eq_ofNat_of_zero_le hM1
      have CE := Lib.hid (fun (W : World) (h : Reads encN (.slice A1 cs.length c1) cs W) => enoughOf_any cs m (cs.length - 1) q hcs hc1 hc6 (by omega) (by omega) (by omega) (by omega) h)
      obtain ⟨r, hr⟩ : ∃ r, cs.length - 1 = r := ⟨_, rfl⟩
      rw [hr] at CE H7
      have hr5 : r ≤ 5 := by omega
      clear hr HEV HOK HCK hcs hc0 hN1' hN2' hM3 hM1
      go_wp2_with fail
      refine (CE.out _ H7.out.2.1).mono ?_
      rintro e w8 ⟨y1, rfl, hy1, b8⟩
      have H8 : Hid (Took w.heap.size 90 wo w8 ∧ Reads encN x1 (List.replicate r 0) w8 ∧ Reads encN y1 (List.replicate r 0) w8) := ⟨H7.out.1.below b8, H7.out.2.2.below b8, hy1⟩
      clear b8 hy1 H7 CE
      go_wp2_with fail
      refine (EQ.out (List.replicate r 0) (by simp; omega) _ _ _ H8.out.2.1 H8.out.2.2).mono ?_
      rintro e w9 ⟨rfl, b9⟩
      have H9 : Hid (Took w.heap.size 90 wo w9) := H8.out.1.below b9
      clear b9 H8
      go_wp2_with fail
      refine (lined_any _).mono ?_
      rintro e w12 ⟨rfl, b12⟩
      have H12 := Lib.hid (H9.out.below b12)
      clear b12 H9
      go_wp2_with fail
      go_ret
      exact ⟨rfl, HKB.out _ H12.out.2⟩
end Go.Proofs.Ytiooimfkobjpkaa
