/-
  The walk of the law on bodies.
-/
import Derived.Test.YtiehkcbjfamnkaaPaneled
import Derived.Test.YtiehkcbjfamnkaaEq
import Derived.Test.YtiehkcbjfamnkaaRefD
import Derived.Test.YtiehkcbjfamnkaaAProd
import Derived.Test.YtiehkcbjfamnkaaGenB
namespace Go.Proofs.Ytiehkcbjfamnkaa
open Go.RowKit

theorem kept_below3 {sb : Nat} {w w' : World} {o : Obj} (hs : sb = w.heap.size) (h : Kept sb (w.alloc o) w') : Below w.heap.size w w' := by
  subst hs
  obtain ⟨a, b, c⟩ := h.outer
  refine ⟨a, b, c, by have := h.more; simp at this; omega, fun k hk => ?_⟩
  exact (h.old k (by simp; omega) (by omega)).trans (Below.heap_alloc w o k hk)

theorem pl_own {w : World} {base : Nat} {T : TypeId} {v : Value} {l : List Pl} (h : w.ownsRow base T 5 v l.length (flatP l)) : ∃ A c, v = .slice A l.length c ∧ PlAt w A l ∧ l.length ≤ c ∧ c ≤ 9223372036854775807 := by
  rcases h.2 with ⟨rfl, h0⟩ | ⟨g, cap, cur, rfl, hb, hc, h1, h2, h3, h4⟩
  · have : l = [] := List.length_eq_zero_iff.mp h0
    subst this
    exact ⟨none, 0, rfl, .inl rfl, by simp, by omega⟩
  · refine ⟨_, cap, rfl, ?_, h1, by unfold maxLen at h2; omega⟩
    by_cases h0 : l.length = 0
    · exact .inl (List.length_eq_zero_iff.mp h0)
    · obtain ⟨g', _, hv, _, hlt, _, _, hrd⟩ := own_read h (by omega)
      simp only [Value.slice.injEq, true_and, Option.some.injEq, Addr.mk.injEq, and_true] at hv
      obtain ⟨rfl, rfl⟩ := hv
      exact .inr ⟨g, rfl, hlt, hrd⟩
theorem bo_own {w : World} {base : Nat} {T : TypeId} {v : Value} {l : List Bo} (h : w.ownsRow base T 3 v l.length (flatB l)) : ∃ A c, v = .slice A l.length c ∧ BoAt w A l := by
  obtain ⟨A, c, rfl, _⟩ := own_form h
  refine ⟨A, c, rfl, ?_⟩
  by_cases h0 : l.length = 0
  · exact .inl (List.length_eq_zero_iff.mp h0)
  · obtain ⟨g', _, hv, _, hlt, _, _, hrd⟩ := own_read h (by omega)
    simp only [Value.slice.injEq, true_and] at hv
    exact .inr ⟨g', hv.1, hlt, hrd⟩
theorem errs_dist (key : ByteArray) (W H : Int) (l : List Pl) (b : List Bo) (g : Int) : errsL [prodErr key W H l, bodiesErr b, gapErr g] = distErr key W H l b g := by
  unfold errsL errsL errsL errsL distErr
  by_cases h1 : prodErr key W H l = 0
  · rw [if_pos h1, if_pos h1]
    by_cases h2 : bodiesErr b = 0
    · rw [if_pos h2, if_pos h2]
      split
      · rename_i h; rw [h]
      · rfl
    · rw [if_neg h2, if_neg h2]
  · rw [if_neg h1, if_neg h1]

theorem crowd_all (key : ByteArray) (W H : Int) (A : Option Addr) (c : Nat) (l : List Pl) (hl : l.length ≤ 1000) (B : Option Addr) (d : Nat) (b : List Bo) (hbl : b.length ≤ 1000) (gap : Int) (hcap : l.length ≤ c) (hc9 : c ≤ 9223372036854775807) : ∃ LC : List (ByteArray × ByteArray), LC.length ≤ 2000000 ∧
    (∀ w, PlAt w A l → BoAt w B b → Calls Try.prog 38 #[prod key W H A l.length c, .slice B b.length d, .int .i64 gap] w fun e w' => ∃ v, e = .returned (.tuple #[v, .int .i64 (distErr key W H l b gap)]) ∧ Below w.heap.size w w' ∧ Reads pairOf v LC w') ∧
    (distErr key W H l b gap = 0 → ∀ w, PlAt w A l → BoAt w B b → Calls Try.prog 42 #[prod key W H A l.length c, .slice B b.length d, .int .i64 gap] w fun e w' => ∃ v, e = .returned v ∧ Below w.heap.size w w' ∧ Reads pairOf v LC w') ∧
    (¬ distErr key W H l b gap = 0 → LC = []) := by
  by_cases h : distErr key W H l b gap = 0
  · refine ⟨crowdP b (2 * gap) l, ?_, fun w hA hB => ?_, fun _ w hA hB => ?_, fun h' => absurd h h'⟩
    · rw [crowdP_idx b (2 * gap) l dS, List.length_map]
      have a1 := nearIdx_len (2 * gap) (areasOf b l) (areasOf b l).length
      have a2 := areas_len b l
      have a3 : (areasOf b l).length * (areasOf b l).length ≤ 1000 * 1000 := Nat.mul_le_mul (by omega) (by omega)
      omega
    · rw [h]
      exact (crowded_ok key W H A c l B d b gap w hA hB h).mono fun e w' ⟨v, he, hb, ho⟩ => ⟨v, he, hb, reads_own ho⟩
    · rw [crowd_eq]
      exact (crowdedOf_any key W H A c l B d b gap w hA hB hcap hc9 h).mono fun e w' ⟨v, he, hb, ho⟩ => ⟨v, he, hb, reads_own ho⟩
  · refine ⟨[], by simp, fun w hA hB => ?_, fun h' => absurd h' h, fun _ => rfl⟩
    exact (crowded_bad key W H A c l (by omega) B d b (by omega) gap w hA hB _ rfl h).mono fun e w' ⟨he, hb⟩ => ⟨_, he, hb, none, 0, rfl, .inl rfl⟩
theorem beyond_all (key : ByteArray) (W H : Int) (A : Option Addr) (c : Nat) (l : List Pl) (hl : l.length ≤ 1000) (B : Option Addr) (d : Nat) (b : List Bo) (hbl : b.length ≤ 1000) (gap : Int) : ∃ LC : List ByteArray, LC.length ≤ 2000000 ∧
    (∀ w, PlAt w A l → BoAt w B b → Calls Try.prog 39 #[prod key W H A l.length c, .slice B b.length d, .int .i64 gap] w fun e w' => ∃ v, e = .returned (.tuple #[v, .int .i64 (distErr key W H l b gap)]) ∧ Below w.heap.size w w' ∧ Reads encS v LC w') ∧
    (distErr key W H l b gap = 0 → ∀ w, PlAt w A l → BoAt w B b → Calls Try.prog 43 #[prod key W H A l.length c, .slice B b.length d, .int .i64 gap] w fun e w' => ∃ v, e = .returned v ∧ Below w.heap.size w w' ∧ Reads encS v LC w') ∧
    (¬ distErr key W H l b gap = 0 → LC = []) := by
  by_cases h : distErr key W H l b gap = 0
  · refine ⟨beyond b W H gap l, ?_, fun w hA hB => ?_, fun _ w hA hB => ?_, fun h' => absurd h h'⟩
    · unfold beyond
      rw [List.length_map]
      have := List.length_filter_le (fun p : ByteArray × Ar => beyOf W H gap p.2) (l.filterMap (nameBox b))
      have := List.length_filterMap_le (nameBox b) l
      omega
    · rw [h]
      exact (beyond_ok key W H A c l B d b gap w hA hB h).mono fun e w' ⟨v, he, hb, ho⟩ => ⟨v, he, hb, reads_own ho⟩
    · exact (beyondOf_any key W H A c l B d b gap w hA hB h).mono fun e w' ⟨v, he, hb, ho⟩ => ⟨v, he, hb, reads_own ho⟩
  · refine ⟨[], by simp, fun w hA hB => ?_, fun h' => absurd h' h, fun _ => rfl⟩
    exact (beyond_bad key W H A c l (by omega) B d b (by omega) gap w hA hB _ rfl h).mono fun e w' ⟨he, hb⟩ => ⟨_, he, hb, none, 0, rfl, .inl rfl⟩

/-- What stands when all is made. -/
def Made (w : World) (g : Nat) (key : ByteArray) (W H : Int) (A : Option Addr) (c : Nat) (l : List Pl) (B : Option Addr) (b : List Bo) (wc : World) : Prop :=
  wc.heap[g]? = some (.cells #[.string key, .int .i64 W, .int .i64 H, .slice A l.length c] 28 (0, 0)) ∧ PlAt wc A l ∧ BoAt wc B b ∧ Below w.heap.size w wc
theorem Made.below {w : World} {g : Nat} {key : ByteArray} {W H : Int} {A : Option Addr} {c : Nat} {l : List Pl} {B : Option Addr} {b : List Bo} {wc wd : World} (h : Made w g key W H A c l B b wc) (hb : Below wc.heap.size wc wd) : Made w g key W H A c l B b wd :=
  ⟨blk_below hb h.1, h.2.1.below hb, h.2.2.1.below hb, h.2.2.2.then_below hb h.2.2.2.size⟩

set_option maxRecDepth 100000 in
set_option maxHeartbeats 4000000 in
theorem law3_any (A0 : Option Addr) (n c0 : Nat) (w : World) (hc : n ≤ c0) (hm : c0 ≤ 9223372036854775807) (hA : IntsAt w A0 n w.heap.size) :
    Calls Try.prog 5 #[.slice A0 n c0] w fun e w' => e = .returned (.bool true) ∧ Below w.heap.size w w' := by
  have hs0 : IsStream (w.alloc (.cells #[.slice A0 n c0, .int .i64 0] 25)) w.heap.size 0 := by
    refine ⟨A0, n, c0, 0, hc, hm, Nat.le_refl _, blk_new w _ rfl, fun hn => ?_⟩
    obtain ⟨ad, e, h1, h2, h3⟩ := hA hn
    refine ⟨ad, e, by simp; omega, h2, fun k hk => ?_⟩
    obtain ⟨x, hx⟩ := h3 k hk
    exact ⟨x, ((((Below.refl w.heap.size w).alloc (Nat.le_refl _) _).cell (by rw [addr_block]; exact h1))).trans hx⟩
  go_enter Try.func5, Try.ntmps5
  go_upto_region 2 with (fail)
  go_cut [4, 5, 6] (fun s4 s5 s6 wc => ∃ (g : Nat) (key : ByteArray) (Wd Hg : Int) (A : Option Addr) (c : Nat) (l : List Pl) (B : Option Addr) (d : Nat) (b : List Bo) (gap : Int), s4 = .pointer (some ⟨g, 0, none⟩) ∧ s5 = .slice B b.length d ∧ s6 = .int .i64 gap ∧
    l.length ≤ 5 ∧ b.length ≤ 3 ∧ l.length ≤ c ∧ c ≤ 9223372036854775807 ∧ Hid (Made w g key Wd Hg A c l B b wc))
  case first =>
    go_wp2_with fail
    refine (aproduct_any w.heap.size 0 _ (by omega) hs0).mono ?_
    rintro e w1 ⟨key, Wd, Hg, v, l, rfl, hl, o1, t1⟩
    have O1 := Lib.hid o1
    clear o1
    go_wp2_with fail
    refine (bodies_any w.heap.size 200 _ (by omega) t1.1).mono ?_
    rintro e w2 ⟨v2, b, rfl, hbl, o2, t2⟩
    have O2 := Lib.hid o2
    clear o2
    go_wp2_with fail
    refine (agap_any w.heap.size 280 _ (by omega) t2.1).mono ?_
    rintro e w3 ⟨gap, rfl, t3⟩
    have o1 := kept_own O1.out (t2.2.then_ t3.2) (by simp)
    have o2 := kept_own O2.out t3.2 (by have := t1.2.more; simp at this; omega)
    obtain ⟨A, c, rfl, hPA, hlc, hcm⟩ := pl_own o1
    obtain ⟨B, d, rfl, hBA⟩ := bo_own o2
    have hB := kept_below3 rfl ((t1.trans t2).trans t3).2
    have HM : Hid (Made w w3.heap.size key Wd Hg A c l B b (w3.alloc (.cells #[.string key, .int .i64 Wd, .int .i64 Hg, .slice A l.length c] 28))) :=
      ⟨blk_new w3 _ rfl, hPA.below ((Below.refl _ _).alloc (Nat.le_refl _) _), hBA.below ((Below.refl _ _).alloc (Nat.le_refl _) _), hB.alloc hB.size _⟩
    clear o1 o2 hPA hBA hB t1 t2 t3 O1 O2
    go_wp2_with fail
    go_meet
    exact ⟨w3.heap.size, key, Wd, Hg, A, c, l, B, d, b, gap, rfl, rfl, rfl, hl, hbl, hlc, hcm, HM⟩
  case rest =>
    obtain ⟨g, key, Wd, Hg, A, c, l, B, d, b, gap, rfl, rfl, rfl, hl, hbl, hlc, hcm, HM⟩ := hcut
    obtain ⟨LC, hLC, hC, hCo, hC0⟩ := crowd_all key Wd Hg A c l (by omega) B d b (by omega) gap hlc hcm
    obtain ⟨LB, hLB, hD, hDo, hD0⟩ := beyond_all key Wd Hg A c l (by omega) B d b (by omega) gap
    have hF1 := fun W' (h : PlAt W' A l) => productFault_any key Wd Hg A c l (by omega) W' h
    have hF2 := fun W' (h : BoAt W' B b) => bodiesFault_any B d b (by omega) W' h
    have hF3 := fun W' => gapFault_any gap W'
    have hER := errs_dist key Wd Hg l b gap
    generalize distErr key Wd Hg l b gap = E at *
    generalize prodErr key Wd Hg l = e1 at *
    generalize bodiesErr b = e2 at *
    generalize gapErr gap = e3 at *
    have HC := Lib.hid hC
    have HCo := Lib.hid hCo
    have HC0 := Lib.hid hC0
    have HD := Lib.hid hD
    have HDo := Lib.hid hDo
    have HD0 := Lib.hid hD0
    have HF1 := Lib.hid hF1
    have HF2 := Lib.hid hF2
    have HF3 := Lib.hid hF3
    have HER := Lib.hid hER
    clear hC hCo hC0 hD hDo hD0 hF1 hF2 hF3 hER
    obtain ⟨p0, p1, p2, p3⟩ := blk4 HM.out.1
    have hg := lt_of_blk HM.out.1
    go_wp2_with fail
    refine (HC.out _ HM.out.2.1 HM.out.2.2.1).mono ?_
    rintro e w1 ⟨v7, rfl, b1, r7⟩
    have HM1 := Lib.hid (HM.out.below b1)
    have R7 := Lib.hid r7
    have hg1 : g < w1.heap.size := by have := b1.size; omega
    clear b1 r7 HM p0 p1 p2 p3
    obtain ⟨p0, p1, p2, p3⟩ := blk4 HM1.out.1
    go_wp2_with fail
    refine (HD.out _ HM1.out.2.1 HM1.out.2.2.1).mono ?_
    rintro e w2 ⟨v9, rfl, b2, r9⟩
    have HM2 := Lib.hid (And.intro (HM1.out.below b2) (And.intro (R7.out.below b2) r9))
    have hg2 : g < w2.heap.size := by have := b2.size; omega
    clear b2 r9 HM1 p0 p1 p2 p3 R7
    obtain ⟨p0, p1, p2, p3⟩ := blk4 HM2.out.1.1
    go_wp2_with fail
    refine (HF1.out _ HM2.out.1.2.1).mono ?_
    rintro e w3 ⟨rfl, b3⟩
    have HM3 := Lib.hid (And.intro (HM2.out.1.below b3) (And.intro (HM2.out.2.1.below b3) (HM2.out.2.2.below b3)))
    have hg3 : g < w3.heap.size := by have := b3.size; omega
    clear b3 HM2 p0 p1 p2 p3
    go_wp2_with fail
    refine (HF2.out _ HM3.out.1.2.2.1).mono ?_
    rintro e w4 ⟨rfl, b4⟩
    have HM4 := Lib.hid (And.intro (HM3.out.1.below b4) (And.intro (HM3.out.2.1.below b4) (HM3.out.2.2.below b4)))
    have hg4 : g < w4.heap.size := by have := b4.size; omega
    clear b4 HM3
    go_wp2_with fail
    refine (HF3.out _).mono ?_
    rintro e w5 ⟨rfl, rfl⟩
    have hln : LineAt (w4.alloc (.cells #[.int .i64 e1, .int .i64 e2, .int .i64 e3] 37)) w4.heap.size ([e1, e2, e3].map (Value.int .i64)) := by
      refine ⟨by simp, fun j u hu => ?_⟩
      rw [cell_of_blk (blk_new w4 _ rfl)]
      simpa using hu
    have HLN := Lib.hid hln
    clear hln
    go_wp2_with fail
    refine (errs_any [e1, e2, e3] (by simp) w4.heap.size 3 _ HLN.out).mono ?_
    rw [HER.out]
    rintro e w5 ⟨rfl, rfl⟩
    have HM5 : Hid (Made w g key Wd Hg A c l B b (w4.alloc (.cells #[.int .i64 e1, .int .i64 e2, .int .i64 e3] 37)) ∧ Reads pairOf v7 LC (w4.alloc (.cells #[.int .i64 e1, .int .i64 e2, .int .i64 e3] 37)) ∧ Reads encS v9 LB (w4.alloc (.cells #[.int .i64 e1, .int .i64 e2, .int .i64 e3] 37))) :=
      ⟨HM4.out.1.below ((Below.refl _ _).alloc (Nat.le_refl _) _), HM4.out.2.1.below ((Below.refl _ _).alloc (Nat.le_refl _) _), HM4.out.2.2.below ((Below.refl _ _).alloc (Nat.le_refl _) _)⟩
    have hg5 : g < (w4.alloc (.cells #[.int .i64 e1, .int .i64 e2, .int .i64 e3] 37)).heap.size := by simp; omega
    generalize w4.alloc (.cells #[.int .i64 e1, .int .i64 e2, .int .i64 e3] 37) = w5 at *
    clear HM4 HLN hg4 hg3 hg2 hg1 hg
    go_upto_if 46 with (fail)
    go_cut [12, 13] (fun s12 s13 wc => Hid (Reads pairOf s12 LC wc ∧ Reads encS s13 LB wc ∧ Reads pairOf v7 LC wc ∧ Reads encS v9 LB wc ∧ Below w.heap.size w wc))
    case first =>
      cases h0 : (E == 0)
      · have hE : ¬ E = 0 := by simpa using h0
        have hL1 := HC0.out hE
        have hL2 := HD0.out hE
        subst hL1 hL2
        go_wp2_with fail
        go_meet
        exact ⟨⟨none, 0, rfl, .inl rfl⟩, ⟨none, 0, rfl, .inl rfl⟩, HM5.out.2.1, HM5.out.2.2, HM5.out.1.2.2.2⟩
      · have hE : E = 0 := by simpa using h0
        have CC := Lib.hid (HCo.out hE)
        have CD := Lib.hid (HDo.out hE)
        clear hE
        go_wp2_with fail
        refine Rg.rgL (fun a b => Below a.heap.size a b)
          [(fun vs u => vs 0 = prod key Wd Hg A l.length c), (fun vs u => vs 1 = .slice B b.length d), (fun vs u => vs 2 = .int .i64 gap), (fun vs u => Reads pairOf (vs 3) LC u), (fun vs u => vs 4 = prod key Wd Hg A l.length c), (fun vs u => vs 5 = .slice B b.length d), (fun vs u => vs 6 = .int .i64 gap)]
          [[], [], [], [0, 1, 2], [], [], []] [some 47, some 48, some 49, some 50, some 51, some 52, some 53, some 54, some 12, some 13] [] (fun _ _ => True) [[], [], [], [0, 1, 2], [], [], [], [0, 1, 2, 3, 4, 5, 6], [0, 1, 2, 3, 4, 5, 6, 7], [0, 1, 2, 3, 4, 5, 6, 7, 8]]
          (by kernel_rfl) (by decide) (by kernel_rfl) (by kernel_rfl) (by kernel_rfl) (by kernel_rfl) (by kernel_rfl) (fun _ => Below.refl _ _) (fun _ _ _ h k => h.ext k) (fun _ _ h => h.size) ?_ trivial ?_ ?_
        · intro t ht vs w w' h hE
          simp only [List.mem_cons, List.not_mem_nil, or_false] at ht
          rcases ht with rfl | rfl | rfl | rfl | rfl | rfl | rfl
          · exact h
          · exact h
          · exact h
          · exact h.below hE
          · exact h
          · exact h
          · exact h
        ·
          refine Rg.cons 0 1 rfl (Rg.plain rfl ?_) ?_
          · intro vs W n hn hI hG hT hF K hK
            simp only [Rg.putsD, List.getD_cons_zero, List.getD_cons_succ, Act.put, List.setIfInBounds_toArray, List.set_cons_zero, List.set_cons_succ] at hK ⊢
            clear hn
            clear hF hI
            obtain ⟨c0, c1, c2, c3⟩ := blk4 (blk_below hG HM5.out.1.1)
            have H := Lib.hid hK
            clear hK hT
            go_simp
            exact H.out _ _ (Below.refl _ _) rfl (fun h => by cases h) trivial
          refine Rg.cons 1 2 rfl (Rg.plain rfl ?_) ?_
          · intro vs W n hn hI hG hT hF K hK
            simp only [Rg.putsD, List.getD_cons_zero, List.getD_cons_succ, Act.put, List.setIfInBounds_toArray, List.set_cons_zero, List.set_cons_succ] at hK ⊢
            clear hn
            clear hF hI
            have H := Lib.hid hK
            clear hK hT
            go_simp
            exact H.out _ _ (Below.refl _ _) rfl (fun h => by cases h) trivial
          refine Rg.cons 2 3 rfl (Rg.plain rfl ?_) ?_
          · intro vs W n hn hI hG hT hF K hK
            simp only [Rg.putsD, List.getD_cons_zero, List.getD_cons_succ, Act.put, List.setIfInBounds_toArray, List.set_cons_zero, List.set_cons_succ] at hK ⊢
            clear hn
            clear hF hI
            have H := Lib.hid hK
            clear hK hT
            go_simp
            exact H.out _ _ (Below.refl _ _) rfl (fun h => by cases h) trivial
          refine Rg.cons 3 4 rfl (Rg.plain rfl ?_) ?_
          · intro vs W n hn hI hG hT hF K hK
            simp only [Rg.putsD, List.getD_cons_zero, List.getD_cons_succ, Act.put, List.setIfInBounds_toArray, List.set_cons_zero, List.set_cons_succ] at hK ⊢
            clear hn
            clear hF hI
            have t0 : vs 0 = prod key Wd Hg A l.length c := hT 0 (by decide)
            have t1 : vs 1 = .slice B b.length d := hT 1 (by decide)
            have t2 : vs 2 = .int .i64 gap := hT 2 (by decide)
            have HG := Lib.hid hG
            clear hG
            simp only [t0, t1, t2] at hK
            have H := Lib.hid hK
            clear hK hT
            go_simp
            refine (CC.out _ (PlAt.below (w := w5.drew) HM5.out.1.2.1 HG.out) (BoAt.below (w := w5.drew) HM5.out.1.2.2.1 HG.out)).mono ?_
            rintro e w6 ⟨v, rfl, b6, r6⟩
            exact H.out _ _ b6 r6 (fun h => by cases h) trivial
          refine Rg.cons 4 5 rfl (Rg.plain rfl ?_) ?_
          · intro vs W n hn hI hG hT hF K hK
            simp only [Rg.putsD, List.getD_cons_zero, List.getD_cons_succ, Act.put, List.setIfInBounds_toArray, List.set_cons_zero, List.set_cons_succ] at hK ⊢
            clear hn
            clear hF hI
            obtain ⟨c0, c1, c2, c3⟩ := blk4 (blk_below hG HM5.out.1.1)
            have H := Lib.hid hK
            clear hK hT
            go_simp
            exact H.out _ _ (Below.refl _ _) rfl (fun h => by cases h) trivial
          refine Rg.cons 5 6 rfl (Rg.plain rfl ?_) ?_
          · intro vs W n hn hI hG hT hF K hK
            simp only [Rg.putsD, List.getD_cons_zero, List.getD_cons_succ, Act.put, List.setIfInBounds_toArray, List.set_cons_zero, List.set_cons_succ] at hK ⊢
            clear hn
            clear hF hI
            have H := Lib.hid hK
            clear hK hT
            go_simp
            exact H.out _ _ (Below.refl _ _) rfl (fun h => by cases h) trivial
          refine Rg.cons 6 7 rfl (Rg.plain rfl ?_) ?_
          · intro vs W n hn hI hG hT hF K hK
            simp only [Rg.putsD, List.getD_cons_zero, List.getD_cons_succ, Act.put, List.setIfInBounds_toArray, List.set_cons_zero, List.set_cons_succ] at hK ⊢
            clear hn
            clear hF hI
            have H := Lib.hid hK
            clear hK hT
            go_simp
            exact H.out _ _ (Below.refl _ _) rfl (fun h => by cases h) trivial
          exact Rg.nil
        · intro vs W hG hI hT hF
          have t0 : vs 0 = prod key Wd Hg A l.length c := hT 0 (by decide)
          have t1 : vs 1 = .slice B b.length d := hT 1 (by decide)
          have t2 : vs 2 = .int .i64 gap := hT 2 (by decide)
          have t3 : Reads pairOf (vs 3) LC W := hT 3 (by decide)
          have t4 : vs 4 = prod key Wd Hg A l.length c := hT 4 (by decide)
          have t5 : vs 5 = .slice B b.length d := hT 5 (by decide)
          have t6 : vs 6 = .int .i64 gap := hT 6 (by decide)
          simp only [List.length_cons, List.length_nil, Nat.reduceAdd, List.range, List.range.loop, List.drop_succ_cons, List.drop_zero, Rg.putsD, List.getD_cons_zero, List.getD_cons_succ, Act.put, List.setIfInBounds_toArray, List.set_cons_zero, List.set_cons_succ, t0, t1, t2, t4, t5, t6]
          clear hT t0 t1 t2 t4 t5 t6
          have HR := Lib.hid (And.intro t3 (And.intro (Reads.below (w := w5.drew) HM5.out.2.1 hG) (And.intro (Reads.below (w := w5.drew) HM5.out.2.2 hG) (And.intro (HM5.out.1.2.2.2.drew.then_below hG HM5.out.1.2.2.2.size) (And.intro (PlAt.below (w := w5.drew) HM5.out.1.2.1 hG) (BoAt.below (w := w5.drew) HM5.out.1.2.2.1 hG))))))
          clear t3 hF hG hI
          go_wp2_with fail
          refine (CD.out _ HR.out.2.2.2.2.1 HR.out.2.2.2.2.2).mono ?_
          rintro e w6 ⟨v, rfl, b6, r6⟩
          have HR6 := Lib.hid (And.intro (HR.out.1.below b6) (And.intro r6 (And.intro (HR.out.2.1.below b6) (And.intro (HR.out.2.2.1.below b6) (HR.out.2.2.2.1.then_below b6 HR.out.2.2.2.1.size)))))
          clear b6 r6 HR
          go_wp2_with fail
          go_meet
          exact HR6.out
    case rest =>
      clear HM5
      have HR := hcut
      go_wp2_with fail
      refine (equalPair_any LC hLC _ _ _ HR.out.2.2.1 HR.out.1).mono ?_
      rintro e w6 ⟨rfl, b6⟩
      have HR6 := Lib.hid (And.intro (HR.out.2.1.below b6) (And.intro (HR.out.2.2.2.1.below b6) (HR.out.2.2.2.2.then_below b6 HR.out.2.2.2.2.size)))
      clear b6 HR hcut
      go_wp2_with fail
      refine (equalStr_any LB hLB _ _ _ HR6.out.2.1 HR6.out.1).mono ?_
      rintro e w7 ⟨rfl, b7⟩
      have HR7 := Lib.hid (HR6.out.2.2.then_below b7 HR6.out.2.2.size)
      clear b7 HR6
      go_wp2_with fail
      refine (paneled_any _).mono ?_
      rintro e w8 ⟨rfl, b8⟩
      go_wp2_with fail
      go_ret
      exact ⟨rfl, HR7.out.then_below b8 HR7.out.size⟩
end Go.Proofs.Ytiehkcbjfamnkaa
