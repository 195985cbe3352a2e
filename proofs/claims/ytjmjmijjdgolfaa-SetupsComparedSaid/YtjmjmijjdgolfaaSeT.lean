/-
  Setups in an order, and their loads: the reference's.
-/
import Derived.Test.YtjmjmijjdgolfaaSeQ
namespace Go.Proofs.Ytjmjmijjdgolfaa
open Go.RowKit
set_option linter.unusedSimpArgs false
set_option linter.unusedVariables false

set_option maxRecDepth 100000 in
set_option maxHeartbeats 800000 in
theorem setupsR_any {b1 b2 : Nat} {s : List ByteArray} {p : List (List ByteArray)} {v1 v2 : Value} (hs : SetOk s) (hp : p.length ≤ 200) (hpp : ∀ l ∈ p, l.length ≤ s.length ∧ PaOk l) {w : World} (h1 : ReadsF b1 encS v1 s w) (h2 : ListsF b2 v2 p w) :
    Calls Try.prog 48 #[v1, v2] w fun e w' => ∃ u, e = .returned u ∧ Below w.heap.size w w' ∧ ListsF w.heap.size u (setupsOf s p) w' := by
  have hn100 := hs.2.1
  have HH := Lib.hid (And.intro h1 h2)
  have HU := Lib.hid (fun k (hk : k ≤ p.length) => upTo_ok hs (fun l hl => (hpp l hl).2) k hk)
  have CN : Hid (∀ (W : World) (k : Nat) (l : List ByteArray) (u v x : Value), k < p.length → p.getD k [] = l → ReadsF 0 encS u (upTo s p k) W → ReadsF b2 encS v l W → ListsF b2 x (p.drop (k + 1)) W →
      Calls Try.prog 47 #[u, v, x] W fun e w' => ∃ u, e = .returned u ∧ Below W.heap.size W w' ∧ w'.ownsRow W.heap.size 9 1 u (upTo s p (k + 1)).length ((upTo s p (k + 1)).map Value.string)) := by
    rintro W k l u v x hk rfl ha hb hc
    have hm : p.getD k [] ∈ p := by rw [List.getD_eq_getElem?_getD, List.getElem?_eq_getElem hk]; exact List.getElem_mem hk
    exact nextR_any (HU.out k (by omega)).1 (hpp _ hm).2 (by rw [(HU.out k (by omega)).2]; exact (hpp _ hm).1) (by simp; omega) (fun l hl => by have := (hpp l (List.mem_of_mem_drop hl)).1; omega) (fun l hl => (hpp l (List.mem_of_mem_drop hl)).2) ha hb hc
  obtain ⟨A1, c1, rfl, z1, z2⟩ := h1
  obtain ⟨A2, c2, rfl, hc2, z3⟩ := h2
  clear z1 z2 z3
  have H0 : Hid (StSt w s p 0 [] (.slice A1 s.length c1) (.slice none 0 0) w) := ⟨Below.refl _ _, HH.out.1.least (Nat.zero_le _), fun _ => rfl, rfl, World.ownsRow_nil _ _ _ _, fun j hj => by omega⟩
  go_enter Try.func48, Try.ntmps48
  go_wp2_with fail
  go_loopw [0, 5, 10] (fun v0 v5 kk wr => ∃ (k : Nat) (us : List Value), k ≤ p.length ∧ kk = .int .i64 k ∧ Hid (StSt w s p k us v0 v5 wr)) (fun _ _ kk _ => p.length - (intOf kk).toNat)
  case atStart => exact ⟨0, [], by omega, rfl, H0⟩
  case round =>
    clear H0
    obtain ⟨k, us, hk, rfl, HS⟩ := hrel
    by_cases hlt : k < p.length
    · obtain ⟨A', c', e, z1, hr⟩ := HH.out.2.below HS.out.1
      cases e
      clear z1
      rcases hr with hr | ⟨g, o, rfl, hgb, hgl, hcells⟩
      · subst hr; simp at hlt
      obtain ⟨u, q1, hu⟩ := hcells k hlt
      obtain ⟨A5, c5, rfl, z1, z2⟩ := own_slice HS.out.2.2.2.2.1
      clear z1 z2
      have hD : p.getD k [] = p[k] := by rw [List.getD_eq_getElem?_getD, List.getElem?_eq_getElem hlt]; rfl
      obtain ⟨l, hl⟩ : ∃ l, p[k] = l := ⟨_, rfl⟩
      rw [hl] at hD hu
      have HD := Lib.hid hD
      clear hl hD
      have HC := Lib.hid (And.intro hcells hu)
      obtain ⟨Au, cu, rfl, z1, z2⟩ := hu
      clear z1 z2
      have i1 : (0 : Int) ≤ (k : Int) := by omega
      have i2 : (k : Int) < (p.length : Int) := by omega
      have hrd0 := HS.out.2.1
      obtain ⟨A0, c0, rfl, z1, z2⟩ := hrd0
      clear z1 z2
      clear hcells
      by_cases hcz : c2 = k + 1
      · subst hcz
        go_wp2_with fail
        have HL : Hid (ListsF b2 (.slice (some ⟨g, o, none⟩) 0 0) (p.drop (k + 1)) wr) := by
          have h0 : p.drop (k + 1) = [] := List.drop_eq_nil_of_le (by omega)
          rw [h0]
          exact ⟨_, 0, rfl, Nat.le_refl _, .inl rfl⟩
        refine (CN.out wr k l _ _ _ hlt HD.out HS.out.2.1 HC.out.2 HL.out).mono ?_
        rintro e w2 ⟨u2, rfl, hb2, ho2⟩
        have H2 := Lib.hid (And.intro (HS.out.below hb2) ((own_strs ho2).least HS.out.1.size))
        have hz2 : w.heap.size ≤ w2.heap.size := (HS.out.below hb2).1.size
        obtain ⟨i0, hi0, hz0, hzz1, hz2'⟩ := info_parts lst_info
        have HI := Lib.hid (And.intro hi0 (And.intro hz0 (And.intro hzz1 hz2')))
        have hus : Hid (w2.ownsRow w.heap.size 51 1 (.slice A5 k c5) k us) := H2.out.1.2.2.2.2.1
        have hu2 := H2.out.2
        obtain ⟨Ax, cx, rfl, z1, z2⟩ := hu2
        clear z1 z2
        clear hb2 ho2 HS HC HL hi0 hz0 hzz1 hz2'
        go_wp2_with (at_builtin; refine hold ?_)
        refine loose ?_
        refine wpList_append_own _ rfl _ _ 54 rfl w.heap.size 51 i0 _ 1 24 Try.underlying54 HI.out.1 HI.out.2.1 HI.out.2.2.1 HI.out.2.2.2 rfl (by omega) _ k us rfl (hus.out.alloc _) ⟨w2.heap.size, 0, none⟩ 1 1 [.slice Ax (upTo s p (k + 1)).length cx] rfl rfl (cell_one_new _ _ _) (by intro u hu; simp at hu; subst hu; rfl) (by unfold maxLen; omega) (by omega) (by simp; omega) ?_
        intro v' w3 hown' hg' _
        have hal : Below w2.heap.size w2 (w2.alloc (.cells #[.slice Ax (upTo s p (k + 1)).length cx] 51)) := (Below.refl _ _).alloc (Nat.le_refl _) _
        have HF := Lib.hid ((H2.out.1.below hal).next hg' (H2.out.2.below hal) hown')
        clear hal
        clear hown' hg'
        go_wp2_with fail
        go_roundw
        case rel => exact ⟨k + 1, _, by omega, by go_num, HF⟩
        case measure => simp [intOf]; omega
      · go_wp2_with fail
        have HL : Hid (ListsF b2 (.slice (some ⟨g, o + (k + 1), none⟩) (p.length - (k + 1)) (c2 - (k + 1))) (p.drop (k + 1)) wr) := by
          refine ⟨_, _, by rw [List.length_drop], by rw [List.length_drop]; omega, .inr ⟨g, o + (k + 1), rfl, hgb, hgl, fun j hj => ?_⟩⟩
          rw [List.length_drop] at hj
          obtain ⟨u, a, b⟩ := HC.out.1 (k + 1 + j) (by omega)
          refine ⟨u, by rw [Nat.add_assoc]; exact a, ?_⟩
          rw [List.getElem_drop]
          exact b
        refine (CN.out wr k l _ _ _ hlt HD.out HS.out.2.1 HC.out.2 HL.out).mono ?_
        rintro e w2 ⟨u2, rfl, hb2, ho2⟩
        have H2 := Lib.hid (And.intro (HS.out.below hb2) ((own_strs ho2).least HS.out.1.size))
        have hz2 : w.heap.size ≤ w2.heap.size := (HS.out.below hb2).1.size
        obtain ⟨i0, hi0, hz0, hzz1, hz2'⟩ := info_parts lst_info
        have HI := Lib.hid (And.intro hi0 (And.intro hz0 (And.intro hzz1 hz2')))
        have hus : Hid (w2.ownsRow w.heap.size 51 1 (.slice A5 k c5) k us) := H2.out.1.2.2.2.2.1
        have hu2 := H2.out.2
        obtain ⟨Ax, cx, rfl, z1, z2⟩ := hu2
        clear z1 z2
        clear hb2 ho2 HS HC HL hi0 hz0 hzz1 hz2'
        go_wp2_with (at_builtin; refine hold ?_)
        refine loose ?_
        refine wpList_append_own _ rfl _ _ 54 rfl w.heap.size 51 i0 _ 1 24 Try.underlying54 HI.out.1 HI.out.2.1 HI.out.2.2.1 HI.out.2.2.2 rfl (by omega) _ k us rfl (hus.out.alloc _) ⟨w2.heap.size, 0, none⟩ 1 1 [.slice Ax (upTo s p (k + 1)).length cx] rfl rfl (cell_one_new _ _ _) (by intro u hu; simp at hu; subst hu; rfl) (by unfold maxLen; omega) (by omega) (by simp; omega) ?_
        intro v' w3 hown' hg' _
        have hal : Below w2.heap.size w2 (w2.alloc (.cells #[.slice Ax (upTo s p (k + 1)).length cx] 51)) := (Below.refl _ _).alloc (Nat.le_refl _) _
        have HF := Lib.hid ((H2.out.1.below hal).next hg' (H2.out.2.below hal) hown')
        clear hal
        clear hown' hg'
        go_wp2_with fail
        go_roundw
        case rel => exact ⟨k + 1, _, by omega, by go_num, HF⟩
        case measure => simp [intOf]; omega
    · obtain rfl : k = p.length := by omega
      obtain ⟨A5, c5, rfl, hc5, _⟩ := own_slice HS.out.2.2.2.2.1
      go_wp2_with fail
      go_ret
      refine ⟨_, rfl, HS.out.1, A5, c5, by rw [setupsOf_len]; rfl, by rw [setupsOf_len]; exact hc5, ?_⟩
      rcases Nat.eq_zero_or_pos p.length with h0 | h0
      · left
        have : p = [] := List.length_eq_zero_iff.mp h0
        rw [this]
        rfl
      · obtain ⟨g, cap, e, hgb, hgl, _, _, hrd⟩ := own_read HS.out.2.2.2.2.1 h0
        cases e
        refine .inr ⟨g, 0, rfl, hgb, hgl, fun j hj => ?_⟩
        rw [setupsOf_len] at hj
        obtain ⟨u, a, b⟩ := HS.out.2.2.2.2.2 j hj
        refine ⟨u, by rw [Nat.zero_add]; exact hrd j u a, ?_⟩
        have e2 : (setupsOf s p)[j]'(by rw [setupsOf_len]; exact hj) = upTo s p (j + 1) := by
          simp only [setupsOf_map, List.getElem_map, List.getElem_range]
        rw [e2]
        exact b
set_option maxRecDepth 100000 in
set_option maxHeartbeats 400000 in
theorem totalR_any {b1 b2 : Nat} {s : List ByteArray} {p : List (List ByteArray)} {v1 v2 : Value} (hok : SetOk s) (hp200 : p.length ≤ 200) (hpp : ∀ l ∈ p, l.length ≤ s.length ∧ PaOk l) {w : World} (h1 : ReadsF b1 encS v1 s w) (h2 : ListsF b2 v2 p w) :
    Calls Try.prog 49 #[v1, v2] w fun e w' => e = .returned (.int .i64 (totalOf s p)) ∧ Below w.heap.size w w' := by
  have HH := Lib.hid (And.intro (h1.least (Nat.zero_le _)) (And.intro h1 h2))
  have CS := Lib.hid (setupsR_any hok hp200 hpp h1 h2)
  have hn100 := hok.2.1
  have hm := setupsOf_mem hok (fun l hl => (hpp l hl).2)
  have HT : Hid (totalOf s p = sumK s (setupsOf s p) (setupsOf s p).length) := sumOf_K _ _
  have hLp : (setupsOf s p).length = p.length := setupsOf_len _ _
  obtain ⟨L, hL⟩ : ∃ L, setupsOf s p = L := ⟨_, rfl⟩
  rw [hL] at CS hm HT hLp
  rw [HT.out]
  have HLE : Hid (∀ k, k ≤ L.length → sumK s L k ≤ 20000) := fun k hk => by
    have := sumK_le s L 100 hn100 (fun l hl => by rw [hm l hl]; exact hn100) k hk
    omega
  have HLN : Hid (∀ k, k ≤ L.length → (curOf s L k).length = s.length) := fun k hk => by
    cases k with
    | zero => rfl
    | succ k =>
      have : L.getD k [] ∈ L := by rw [List.getD_eq_getElem?_getD, List.getElem?_eq_getElem (show k < L.length by omega)]; exact List.getElem_mem _
      exact hm _ this
  have hL200 : L.length ≤ 200 := by omega
  clear hL hm HT hLp
  obtain ⟨A1, c1, rfl, z1, z2⟩ := h1
  obtain ⟨A2, c2, rfl, z3, z4⟩ := h2
  clear z1 z2 z3 z4
  go_enter Try.func49, Try.ntmps49
  go_wp2_with fail
  refine CS.out.mono ?_
  rintro e w1 ⟨u, rfl, hb1, hr1⟩
  have H1 := Lib.hid (And.intro hb1 hr1)
  obtain ⟨AL, cL, rfl, z1, z2⟩ := hr1
  clear z1 z2 hb1 CS
  go_wp2_with fail
  go_loopw [0, 5, 12] (fun v0 tv kk wr => ∃ k : Nat, k ≤ L.length ∧ kk = .int .i64 k ∧ tv = .int .i64 (sumK s L k) ∧ Hid (Below w1.heap.size w1 wr ∧ ReadsF 0 encS v0 (curOf s L k) wr)) (fun _ _ kk _ => L.length - (intOf kk).toNat)
  case atStart => exact ⟨0, by omega, rfl, rfl, Below.refl _ _, HH.out.1.below H1.out.1⟩
  case round =>
    obtain ⟨k, hk, rfl, rfl, HS⟩ := hrel
    by_cases hlt : k < L.length
    · obtain ⟨A', c', e, z1, hr⟩ := H1.out.2.below HS.out.1
      cases e
      clear z1
      rcases hr with hr | ⟨g, o, rfl, hgb, hgl, hcells⟩
      · subst hr; simp at hlt
      obtain ⟨u, q1, hu⟩ := hcells k hlt
      have hD : curOf s L (k + 1) = L[k] := by show L.getD k [] = L[k]; rw [List.getD_eq_getElem?_getD, List.getElem?_eq_getElem hlt]; rfl
      rw [← hD] at hu
      have hSK : sumK s L (k + 1) = sumK s L k + loadsOf (curOf s L k) (curOf s L (k + 1)) := rfl
      have hle := HLE.out (k + 1) (by omega)
      have hln := HLN.out k (by omega)
      have hln2 := HLN.out (k + 1) (by omega)
      have HU := Lib.hid (And.intro (hu.least (Nat.zero_le _)) hSK)
      rw [hSK] at hle
      have hmq : sumK s L k + loadsOf (curOf s L k) (curOf s L (k + 1)) ≤ 20000 := hle
      have CD := Lib.hid (loadsR_any (base := 0) (by omega) (by omega) HS.out.2 HU.out.1)
      generalize sumK s L k = m at *
      generalize curOf s L k = x at *
      obtain ⟨y, hy⟩ : ∃ y, curOf s L (k + 1) = y := ⟨_, rfl⟩
      rw [hy] at CD HU hln2 hmq
      have HY := Lib.hid hy
      clear hD hu hSK hy hle
      have hrd0 := HS.out.2
      obtain ⟨A0, c0, rfl, z1, z2⟩ := hrd0
      have hu2 := HU.out.1
      obtain ⟨Au, cu, rfl, z3, z4⟩ := hu2
      have HLL := Lib.hid (And.intro hln hln2)
      clear z1 z2 z3 z4 hcells hln hln2
      have i1 : (0 : Int) ≤ (k : Int) := by omega
      have i2 : (k : Int) < (L.length : Int) := by omega
      go_wp2_with fail
      refine CD.out.mono ?_
      rintro e w2 ⟨rfl, hb2⟩
      have HB := Lib.hid (And.intro (HS.out.1.then_below hb2 HS.out.1.size) (HU.out.1.below hb2))
      clear hb2
      generalize loadsOf x y = q at *
      go_wp2_with fail
      go_roundw
      case rel => exact ⟨k + 1, by omega, by go_num, by rw [HU.out.2]; go_num, HB.out.1, by rw [HY.out]; exact HB.out.2⟩
      case measure => simp [intOf]; omega
    · obtain rfl : k = L.length := by omega
      go_wp2_with fail
      have HF : Hid (Below w.heap.size w wr) := H1.out.1.then_below HS.out.1 H1.out.1.size
      go_ret
      exact ⟨rfl, HF.out⟩
end Go.Proofs.Ytjmjmijjdgolfaa
