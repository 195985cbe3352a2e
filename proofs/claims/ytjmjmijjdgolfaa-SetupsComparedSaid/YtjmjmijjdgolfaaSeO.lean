/-
  Next, Setups and Total: the program's.
-/
import Derived.Test.YtjmjmijjdgolfaaSeN
namespace Go.Proofs.Ytjmjmijjdgolfaa
open Go.RowKit
set_option linter.unusedSimpArgs false
set_option linter.unusedVariables false

/-- The sum of loads, list by list. -/
def curOf (s : List ByteArray) (L : List (List ByteArray)) : Nat → List ByteArray
  | 0 => s
  | k + 1 => L.getD k []
def sumK (s : List ByteArray) (L : List (List ByteArray)) : Nat → Nat
  | 0 => 0
  | k + 1 => sumK s L k + loadsOf (curOf s L k) (curOf s L (k + 1))
theorem sumK_cons (s x : List ByteArray) (r : List (List ByteArray)) : ∀ k, sumK s (x :: r) (k + 1) = loadsOf s x + sumK x r k := by
  intro k
  induction k with
  | zero => simp [sumK, curOf]
  | succ k ih =>
    rw [sumK, ih, sumK]
    have e : curOf s (x :: r) (k + 1) = curOf x r k := by cases k <;> rfl
    have e2 : curOf s (x :: r) (k + 1 + 1) = curOf x r (k + 1) := rfl
    rw [e, e2]
    omega
theorem sumOf_K (L : List (List ByteArray)) : ∀ s, sumOf s L = sumK s L L.length := by
  induction L with
  | nil => intro s; rfl
  | cons x r ih => intro s; rw [sumOf, ih, List.length_cons, sumK_cons]
theorem sumK_le (s : List ByteArray) (L : List (List ByteArray)) (n : Nat) (hs : s.length ≤ n) (hL : ∀ l ∈ L, l.length ≤ n) : ∀ k, k ≤ L.length → sumK s L k ≤ k * n := by
  intro k
  induction k with
  | zero => intro _; simp [sumK]
  | succ k ih =>
    intro hk
    have h1 := ih (by omega)
    have h2 := loadsOf_le (curOf s L k) (curOf s L (k + 1))
    have h3 : (curOf s L k).length ≤ n := by
      cases k with
      | zero => exact hs
      | succ k =>
        have : L.getD k [] ∈ L := by rw [List.getD_eq_getElem?_getD, List.getElem?_eq_getElem (show k < L.length by omega)]; exact List.getElem_mem _
        exact hL _ this
    rw [sumK, Nat.add_mul]
    omega
theorem setupsOf_mem {s : List ByteArray} {p : List (List ByteArray)} (hs : SetOk s) (hp : ∀ l ∈ p, PaOk l) : ∀ l ∈ setupsOf s p, l.length = s.length := fun l hl => by
  rw [setupsOf_map] at hl
  obtain ⟨k, hk, rfl⟩ := List.mem_map.mp hl
  exact (upTo_ok hs hp (k + 1) (by have := List.mem_range.mp hk; omega)).2

set_option maxRecDepth 100000 in
set_option maxHeartbeats 400000 in
theorem total_any {b1 b2 : Nat} {s : List ByteArray} {p : List (List ByteArray)} {v1 v2 : Value} (hl : s.length ≤ 1000000) (hp : p.length ≤ 1000000) (hps : ∀ l ∈ p, l.length ≤ 1000000) {w : World} (h1 : ReadsF b1 encS v1 s w) (h2 : ListsF b2 v2 p w) :
    Calls Try.prog 44 #[v1, v2] w fun e w' => e = .returned (.tuple #[.int .i64 (okN (chkErr s p) (totalOf s p)), .int .i64 (chkErr s p)]) ∧ Below w.heap.size w w' := by
  have CC := Lib.hid (check_any hl hp hps h1 h2)
  have HO := Lib.hid (@chkErr_ok s p)
  have HH := Lib.hid (And.intro (h1.least (Nat.zero_le _)) (And.intro h1 h2))
  generalize chkErr s p = E at *
  by_cases h0 : E = 0
  rotate_left
  · have hne : (E != 0) = true := by simpa using h0
    rw [okN_bad h0]
    obtain ⟨A1, c1, rfl, _, _⟩ := h1
    obtain ⟨A2, c2, rfl, _, _⟩ := h2
    go_enter Try.func44, Try.ntmps44
    go_wp2_with fail
    refine CC.out.mono ?_
    rintro e w' ⟨rfl, rfl⟩
    go_wp2_with fail
    refine bodyPost_ret (v := .tuple #[.int .i64 0, .int .i64 E]) (by unfold results; simp only [Try.results44]; go_simp) rfl ⟨rfl, Below.refl _ _⟩
  obtain ⟨hok, hp200, hpp⟩ := HO.out h0
  rw [okN_ok h0]
  subst h0
  clear HO
  have CS := Lib.hid (setups_any hok hp200 hpp h1 h2)
  have hn100 := hok.2.1
  have hm := setupsOf_mem hok (fun l hl => (hpp l hl).2)
  have HT : Hid (totalOf s p = sumK s (setupsOf s p) (setupsOf s p).length) := sumOf_K _ _
  have hLp : (setupsOf s p).length = p.length := setupsOf_len _ _
  obtain ⟨L, hL⟩ : ∃ L, setupsOf s p = L := ⟨_, rfl⟩
  rw [hL] at CS hm HT hLp
  rw [HT.out]
  have HLE : Hid (∀ k, k ≤ L.length → sumK s L k ≤ 20000) := fun k hk => by
    have := sumK_le s L 100 hn100 (fun l hl => by rw [hm l hl]; exact hn100) k hk
    omega
  have HLN : Hid (∀ k, k ≤ L.length → (curOf s L k).length = s.length) := fun k hk => by
    cases k with
    | zero => rfl
    | succ k =>
      have : L.getD k [] ∈ L := by rw [List.getD_eq_getElem?_getD, List.getElem?_eq_getElem (show k < L.length by omega)]; exact List.getElem_mem _
      exact hm _ this
  have hL200 : L.length ≤ 200 := by omega
  clear hL hm HT hLp
  obtain ⟨A1, c1, rfl, z1, z2⟩ := h1
  obtain ⟨A2, c2, rfl, z3, z4⟩ := h2
  clear z1 z2 z3 z4
  go_enter Try.func44, Try.ntmps44
  go_wp2_with fail
  refine CC.out.mono ?_
  rintro e w' ⟨rfl, rfl⟩
  go_wp2_with fail
  refine CS.out.mono ?_
  rintro e w1 ⟨u, rfl, hb1, hr1⟩
  have H1 := Lib.hid (And.intro hb1 hr1)
  obtain ⟨AL, cL, rfl, z1, z2⟩ := hr1
  clear z1 z2 hb1 CS
  go_wp2_with fail
  go_loopw [0, 7, 20] (fun v0 tv kk wr => ∃ k : Nat, k ≤ L.length ∧ kk = .int .i64 k ∧ tv = .int .i64 (sumK s L k) ∧ Hid (Below w1.heap.size w1 wr ∧ ReadsF 0 encS v0 (curOf s L k) wr)) (fun _ _ kk _ => L.length - (intOf kk).toNat)
  case atStart => exact ⟨0, by omega, rfl, rfl, Below.refl _ _, HH.out.1.below H1.out.1⟩
  case round =>
    obtain ⟨k, hk, rfl, rfl, HS⟩ := hrel
    by_cases hlt : k < L.length
    · obtain ⟨A', c', e, z1, hr⟩ := H1.out.2.below HS.out.1
      cases e
      clear z1
      rcases hr with hr | ⟨g, o, rfl, hgb, hgl, hcells⟩
      · subst hr; simp at hlt
      obtain ⟨u, q1, hu⟩ := hcells k hlt
      have hD : curOf s L (k + 1) = L[k] := by show L.getD k [] = L[k]; rw [List.getD_eq_getElem?_getD, List.getElem?_eq_getElem hlt]; rfl
      rw [← hD] at hu
      have hSK : sumK s L (k + 1) = sumK s L k + loadsOf (curOf s L k) (curOf s L (k + 1)) := rfl
      have hle := HLE.out (k + 1) (by omega)
      have hln := HLN.out k (by omega)
      have hln2 := HLN.out (k + 1) (by omega)
      have HU := Lib.hid (And.intro (hu.least (Nat.zero_le _)) hSK)
      rw [hSK] at hle
      have hmq : sumK s L k + loadsOf (curOf s L k) (curOf s L (k + 1)) ≤ 20000 := hle
      have CD := Lib.hid (changes_any (base := 0) (by omega) (by omega) HS.out.2 HU.out.1)
      generalize sumK s L k = m at *
      generalize curOf s L k = x at *
      obtain ⟨y, hy⟩ : ∃ y, curOf s L (k + 1) = y := ⟨_, rfl⟩
      rw [hy] at CD HU hln2 hmq
      have HY := Lib.hid hy
      clear hD hu hSK hy hle
      have hrd0 := HS.out.2
      obtain ⟨A0, c0, rfl, z1, z2⟩ := hrd0
      have hu2 := HU.out.1
      obtain ⟨Au, cu, rfl, z3, z4⟩ := hu2
      have HLL := Lib.hid (And.intro hln hln2)
      clear z1 z2 z3 z4 hcells hln hln2
      have i1 : (0 : Int) ≤ (k : Int) := by omega
      have i2 : (k : Int) < (L.length : Int) := by omega
      go_wp2_with fail
      refine CD.out.mono ?_
      rintro e w2 ⟨uc, rfl, hb2, ho2⟩
      have CL := Lib.hid (loads_any (l := chgOf x y) (Nat.le_trans (chgK_len _ _ _) (by rw [HLL.out.1]; omega)) (readsF_own ho2))
      have HEQ : Hid (ldsOf (chgOf x y) = loadsOf x y) := rfl
      rw [HEQ.out] at CL
      have HB2 := Lib.hid (And.intro hb2 (HU.out.1.below hb2))
      clear hb2 ho2
      generalize loadsOf x y = q at *
      go_wp2_with fail
      refine CL.out.mono ?_
      rintro e w3 ⟨rfl, hb3⟩
      have HB := Lib.hid (And.intro ((HS.out.1.then_below HB2.out.1 HS.out.1.size).then_below hb3 (Nat.le_trans HS.out.1.size HB2.out.1.size)) (HB2.out.2.below hb3))
      clear hb3
      go_wp2_with fail
      go_roundw
      case rel => exact ⟨k + 1, by omega, by go_num, by rw [HU.out.2]; go_num, HB.out.1, by rw [HY.out]; exact HB.out.2⟩
      case measure => simp [intOf]; omega
    · obtain rfl : k = L.length := by omega
      go_wp2_with fail
      have HF : Hid (Below w.heap.size w wr) := H1.out.1.then_below HS.out.1 H1.out.1.size
      refine bodyPost_ret (v := .tuple #[.int .i64 (sumK s L L.length), .int .i64 0]) (by unfold results; simp only [Try.results44]; go_simp) rfl ⟨rfl, HF.out⟩

set_option maxRecDepth 100000 in
set_option maxHeartbeats 400000 in
theorem setupsP_any {b1 b2 : Nat} {s : List ByteArray} {p : List (List ByteArray)} {v1 v2 : Value} (hl : s.length ≤ 1000000) (hp : p.length ≤ 1000000) (hps : ∀ l ∈ p, l.length ≤ 1000000) {w : World} (h1 : ReadsF b1 encS v1 s w) (h2 : ListsF b2 v2 p w) :
    Calls Try.prog 43 #[v1, v2] w fun e w' => ∃ u, e = .returned (.tuple #[u, .int .i64 (chkErr s p)]) ∧ Below w.heap.size w w' ∧ ListsF w.heap.size u (okL (chkErr s p) (setupsOf s p)) w' := by
  have CC := Lib.hid (check_any hl hp hps h1 h2)
  have HO := Lib.hid (@chkErr_ok s p)
  generalize chkErr s p = E at *
  by_cases h0 : E = 0
  · obtain ⟨hok, hp200, hpp⟩ := HO.out h0
    rw [okL_ok h0]
    subst h0
    clear HO
    have CS := Lib.hid (setups_any hok hp200 hpp h1 h2)
    obtain ⟨A1, c1, rfl, _, _⟩ := h1
    obtain ⟨A2, c2, rfl, _, _⟩ := h2
    go_enter Try.func43, Try.ntmps43
    go_wp2_with fail
    refine CC.out.mono ?_
    rintro e w' ⟨rfl, rfl⟩
    go_wp2_with fail
    refine CS.out.mono ?_
    rintro e w1 ⟨u, rfl, hb1, hr1⟩
    have H1 := Lib.hid (And.intro hb1 hr1)
    clear hb1 hr1
    go_wp2_with fail
    refine bodyPost_ret (v := .tuple #[u, .int .i64 0]) (by unfold results; simp only [Try.results43]; go_simp) rfl ⟨_, rfl, H1.out.1, H1.out.2⟩
  · have hne : (E != 0) = true := by simpa using h0
    rw [okL_bad h0]
    obtain ⟨A1, c1, rfl, _, _⟩ := h1
    obtain ⟨A2, c2, rfl, _, _⟩ := h2
    go_enter Try.func43, Try.ntmps43
    go_wp2_with fail
    refine CC.out.mono ?_
    rintro e w' ⟨rfl, rfl⟩
    go_wp2_with fail
    refine bodyPost_ret (v := .tuple #[.slice none 0 0, .int .i64 E]) (by unfold results; simp only [Try.results43]; go_simp) rfl ⟨_, rfl, Below.refl _ _, none, 0, rfl, Nat.le_refl _, .inl rfl⟩
end Go.Proofs.Ytjmjmijjdgolfaa
