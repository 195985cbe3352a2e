/-
  Setups in an order, and their loads: the program's.
-/
import Derived.Test.YtjmjmijjdgolfaaSeL
namespace Go.Proofs.Ytjmjmijjdgolfaa
open Go.RowKit
set_option linter.unusedSimpArgs false
set_option linter.unusedVariables false

theorem lst_info : (Try.prog.info? 51).map (fun i => (i.zero, i.size, i.bytes)) = some (some (.slice none 0 0), 1, 24) := by kernel_rfl
theorem ReadsF.grownS {base : Nat} {u : Value} {l : List ByteArray} {w w' : World} {row : Option Nat} (h : ReadsF base encS u l w) (hg : w.grownBy w' row) (hr : ∀ g, row = some g → ∀ x, w.cell? ⟨g, 0, none⟩ ≠ some (.string x)) : ReadsF base encS u l w' := by
  obtain ⟨A, c, e, hc, h⟩ := h
  refine ⟨A, c, e, hc, ?_⟩
  rcases Nat.eq_zero_or_pos l.length with h0 | h0
  · exact .inl (List.length_eq_zero_iff.mp h0)
  rcases h with h | ⟨g, e, hb, hl⟩
  · exact .inl h
  · refine .inr ⟨g, e, hb, Nat.lt_of_lt_of_le hl.1 hg.size, fun j u hu => ?_⟩
    rw [← hl.2 j u hu]
    unfold World.cell?
    rw [hg.block _ hl.1 (fun e => hr g e.symm _ (row_strg hl h0))]

/-- The setups that have been made so far. -/
def StSt (w : World) (s : List ByteArray) (p : List (List ByteArray)) (k : Nat) (us : List Value) (v0 v5 : Value) (wr : World) : Prop :=
  Below w.heap.size w wr ∧ ReadsF 0 encS v0 (upTo s p k) wr ∧ (k = 0 → v5 = .slice none 0 0) ∧
  us.length = k ∧ wr.ownsRow w.heap.size 51 1 v5 k us ∧ ∀ j, j < k → ∃ u, us[j]? = some u ∧ ReadsF w.heap.size encS u (upTo s p (j + 1)) wr
theorem StSt.below {w wr w' : World} {s : List ByteArray} {p : List (List ByteArray)} {k : Nat} {us : List Value} {v0 v5 : Value} (h : StSt w s p k us v0 v5 wr) (hb : Below wr.heap.size wr w') : StSt w s p k us v0 v5 w' := by
  obtain ⟨h1, h2, h3, h4, h5, h6⟩ := h
  refine ⟨h1.then_below hb h1.size, h2.below hb, h3, h4, own_below h5 hb, fun j hj => ?_⟩
  obtain ⟨u, a, b⟩ := h6 j hj
  exact ⟨u, a, b.below hb⟩
theorem StSt.next {w wr w' : World} {s : List ByteArray} {p : List (List ByteArray)} {k : Nat} {us : List Value} {v0 v5 v0' v5' : Value} (h : StSt w s p k us v0 v5 wr) (hg : wr.grownBy w' v5.ownBlock) (hu : ReadsF w.heap.size encS v0' (upTo s p (k + 1)) wr)
    (hown : w'.ownsRow w.heap.size 51 1 v5' (k + 1) (us ++ [v0'])) : StSt w s p (k + 1) (us ++ [v0']) v0' v5' w' := by
  obtain ⟨h1, h2, h3, h4, h5, h6⟩ := h
  have hr : ∀ g, v5.ownBlock = some g → ∀ x, wr.cell? ⟨g, 0, none⟩ ≠ some (.string x) := fun g e x hx => by
    rcases Nat.eq_zero_or_pos k with h0 | h0
    · rw [h3 h0] at e
      simp [Value.ownBlock] at e
    · obtain ⟨u, a, A, c, b, _⟩ := h6 0 h0
      have := h5.cells e 0 u a
      rw [b] at this
      have h9 : (⟨g, 0, none⟩ : Addr).add 0 = ⟨g, 0, none⟩ := rfl
      rw [h9, hx] at this
      cases this
  refine ⟨h1.grown hg h1.size (fun j e => own_row h5 j e), (hu.grownS hg hr).least (Nat.zero_le _), fun h => by omega, by simp [h4], hown, fun j hj => ?_⟩
  rcases Nat.lt_or_ge j k with hlt | hge
  · obtain ⟨u, a, b⟩ := h6 j hlt
    exact ⟨u, by rw [List.getElem?_append_left (by omega)]; exact a, b.grownS hg hr⟩
  · obtain rfl : j = k := by omega
    exact ⟨v0', by rw [List.getElem?_append_right (by omega), h4]; simp, hu.grownS hg hr⟩

set_option maxRecDepth 100000 in
set_option maxHeartbeats 800000 in
theorem setups_any {b1 b2 : Nat} {s : List ByteArray} {p : List (List ByteArray)} {v1 v2 : Value} (hs : SetOk s) (hp : p.length ≤ 200) (hpp : ∀ l ∈ p, l.length ≤ s.length ∧ PaOk l) {w : World} (h1 : ReadsF b1 encS v1 s w) (h2 : ListsF b2 v2 p w) :
    Calls Try.prog 81 #[v1, v2] w fun e w' => ∃ u, e = .returned u ∧ Below w.heap.size w w' ∧ ListsF w.heap.size u (setupsOf s p) w' := by
  have hn100 := hs.2.1
  have HH := Lib.hid (And.intro h1 h2)
  have HU := Lib.hid (fun k (hk : k ≤ p.length) => upTo_ok hs (fun l hl => (hpp l hl).2) k hk)
  have CN : Hid (∀ (W : World) (k : Nat) (l : List ByteArray) (u v x : Value), k < p.length → p.getD k [] = l → ReadsF 0 encS u (upTo s p k) W → ReadsF b2 encS v l W → ListsF b2 x (p.drop (k + 1)) W →
      Calls Try.prog 80 #[u, v, x] W fun e w' => ∃ u, e = .returned u ∧ Below W.heap.size W w' ∧ w'.ownsRow W.heap.size 9 1 u (upTo s p (k + 1)).length ((upTo s p (k + 1)).map Value.string)) := by
    rintro W k l u v x hk rfl ha hb hc
    have hm : p.getD k [] ∈ p := by rw [List.getD_eq_getElem?_getD, List.getElem?_eq_getElem hk]; exact List.getElem_mem hk
    exact nextP_any (HU.out k (by omega)).1 (hpp _ hm).2 (by rw [(HU.out k (by omega)).2]; exact (hpp _ hm).1) (by simp; omega) (fun l hl => by have := (hpp l (List.mem_of_mem_drop hl)).1; omega) (fun l hl => (hpp l (List.mem_of_mem_drop hl)).2) ha hb hc
  obtain ⟨A1, c1, rfl, z1, z2⟩ := h1
  obtain ⟨A2, c2, rfl, hc2, z3⟩ := h2
  clear z1 z2 z3
  have H0 : Hid (StSt w s p 0 [] (.slice A1 s.length c1) (.slice none 0 0) w) := ⟨Below.refl _ _, HH.out.1.least (Nat.zero_le _), fun _ => rfl, rfl, World.ownsRow_nil _ _ _ _, fun j hj => by omega⟩
  go_enter Try.func81, Try.ntmps81
  go_wp2_with fail
  go_loopw [0, 5, 10] (fun v0 v5 kk wr => ∃ (k : Nat) (us : List Value), k ≤ p.length ∧ kk = .int .i64 k ∧ Hid (StSt w s p k us v0 v5 wr)) (fun _ _ kk _ => p.length - (intOf kk).toNat)
  case atStart => exact ⟨0, [], by omega, rfl, H0⟩
  case round =>
    clear H0
    obtain ⟨k, us, hk, rfl, HS⟩ := hrel
    by_cases hlt : k < p.length
    · obtain ⟨A', c', e, z1, hr⟩ := HH.out.2.below HS.out.1
      cases e
      clear z1
      rcases hr with hr | ⟨g, o, rfl, hgb, hgl, hcells⟩
      · subst hr; simp at hlt
      obtain ⟨u, q1, hu⟩ := hcells k hlt
      obtain ⟨A5, c5, rfl, z1, z2⟩ := own_slice HS.out.2.2.2.2.1
      clear z1 z2
      have hD : p.getD k [] = p[k] := by rw [List.getD_eq_getElem?_getD, List.getElem?_eq_getElem hlt]; rfl
      obtain ⟨l, hl⟩ : ∃ l, p[k] = l := ⟨_, rfl⟩
      rw [hl] at hD hu
      have HD := Lib.hid hD
      clear hl hD
      have HC := Lib.hid (And.intro hcells hu)
      obtain ⟨Au, cu, rfl, z1, z2⟩ := hu
      clear z1 z2
      have i1 : (0 : Int) ≤ (k : Int) := by omega
      have i2 : (k : Int) < (p.length : Int) := by omega
      have hrd0 := HS.out.2.1
      obtain ⟨A0, c0, rfl, z1, z2⟩ := hrd0
      clear z1 z2
      clear hcells
      by_cases hcz : c2 = k + 1
      · subst hcz
        go_wp2_with fail
        have HL : Hid (ListsF b2 (.slice (some ⟨g, o, none⟩) 0 0) (p.drop (k + 1)) wr) := by
          have h0 : p.drop (k + 1) = [] := List.drop_eq_nil_of_le (by omega)
          rw [h0]
          exact ⟨_, 0, rfl, Nat.le_refl _, .inl rfl⟩
        refine (CN.out wr k l _ _ _ hlt HD.out HS.out.2.1 HC.out.2 HL.out).mono ?_
        rintro e w2 ⟨u2, rfl, hb2, ho2⟩
        have H2 := Lib.hid (And.intro (HS.out.below hb2) ((own_strs ho2).least HS.out.1.size))
        have hz2 : w.heap.size ≤ w2.heap.size := (HS.out.below hb2).1.size
        obtain ⟨i0, hi0, hz0, hzz1, hz2'⟩ := info_parts lst_info
        have HI := Lib.hid (And.intro hi0 (And.intro hz0 (And.intro hzz1 hz2')))
        have hus : Hid (w2.ownsRow w.heap.size 51 1 (.slice A5 k c5) k us) := H2.out.1.2.2.2.2.1
        have hu2 := H2.out.2
        obtain ⟨Ax, cx, rfl, z1, z2⟩ := hu2
        clear z1 z2
        clear hb2 ho2 HS HC HL hi0 hz0 hzz1 hz2'
        go_wp2_with (at_builtin; refine hold ?_)
        refine loose ?_
        refine wpList_append_own _ rfl _ _ 54 rfl w.heap.size 51 i0 _ 1 24 Try.underlying54 HI.out.1 HI.out.2.1 HI.out.2.2.1 HI.out.2.2.2 rfl (by omega) _ k us rfl (hus.out.alloc _) ⟨w2.heap.size, 0, none⟩ 1 1 [.slice Ax (upTo s p (k + 1)).length cx] rfl rfl (cell_one_new _ _ _) (by intro u hu; simp at hu; subst hu; rfl) (by unfold maxLen; omega) (by omega) (by simp; omega) ?_
        intro v' w3 hown' hg' _
        have hal : Below w2.heap.size w2 (w2.alloc (.cells #[.slice Ax (upTo s p (k + 1)).length cx] 51)) := (Below.refl _ _).alloc (Nat.le_refl _) _
        have HF := Lib.hid ((H2.out.1.below hal).next hg' (H2.out.2.below hal) hown')
        clear hal
        clear hown' hg'
        go_wp2_with fail
        go_roundw
        case rel => exact ⟨k + 1, _, by omega, by go_num, HF⟩
        case measure => simp [intOf]; omega
      · go_wp2_with fail
        have HL : Hid (ListsF b2 (.slice (some ⟨g, o + (k + 1), none⟩) (p.length - (k + 1)) (c2 - (k + 1))) (p.drop (k + 1)) wr) := by
          refine ⟨_, _, by rw [List.length_drop], by rw [List.length_drop]; omega, .inr ⟨g, o + (k + 1), rfl, hgb, hgl, fun j hj => ?_⟩⟩
          rw [List.length_drop] at hj
          obtain ⟨u, a, b⟩ := HC.out.1 (k + 1 + j) (by omega)
          refine ⟨u, by rw [Nat.add_assoc]; exact a, ?_⟩
          rw [List.getElem_drop]
          exact b
        refine (CN.out wr k l _ _ _ hlt HD.out HS.out.2.1 HC.out.2 HL.out).mono ?_
        rintro e w2 ⟨u2, rfl, hb2, ho2⟩
        have H2 := Lib.hid (And.intro (HS.out.below hb2) ((own_strs ho2).least HS.out.1.size))
        have hz2 : w.heap.size ≤ w2.heap.size := (HS.out.below hb2).1.size
        obtain ⟨i0, hi0, hz0, hzz1, hz2'⟩ := info_parts lst_info
        have HI := Lib.hid (And.intro hi0 (And.intro hz0 (And.intro hzz1 hz2')))
        have hus : Hid (w2.ownsRow w.heap.size 51 1 (.slice A5 k c5) k us) := H2.out.1.2.2.2.2.1
        have hu2 := H2.out.2
        obtain ⟨Ax, cx, rfl, z1, z2⟩ := hu2
        clear z1 z2
        clear hb2 ho2 HS HC HL hi0 hz0 hzz1 hz2'
        go_wp2_with (at_builtin; refine hold ?_)
        refine loose ?_
        refine wpList_append_own _ rfl _ _ 54 rfl w.heap.size 51 i0 _ 1 24 Try.underlying54 HI.out.1 HI.out.2.1 HI.out.2.2.1 HI.out.2.2.2 rfl (by omega) _ k us rfl (hus.out.alloc _) ⟨w2.heap.size, 0, none⟩ 1 1 [.slice Ax (upTo s p (k + 1)).length cx] rfl rfl (cell_one_new _ _ _) (by intro u hu; simp at hu; subst hu; rfl) (by unfold maxLen; omega) (by omega) (by simp; omega) ?_
        intro v' w3 hown' hg' _
        have hal : Below w2.heap.size w2 (w2.alloc (.cells #[.slice Ax (upTo s p (k + 1)).length cx] 51)) := (Below.refl _ _).alloc (Nat.le_refl _) _
        have HF := Lib.hid ((H2.out.1.below hal).next hg' (H2.out.2.below hal) hown')
        clear hal
        clear hown' hg'
        go_wp2_with fail
        go_roundw
        case rel => exact ⟨k + 1, _, by omega, by go_num, HF⟩
        case measure => simp [intOf]; omega
    · obtain rfl : k = p.length := by omega
      obtain ⟨A5, c5, rfl, hc5, _⟩ := own_slice HS.out.2.2.2.2.1
      go_wp2_with fail
      go_ret
      refine ⟨_, rfl, HS.out.1, A5, c5, by rw [setupsOf_len]; rfl, by rw [setupsOf_len]; exact hc5, ?_⟩
      rcases Nat.eq_zero_or_pos p.length with h0 | h0
      · left
        have : p = [] := List.length_eq_zero_iff.mp h0
        rw [this]
        rfl
      · obtain ⟨g, cap, e, hgb, hgl, _, _, hrd⟩ := own_read HS.out.2.2.2.2.1 h0
        cases e
        refine .inr ⟨g, 0, rfl, hgb, hgl, fun j hj => ?_⟩
        rw [setupsOf_len] at hj
        obtain ⟨u, a, b⟩ := HS.out.2.2.2.2.2 j hj
        refine ⟨u, by rw [Nat.zero_add]; exact hrd j u a, ?_⟩
        have e2 : (setupsOf s p)[j]'(by rw [setupsOf_len]; exact hj) = upTo s p (j + 1) := by
          simp only [setupsOf_map, List.getElem_map, List.getElem_range]
        rw [e2]
        exact b
end Go.Proofs.Ytjmjmijjdgolfaa
