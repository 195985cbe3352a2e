/-
  The makers of a line.
-/
import Derived.Test.YtiooimfkobjpkaaLnW
namespace Go.Proofs.Ytiooimfkobjpkaa
open Go.RowKit
set_option linter.unusedSimpArgs false
set_option linter.unusedVariables false

/-- A stream, and two rows of numbers: the second one lies behind the first one. -/
structure Own2 (w : World) (B sb b : Nat) (v4 v5 : Value) (n4 n5 : Nat) (W : World) : Prop where
  tk : Took sb b w W
  o4 : ∃ cs : List Int, cs.length = n4 ∧ W.ownsRow w.heap.size 3 1 v4 n4 (cs.map (Value.int .i64))
  o5 : ∃ bs : List Int, bs.length = n5 ∧ W.ownsRow B 3 1 v5 n5 (bs.map (Value.int .i64))
section
variable {w : World} {B sb b b' n4 n5 : Nat} {v4 v5 : Value} {W W' : World}
theorem Own2.took (h : Own2 w B sb b v4 v5 n4 n5 W) (ht : Took sb b' W W') (h1 : sb < w.heap.size) (h2 : w.heap.size ≤ B) : Own2 w B sb b' v4 v5 n4 n5 W' := by
  obtain ⟨cs, e4, h4⟩ := h.o4
  obtain ⟨bs, e5, h5⟩ := h.o5
  exact ⟨h.tk.trans ht, ⟨cs, e4, kept_own h4 ht.2 h1⟩, ⟨bs, e5, kept_own h5 ht.2 (by omega)⟩⟩
theorem Own2.set4 {g c j : Nat} (h : Own2 w B sb b (.slice (some ⟨g, 0, none⟩) n4 c) v5 n4 n5 W) (hs : sb < w.heap.size) (hg : w.heap.size ≤ g) (hB : g < B) (x : Int) : Own2 w B sb b (.slice (some ⟨g, 0, none⟩) n4 c) v5 n4 n5 (W.setCell ⟨g, j, none⟩ (.int .i64 x)) := by
  obtain ⟨cs, e4, h4⟩ := h.o4
  obtain ⟨bs, e5, h5⟩ := h.o5
  refine ⟨h.tk.setCell hg hs _, ⟨cs.set j x, by simpa using e4, ?_⟩, ⟨bs, e5, own_far h5 hB _⟩⟩
  rw [List.map_set]
  exact own_set h4 _ _
theorem Own2.set5 {g c j : Nat} (h : Own2 w B sb b v4 (.slice (some ⟨g, 0, none⟩) n5 c) n4 n5 W) (hs : sb < w.heap.size) (hw : w.heap.size ≤ B) (hg : B ≤ g) (hJ : ∀ j, v4.ownBlock = some j → j < B) (x : Int) : Own2 w B sb b v4 (.slice (some ⟨g, 0, none⟩) n5 c) n4 n5 (W.setCell ⟨g, j, none⟩ (.int .i64 x)) := by
  obtain ⟨cs, e4, h4⟩ := h.o4
  obtain ⟨bs, e5, h5⟩ := h.o5
  refine ⟨h.tk.setCell (by show _ ≤ g; omega) hs _, ⟨cs, e4, own_off h4 fun i hi => Below.heap_setCell W _ _ i ?_⟩, ⟨bs.set j x, by simpa using e5, ?_⟩⟩
  · have := hJ i hi
    show i ≠ g
    omega
  · rw [List.map_set]
    exact own_set h5 _ _
theorem Own2.push5 {bs : List Int} {x : Int} {v' : Value} (htk : Took sb b w W) {cs : List Int} (e4 : cs.length = n4) (h4 : W.ownsRow w.heap.size 3 1 v4 n4 (cs.map (Value.int .i64))) (h5 : W.ownsRow B 3 1 v5 n5 (bs.map (Value.int .i64))) (e5 : bs.length = n5) (hs : sb < w.heap.size) (hw : w.heap.size ≤ B) (hJ : ∀ j, v4.ownBlock = some j → j < B)
    (hown : W'.ownsRow B 3 1 v' (n5 + 1) (bs.map (Value.int .i64) ++ [.int .i64 x])) (hg : W.grownBy W' v5.ownBlock) : Own2 w B sb b v4 v' n4 (n5 + 1) W' := by
  refine ⟨htk.grown hs hg fun j hj => Nat.le_trans hw (own_row h5 j hj), ⟨cs, e4, own_off h4 fun j hj => hg.block j (own_lt h4 j hj) fun e => ?_⟩, ⟨bs ++ [x], by simp [e5], ?_⟩⟩
  · have h1 := hJ j hj
    have h2 := own_row h5 j e.symm
    omega
  · rw [List.map_append]
    exact hown
theorem Own2.more (h : Own2 w B sb b v4 v5 n4 n5 W) (hb : b ≤ b') : Own2 w B sb b' v4 v5 n4 n5 W := ⟨h.tk.more hb, h.o4, h.o5⟩
theorem own_cellN {g c n i : Nat} {xs : List Int} (h : W.ownsRow B 3 1 (.slice (some ⟨g, 0, none⟩) n c) n (xs.map (Value.int .i64))) (hi : i < n) : (∃ x : Int, W.cell? ⟨g, i, none⟩ = some (.int .i64 x)) ∧ W.frozen? ⟨g, i, none⟩ = false ∧ g < W.heap.size := by
  obtain ⟨g', cap', hv, hb, hl, hnc, hm, hrd⟩ := own_read h (by omega)
  cases hv
  have hlen := h.1
  rw [List.length_map] at hlen
  exact ⟨⟨xs[i], hrd i _ (by rw [List.getElem?_map, List.getElem?_eq_getElem (by omega)]; rfl)⟩, own_frozen h i, hl⟩
end

/-- What Line makes. -/
def LineOf (sb b : Nat) (w : World) (e : Ending) (w' : World) : Prop :=
  ∃ (v1 v2 : Value) (n1 n2 : Nat), e = .returned (.tuple #[v1, v2]) ∧ n1 ≤ 5 ∧ n2 ≤ 5 ∧ Took sb b w w' ∧ (∃ cs : List Int, cs.length = n1 ∧ w'.ownsRow w.heap.size 3 1 v1 n1 (cs.map (Value.int .i64))) ∧ (∃ bs : List Int, bs.length = n2 ∧ w'.ownsRow w.heap.size 3 1 v2 n2 (bs.map (Value.int .i64)))

set_option maxRecDepth 100000 in
set_option maxHeartbeats 8000000 in
theorem line_any (sb b : Nat) (w : World) (hb : b ≤ 800000) (hs : IsStream w sb b) :
    Calls Try.prog 23 #[.pointer (some ⟨sb, 0, none⟩)] w (LineOf sb (b + 20) w) := by
  have hlt := hs.lt
  have HS0 := Lib.hid hs
  clear hs
  obtain ⟨i0, hi0, hz0, hzz1, hz20⟩ := info_parts int_infoN
  have HI := Lib.hid (And.intro hi0 (And.intro hz0 (And.intro hzz1 hz20)))
  clear hi0 hz0 hzz1 hz20
  go_enter Try.func23, Try.ntmps23
  go_wp2_with fail
  refine (range_any sb b 1 4 w (by omega) (by omega) (by omega) (by omega) HS0.out).mono ?_
  rintro e w1 ⟨m, hm0, hm1, rfl, t1⟩
  obtain ⟨m, rfl⟩ := Int.eq_ofNat_of_zero_le (show 0 ≤ m by omega)
  have hm4 : m ≤ 4 := by omega
  have T1 := Lib.hid t1
  have hz1 := t1.size
  clear t1 hm1
  go_wp2_with fail
  go_loopw [4, 8] (fun v4 kk wr => ∃ (k : Nat) (l : List Int), k ≤ m ∧ kk = .int .i64 k ∧ w.heap.size ≤ wr.heap.size ∧ Hid (l.length = k ∧ Took sb (b + 1 + k) w wr ∧ wr.ownsRow w.heap.size 3 1 v4 k (l.map (Value.int .i64)))) (fun _ kk _ => m - (intOf kk).toNat)
  case atStart => exact ⟨0, [], by omega, rfl, hz1, rfl, T1.out, World.ownsRow_nil _ _ _ _⟩
  case round =>
    obtain ⟨k, l, hk, rfl, hwz, HS⟩ := hrel
    obtain ⟨A4, c4, rfl, _⟩ := own_form HS.out.2.2
    by_cases hkm : k < m
    · go_wp2_with fail
      refine (pick_lit sb (b + 1 + k) [10, 10, 15, 30, 7] wr wr.heap.size 5 rfl (by omega) (by omega) rfl (by omega) HS.out.2.1.1).mono ?_
      rintro e w2 ⟨x, _, rfl, t2⟩
      have H2 : Hid (Took sb (b + 1 + (k + 1)) w w2 ∧ w2.ownsRow w.heap.size 3 1 (.slice A4 k c4) k (l.map (Value.int .i64))) :=
        ⟨HS.out.2.1.trans t2, kept_own HS.out.2.2 t2.2 hlt⟩
      have HL : Hid (l.length = k) := HS.out.1
      have hz2 := H2.out.1.size
      clear t2 HS
      go_wp2_with (at_builtin; refine hold ?_)
      refine loose ?_
      refine wpList_append_own _ rfl _ _ 22 rfl w.heap.size 3 i0 _ 1 8 Try.underlying22 HI.out.1 HI.out.2.1 HI.out.2.2.1 HI.out.2.2.2 rfl (by omega) _ k (l.map (Value.int .i64)) rfl (H2.out.2.alloc _) ⟨w2.heap.size, 0, none⟩ 1 1 [.int .i64 x] rfl rfl (cell_one_new _ _ _) (by intro u hu; simp at hu; subst hu; rfl) (by unfold maxLen; omega) (by omega) (by simp; omega) ?_
      intro v' w3 hown' hg' _
      have H3 : Hid ((l ++ [x]).length = k + 1 ∧ Took sb (b + 1 + (k + 1)) w w3 ∧ w3.ownsRow w.heap.size 3 1 v' (k + 1) ((l ++ [x]).map (Value.int .i64))) := by
        refine ⟨by simp [HL.out], (H2.out.1.alloc _).grown hlt hg' (own_row H2.out.2), ?_⟩
        rw [List.map_append]
        exact hown'
      have hz3 := H3.out.2.1.size
      clear hown' hg' H2
      go_wp2_with fail
      go_roundw
      case rel => exact ⟨k + 1, l ++ [x], by omega, by go_num, hz3, H3⟩
      case measure => simp [intOf]; omega
    · obtain rfl : k = m := by omega
      obtain ⟨wo, hwo⟩ : ∃ wo : World, wo = wr := ⟨_, rfl⟩
      rw [← hwo] at HS hwz ⊢
      clear hwo
      have HJ : Hid (∀ j, (Value.slice A4 k c4).ownBlock = some j → j < wo.heap.size) := own_lt HS.out.2.2
      have H5 : Hid (Own2 w wo.heap.size sb (b + 1 + k) (.slice A4 k c4) (.slice none 0 0) k 0 wo) := ⟨HS.out.2.1, ⟨l, HS.out.1, HS.out.2.2⟩, ⟨[], rfl, World.ownsRow_nil _ _ _ _⟩⟩
      obtain ⟨g4, rfl⟩ : ∃ g, A4 = some ⟨g, 0, none⟩ := by
        obtain ⟨g, cap, hv, _⟩ := own_read HS.out.2.2 (by omega)
        cases hv
        exact ⟨g, rfl⟩
      have hg4 : w.heap.size ≤ g4 := own_row HS.out.2.2 g4 rfl
      have hg4' : g4 < wo.heap.size := HJ.out g4 rfl
      have wk : IntKind.i64.wrap ((k : Int) - 1) = ((k - 1 : Nat) : Int) := by rw [IntKind.wrap_i64]; omega
      obtain ⟨p, hp⟩ : ∃ p, k - 1 = p := ⟨_, rfl⟩
      rw [hp] at wk
      have hp4 : p ≤ 4 := by omega
      clear HS hp hkm hk
      go_wp2_with fail
      go_loopw [5, 20] (fun v5 kk wr => ∃ (q : Nat), q ≤ p ∧ kk = .int .i64 q ∧ wo.heap.size ≤ wr.heap.size ∧ Hid (Own2 w wo.heap.size sb (b + 1 + k + q) (.slice (some ⟨g4, 0, none⟩) k c4) v5 k q wr)) (fun _ kk _ => p - (intOf kk).toNat)
      case atStart => exact ⟨0, by omega, rfl, Nat.le_refl _, H5⟩
      case round =>
        clear H5
        obtain ⟨q, hq, rfl, hwz', HS⟩ := hrel
        obtain ⟨A5, c5, rfl, _⟩ := own_form HS.out.o5.choose_spec.2
        by_cases hqp : q < p
        · go_wp2_with fail
          refine (pick_lit sb (b + 1 + k + q) [0, 0, 1, 2] wr wr.heap.size 4 rfl (by omega) (by omega) rfl (by omega) HS.out.tk.1).mono ?_
          rintro e w2 ⟨x, _, rfl, t2⟩
          have H2 := Lib.hid (HS.out.took t2 hlt hwz)
          have hz2 : wo.heap.size ≤ w2.heap.size := Nat.le_trans hwz' t2.size
          obtain ⟨cs, e4, h4⟩ := H2.out.o4
          obtain ⟨bs, e5, h5⟩ := H2.out.o5
          have H6 := Lib.hid (And.intro e4 (And.intro h4 (And.intro e5 h5)))
          clear t2 HS e4 h4 e5 h5
          go_wp2_with (at_builtin; refine hold ?_)
          refine loose ?_
          refine wpList_append_own _ rfl _ _ 22 rfl wo.heap.size 3 i0 _ 1 8 Try.underlying22 HI.out.1 HI.out.2.1 HI.out.2.2.1 HI.out.2.2.2 rfl (by omega) _ q (bs.map (Value.int .i64)) rfl (H6.out.2.2.2.alloc _) ⟨w2.heap.size, 0, none⟩ 1 1 [.int .i64 x] rfl rfl (cell_one_new _ _ _) (by intro u hu; simp at hu; subst hu; rfl) (by unfold maxLen; omega) (by omega) (by simp; omega) ?_
          intro v' w3 hown' hg' _
          have H3 := Lib.hid (Own2.push5 (H2.out.tk.alloc _) H6.out.1 (H6.out.2.1.alloc _) (H6.out.2.2.2.alloc _) H6.out.2.2.1 hlt hwz HJ.out hown' hg')
          have hz3 : wo.heap.size ≤ w3.heap.size := by have := hg'.size; simp at this; omega
          clear hown' hg' H2 H6
          go_wp2_with fail
          go_roundw
          case rel => exact ⟨q + 1, by omega, by go_num, hz3, H3⟩
          case measure => simp [intOf]; omega
        · obtain rfl : q = p := by omega
          have HQ : Hid (Own2 w wo.heap.size sb (b + 9) (.slice (some ⟨g4, 0, none⟩) k c4) (.slice A5 q c5) k q wr) := ⟨HS.out.tk.more (by omega), HS.out.o4, HS.out.o5⟩
          clear HS wk
          go_wp2_with fail
          refine (flip_any sb (b + 9) 12 wr (by omega) (by omega) (by omega) HQ.out.tk.1).mono ?_
          rintro e w5 ⟨f, rfl, t5⟩
          have H5 := Lib.hid (HQ.out.took t5 hlt hwz)
          have hz6 : wo.heap.size ≤ w5.heap.size := Nat.le_trans hwz' t5.size
          clear t5 HQ
          go_upto_if 30 with (fail)
          go_cut [5] (fun s5 wc => ∃ (A : Option Addr) (c n5 : Nat), s5 = .slice A n5 c ∧ n5 ≤ 5 ∧ Hid (Own2 w wo.heap.size sb (b + 14) (.slice (some ⟨g4, 0, none⟩) k c4) (.slice A n5 c) k n5 wc))
          case first => as_aux_lemma =>
            cases f
            · go_wp2_with fail
              go_meet
              exact ⟨A5, c5, q, rfl, by omega, H5.out.more (by omega)⟩
            · go_wp2_with fail
              refine (next_any sb (b + 9 + 1) 3 w5 (by omega) (by omega) (by omega) H5.out.tk.1).mono ?_
              rintro e w6 ⟨x, hx0, hx3, rfl, t6⟩
              have H6 := Lib.hid (H5.out.took t6 hlt hwz)
              have t6s := t6.size
              clear t6 H5
              have hx : x = 0 ∨ x = 1 ∨ x = 2 := by omega
              clear hx0 hx3
              rcases hx with rfl | rfl | rfl
              · go_wp2_with fail
                refine (next_any sb (b + 9 + 1 + 1) k w6 (by omega) (by omega) (by omega) H6.out.tk.1).mono ?_
                rintro e w7 ⟨y, hy0, hy1, rfl, t7⟩
                obtain ⟨y, rfl⟩ := Int.eq_ofNat_of_zero_le hy0
                have H7 := Lib.hid (H6.out.took t7 hlt hwz)
                clear t7 H6
                go_wp2_with fail
                refine (pick_lit sb (b + 9 + 1 + 1 + 1) [0, -1, 10000000, 10000001] w7 w7.heap.size 4 rfl (by omega) (by omega) rfl (by omega) H7.out.tk.1).mono ?_
                rintro e w8 ⟨z, _, rfl, t8⟩
                have H8 := Lib.hid (H7.out.took t8 hlt hwz)
                clear t8 H7
                have hyk : y < k := by omega
                obtain ⟨cs, _, h4⟩ := H8.out.o4
                obtain ⟨⟨z0, d0⟩, d1, d2⟩ := own_cellN h4 hyk
                have H9 := Lib.hid (H8.out.set4 (j := y) hlt hg4 hg4' z)
                clear h4
                go_wp2_with fail
                go_meet
                exact ⟨A5, c5, q, rfl, by omega, H9.out.more (by omega)⟩
              · go_wp2_with fail
                refine (pick_lit sb (b + 9 + 1 + 1) [0, -1] w6 w6.heap.size 2 rfl (by omega) (by omega) rfl (by omega) H6.out.tk.1).mono ?_
                rintro e w8 ⟨z, _, rfl, t8⟩
                have H8 := Lib.hid (H6.out.took t8 hlt hwz)
                have hz8 : wo.heap.size ≤ w8.heap.size := Nat.le_trans (Nat.le_trans hz6 t6s) t8.size
                obtain ⟨cs, e4, h4⟩ := H8.out.o4
                obtain ⟨bs, e5, h5⟩ := H8.out.o5
                have HK := Lib.hid (And.intro e4 (And.intro h4 (And.intro e5 h5)))
                clear t8 H6 e4 h4 e5 h5
                go_wp2_with (at_builtin; refine hold ?_)
                refine loose ?_
                refine wpList_append_own _ rfl _ _ 22 rfl wo.heap.size 3 i0 _ 1 8 Try.underlying22 HI.out.1 HI.out.2.1 HI.out.2.2.1 HI.out.2.2.2 rfl (by omega) _ q (bs.map (Value.int .i64)) rfl (HK.out.2.2.2.alloc _) ⟨w8.heap.size, 0, none⟩ 1 1 [.int .i64 z] rfl rfl (cell_one_new _ _ _) (by intro u hu; simp at hu; subst hu; rfl) (by unfold maxLen; omega) (by omega) (by simp; omega) ?_
                intro v' w9 hown' hg' _
                have H3 := Lib.hid (Own2.push5 (H8.out.tk.alloc _) HK.out.1 (HK.out.2.1.alloc _) (HK.out.2.2.2.alloc _) HK.out.2.2.1 hlt hwz HJ.out hown' hg')
                obtain ⟨A9, c9, rfl, _⟩ := own_form hown'
                clear hown' hg' H8 HK
                go_wp2_with fail
                go_meet
                exact ⟨A9, c9, q + 1, rfl, by omega, H3.out.more (by omega)⟩
              · rcases Nat.eq_zero_or_pos q with hq0 | hq0
                · subst hq0
                  go_wp2_with fail
                  go_meet
                  exact ⟨A5, c5, 0, rfl, by omega, H6.out.more (by omega)⟩
                · obtain ⟨bs0, _, h50⟩ := H6.out.o5
                  obtain ⟨g5, rfl⟩ : ∃ g, A5 = some ⟨g, 0, none⟩ := by
                    obtain ⟨g, cap, hv, _⟩ := own_read h50 hq0
                    cases hv
                    exact ⟨g, rfl⟩
                  have hg5 : wo.heap.size ≤ g5 := own_row h50 g5 rfl
                  have hpos : (0 : Int) < (q : Int) := by omega
                  clear h50
                  go_wp2_with fail
                  refine (next_any sb (b + 9 + 1 + 1) q w6 (by omega) (by omega) (by omega) H6.out.tk.1).mono ?_
                  rintro e w7 ⟨y, hy0, hy1, rfl, t7⟩
                  obtain ⟨y, rfl⟩ := Int.eq_ofNat_of_zero_le hy0
                  have H7 := Lib.hid (H6.out.took t7 hlt hwz)
                  clear t7 H6
                  go_wp2_with fail
                  refine (pick_lit sb (b + 9 + 1 + 1 + 1) [-1, 2000, 2001] w7 w7.heap.size 3 rfl (by omega) (by omega) rfl (by omega) H7.out.tk.1).mono ?_
                  rintro e w8 ⟨z, _, rfl, t8⟩
                  have H8 := Lib.hid (H7.out.took t8 hlt hwz)
                  clear t8 H7
                  have hyk : y < q := by omega
                  obtain ⟨cs, _, h4⟩ := H8.out.o5
                  obtain ⟨⟨z0, d0⟩, d1, d2⟩ := own_cellN h4 hyk
                  have H9 := Lib.hid (H8.out.set5 (j := y) hlt hwz hg5 HJ.out z)
                  clear h4
                  go_wp2_with fail
                  go_meet
                  exact ⟨some ⟨g5, 0, none⟩, c5, q, rfl, by omega, H9.out.more (by omega)⟩
          case rest => as_aux_lemma =>
            obtain ⟨A, c, n5, rfl, hn5, H6⟩ := hcut
            clear H5
            go_wp2_with fail
            refine (flip_any sb (b + 14) 60 wc (by omega) (by omega) (by omega) H6.out.tk.1).mono ?_
            rintro e w7 ⟨f, rfl, t7⟩
            have H7 := Lib.hid (H6.out.took t7 hlt hwz)
            clear t7 H6
            cases f
            · go_wp2_with fail
              refine bodyPost_ret (v := .tuple #[.slice (some ⟨g4, 0, none⟩) k c4, .slice A n5 c]) (by unfold results; simp only [Try.results23]; go_simp) rfl ?_
              obtain ⟨bs, e5, h5⟩ := H7.out.o5
              exact ⟨_, _, k, n5, rfl, by omega, by omega, H7.out.tk.more (by omega), H7.out.o4, ⟨bs, e5, own_mono h5 hwz⟩⟩
            · go_wp2_with fail
              refine bodyPost_ret (v := .tuple #[.slice none 0 0, .slice none 0 0]) (by unfold results; simp only [Try.results23]; go_simp) rfl ?_
              exact ⟨_, _, 0, 0, rfl, by omega, by omega, H7.out.tk.more (by omega), ⟨[], rfl, World.ownsRow_nil _ _ _ _⟩, ⟨[], rfl, World.ownsRow_nil _ _ _ _⟩⟩
/-- How many boards. -/
theorem boardNumber_any (sb b : Nat) (w : World) (hb : b ≤ 800000) (hs : IsStream w sb b) :
    Calls Try.prog 24 #[.pointer (some ⟨sb, 0, none⟩)] w (fun e w' => ∃ x : Int, e = .returned (.int .i64 x) ∧ 0 ≤ x ∧ x ≤ 2001 ∧ Took sb (b + 1) w w') := by
  go_enter Try.func24, Try.ntmps24
  go_wp2_with fail
  refine (pick_lit sb b [1, 2, 3, 5, 12, 0, 2001] w w.heap.size 7 rfl (by omega) (by omega) rfl (by omega) hs).mono ?_
  rintro e w2 ⟨x, hx, rfl, t2⟩
  have hx2 : 0 ≤ x ∧ x ≤ 2001 := by
    simp only [List.mem_cons, List.not_mem_nil, or_false] at hx
    omega
  go_wp2_with fail
  go_ret
  exact ⟨x, rfl, hx2.1, hx2.2, t2⟩
end Go.Proofs.Ytiooimfkobjpkaa
