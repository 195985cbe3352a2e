/-
  The maker of an order: a stream's shuffle.
-/
import Derived.Test.YtbkbjljkfhahbaaTqY
import Derived.Test.YtbkbjljkfhahbaaRgS
namespace Go.Proofs.Ytbkbjljkfhahbaa
open Go.RowKit
set_option linter.unusedSimpArgs false
set_option linter.unusedVariables false

/-- A row of some integers. -/
def IntRow (B n : Nat) (v : Value) (W : World) : Prop := ∃ xs : List Int, xs.length = n ∧ W.ownsRow B 3 1 v n (xs.map (Value.int .i64))
/-- Nothing turns but the row's integers. -/
def SwR (sb n : Nat) (w : World) (v : Value) (a b : World) : Prop := a.heap.size ≤ b.heap.size ∧ (IntRow w.heap.size n v a → IntRow w.heap.size n v b) ∧ ∀ c, Took sb c w a → Took sb c w b
theorem SwR.refl (sb n : Nat) (w : World) (v : Value) (a : World) : SwR sb n w v a a := ⟨Nat.le_refl _, fun h => h, fun _ h => h⟩
theorem SwR.trans {sb n : Nat} {w : World} {v : Value} {a b c : World} (h : SwR sb n w v a b) (k : SwR sb n w v b c) : SwR sb n w v a c := ⟨Nat.le_trans h.1 k.1, fun x => k.2.1 (h.2.1 x), fun c x => k.2.2 c (h.2.2 c x)⟩
theorem IntRow.cell {B n g c : Nat} {W : World} (h : IntRow B n (.slice (some ⟨g, 0, none⟩) n c) W) {j : Nat} (hj : j < n) : (∃ x : Int, W.cell? ⟨g, j, none⟩ = some (.int .i64 x)) ∧ W.frozen? ⟨g, j, none⟩ = false ∧ g < W.heap.size := by
  obtain ⟨xs, hx, ho⟩ := h
  have hl : j < xs.length := by omega
  have hc := ho.cells (g := g) rfl j (.int .i64 xs[j]) (by rw [List.getElem?_map, List.getElem?_eq_getElem hl]; rfl)
  rw [addr_new] at hc
  exact ⟨⟨xs[j], hc⟩, own_frozen ho j, (ho.lt g rfl).2⟩
theorem IntRow.set {B n g c : Nat} {W : World} (h : IntRow B n (.slice (some ⟨g, 0, none⟩) n c) W) (j : Nat) (x : Int) : IntRow B n (.slice (some ⟨g, 0, none⟩) n c) (W.setCell ⟨g, j, none⟩ (.int .i64 x)) := by
  obtain ⟨xs, hx, ho⟩ := h
  exact ⟨xs.set j x, by rw [List.length_set]; exact hx, by rw [List.map_set]; exact own_set ho j _⟩
theorem SwR.set (sb n c : Nat) {g : Nat} (w W : World) (hg : w.heap.size ≤ g) (hs : sb < w.heap.size) (j : Nat) (x : Int) : SwR sb n w (.slice (some ⟨g, 0, none⟩) n c) W (W.setCell ⟨g, j, none⟩ (.int .i64 x)) :=
  ⟨by simp [World.setCell], fun h => h.set j x, fun _ h => h.setCell hg hs _⟩

set_option maxRecDepth 100000 in
set_option maxHeartbeats 8000000 in
theorem order_any (sb b n : Nat) (hn : n ≤ 1000) (w : World) (hb : b ≤ 800000) (hs : IsStream w sb b) :
    Calls Try.prog 25 #[.pointer (some ⟨sb, 0, none⟩), .int .i64 n] w fun e w' => ∃ v, e = .returned v ∧ IntRow w.heap.size n v w' ∧ Took sb (b + n) w w' := by
  have hlt := hs.lt
  have HS0 := Lib.hid hs
  clear hs
  go_enter Try.func25, Try.ntmps25
  go_wp2_with fail
  go_loopw [5, 10] (fun v5 kk wr => ∃ (k : Nat) (l : List Int), k ≤ n ∧ kk = .int .i64 k ∧ l.length = k ∧ w.heap.size ≤ wr.heap.size ∧ Hid (Took sb b w wr ∧ wr.ownsRow w.heap.size 3 1 v5 l.length (l.map (Value.int .i64)))) (fun _ kk _ => n - (intOf kk).toNat)
  case atStart => exact ⟨0, [], by omega, rfl, rfl, Nat.le_refl _, Took.refl HS0.out, World.ownsRow_nil _ _ _ _⟩
  case round =>
    obtain ⟨k, l, hk, rfl, hl, hwz, HS⟩ := hrel
    have HL := Lib.hid hl
    have hl9 : l.length ≤ 1000 := by omega
    clear hl
    obtain ⟨A5, c5, rfl, hA5⟩ := own_form HS.out.2
    by_cases hkm : k < n
    · obtain ⟨i0, hi0, hz0, hzz1, hz20⟩ := info_parts int_infoN
      have HI := Lib.hid (And.intro hi0 (And.intro hz0 (And.intro hzz1 hz20)))
      clear hi0 hz0 hzz1 hz20
      have hk2 : (k : Int) < (n : Int) := by omega
      go_wp2_with (at_builtin; refine hold ?_)
      refine loose ?_
      refine wpList_append_own _ rfl _ _ 22 rfl w.heap.size 3 i0 _ 1 8 Try.underlying22 HI.out.1 HI.out.2.1 HI.out.2.2.1 HI.out.2.2.2 rfl (by omega) _ l.length (l.map (Value.int .i64)) rfl (HS.out.2.alloc _) ⟨wr.heap.size, 0, none⟩ 1 1 [.int .i64 k] rfl rfl ?c1 (by intro u hu; simp at hu; subst hu; rfl) (by unfold maxLen; omega) (by omega) (by simp; omega) ?_
      case c1 =>
        intro j u hu
        rw [addr_new, cell_of_blk (blk_new wr _ rfl)]
        simpa using hu
      intro v' w3 hown' hg' _
      have H3 : Hid (Took sb b w w3 ∧ w3.ownsRow w.heap.size 3 1 v' (l ++ [(k : Int)]).length ((l ++ [(k : Int)]).map (Value.int .i64))) := by
        refine ⟨(HS.out.1.alloc _).grown hlt hg' (own_row HS.out.2), ?_⟩
        rw [List.map_append, List.length_append]
        exact hown'
      have hz3 := H3.out.1.size
      clear hown' hg' HS
      go_wp2_with fail
      go_roundw
      case rel => exact ⟨k + 1, l ++ [(k : Int)], by omega, by go_num, by rw [List.length_append, HL.out]; rfl, hz3, H3⟩
      case measure => simp [intOf]; omega
    · obtain rfl : k = n := by omega
      have HR : Hid (Took sb b w wr ∧ IntRow w.heap.size k (.slice A5 l.length c5) wr) := ⟨HS.out.1, l, HL.out, by have h := HS.out.2; rw [HL.out] at h ⊢; exact h⟩
      have hLE := HL.out
      simp only [hLE] at HR ⊢
      clear HS hLE
      obtain ⟨wo, rfl⟩ : ∃ wo : World, wo = wr := ⟨_, rfl⟩
      have HA : Hid (0 < k → ∃ g, A5 = some ⟨g, 0, none⟩ ∧ g < wo.heap.size ∧ w.heap.size ≤ g) := by have h := hA5; rw [HL.out] at h; exact h
      clear hA5
      have hw1 : IntKind.i64.wrap ((k : Int) - 1) = (k : Int) - 1 := IntWalk.i64_in _ (by omega)
      go_wp2_with fail
      go_loopw [7] (fun v7 wr => ∃ (i : Int) (m : Nat), v7 = .int .i64 i ∧ -1 ≤ i ∧ (m : Int) + i + 1 = k ∧ wo.heap.size ≤ wr.heap.size ∧ Hid (Took sb (b + m) w wr ∧ IntRow w.heap.size k (.slice A5 k c5) wr)) (fun v7 _ => (intOf v7).toNat)
      case atStart => exact ⟨(k : Int) - 1, 0, rfl, by omega, by omega, Nat.le_refl _, HR⟩
      case round =>
        obtain ⟨i, m, rfl, hi1, hi2, hwz2, HS⟩ := hrel
        clear HR
        by_cases hpos : 0 < i
        · obtain ⟨g, rfl, hg1, hg2⟩ := HA.out (by omega)
          obtain ⟨j, rfl⟩ := Int.eq_ofNat_of_zero_le (by omega : 0 ≤ i)
          have hjk : j < k := by omega
          go_wp2_with fail
          refine (next_any sb (b + m) ((j : Int) + 1) wr (by omega) (by omega) (by omega) HS.out.1.1).mono ?_
          rintro e w2 ⟨x, hx0, hx1, rfl, t2⟩
          obtain ⟨q, rfl⟩ := Int.eq_ofNat_of_zero_le hx0
          have hqk : q < k := by omega
          have H2 : Hid (Took sb (b + (m + 1)) w w2 ∧ IntRow w.heap.size k (.slice (some ⟨g, 0, none⟩) k c5) w2) := ⟨HS.out.1.trans t2, by
            obtain ⟨xs, hx, ho⟩ := HS.out.2
            exact ⟨xs, hx, kept_own ho t2.2 hlt⟩⟩
          have hz2 := t2.size
          clear HS t2
          have hj0 : (0 : Int) ≤ (j : Int) := by omega
          have hjk2 : (j : Int) < (k : Int) := by omega
          have hqk2 : (q : Int) < (k : Int) := by omega
          go_wp2_with fail
          refine Rg.rgS2 13 (SwR sb k w (.slice (some ⟨g, 0, none⟩) k c5)) (SwR sb k w (.slice (some ⟨g, 0, none⟩) k c5)) (SwR sb k w (.slice (some ⟨g, 0, none⟩) k c5))
            [(fun vs u => vs 0 = .slice (some ⟨g, 0, none⟩) k c5), (fun vs u => vs 1 = .int .i64 j), (fun vs u => vs 2 = .slice (some ⟨g, 0, none⟩) k c5), (fun vs u => vs 3 = .int .i64 q), (fun vs u => vs 4 = .slice (some ⟨g, 0, none⟩) k c5), (fun vs u => vs 5 = .int .i64 q), (fun vs u => vs 6 = .pointer (some ⟨g, q, none⟩)), (fun vs u => ∃ x : Int, vs 7 = .int .i64 x), (fun vs u => vs 8 = .slice (some ⟨g, 0, none⟩) k c5), (fun vs u => vs 9 = .int .i64 j), (fun vs u => vs 10 = .pointer (some ⟨g, j, none⟩)), (fun vs u => ∃ x : Int, vs 11 = .int .i64 x), (fun vs u => vs 12 = .pointer (some ⟨g, j, none⟩)), (fun _ _ => True)]
            [[], [], [], [], [], [], [4, 5], [4, 5, 6], [], [], [8, 9], [8, 9, 10], [0, 1, 4, 5, 6, 7, 8, 9, 10, 11], [0, 1, 4, 5, 6, 7, 8, 9, 10, 11, 12]] [some 28, some 29, some 30, some 31, some 32, some 33, some 34, some 35, some 36, some 37, some 38, some 39, some 40, none, some 41, none] [] (fun _ _ => True) [[], [], [], [], [], [], [4, 5], [4, 5, 6], [], [], [8, 9], [8, 9, 10], [0, 1, 4, 5, 6, 7, 8, 9, 10, 11], [0, 1, 4, 5, 6, 7, 8, 9, 10, 11, 12], [0, 1, 2, 3, 4, 5, 6, 7, 8, 9, 10, 11, 12, 13], [0, 1, 2, 3, 4, 5, 6, 7, 8, 9, 10, 11, 12, 13, 14]]
            (by kernel_rfl) (by decide) (by kernel_rfl) (by kernel_rfl) (by kernel_rfl) (by kernel_rfl) (by kernel_rfl) (fun _ => SwR.refl _ _ _ _ _) (fun _ _ _ h k => h.trans k) (fun _ _ h => h.1) (fun _ _ h => h) (fun _ _ h => h) ?_ ?_ trivial ?_ ?_
          · intro j vs w w' h hE
            match j, h with
            | 0, h => exact h
            | 1, h => exact h
            | 2, h => exact h
            | 3, h => exact h
            | 4, h => exact h
            | 5, h => exact h
            | 6, h => exact h
            | 7, h => exact h
            | 8, h => exact h
            | 9, h => exact h
            | 10, h => exact h
            | 11, h => exact h
            | 12, h => exact h
            | 13, h => exact h
            | (j + 14), h => exact h
          · intro j hj hc vs w w' h hE
            match j, hj, hc, h with
            | 0, _, _, h => exact h
            | 1, _, _, h => exact h
            | 2, _, _, h => exact h
            | 3, _, _, h => exact h
            | 4, _, _, h => exact h
            | 5, _, _, h => exact h
            | 6, _, _, h => exact h
            | 7, _, _, h => exact h
            | 8, _, _, h => exact h
            | 9, _, _, h => exact h
            | 10, _, _, h => exact h
            | 11, _, _, h => exact h
            | 12, _, _, h => exact h
            | 13, hj, _, _ => exact absurd rfl hj
            | (j + 14), _, _, h => exact h
          ·
            refine Rg.cons 0 1 rfl (Rg.plain rfl ?_) ?_
            · intro vs W n hn hI hG hT hF K hK
              simp only [Rg.putsD, List.getD_cons_zero, List.getD_cons_succ, Act.put, List.setIfInBounds_toArray, List.set_cons_zero, List.set_cons_succ] at hK ⊢
              clear hn
              clear hF
              have H := Lib.hid hK
              clear hK hT
              go_simp
              exact H.out _ _ ((SwR.refl _ _ _ _ _)) rfl (fun h => by cases h) hI
            refine Rg.cons 1 2 rfl (Rg.plain rfl ?_) ?_
            · intro vs W n hn hI hG hT hF K hK
              simp only [Rg.putsD, List.getD_cons_zero, List.getD_cons_succ, Act.put, List.setIfInBounds_toArray, List.set_cons_zero, List.set_cons_succ] at hK ⊢
              clear hn
              clear hF
              have H := Lib.hid hK
              clear hK hT
              go_simp
              exact H.out _ _ ((SwR.refl _ _ _ _ _)) rfl (fun h => by cases h) hI
            refine Rg.cons 2 3 rfl (Rg.plain rfl ?_) ?_
            · intro vs W n hn hI hG hT hF K hK
              simp only [Rg.putsD, List.getD_cons_zero, List.getD_cons_succ, Act.put, List.setIfInBounds_toArray, List.set_cons_zero, List.set_cons_succ] at hK ⊢
              clear hn
              clear hF
              have H := Lib.hid hK
              clear hK hT
              go_simp
              exact H.out _ _ ((SwR.refl _ _ _ _ _)) rfl (fun h => by cases h) hI
            refine Rg.cons 3 4 rfl (Rg.plain rfl ?_) ?_
            · intro vs W n hn hI hG hT hF K hK
              simp only [Rg.putsD, List.getD_cons_zero, List.getD_cons_succ, Act.put, List.setIfInBounds_toArray, List.set_cons_zero, List.set_cons_succ] at hK ⊢
              clear hn
              clear hF
              have H := Lib.hid hK
              clear hK hT
              go_simp
              exact H.out _ _ ((SwR.refl _ _ _ _ _)) rfl (fun h => by cases h) hI
            refine Rg.cons 4 5 rfl (Rg.plain rfl ?_) ?_
            · intro vs W n hn hI hG hT hF K hK
              simp only [Rg.putsD, List.getD_cons_zero, List.getD_cons_succ, Act.put, List.setIfInBounds_toArray, List.set_cons_zero, List.set_cons_succ] at hK ⊢
              clear hn
              clear hF
              have H := Lib.hid hK
              clear hK hT
              go_simp
              exact H.out _ _ ((SwR.refl _ _ _ _ _)) rfl (fun h => by cases h) hI
            refine Rg.cons 5 6 rfl (Rg.plain rfl ?_) ?_
            · intro vs W n hn hI hG hT hF K hK
              simp only [Rg.putsD, List.getD_cons_zero, List.getD_cons_succ, Act.put, List.setIfInBounds_toArray, List.set_cons_zero, List.set_cons_succ] at hK ⊢
              clear hn
              clear hF
              have H := Lib.hid hK
              clear hK hT
              go_simp
              exact H.out _ _ ((SwR.refl _ _ _ _ _)) rfl (fun h => by cases h) hI
            refine Rg.cons 6 7 rfl (Rg.plain rfl ?_) ?_
            · intro vs W n hn hI hG hT hF K hK
              simp only [Rg.putsD, List.getD_cons_zero, List.getD_cons_succ, Act.put, List.setIfInBounds_toArray, List.set_cons_zero, List.set_cons_succ] at hK ⊢
              clear hn
              clear hF
              have t4 : vs 4 = .slice (some ⟨g, 0, none⟩) k c5 := hT 4 (by decide)
              have t5 : vs 5 = .int .i64 q := hT 5 (by decide)
              simp only [t4, t5] at hK
              have H := Lib.hid hK
              clear hK hT
              go_simp
              exact H.out _ _ ((SwR.refl _ _ _ _ _)) rfl (fun h => by cases h) hI
            refine Rg.cons 7 8 rfl (Rg.plain rfl ?_) ?_
            · intro vs W n hn hI hG hT hF K hK
              simp only [Rg.putsD, List.getD_cons_zero, List.getD_cons_succ, Act.put, List.setIfInBounds_toArray, List.set_cons_zero, List.set_cons_succ] at hK ⊢
              clear hn
              clear hF
              have t4 : vs 4 = .slice (some ⟨g, 0, none⟩) k c5 := hT 4 (by decide)
              have t5 : vs 5 = .int .i64 q := hT 5 (by decide)
              have t6 : vs 6 = .pointer (some ⟨g, q, none⟩) := hT 6 (by decide)
              obtain ⟨⟨x, c0⟩, _, hgl⟩ := (hG.2.1 H2.out.2).cell hqk
              simp only [t4, t5, t6] at hK
              have H := Lib.hid hK
              clear hK hT
              go_simp
              exact H.out _ _ (SwR.refl _ _ _ _ _) ⟨_, rfl⟩ (fun h => by cases h) trivial
            refine Rg.cons 8 9 rfl (Rg.plain rfl ?_) ?_
            · intro vs W n hn hI hG hT hF K hK
              simp only [Rg.putsD, List.getD_cons_zero, List.getD_cons_succ, Act.put, List.setIfInBounds_toArray, List.set_cons_zero, List.set_cons_succ] at hK ⊢
              clear hn
              clear hF
              have H := Lib.hid hK
              clear hK hT
              go_simp
              exact H.out _ _ ((SwR.refl _ _ _ _ _)) rfl (fun h => by cases h) hI
            refine Rg.cons 9 10 rfl (Rg.plain rfl ?_) ?_
            · intro vs W n hn hI hG hT hF K hK
              simp only [Rg.putsD, List.getD_cons_zero, List.getD_cons_succ, Act.put, List.setIfInBounds_toArray, List.set_cons_zero, List.set_cons_succ] at hK ⊢
              clear hn
              clear hF
              have H := Lib.hid hK
              clear hK hT
              go_simp
              exact H.out _ _ ((SwR.refl _ _ _ _ _)) rfl (fun h => by cases h) hI
            refine Rg.cons 10 11 rfl (Rg.plain rfl ?_) ?_
            · intro vs W n hn hI hG hT hF K hK
              simp only [Rg.putsD, List.getD_cons_zero, List.getD_cons_succ, Act.put, List.setIfInBounds_toArray, List.set_cons_zero, List.set_cons_succ] at hK ⊢
              clear hn
              clear hF
              have t8 : vs 8 = .slice (some ⟨g, 0, none⟩) k c5 := hT 8 (by decide)
              have t9 : vs 9 = .int .i64 j := hT 9 (by decide)
              simp only [t8, t9] at hK
              have H := Lib.hid hK
              clear hK hT
              go_simp
              exact H.out _ _ ((SwR.refl _ _ _ _ _)) rfl (fun h => by cases h) hI
            refine Rg.cons 11 12 rfl (Rg.plain rfl ?_) ?_
            · intro vs W n hn hI hG hT hF K hK
              simp only [Rg.putsD, List.getD_cons_zero, List.getD_cons_succ, Act.put, List.setIfInBounds_toArray, List.set_cons_zero, List.set_cons_succ] at hK ⊢
              clear hn
              clear hF
              have t8 : vs 8 = .slice (some ⟨g, 0, none⟩) k c5 := hT 8 (by decide)
              have t9 : vs 9 = .int .i64 j := hT 9 (by decide)
              have t10 : vs 10 = .pointer (some ⟨g, j, none⟩) := hT 10 (by decide)
              obtain ⟨⟨x, c0⟩, _, hgl⟩ := (hG.2.1 H2.out.2).cell hjk
              simp only [t8, t9, t10] at hK
              have H := Lib.hid hK
              clear hK hT
              go_simp
              exact H.out _ _ (SwR.refl _ _ _ _ _) ⟨_, rfl⟩ (fun h => by cases h) trivial
            refine Rg.cons 12 13 rfl (Rg.plain rfl ?_) ?_
            · intro vs W n hn hI hG hT hF K hK
              simp only [Rg.putsD, List.getD_cons_zero, List.getD_cons_succ, Act.put, List.setIfInBounds_toArray, List.set_cons_zero, List.set_cons_succ] at hK ⊢
              clear hn
              clear hF
              have t0 : vs 0 = .slice (some ⟨g, 0, none⟩) k c5 := hT 0 (by decide)
              have t1 : vs 1 = .int .i64 j := hT 1 (by decide)
              have t4 : vs 4 = .slice (some ⟨g, 0, none⟩) k c5 := hT 4 (by decide)
              have t5 : vs 5 = .int .i64 q := hT 5 (by decide)
              have t6 : vs 6 = .pointer (some ⟨g, q, none⟩) := hT 6 (by decide)
              have t7 : ∃ x : Int, vs 7 = .int .i64 x := hT 7 (by decide)
              have t8 : vs 8 = .slice (some ⟨g, 0, none⟩) k c5 := hT 8 (by decide)
              have t9 : vs 9 = .int .i64 j := hT 9 (by decide)
              have t10 : vs 10 = .pointer (some ⟨g, j, none⟩) := hT 10 (by decide)
              have t11 : ∃ x : Int, vs 11 = .int .i64 x := hT 11 (by decide)
              simp only [t0, t1, t4, t5, t6, t8, t9, t10] at hK
              have H := Lib.hid hK
              clear hK hT
              go_simp
              exact H.out _ _ ((SwR.refl _ _ _ _ _)) rfl (fun h => by cases h) hI
            refine Rg.cons 13 14 rfl (Rg.plain rfl ?_) ?_
            · intro vs W n hn hI hG hT hF K hK
              simp only [Rg.putsD, List.getD_cons_zero, List.getD_cons_succ, Act.put, List.setIfInBounds_toArray, List.set_cons_zero, List.set_cons_succ] at hK ⊢
              clear hn
              clear hF
              have t0 : vs 0 = .slice (some ⟨g, 0, none⟩) k c5 := hT 0 (by decide)
              have t1 : vs 1 = .int .i64 j := hT 1 (by decide)
              have t4 : vs 4 = .slice (some ⟨g, 0, none⟩) k c5 := hT 4 (by decide)
              have t5 : vs 5 = .int .i64 q := hT 5 (by decide)
              have t6 : vs 6 = .pointer (some ⟨g, q, none⟩) := hT 6 (by decide)
              have t7 : ∃ x : Int, vs 7 = .int .i64 x := hT 7 (by decide)
              have t8 : vs 8 = .slice (some ⟨g, 0, none⟩) k c5 := hT 8 (by decide)
              have t9 : vs 9 = .int .i64 j := hT 9 (by decide)
              have t10 : vs 10 = .pointer (some ⟨g, j, none⟩) := hT 10 (by decide)
              have t11 : ∃ x : Int, vs 11 = .int .i64 x := hT 11 (by decide)
              have t12 : vs 12 = .pointer (some ⟨g, j, none⟩) := hT 12 (by decide)
              obtain ⟨⟨x0, c0⟩, f0, hgl⟩ := (hG.2.1 H2.out.2).cell hjk
              obtain ⟨x, e7⟩ := t7
              simp only [e7] at hK
              simp only [t0, t1, t4, t5, t6, t8, t9, t10, t12] at hK
              have H := Lib.hid hK
              clear hK hT
              go_simp
              exact H.out (.int .i64 0) _ (SwR.set _ _ _ _ _ hg2 hlt _ _) trivial (fun h => by cases h) trivial
            exact Rg.nil
          · intro vs W hG hI hT hF
            have t0 : vs 0 = .slice (some ⟨g, 0, none⟩) k c5 := hT 0 (by decide)
            have t1 : vs 1 = .int .i64 j := hT 1 (by decide)
            have t2 : vs 2 = .slice (some ⟨g, 0, none⟩) k c5 := hT 2 (by decide)
            have t3 : vs 3 = .int .i64 q := hT 3 (by decide)
            have t4 : vs 4 = .slice (some ⟨g, 0, none⟩) k c5 := hT 4 (by decide)
            have t5 : vs 5 = .int .i64 q := hT 5 (by decide)
            have t6 : vs 6 = .pointer (some ⟨g, q, none⟩) := hT 6 (by decide)
            have t7 : ∃ x : Int, vs 7 = .int .i64 x := hT 7 (by decide)
            have t8 : vs 8 = .slice (some ⟨g, 0, none⟩) k c5 := hT 8 (by decide)
            have t9 : vs 9 = .int .i64 j := hT 9 (by decide)
            have t10 : vs 10 = .pointer (some ⟨g, j, none⟩) := hT 10 (by decide)
            have t11 : ∃ x : Int, vs 11 = .int .i64 x := hT 11 (by decide)
            have t12 : vs 12 = .pointer (some ⟨g, j, none⟩) := hT 12 (by decide)
            simp only [List.length_cons, List.length_nil, Nat.reduceAdd, List.range, List.range.loop, List.drop_succ_cons, List.drop_zero, Rg.putsD, List.getD_cons_zero, List.getD_cons_succ, Act.put, List.setIfInBounds_toArray, List.set_cons_zero, List.set_cons_succ, t0, t1, t2, t3, t4, t5, t6, t8, t9, t10, t12]
            clear hT t0 t1 t2 t3 t4 t5 t6 t8 t9 t10 t12
            obtain ⟨x7, e7⟩ := t7
            obtain ⟨x11, e11⟩ := t11
            simp only [e7, e11]
            have hR := hG.2.1 H2.out.2
            obtain ⟨⟨x0, c0⟩, f0, hgl⟩ := hR.cell hqk
            have HS3 : Hid (Took sb (b + (m + 1)) w (W.setCell ⟨g, q, none⟩ (.int .i64 x11)) ∧ IntRow w.heap.size k (.slice (some ⟨g, 0, none⟩) k c5) (W.setCell ⟨g, q, none⟩ (.int .i64 x11))) := ⟨(hG.2.2 _ H2.out.1.drew).setCell hg2 hlt _, hR.set q x11⟩
            have hzW : w2.heap.size ≤ W.heap.size := hG.1
            clear e7 e11 hF hI hG H2 hR
            go_wp2_with fail
            go_roundw
            case rel => exact ⟨(j : Int) - 1, m + 1, by go_num, by omega, by omega, by simp [World.setCell]; omega, HS3⟩
            case measure => simp [intOf]; omega
        · go_wp2_with fail
          go_ret
          exact ⟨_, rfl, HS.out.2, HS.out.1.more (by omega)⟩
end Go.Proofs.Ytbkbjljkfhahbaa
