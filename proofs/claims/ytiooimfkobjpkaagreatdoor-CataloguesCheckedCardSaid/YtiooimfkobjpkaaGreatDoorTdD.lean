/-
  The maker of catalogues: how it spoils one.
-/
import Derived.Test.YtiooimfkobjpkaaGreatDoorTdC
namespace Go.Proofs.YtiooimfkobjpkaaGreatDoor
open Go.RowKit
set_option linter.unusedSimpArgs false
set_option linter.unusedVariables false

abbrev AlZ := {a : Al // a.par.size ≤ 5 ∧ a.by_.size ≤ 5}
abbrev PaZ := {p : Pa // p.key.size ≤ 5 ∧ p.pk.size ≤ 5}
def encAZ (a : AlZ) : List Value := encAl a.1
def encPZ (p : PaZ) : List Value := encPa p.1
theorem az_typ (x : AlZ) : (encAZ x).length = 3 := rfl
theorem az_str0 (s : ByteArray) (h : s.size ≤ 5) (x : AlZ) : ∃ y, (encAZ x).set 0 (.string s) = encAZ y := ⟨⟨⟨s, x.1.by_, x.1.both⟩, h, x.2.2⟩, rfl⟩
theorem az_str1 (s : ByteArray) (h : s.size ≤ 5) (x : AlZ) : ∃ y, (encAZ x).set 1 (.string s) = encAZ y := ⟨⟨⟨x.1.par, s, x.1.both⟩, x.2.1, h⟩, rfl⟩
theorem az_bool2 (s : Bool) (x : AlZ) : ∃ y, (encAZ x).set 2 (.bool s) = encAZ y := ⟨⟨⟨x.1.par, x.1.by_, s⟩, x.2.1, x.2.2⟩, rfl⟩
theorem pz_typ (x : PaZ) : (encPZ x).length = 4 := rfl
theorem pz_str0 (s : ByteArray) (h : s.size ≤ 5) (x : PaZ) : ∃ y, (encPZ x).set 0 (.string s) = encPZ y := ⟨⟨⟨s, x.1.pk, x.1.lv, x.1.bk⟩, h, x.2.2⟩, rfl⟩
theorem pz_int2 (s : Int) (x : PaZ) : ∃ y, (encPZ x).set 2 (.int .i64 s) = encPZ y := ⟨⟨⟨x.1.key, x.1.pk, s, x.1.bk⟩, x.2⟩, rfl⟩
theorem pz_int3 (s : Int) (x : PaZ) : ∃ y, (encPZ x).set 3 (.int .i64 s) = encPZ y := ⟨⟨⟨x.1.key, x.1.pk, x.1.lv, s⟩, x.2⟩, rfl⟩
theorem az_row {T k sb b g len cap base n i : Nat} {W : World} (h : RowI encAZ T k sb b g len cap base n W) (hk : k = 3) (hi : i < len) :
    ∃ (s1 s2 : ByteArray) (r : Bool), (s1.size ≤ 5 ∧ s2.size ≤ 5) ∧ W.cell? ⟨g, i * 3, none⟩ = some (.string s1) ∧ W.cell? ⟨g, i * 3 + 1, none⟩ = some (.string s2) ∧ W.cell? ⟨g, i * 3 + 2, none⟩ = some (.bool r) := by
  subst hk
  obtain ⟨p, hp⟩ := h.cell (fun _ => rfl) hi
  exact ⟨p.1.par, p.1.by_, p.1.both, p.2, hp 0 (by omega), hp 1 (by omega), hp 2 (by omega)⟩
theorem pz_row {T k sb b g len cap base n i : Nat} {W : World} (h : RowI encPZ T k sb b g len cap base n W) (hk : k = 4) (hi : i < len) :
    ∃ (s1 s2 : ByteArray) (x y : Int), (s1.size ≤ 5 ∧ s2.size ≤ 5) ∧ W.cell? ⟨g, i * 4, none⟩ = some (.string s1) ∧ W.cell? ⟨g, i * 4 + 1, none⟩ = some (.string s2) ∧ W.cell? ⟨g, i * 4 + 2, none⟩ = some (.int .i64 x) ∧ W.cell? ⟨g, i * 4 + 3, none⟩ = some (.int .i64 y) := by
  subst hk
  obtain ⟨p, hp⟩ := h.cell (fun _ => rfl) hi
  exact ⟨p.1.key, p.1.pk, p.1.lv, p.1.bk, p.2, hp 0 (by omega), hp 1 (by omega), hp 2 (by omega), hp 3 (by omega)⟩
theorem zlist {α : Type} (P : α → Prop) (l : List α) (h : ∀ a ∈ l, P a) : ∃ lz : List {a // P a}, lz.map Subtype.val = l ∧ lz.length = l.length := by
  induction l with
  | nil => exact ⟨[], rfl, rfl⟩
  | cons a l ih =>
    obtain ⟨lz, e1, e2⟩ := ih (fun x hx => h x (List.mem_cons_of_mem _ hx))
    exact ⟨⟨a, h a List.mem_cons_self⟩ :: lz, by simp [e1], by simp [e2]⟩
theorem azflat (lz : List AlZ) : lz.flatMap encAZ = (lz.map Subtype.val).flatMap encAl := by
  induction lz with
  | nil => rfl
  | cons a l ih => rw [List.flatMap_cons, List.map_cons, List.flatMap_cons, ih]; rfl
theorem pzflat (lz : List PaZ) : lz.flatMap encPZ = (lz.map Subtype.val).flatMap encPa := by
  induction lz with
  | nil => rfl
  | cons a l ih => rw [List.flatMap_cons, List.map_cons, List.flatMap_cons, ih]; rfl
theorem own_kept2 {w w' : World} {sb g base : Nat} {e : TypeId} {size n : Nat} {v : Value} {xs : List Value} (h : w.ownsRow base e size v n xs) (hk : Kept2 sb g w w') (hs : sb < base) (hn : v.ownBlock = none ∨ v.ownBlock ≠ some g) : w'.ownsRow base e size v n xs := by
  refine ⟨h.1, h.2.imp_right ?_⟩
  rintro ⟨q, cap, cur, rfl, hq, hc, rest⟩
  have hqg : q ≠ g := fun e => by
    subst e
    rcases hn with hn | hn
    · cases hn
    · exact hn rfl
  exact ⟨q, cap, cur, rfl, hq, (hk.old _ (lt_of_blk hc) (by omega) hqg).trans hc, rest⟩
/-- Words that a statement has just built, all short. -/
def StrZ (B0 n : Nat) (v : Value) (u : World) : Prop := ∃ (b : Nat) (xs : List ByteArray), n = xs.length ∧ B0 ≤ b ∧ v = .slice (some ⟨b, 0, none⟩) n n ∧ u.heap[b]? = some (.cells (xs.map Value.string).toArray 9 (0, 0)) ∧ ∀ s ∈ xs, s.size ≤ 5
theorem StrZ.kept2 {B0 n sb g : Nat} {v : Value} {u u' : World} (h : StrZ B0 n v u) (hk : Kept2 sb g u u') (h1 : sb < B0) (h2 : g < B0) : StrZ B0 n v u' := by
  obtain ⟨b, xs, a, c, d, e, f⟩ := h
  exact ⟨b, xs, a, c, d, hk.blk e (by omega) (by omega), f⟩
theorem StrZ.new {B0 n : Nat} {u : World} (xs : List ByteArray) (hn : n = xs.length) (hB : B0 ≤ u.heap.size) (h : ∀ s ∈ xs, s.size ≤ 5) : StrZ B0 n (.slice (some ⟨u.heap.size, 0, none⟩) n n) (u.alloc (.cells (xs.map Value.string).toArray 9)) := ⟨_, xs, hn, hB, rfl, blk_new u _ rfl, h⟩

set_option maxRecDepth 100000 in
set_option maxHeartbeats 16000000 in
theorem spoil_ok : SpoilOk := by
  intro sb b w W0 v1 v2 l al hlt hb hl5 hal5 h
  obtain ⟨A1, k1, rfl, hA1⟩ := own_form h.o1
  obtain ⟨A2, k2, rfl, hA2⟩ := own_form h.o2
  have HA1 := Lib.hid (fun (h : 0 < l.length) => hA1 h)
  have HA2 := Lib.hid (fun (h : 0 < al.length) => hA2 h)
  have H := Lib.hid h
  obtain ⟨c0, c1, _, _⟩ := blk2 h.k3
  have hl3 := lt_of_blk h.k3
  clear h hA1 hA2
  go_enter Tryz.func20, Tryz.ntmps20
  by_cases ha0 : al.length = 0
  · have hd1 : decide (0 < al.length) = false := decide_eq_false (by omega)
    go_upto_region 3 with (fail)
    clear c0 c1 hl3
    obtain ⟨W1, rfl⟩ : ∃ W1 : World, W1 = W0 := ⟨_, rfl⟩
    have H1 := Lib.hid (H.out.more (show b ≤ b + 1 by omega))
    clear H
    have hsz1 : w.heap.size + 1 + 1 < W1.heap.size := lt_of_blk H1.out.kn
    obtain ⟨c0, c1, _, _⟩ := blk2 H1.out.k3
    have hl3 := lt_of_blk H1.out.k3
    by_cases hl0 : l.length = 0
    · have hd0 : decide (0 < l.length) = false := decide_eq_false (by omega)
      go_wp2_with fail
      refine bodyPost_end (v := .tuple #[]) (by unfold results; simp only [Tryz.results20]; go_simp) rfl ⟨rfl, l, al, rfl, rfl, H1.out.more (by omega)⟩
    obtain ⟨g, rfl, hgl, hgb⟩ : ∃ g : Nat, A1 = some ⟨g, 0, none⟩ ∧ g < W1.heap.size ∧ w.heap.size + 3 ≤ g := by
      obtain ⟨A', c', e, hh⟩ := own_form H1.out.o1
      cases e
      exact hh (by omega)
    have hd0 : 0 < l.length := by omega
    clear hl0 HA1 HA2
    go_wp2_with fail
    clear c0 c1 hl3
    refine Rg.rgL (Kept sb)
      [(fun vs u => vs 0 = .pointer (some ⟨w.heap.size + 1, 0, none⟩)), (fun vs u => vs 1 = .pointer (some ⟨w.heap.size + 1, 0, none⟩)), (fun vs u => vs 2 = .pointer (some ⟨w.heap.size + 1, 0, none⟩)), (fun vs u => vs 3 = .slice (some ⟨g, 0, none⟩) l.length k1), (fun vs u => vs 4 = .pointer (some ⟨sb, 0, none⟩)), (fun vs u => vs 5 = .pointer (some ⟨w.heap.size + 1, 0, none⟩)), (fun vs u => vs 6 = .pointer (some ⟨w.heap.size + 1, 0, none⟩)), (fun vs u => vs 7 = .pointer (some ⟨w.heap.size + 1, 0, none⟩)), (fun vs u => vs 8 = .slice (some ⟨g, 0, none⟩) l.length k1), (fun vs u => vs 9 = .int .i64 l.length), (fun vs u => ∃ j : Nat, j < l.length ∧ vs 10 = .int .i64 j)]
      [[], [0], [0, 1], [0, 1, 2], [], [], [5], [5, 6], [5, 6, 7], [5, 6, 7, 8], [4, 5, 6, 7, 8, 9]] [some 63, some 64, some 65, some 66, some 67, some 68, some 69, some 70, some 71, some 72, some 73, some 74, some 5] [] (fun n W => IsStream W sb (b+1 + n)) [[], [0], [0, 1], [0, 1, 2], [], [], [5], [5, 6], [5, 6, 7], [5, 6, 7, 8], [4, 5, 6, 7, 8, 9], [0, 1, 2, 3, 4, 5, 6, 7, 8, 9, 10], [0, 1, 2, 3, 4, 5, 6, 7, 8, 9, 10, 11]]
      (by kernel_rfl) (by decide) (by kernel_rfl) (by kernel_rfl) (by kernel_rfl) (by kernel_rfl) (by kernel_rfl) (fun _ => Kept.same _ _) (fun _ _ _ h k => h.then_ k) (fun _ _ h => h.more) ?_ (H1.out.tk.1.drew) ?_ ?_
    · intro t ht vs w w' h hE
      simp only [List.mem_cons, List.not_mem_nil, or_false] at ht
      rcases ht with rfl | rfl | rfl | rfl | rfl | rfl | rfl | rfl | rfl | rfl | rfl
      · exact h
      · exact h
      · exact h
      · exact h
      · exact h
      · exact h
      · exact h
      · exact h
      · exact h
      · exact h
      · exact h
    ·
      refine Rg.cons 0 1 rfl (Rg.plain rfl ?_) ?_
      · intro vs W n hn hI hG hT hF K hK
        simp only [Rg.putsD, List.getD_cons_zero, List.getD_cons_succ, Act.put, List.setIfInBounds_toArray, List.set_cons_zero, List.set_cons_succ] at hK ⊢
        have hn1 : n < 13 := hn
        clear hn
        clear hF
        have H := Lib.hid hK
        clear hK hT
        go_simp
        exact H.out _ _ (Kept.same _ _) rfl (fun h => by cases h) (hI.more (by omega))
      refine Rg.cons 1 2 rfl (Rg.plain rfl ?_) ?_
      · intro vs W n hn hI hG hT hF K hK
        simp only [Rg.putsD, List.getD_cons_zero, List.getD_cons_succ, Act.put, List.setIfInBounds_toArray, List.set_cons_zero, List.set_cons_succ] at hK ⊢
        have hn1 : n < 13 := hn
        clear hn
        clear hF
        have t0 : vs 0 = .pointer (some ⟨w.heap.size + 1, 0, none⟩) := hT 0 (by decide)
        simp only [t0] at hK
        have H := Lib.hid hK
        clear hK hT
        go_simp
        exact H.out _ _ (Kept.same _ _) rfl (fun h => by cases h) (hI.more (by omega))
      refine Rg.cons 2 3 rfl (Rg.plain rfl ?_) ?_
      · intro vs W n hn hI hG hT hF K hK
        simp only [Rg.putsD, List.getD_cons_zero, List.getD_cons_succ, Act.put, List.setIfInBounds_toArray, List.set_cons_zero, List.set_cons_succ] at hK ⊢
        have hn1 : n < 13 := hn
        clear hn
        clear hF
        have t1 : vs 1 = .pointer (some ⟨w.heap.size + 1, 0, none⟩) := hT 1 (by decide)
        simp only [t1] at hK
        have H := Lib.hid hK
        clear hK hT
        go_simp
        exact H.out _ _ (Kept.same _ _) rfl (fun h => by cases h) (hI.more (by omega))
      refine Rg.cons 3 4 rfl (Rg.plain rfl ?_) ?_
      · intro vs W n hn hI hG hT hF K hK
        simp only [Rg.putsD, List.getD_cons_zero, List.getD_cons_succ, Act.put, List.setIfInBounds_toArray, List.set_cons_zero, List.set_cons_succ] at hK ⊢
        have hn1 : n < 13 := hn
        clear hn
        clear hF
        have t2 : vs 2 = .pointer (some ⟨w.heap.size + 1, 0, none⟩) := hT 2 (by decide)
        have hbk := hG.blk H1.out.k3 (by omega)
        have cb := cell_of_blk hbk 0
        simp at cb
        clear hbk
        simp only [t2] at hK
        have H := Lib.hid hK
        clear hK hT
        go_simp
        exact H.out _ _ (Kept.same _ _) rfl (fun h => by cases h) (hI.more (by omega))
      refine Rg.cons 4 5 rfl (Rg.plain rfl ?_) ?_
      · intro vs W n hn hI hG hT hF K hK
        simp only [Rg.putsD, List.getD_cons_zero, List.getD_cons_succ, Act.put, List.setIfInBounds_toArray, List.set_cons_zero, List.set_cons_succ] at hK ⊢
        have hn1 : n < 13 := hn
        clear hn
        clear hF
        have H := Lib.hid hK
        clear hK hT
        go_simp
        exact H.out _ _ (Kept.same _ _) rfl (fun h => by cases h) (hI.more (by omega))
      refine Rg.cons 5 6 rfl (Rg.plain rfl ?_) ?_
      · intro vs W n hn hI hG hT hF K hK
        simp only [Rg.putsD, List.getD_cons_zero, List.getD_cons_succ, Act.put, List.setIfInBounds_toArray, List.set_cons_zero, List.set_cons_succ] at hK ⊢
        have hn1 : n < 13 := hn
        clear hn
        clear hF
        have H := Lib.hid hK
        clear hK hT
        go_simp
        exact H.out _ _ (Kept.same _ _) rfl (fun h => by cases h) (hI.more (by omega))
      refine Rg.cons 6 7 rfl (Rg.plain rfl ?_) ?_
      · intro vs W n hn hI hG hT hF K hK
        simp only [Rg.putsD, List.getD_cons_zero, List.getD_cons_succ, Act.put, List.setIfInBounds_toArray, List.set_cons_zero, List.set_cons_succ] at hK ⊢
        have hn1 : n < 13 := hn
        clear hn
        clear hF
        have t5 : vs 5 = .pointer (some ⟨w.heap.size + 1, 0, none⟩) := hT 5 (by decide)
        simp only [t5] at hK
        have H := Lib.hid hK
        clear hK hT
        go_simp
        exact H.out _ _ (Kept.same _ _) rfl (fun h => by cases h) (hI.more (by omega))
      refine Rg.cons 7 8 rfl (Rg.plain rfl ?_) ?_
      · intro vs W n hn hI hG hT hF K hK
        simp only [Rg.putsD, List.getD_cons_zero, List.getD_cons_succ, Act.put, List.setIfInBounds_toArray, List.set_cons_zero, List.set_cons_succ] at hK ⊢
        have hn1 : n < 13 := hn
        clear hn
        clear hF
        have t6 : vs 6 = .pointer (some ⟨w.heap.size + 1, 0, none⟩) := hT 6 (by decide)
        simp only [t6] at hK
        have H := Lib.hid hK
        clear hK hT
        go_simp
        exact H.out _ _ (Kept.same _ _) rfl (fun h => by cases h) (hI.more (by omega))
      refine Rg.cons 8 9 rfl (Rg.plain rfl ?_) ?_
      · intro vs W n hn hI hG hT hF K hK
        simp only [Rg.putsD, List.getD_cons_zero, List.getD_cons_succ, Act.put, List.setIfInBounds_toArray, List.set_cons_zero, List.set_cons_succ] at hK ⊢
        have hn1 : n < 13 := hn
        clear hn
        clear hF
        have t7 : vs 7 = .pointer (some ⟨w.heap.size + 1, 0, none⟩) := hT 7 (by decide)
        have hbk := hG.blk H1.out.k3 (by omega)
        have cb := cell_of_blk hbk 0
        simp at cb
        clear hbk
        simp only [t7] at hK
        have H := Lib.hid hK
        clear hK hT
        go_simp
        exact H.out _ _ (Kept.same _ _) rfl (fun h => by cases h) (hI.more (by omega))
      refine Rg.cons 9 10 rfl (Rg.plain rfl ?_) ?_
      · intro vs W n hn hI hG hT hF K hK
        simp only [Rg.putsD, List.getD_cons_zero, List.getD_cons_succ, Act.put, List.setIfInBounds_toArray, List.set_cons_zero, List.set_cons_succ] at hK ⊢
        have hn1 : n < 13 := hn
        clear hn
        clear hF
        have t8 : vs 8 = .slice (some ⟨g, 0, none⟩) l.length k1 := hT 8 (by decide)
        simp only [t8] at hK
        have H := Lib.hid hK
        clear hK hT
        go_simp
        exact H.out _ _ (Kept.same _ _) rfl (fun h => by cases h) (hI.more (by omega))
      refine Rg.cons 10 11 rfl (Rg.plain rfl ?_) ?_
      · intro vs W n hn hI hG hT hF K hK
        simp only [Rg.putsD, List.getD_cons_zero, List.getD_cons_succ, Act.put, List.setIfInBounds_toArray, List.set_cons_zero, List.set_cons_succ] at hK ⊢
        have hn1 : n < 13 := hn
        clear hn
        clear hF
        have t4 : vs 4 = .pointer (some ⟨sb, 0, none⟩) := hT 4 (by decide)
        have t9 : vs 9 = .int .i64 l.length := hT 9 (by decide)
        simp only [t4, t9] at hK
        have H := Lib.hid hK
        clear hK hT
        go_simp
        refine (next_any sb _ _ _ (by omega) (by omega) (by omega) hI).mono ?_
        rintro e w1 ⟨x, q0, q1, rfl, ht⟩
        exact H.out _ _ ht.2 ⟨x.toNat, by omega, by rw [Int.toNat_of_nonneg q0]; rfl⟩ (fun h => by cases h) (ht.1.more (by omega))
      exact Rg.nil
    · intro vs W hG hI hT hF
      have t0 : vs 0 = .pointer (some ⟨w.heap.size + 1, 0, none⟩) := hT 0 (by decide)
      have t1 : vs 1 = .pointer (some ⟨w.heap.size + 1, 0, none⟩) := hT 1 (by decide)
      have t2 : vs 2 = .pointer (some ⟨w.heap.size + 1, 0, none⟩) := hT 2 (by decide)
      have t3 : vs 3 = .slice (some ⟨g, 0, none⟩) l.length k1 := hT 3 (by decide)
      have t4 : vs 4 = .pointer (some ⟨sb, 0, none⟩) := hT 4 (by decide)
      have t5 : vs 5 = .pointer (some ⟨w.heap.size + 1, 0, none⟩) := hT 5 (by decide)
      have t6 : vs 6 = .pointer (some ⟨w.heap.size + 1, 0, none⟩) := hT 6 (by decide)
      have t7 : vs 7 = .pointer (some ⟨w.heap.size + 1, 0, none⟩) := hT 7 (by decide)
      have t8 : vs 8 = .slice (some ⟨g, 0, none⟩) l.length k1 := hT 8 (by decide)
      have t9 : vs 9 = .int .i64 l.length := hT 9 (by decide)
      have t10 : ∃ j : Nat, j < l.length ∧ vs 10 = .int .i64 j := hT 10 (by decide)
      simp only [List.length_cons, List.length_nil, Nat.reduceAdd, List.range, List.range.loop, List.drop_succ_cons, List.drop_zero, Rg.putsD, List.getD_cons_zero, List.getD_cons_succ, Act.put, List.setIfInBounds_toArray, List.set_cons_zero, List.set_cons_succ, t0, t1, t2, t3, t4, t5, t6, t7, t8, t9]
      clear hT t0 t1 t2 t3 t4 t5 t6 t7 t8 t9
      obtain ⟨j, hj, e10⟩ := t10
      have hIE : IsStream W sb (b + 1 + 11) := hI
      have HW : Hid (CO sb (b + 12) w (.slice (some ⟨g, 0, none⟩) l.length k1) (.slice A2 al.length k2) l al W) :=
        ⟨⟨hIE.more (by omega), H1.out.tk.drew.2.then_ hG⟩, hG.blk H1.out.k2 (by omega), hG.blk H1.out.k3 (by omega), hG.blk H1.out.kn (by omega), kept_own (w := W1.drew) (base := w.heap.size + 3) H1.out.o1 hG (by omega), kept_own (w := W1.drew) (base := w.heap.size + 3) H1.out.o2 hG (by omega), H1.out.s1, H1.out.s2⟩
      have hgW : g < W.heap.size := Nat.lt_of_lt_of_le (show g < W1.heap.size by omega) hG.more
      have E1 := Lib.hid e10
      clear hI hIE hG hF e10 H1
      simp only [E1.out]
      go_wp2_with fail
      obtain ⟨W6, rfl⟩ : ∃ W6 : World, W6 = W := ⟨_, rfl⟩
      obtain ⟨lz, hlz, hlzl⟩ := zlist _ l HW.out.s1
      have HI0 : Hid (RowI encPZ 47 4 sb (b + 12) g l.length k1 (w.heap.size + 3) 0 W6.drew) := ⟨HW.out.tk.1.drew, lz, hlzl, by rw [pzflat, hlz]; exact HW.out.o1⟩
      clear hlz hlzl
      refine Rg.rgL (Kept2 sb g)
        [(fun vs u => vs 0 = .pointer (some ⟨g, j * 4, none⟩)), (fun vs u => vs 1 = .pointer (some ⟨g, j * 4, none⟩)), (fun vs u => vs 2 = .pointer (some ⟨g, j * 4, none⟩)), (fun vs u => vs 3 = .pointer (some ⟨sb, 0, none⟩)), (fun vs u => vs 4 = .pointer (some ⟨g, j * 4, none⟩)), (fun vs u => vs 5 = .pointer (some ⟨g, j * 4, none⟩)), (fun vs u => vs 6 = .pointer (some ⟨g, j * 4, none⟩)), (fun vs u => ∃ s : ByteArray, vs 7 = .string s ∧ s.size ≤ 5), (fun vs u => StrZ W6.heap.size 3 (vs 8) u), (fun vs u => ∃ s : ByteArray, vs 9 = .string s ∧ s.size ≤ 5), (fun vs u => vs 10 = .pointer (some ⟨sb, 0, none⟩)), (fun vs u => vs 11 = .pointer (some ⟨g, j * 4, none⟩)), (fun vs u => vs 12 = .pointer (some ⟨g, j * 4, none⟩)), (fun vs u => vs 13 = .pointer (some ⟨g, j * 4 + 2, none⟩)), (fun vs u => ∃ x : Int, vs 14 = .int .i64 x), (fun vs u => IntSl W6.heap.size 3 (vs 15) u), (fun vs u => ∃ x : Int, vs 16 = .int .i64 x), (fun vs u => vs 17 = .pointer (some ⟨sb, 0, none⟩)), (fun vs u => vs 18 = .pointer (some ⟨g, j * 4, none⟩)), (fun vs u => vs 19 = .pointer (some ⟨g, j * 4, none⟩)), (fun vs u => vs 20 = .pointer (some ⟨g, j * 4 + 3, none⟩)), (fun vs u => ∃ x : Int, vs 21 = .int .i64 x), (fun vs u => IntSl W6.heap.size 3 (vs 22) u), (fun vs u => ∃ x : Int, vs 23 = .int .i64 x), (fun vs u => vs 24 = .pointer (some ⟨g, j * 4, none⟩)), (fun vs u => vs 25 = .pointer (some ⟨g, j * 4, none⟩)), (fun _ _ => True), (fun vs u => vs 27 = .pointer (some ⟨g, j * 4, none⟩)), (fun vs u => vs 28 = .pointer (some ⟨g, j * 4 + 2, none⟩)), (fun _ _ => True)]
        [[], [], [], [], [], [4], [4, 5], [4, 5, 6], [4, 5, 6, 7], [3, 4, 5, 6, 7, 8], [], [], [11], [11, 12], [11, 12, 13], [11, 12, 13, 14], [3, 4, 5, 6, 7, 8, 9, 10, 11, 12, 13, 14, 15], [], [], [18], [18, 19], [18, 19, 20], [18, 19, 20, 21], [3, 4, 5, 6, 7, 8, 9, 10, 11, 12, 13, 14, 15, 16, 17, 18, 19, 20, 21, 22], [0, 3, 4, 5, 6, 7, 8, 9, 10, 11, 12, 13, 14, 15, 16, 17, 18, 19, 20, 21, 22, 23], [0, 3, 4, 5, 6, 7, 8, 9, 10, 11, 12, 13, 14, 15, 16, 17, 18, 19, 20, 21, 22, 23, 24], [0, 3, 4, 5, 6, 7, 8, 9, 10, 11, 12, 13, 14, 15, 16, 17, 18, 19, 20, 21, 22, 23, 24, 25], [0, 1, 3, 4, 5, 6, 7, 8, 9, 10, 11, 12, 13, 14, 15, 16, 17, 18, 19, 20, 21, 22, 23, 24, 25, 26], [0, 1, 3, 4, 5, 6, 7, 8, 9, 10, 11, 12, 13, 14, 15, 16, 17, 18, 19, 20, 21, 22, 23, 24, 25, 26, 27], [0, 1, 3, 4, 5, 6, 7, 8, 9, 10, 11, 12, 13, 14, 15, 16, 17, 18, 19, 20, 21, 22, 23, 24, 25, 26, 27, 28]] [some 75, some 76, some 77, some 78, some 79, some 80, some 81, some 82, some 83, some 84, some 85, some 86, some 87, some 88, some 89, some 90, some 91, some 92, some 93, some 94, some 95, some 96, some 97, some 98, some 99, some 100, none, some 101, some 102, none, some 103, some 104, none] [] (RowI encPZ 47 4 sb (b+12) g l.length k1 (w.heap.size+3)) [[], [], [], [], [], [4], [4, 5], [4, 5, 6], [4, 5, 6, 7], [3, 4, 5, 6, 7, 8], [], [], [11], [11, 12], [11, 12, 13], [11, 12, 13, 14], [3, 4, 5, 6, 7, 8, 9, 10, 11, 12, 13, 14, 15], [], [], [18], [18, 19], [18, 19, 20], [18, 19, 20, 21], [3, 4, 5, 6, 7, 8, 9, 10, 11, 12, 13, 14, 15, 16, 17, 18, 19, 20, 21, 22], [0, 3, 4, 5, 6, 7, 8, 9, 10, 11, 12, 13, 14, 15, 16, 17, 18, 19, 20, 21, 22, 23], [0, 3, 4, 5, 6, 7, 8, 9, 10, 11, 12, 13, 14, 15, 16, 17, 18, 19, 20, 21, 22, 23, 24], [0, 3, 4, 5, 6, 7, 8, 9, 10, 11, 12, 13, 14, 15, 16, 17, 18, 19, 20, 21, 22, 23, 24, 25], [0, 1, 3, 4, 5, 6, 7, 8, 9, 10, 11, 12, 13, 14, 15, 16, 17, 18, 19, 20, 21, 22, 23, 24, 25, 26], [0, 1, 3, 4, 5, 6, 7, 8, 9, 10, 11, 12, 13, 14, 15, 16, 17, 18, 19, 20, 21, 22, 23, 24, 25, 26, 27], [0, 1, 3, 4, 5, 6, 7, 8, 9, 10, 11, 12, 13, 14, 15, 16, 17, 18, 19, 20, 21, 22, 23, 24, 25, 26, 27, 28], [0, 1, 2, 3, 4, 5, 6, 7, 8, 9, 10, 11, 12, 13, 14, 15, 16, 17, 18, 19, 20, 21, 22, 23, 24, 25, 26, 27, 28, 29], [0, 1, 2, 3, 4, 5, 6, 7, 8, 9, 10, 11, 12, 13, 14, 15, 16, 17, 18, 19, 20, 21, 22, 23, 24, 25, 26, 27, 28, 29, 30], [0, 1, 2, 3, 4, 5, 6, 7, 8, 9, 10, 11, 12, 13, 14, 15, 16, 17, 18, 19, 20, 21, 22, 23, 24, 25, 26, 27, 28, 29, 30, 31]]
        (by kernel_rfl) (by decide) (by kernel_rfl) (by kernel_rfl) (by kernel_rfl) (by kernel_rfl) (by kernel_rfl) (fun _ => Kept2.same _ _ _) (fun _ _ _ h k => h.then_ k) (fun _ _ h => h.more) ?_ (HI0.out) ?_ ?_
      · intro t ht vs w w' h hE
        simp only [List.mem_cons, List.not_mem_nil, or_false] at ht
        rcases ht with rfl | rfl | rfl | rfl | rfl | rfl | rfl | rfl | rfl | rfl | rfl | rfl | rfl | rfl | rfl | rfl | rfl | rfl | rfl | rfl | rfl | rfl | rfl | rfl | rfl | rfl | rfl | rfl | rfl | rfl
        · exact h
        · exact h
        · exact h
        · exact h
        · exact h
        · exact h
        · exact h
        · exact h
        · exact h.kept2 hE (by omega) (by omega)
        · exact h
        · exact h
        · exact h
        · exact h
        · exact h
        · exact h
        · exact h.kept2 hE (by omega) (by omega)
        · exact h
        · exact h
        · exact h
        · exact h
        · exact h
        · exact h
        · exact h.kept2 hE (by omega) (by omega)
        · exact h
        · exact h
        · exact h
        · exact h
        · exact h
        · exact h
        · exact h
      ·
        refine Rg.cons 0 1 rfl (Rg.plain rfl ?_) ?_
        · intro vs W n hn hI hG hT hF K hK
          simp only [Rg.putsD, List.getD_cons_zero, List.getD_cons_succ, Act.put, List.setIfInBounds_toArray, List.set_cons_zero, List.set_cons_succ] at hK ⊢
          have hn1 : n < 33 := hn
          clear hn
          clear hF
          have H := Lib.hid hK
          clear hK hT
          go_simp
          exact H.out _ _ (Kept2.same _ _ _) rfl (fun h => by cases h) hI.step
        refine Rg.cons 1 2 rfl (Rg.plain rfl ?_) ?_
        · intro vs W n hn hI hG hT hF K hK
          simp only [Rg.putsD, List.getD_cons_zero, List.getD_cons_succ, Act.put, List.setIfInBounds_toArray, List.set_cons_zero, List.set_cons_succ] at hK ⊢
          have hn1 : n < 33 := hn
          clear hn
          clear hF
          have H := Lib.hid hK
          clear hK hT
          go_simp
          exact H.out _ _ (Kept2.same _ _ _) rfl (fun h => by cases h) hI.step
        refine Rg.cons 2 3 rfl (Rg.plain rfl ?_) ?_
        · intro vs W n hn hI hG hT hF K hK
          simp only [Rg.putsD, List.getD_cons_zero, List.getD_cons_succ, Act.put, List.setIfInBounds_toArray, List.set_cons_zero, List.set_cons_succ] at hK ⊢
          have hn1 : n < 33 := hn
          clear hn
          clear hF
          have H := Lib.hid hK
          clear hK hT
          go_simp
          exact H.out _ _ (Kept2.same _ _ _) rfl (fun h => by cases h) hI.step
        refine Rg.cons 3 4 rfl (Rg.plain rfl ?_) ?_
        · intro vs W n hn hI hG hT hF K hK
          simp only [Rg.putsD, List.getD_cons_zero, List.getD_cons_succ, Act.put, List.setIfInBounds_toArray, List.set_cons_zero, List.set_cons_succ] at hK ⊢
          have hn1 : n < 33 := hn
          clear hn
          clear hF
          have H := Lib.hid hK
          clear hK hT
          go_simp
          exact H.out _ _ (Kept2.same _ _ _) rfl (fun h => by cases h) hI.step
        refine Rg.cons 4 5 rfl (Rg.plain rfl ?_) ?_
        · intro vs W n hn hI hG hT hF K hK
          simp only [Rg.putsD, List.getD_cons_zero, List.getD_cons_succ, Act.put, List.setIfInBounds_toArray, List.set_cons_zero, List.set_cons_succ] at hK ⊢
          have hn1 : n < 33 := hn
          clear hn
          clear hF
          have H := Lib.hid hK
          clear hK hT
          go_simp
          exact H.out _ _ (Kept2.same _ _ _) rfl (fun h => by cases h) hI.step
        refine Rg.cons 5 6 rfl (Rg.plain rfl ?_) ?_
        · intro vs W n hn hI hG hT hF K hK
          simp only [Rg.putsD, List.getD_cons_zero, List.getD_cons_succ, Act.put, List.setIfInBounds_toArray, List.set_cons_zero, List.set_cons_succ] at hK ⊢
          have hn1 : n < 33 := hn
          clear hn
          clear hF
          have t4 : vs 4 = .pointer (some ⟨g, j * 4, none⟩) := hT 4 (by decide)
          simp only [t4] at hK
          have H := Lib.hid hK
          clear hK hT
          go_simp
          exact H.out _ _ (Kept2.same _ _ _) rfl (fun h => by cases h) hI.step
        refine Rg.cons 6 7 rfl (Rg.plain rfl ?_) ?_
        · intro vs W n hn hI hG hT hF K hK
          simp only [Rg.putsD, List.getD_cons_zero, List.getD_cons_succ, Act.put, List.setIfInBounds_toArray, List.set_cons_zero, List.set_cons_succ] at hK ⊢
          have hn1 : n < 33 := hn
          clear hn
          clear hF
          have t5 : vs 5 = .pointer (some ⟨g, j * 4, none⟩) := hT 5 (by decide)
          simp only [t5] at hK
          have H := Lib.hid hK
          clear hK hT
          go_simp
          exact H.out _ _ (Kept2.same _ _ _) rfl (fun h => by cases h) hI.step
        refine Rg.cons 7 8 rfl (Rg.plain rfl ?_) ?_
        · intro vs W n hn hI hG hT hF K hK
          simp only [Rg.putsD, List.getD_cons_zero, List.getD_cons_succ, Act.put, List.setIfInBounds_toArray, List.set_cons_zero, List.set_cons_succ] at hK ⊢
          have hn1 : n < 33 := hn
          clear hn
          clear hF
          have t6 : vs 6 = .pointer (some ⟨g, j * 4, none⟩) := hT 6 (by decide)
          obtain ⟨z1, z2, z3, z4, zz, c0, c1, c2, c3⟩ := pz_row hI rfl hj
          simp only [t6] at hK
          have H := Lib.hid hK
          clear hK hT
          go_simp
          exact H.out _ _ (Kept2.same _ _ _) ⟨_, rfl, zz.1⟩ (fun h => by cases h) hI.step
        refine Rg.cons 8 9 rfl (Rg.plain rfl ?_) ?_
        · intro vs W n hn hI hG hT hF K hK
          simp only [Rg.putsD, List.getD_cons_zero, List.getD_cons_succ, Act.put, List.setIfInBounds_toArray, List.set_cons_zero, List.set_cons_succ] at hK ⊢
          have hn1 : n < 33 := hn
          clear hn
          clear hF
          have t7 : ∃ s : ByteArray, vs 7 = .string s ∧ s.size ≤ 5 := hT 7 (by decide)
          obtain ⟨s7, e7, z7⟩ := t7
          simp only [e7] at hK
          have H := Lib.hid hK
          clear hK hT
          go_simp
          exact H.out _ _ (Kept2.alloc _) (StrZ.new [s7, ⟨#[]⟩, ⟨#[98]⟩] rfl hG.more (by intro s hs; simp at hs; rcases hs with rfl | rfl | rfl; exact z7; decide; decide)) (fun h => by cases h) (hI.alloc _)
        refine Rg.cons 9 10 rfl (Rg.plain rfl ?_) ?_
        · intro vs W n hn hI hG hT hF K hK
          simp only [Rg.putsD, List.getD_cons_zero, List.getD_cons_succ, Act.put, List.setIfInBounds_toArray, List.set_cons_zero, List.set_cons_succ] at hK ⊢
          have hn1 : n < 33 := hn
          clear hn
          clear hF
          have t3 : vs 3 = .pointer (some ⟨sb, 0, none⟩) := hT 3 (by decide)
          have t8 : StrZ W6.heap.size 3 (vs 8) W := hT 8 (by decide)
          obtain ⟨b8, xs8, n8, c8, e8, k8, f8⟩ := t8
          have N8 := Lib.hid (And.intro n8 k8)
          clear n8 k8
          simp only [e8] at hK
          simp only [t3] at hK
          have H := Lib.hid hK
          clear hK hT
          go_simp
          refine (some_blk N8.out.2 N8.out.1 (by decide) (by decide) (by omega) (by omega) hI.1).mono ?_
          rintro e w1 ⟨x, hx, rfl, ht⟩
          exact H.out _ _ (.of_took ht) ⟨_, rfl, f8 _ hx⟩ (fun h => by cases h) (hI.took ht (by omega))
        refine Rg.cons 10 11 rfl (Rg.plain rfl ?_) ?_
        · intro vs W n hn hI hG hT hF K hK
          simp only [Rg.putsD, List.getD_cons_zero, List.getD_cons_succ, Act.put, List.setIfInBounds_toArray, List.set_cons_zero, List.set_cons_succ] at hK ⊢
          have hn1 : n < 33 := hn
          clear hn
          clear hF
          have H := Lib.hid hK
          clear hK hT
          go_simp
          exact H.out _ _ (Kept2.same _ _ _) rfl (fun h => by cases h) hI.step
        refine Rg.cons 11 12 rfl (Rg.plain rfl ?_) ?_
        · intro vs W n hn hI hG hT hF K hK
          simp only [Rg.putsD, List.getD_cons_zero, List.getD_cons_succ, Act.put, List.setIfInBounds_toArray, List.set_cons_zero, List.set_cons_succ] at hK ⊢
          have hn1 : n < 33 := hn
          clear hn
          clear hF
          have H := Lib.hid hK
          clear hK hT
          go_simp
          exact H.out _ _ (Kept2.same _ _ _) rfl (fun h => by cases h) hI.step
        refine Rg.cons 12 13 rfl (Rg.plain rfl ?_) ?_
        · intro vs W n hn hI hG hT hF K hK
          simp only [Rg.putsD, List.getD_cons_zero, List.getD_cons_succ, Act.put, List.setIfInBounds_toArray, List.set_cons_zero, List.set_cons_succ] at hK ⊢
          have hn1 : n < 33 := hn
          clear hn
          clear hF
          have t11 : vs 11 = .pointer (some ⟨g, j * 4, none⟩) := hT 11 (by decide)
          simp only [t11] at hK
          have H := Lib.hid hK
          clear hK hT
          go_simp
          exact H.out _ _ (Kept2.same _ _ _) rfl (fun h => by cases h) hI.step
        refine Rg.cons 13 14 rfl (Rg.plain rfl ?_) ?_
        · intro vs W n hn hI hG hT hF K hK
          simp only [Rg.putsD, List.getD_cons_zero, List.getD_cons_succ, Act.put, List.setIfInBounds_toArray, List.set_cons_zero, List.set_cons_succ] at hK ⊢
          have hn1 : n < 33 := hn
          clear hn
          clear hF
          have t12 : vs 12 = .pointer (some ⟨g, j * 4, none⟩) := hT 12 (by decide)
          simp only [t12] at hK
          have H := Lib.hid hK
          clear hK hT
          go_simp
          exact H.out _ _ (Kept2.same _ _ _) rfl (fun h => by cases h) hI.step
        refine Rg.cons 14 15 rfl (Rg.plain rfl ?_) ?_
        · intro vs W n hn hI hG hT hF K hK
          simp only [Rg.putsD, List.getD_cons_zero, List.getD_cons_succ, Act.put, List.setIfInBounds_toArray, List.set_cons_zero, List.set_cons_succ] at hK ⊢
          have hn1 : n < 33 := hn
          clear hn
          clear hF
          have t13 : vs 13 = .pointer (some ⟨g, j * 4 + 2, none⟩) := hT 13 (by decide)
          obtain ⟨z1, z2, z3, z4, zz, c0, c1, c2, c3⟩ := pz_row hI rfl hj
          simp only [t13] at hK
          have H := Lib.hid hK
          clear hK hT
          go_simp
          exact H.out _ _ (Kept2.same _ _ _) ⟨_, rfl⟩ (fun h => by cases h) hI.step
        refine Rg.cons 15 16 rfl (Rg.plain rfl ?_) ?_
        · intro vs W n hn hI hG hT hF K hK
          simp only [Rg.putsD, List.getD_cons_zero, List.getD_cons_succ, Act.put, List.setIfInBounds_toArray, List.set_cons_zero, List.set_cons_succ] at hK ⊢
          have hn1 : n < 33 := hn
          clear hn
          clear hF
          have t14 : ∃ x : Int, vs 14 = .int .i64 x := hT 14 (by decide)
          obtain ⟨x14, e14⟩ := t14
          simp only [e14] at hK
          have H := Lib.hid hK
          clear hK hT
          go_simp
          exact H.out _ _ (Kept2.alloc _) (IntSl.new [x14, 0, 7] rfl hG.more) (fun h => by cases h) (hI.alloc _)
        refine Rg.cons 16 17 rfl (Rg.plain rfl ?_) ?_
        · intro vs W n hn hI hG hT hF K hK
          simp only [Rg.putsD, List.getD_cons_zero, List.getD_cons_succ, Act.put, List.setIfInBounds_toArray, List.set_cons_zero, List.set_cons_succ] at hK ⊢
          have hn1 : n < 33 := hn
          clear hn
          clear hF
          have t10 : vs 10 = .pointer (some ⟨sb, 0, none⟩) := hT 10 (by decide)
          have t15 : IntSl W6.heap.size 3 (vs 15) W := hT 15 (by decide)
          obtain ⟨b15, xs15, n15, c15, e15, k15⟩ := t15
          have N15 := Lib.hid (And.intro n15 k15)
          clear n15 k15
          simp only [e15] at hK
          simp only [t10] at hK
          have H := Lib.hid hK
          clear hK hT
          go_simp
          refine (pick_blk N15.out.2 N15.out.1 (by decide) (by decide) (by omega) (by omega) hI.1).mono ?_
          rintro e w1 ⟨x, _, rfl, ht⟩
          exact H.out _ _ (.of_took ht) ⟨_, rfl⟩ (fun h => by cases h) (hI.took ht (by omega))
        refine Rg.cons 17 18 rfl (Rg.plain rfl ?_) ?_
        · intro vs W n hn hI hG hT hF K hK
          simp only [Rg.putsD, List.getD_cons_zero, List.getD_cons_succ, Act.put, List.setIfInBounds_toArray, List.set_cons_zero, List.set_cons_succ] at hK ⊢
          have hn1 : n < 33 := hn
          clear hn
          clear hF
          have H := Lib.hid hK
          clear hK hT
          go_simp
          exact H.out _ _ (Kept2.same _ _ _) rfl (fun h => by cases h) hI.step
        refine Rg.cons 18 19 rfl (Rg.plain rfl ?_) ?_
        · intro vs W n hn hI hG hT hF K hK
          simp only [Rg.putsD, List.getD_cons_zero, List.getD_cons_succ, Act.put, List.setIfInBounds_toArray, List.set_cons_zero, List.set_cons_succ] at hK ⊢
          have hn1 : n < 33 := hn
          clear hn
          clear hF
          have H := Lib.hid hK
          clear hK hT
          go_simp
          exact H.out _ _ (Kept2.same _ _ _) rfl (fun h => by cases h) hI.step
        refine Rg.cons 19 20 rfl (Rg.plain rfl ?_) ?_
        · intro vs W n hn hI hG hT hF K hK
          simp only [Rg.putsD, List.getD_cons_zero, List.getD_cons_succ, Act.put, List.setIfInBounds_toArray, List.set_cons_zero, List.set_cons_succ] at hK ⊢
          have hn1 : n < 33 := hn
          clear hn
          clear hF
          have t18 : vs 18 = .pointer (some ⟨g, j * 4, none⟩) := hT 18 (by decide)
          simp only [t18] at hK
          have H := Lib.hid hK
          clear hK hT
          go_simp
          exact H.out _ _ (Kept2.same _ _ _) rfl (fun h => by cases h) hI.step
        refine Rg.cons 20 21 rfl (Rg.plain rfl ?_) ?_
        · intro vs W n hn hI hG hT hF K hK
          simp only [Rg.putsD, List.getD_cons_zero, List.getD_cons_succ, Act.put, List.setIfInBounds_toArray, List.set_cons_zero, List.set_cons_succ] at hK ⊢
          have hn1 : n < 33 := hn
          clear hn
          clear hF
          have t19 : vs 19 = .pointer (some ⟨g, j * 4, none⟩) := hT 19 (by decide)
          simp only [t19] at hK
          have H := Lib.hid hK
          clear hK hT
          go_simp
          exact H.out _ _ (Kept2.same _ _ _) rfl (fun h => by cases h) hI.step
        refine Rg.cons 21 22 rfl (Rg.plain rfl ?_) ?_
        · intro vs W n hn hI hG hT hF K hK
          simp only [Rg.putsD, List.getD_cons_zero, List.getD_cons_succ, Act.put, List.setIfInBounds_toArray, List.set_cons_zero, List.set_cons_succ] at hK ⊢
          have hn1 : n < 33 := hn
          clear hn
          clear hF
          have t20 : vs 20 = .pointer (some ⟨g, j * 4 + 3, none⟩) := hT 20 (by decide)
          obtain ⟨z1, z2, z3, z4, zz, c0, c1, c2, c3⟩ := pz_row hI rfl hj
          simp only [t20] at hK
          have H := Lib.hid hK
          clear hK hT
          go_simp
          exact H.out _ _ (Kept2.same _ _ _) ⟨_, rfl⟩ (fun h => by cases h) hI.step
        refine Rg.cons 22 23 rfl (Rg.plain rfl ?_) ?_
        · intro vs W n hn hI hG hT hF K hK
          simp only [Rg.putsD, List.getD_cons_zero, List.getD_cons_succ, Act.put, List.setIfInBounds_toArray, List.set_cons_zero, List.set_cons_succ] at hK ⊢
          have hn1 : n < 33 := hn
          clear hn
          clear hF
          have t21 : ∃ x : Int, vs 21 = .int .i64 x := hT 21 (by decide)
          obtain ⟨x21, e21⟩ := t21
          simp only [e21] at hK
          have H := Lib.hid hK
          clear hK hT
          go_simp
          exact H.out _ _ (Kept2.alloc _) (IntSl.new [x21, (-1), 720000001] rfl hG.more) (fun h => by cases h) (hI.alloc _)
        refine Rg.cons 23 24 rfl (Rg.plain rfl ?_) ?_
        · intro vs W n hn hI hG hT hF K hK
          simp only [Rg.putsD, List.getD_cons_zero, List.getD_cons_succ, Act.put, List.setIfInBounds_toArray, List.set_cons_zero, List.set_cons_succ] at hK ⊢
          have hn1 : n < 33 := hn
          clear hn
          clear hF
          have t17 : vs 17 = .pointer (some ⟨sb, 0, none⟩) := hT 17 (by decide)
          have t22 : IntSl W6.heap.size 3 (vs 22) W := hT 22 (by decide)
          obtain ⟨b22, xs22, n22, c22, e22, k22⟩ := t22
          have N22 := Lib.hid (And.intro n22 k22)
          clear n22 k22
          simp only [e22] at hK
          simp only [t17] at hK
          have H := Lib.hid hK
          clear hK hT
          go_simp
          refine (pick_blk N22.out.2 N22.out.1 (by decide) (by decide) (by omega) (by omega) hI.1).mono ?_
          rintro e w1 ⟨x, _, rfl, ht⟩
          exact H.out _ _ (.of_took ht) ⟨_, rfl⟩ (fun h => by cases h) (hI.took ht (by omega))
        refine Rg.cons 24 25 rfl (Rg.plain rfl ?_) ?_
        · intro vs W n hn hI hG hT hF K hK
          simp only [Rg.putsD, List.getD_cons_zero, List.getD_cons_succ, Act.put, List.setIfInBounds_toArray, List.set_cons_zero, List.set_cons_succ] at hK ⊢
          have hn1 : n < 33 := hn
          clear hn
          clear hF
          have t0 : vs 0 = .pointer (some ⟨g, j * 4, none⟩) := hT 0 (by decide)
          simp only [t0] at hK
          have H := Lib.hid hK
          clear hK hT
          go_simp
          exact H.out _ _ (Kept2.same _ _ _) rfl (fun h => by cases h) hI.step
        refine Rg.cons 25 26 rfl (Rg.plain rfl ?_) ?_
        · intro vs W n hn hI hG hT hF K hK
          simp only [Rg.putsD, List.getD_cons_zero, List.getD_cons_succ, Act.put, List.setIfInBounds_toArray, List.set_cons_zero, List.set_cons_succ] at hK ⊢
          have hn1 : n < 33 := hn
          clear hn
          clear hF
          have t24 : vs 24 = .pointer (some ⟨g, j * 4, none⟩) := hT 24 (by decide)
          simp only [t24] at hK
          have H := Lib.hid hK
          clear hK hT
          go_simp
          exact H.out _ _ (Kept2.same _ _ _) rfl (fun h => by cases h) hI.step
        refine Rg.cons 26 27 rfl (Rg.plain rfl ?_) ?_
        · intro vs W n hn hI hG hT hF K hK
          simp only [Rg.putsD, List.getD_cons_zero, List.getD_cons_succ, Act.put, List.setIfInBounds_toArray, List.set_cons_zero, List.set_cons_succ] at hK ⊢
          have hn1 : n < 33 := hn
          clear hn
          clear hF
          have t25 : vs 25 = .pointer (some ⟨g, j * 4, none⟩) := hT 25 (by decide)
          have t9 : ∃ s : ByteArray, vs 9 = .string s ∧ s.size ≤ 5 := hT 9 (by decide)
          obtain ⟨s9, e9, z9⟩ := t9
          simp only [e9] at hK
          obtain ⟨z1, z2, z3, z4, zz, c0, c1, c2, c3⟩ := pz_row hI rfl hj
          have fz := hI.frozen (j * 4)
          simp only [t25] at hK
          have H := Lib.hid hK
          clear hK hT
          go_simp
          exact H.out (.bool true) _ ((Kept2.same sb g W).store (p := ⟨g, _, none⟩) rfl _) trivial (fun h => by cases h) (hI.store (j := 0) pz_typ hj (by decide) _ (by omega) (pz_str0 _ z9))
        refine Rg.cons 27 28 rfl (Rg.plain rfl ?_) ?_
        · intro vs W n hn hI hG hT hF K hK
          simp only [Rg.putsD, List.getD_cons_zero, List.getD_cons_succ, Act.put, List.setIfInBounds_toArray, List.set_cons_zero, List.set_cons_succ] at hK ⊢
          have hn1 : n < 33 := hn
          clear hn
          clear hF
          have t1 : vs 1 = .pointer (some ⟨g, j * 4, none⟩) := hT 1 (by decide)
          simp only [t1] at hK
          have H := Lib.hid hK
          clear hK hT
          go_simp
          exact H.out _ _ (Kept2.same _ _ _) rfl (fun h => by cases h) hI.step
        refine Rg.cons 28 29 rfl (Rg.plain rfl ?_) ?_
        · intro vs W n hn hI hG hT hF K hK
          simp only [Rg.putsD, List.getD_cons_zero, List.getD_cons_succ, Act.put, List.setIfInBounds_toArray, List.set_cons_zero, List.set_cons_succ] at hK ⊢
          have hn1 : n < 33 := hn
          clear hn
          clear hF
          have t27 : vs 27 = .pointer (some ⟨g, j * 4, none⟩) := hT 27 (by decide)
          simp only [t27] at hK
          have H := Lib.hid hK
          clear hK hT
          go_simp
          exact H.out _ _ (Kept2.same _ _ _) rfl (fun h => by cases h) hI.step
        refine Rg.cons 29 30 rfl (Rg.plain rfl ?_) ?_
        · intro vs W n hn hI hG hT hF K hK
          simp only [Rg.putsD, List.getD_cons_zero, List.getD_cons_succ, Act.put, List.setIfInBounds_toArray, List.set_cons_zero, List.set_cons_succ] at hK ⊢
          have hn1 : n < 33 := hn
          clear hn
          clear hF
          have t28 : vs 28 = .pointer (some ⟨g, j * 4 + 2, none⟩) := hT 28 (by decide)
          have t16 : ∃ x : Int, vs 16 = .int .i64 x := hT 16 (by decide)
          obtain ⟨x16, e16⟩ := t16
          simp only [e16] at hK
          obtain ⟨z1, z2, z3, z4, zz, c0, c1, c2, c3⟩ := pz_row hI rfl hj
          have fz := hI.frozen (j * 4 + 2)
          simp only [t28] at hK
          have H := Lib.hid hK
          clear hK hT
          go_simp
          exact H.out (.bool true) _ ((Kept2.same sb g W).store (p := ⟨g, _, none⟩) rfl _) trivial (fun h => by cases h) (hI.store (j := 2) pz_typ hj (by decide) _ (by omega) (pz_int2 _))
        exact Rg.nil
      · intro vs W hG hI hT hF
        have t0 : vs 0 = .pointer (some ⟨g, j * 4, none⟩) := hT 0 (by decide)
        have t1 : vs 1 = .pointer (some ⟨g, j * 4, none⟩) := hT 1 (by decide)
        have t2 : vs 2 = .pointer (some ⟨g, j * 4, none⟩) := hT 2 (by decide)
        have t3 : vs 3 = .pointer (some ⟨sb, 0, none⟩) := hT 3 (by decide)
        have t4 : vs 4 = .pointer (some ⟨g, j * 4, none⟩) := hT 4 (by decide)
        have t5 : vs 5 = .pointer (some ⟨g, j * 4, none⟩) := hT 5 (by decide)
        have t6 : vs 6 = .pointer (some ⟨g, j * 4, none⟩) := hT 6 (by decide)
        have t7 : ∃ s : ByteArray, vs 7 = .string s ∧ s.size ≤ 5 := hT 7 (by decide)
        have t8 : StrZ W6.heap.size 3 (vs 8) W := hT 8 (by decide)
        have t9 : ∃ s : ByteArray, vs 9 = .string s ∧ s.size ≤ 5 := hT 9 (by decide)
        have t10 : vs 10 = .pointer (some ⟨sb, 0, none⟩) := hT 10 (by decide)
        have t11 : vs 11 = .pointer (some ⟨g, j * 4, none⟩) := hT 11 (by decide)
        have t12 : vs 12 = .pointer (some ⟨g, j * 4, none⟩) := hT 12 (by decide)
        have t13 : vs 13 = .pointer (some ⟨g, j * 4 + 2, none⟩) := hT 13 (by decide)
        have t14 : ∃ x : Int, vs 14 = .int .i64 x := hT 14 (by decide)
        have t15 : IntSl W6.heap.size 3 (vs 15) W := hT 15 (by decide)
        have t16 : ∃ x : Int, vs 16 = .int .i64 x := hT 16 (by decide)
        have t17 : vs 17 = .pointer (some ⟨sb, 0, none⟩) := hT 17 (by decide)
        have t18 : vs 18 = .pointer (some ⟨g, j * 4, none⟩) := hT 18 (by decide)
        have t19 : vs 19 = .pointer (some ⟨g, j * 4, none⟩) := hT 19 (by decide)
        have t20 : vs 20 = .pointer (some ⟨g, j * 4 + 3, none⟩) := hT 20 (by decide)
        have t21 : ∃ x : Int, vs 21 = .int .i64 x := hT 21 (by decide)
        have t22 : IntSl W6.heap.size 3 (vs 22) W := hT 22 (by decide)
        have t23 : ∃ x : Int, vs 23 = .int .i64 x := hT 23 (by decide)
        have t24 : vs 24 = .pointer (some ⟨g, j * 4, none⟩) := hT 24 (by decide)
        have t25 : vs 25 = .pointer (some ⟨g, j * 4, none⟩) := hT 25 (by decide)
        have t27 : vs 27 = .pointer (some ⟨g, j * 4, none⟩) := hT 27 (by decide)
        have t28 : vs 28 = .pointer (some ⟨g, j * 4 + 2, none⟩) := hT 28 (by decide)
        simp only [List.length_cons, List.length_nil, Nat.reduceAdd, List.range, List.range.loop, List.drop_succ_cons, List.drop_zero, Rg.putsD, List.getD_cons_zero, List.getD_cons_succ, Act.put, List.setIfInBounds_toArray, List.set_cons_zero, List.set_cons_succ, t0, t1, t2, t3, t4, t5, t6, t10, t11, t12, t13, t17, t18, t19, t20, t24, t25, t27, t28]
        clear hT t0 t1 t2 t3 t4 t5 t6 t10 t11 t12 t13 t17 t18 t19 t20 t24 t25 t27 t28
        obtain ⟨x23, e23⟩ := t23
        have hIv : RowI encPZ 47 4 sb (b + 12) g l.length k1 (w.heap.size + 3) 30 W := hI
        obtain ⟨z1, z2, z3, z4, zz, c0, c1, c2, c3⟩ := pz_row hIv rfl hj
        have fz := hIv.frozen (j * 4 + 3)
        have hst := hIv.store pz_typ hj (j := 3) (by decide) (.int .i64 x23) (by omega) (pz_int3 x23)
        have HF : Hid (∃ l' al', l'.length = l.length ∧ al'.length = al.length ∧ CO sb (b + 200) w (.slice (some ⟨g, 0, none⟩) l.length k1) (.slice A2 al.length k2) l' al' (W.setCell ⟨g, j * 4 + 3, none⟩ (.int .i64 x23))) := by
          obtain ⟨hs2, l2, hl2, ho2⟩ := hst
          refine ⟨l2.map Subtype.val, al, by rw [List.length_map, hl2], rfl, ⟨hs2.more (by omega), (kept_of2 HW.out.tk.drew.2 hG (by omega)).store (.inr (by simp; omega)) _⟩, blk_far (hG.blk HW.out.k2 (by omega) (by omega)) (by simp; omega) _, blk_far (hG.blk HW.out.k3 (by omega) (by omega)) (by simp; omega) _, blk_far (hG.blk HW.out.kn (by omega) (by omega)) (by simp; omega) _, ?_, ?_, ?_, HW.out.s2⟩
          · rw [← pzflat, List.length_map, hl2]
            exact ho2
          · exact own_kept2 (w := W6.drew) HW.out.o2 (hG.store (p := ⟨g, _, none⟩) rfl _) (by omega) (own_apart HW.out.o2 HW.out.o1 (by decide))
          · intro p hp
            obtain ⟨q, _, rfl⟩ := List.mem_map.mp hp
            exact q.2
        have E23 := Lib.hid e23
        clear hst hI hIv hG hF e23 HW HI0
        simp only [E23.out]
        go_wp2_with fail
        refine bodyPost_end (v := .tuple #[]) (by unfold results; simp only [Tryz.results20]; go_simp) rfl ⟨rfl, HF.out⟩
  · have hd1 : 0 < al.length := by omega
    go_wp2_with fail
    refine (flip_any sb b _ _ (by omega) (by omega) (by omega) H.out.tk.1).mono ?_
    rintro e W1 ⟨f, rfl, t4⟩
    have H1 : Hid (CO sb (b + 1) w (.slice A1 l.length k1) (.slice A2 al.length k2) l al W1) := H.out.took hlt t4
    clear t4 H c0 c1 hl3
    have hl3 := lt_of_blk H1.out.k3
    cases f
    · go_upto_region 3 with (fail)
      clear hl3
      have hsz1 : w.heap.size + 1 + 1 < W1.heap.size := lt_of_blk H1.out.kn
      obtain ⟨c0, c1, _, _⟩ := blk2 H1.out.k3
      have hl3 := lt_of_blk H1.out.k3
      by_cases hl0 : l.length = 0
      · have hd0 : decide (0 < l.length) = false := decide_eq_false (by omega)
        go_wp2_with fail
        refine bodyPost_end (v := .tuple #[]) (by unfold results; simp only [Tryz.results20]; go_simp) rfl ⟨rfl, l, al, rfl, rfl, H1.out.more (by omega)⟩
      obtain ⟨g, rfl, hgl, hgb⟩ : ∃ g : Nat, A1 = some ⟨g, 0, none⟩ ∧ g < W1.heap.size ∧ w.heap.size + 3 ≤ g := by
        obtain ⟨A', c', e, hh⟩ := own_form H1.out.o1
        cases e
        exact hh (by omega)
      have hd0 : 0 < l.length := by omega
      clear hl0 HA1 HA2
      go_wp2_with fail
      clear c0 c1 hl3
      refine Rg.rgL (Kept sb)
        [(fun vs u => vs 0 = .pointer (some ⟨w.heap.size + 1, 0, none⟩)), (fun vs u => vs 1 = .pointer (some ⟨w.heap.size + 1, 0, none⟩)), (fun vs u => vs 2 = .pointer (some ⟨w.heap.size + 1, 0, none⟩)), (fun vs u => vs 3 = .slice (some ⟨g, 0, none⟩) l.length k1), (fun vs u => vs 4 = .pointer (some ⟨sb, 0, none⟩)), (fun vs u => vs 5 = .pointer (some ⟨w.heap.size + 1, 0, none⟩)), (fun vs u => vs 6 = .pointer (some ⟨w.heap.size + 1, 0, none⟩)), (fun vs u => vs 7 = .pointer (some ⟨w.heap.size + 1, 0, none⟩)), (fun vs u => vs 8 = .slice (some ⟨g, 0, none⟩) l.length k1), (fun vs u => vs 9 = .int .i64 l.length), (fun vs u => ∃ j : Nat, j < l.length ∧ vs 10 = .int .i64 j)]
        [[], [0], [0, 1], [0, 1, 2], [], [], [5], [5, 6], [5, 6, 7], [5, 6, 7, 8], [4, 5, 6, 7, 8, 9]] [some 63, some 64, some 65, some 66, some 67, some 68, some 69, some 70, some 71, some 72, some 73, some 74, some 5] [] (fun n W => IsStream W sb (b+1 + n)) [[], [0], [0, 1], [0, 1, 2], [], [], [5], [5, 6], [5, 6, 7], [5, 6, 7, 8], [4, 5, 6, 7, 8, 9], [0, 1, 2, 3, 4, 5, 6, 7, 8, 9, 10], [0, 1, 2, 3, 4, 5, 6, 7, 8, 9, 10, 11]]
        (by kernel_rfl) (by decide) (by kernel_rfl) (by kernel_rfl) (by kernel_rfl) (by kernel_rfl) (by kernel_rfl) (fun _ => Kept.same _ _) (fun _ _ _ h k => h.then_ k) (fun _ _ h => h.more) ?_ (H1.out.tk.1.drew) ?_ ?_
      · intro t ht vs w w' h hE
        simp only [List.mem_cons, List.not_mem_nil, or_false] at ht
        rcases ht with rfl | rfl | rfl | rfl | rfl | rfl | rfl | rfl | rfl | rfl | rfl
        · exact h
        · exact h
        · exact h
        · exact h
        · exact h
        · exact h
        · exact h
        · exact h
        · exact h
        · exact h
        · exact h
      ·
        refine Rg.cons 0 1 rfl (Rg.plain rfl ?_) ?_
        · intro vs W n hn hI hG hT hF K hK
          simp only [Rg.putsD, List.getD_cons_zero, List.getD_cons_succ, Act.put, List.setIfInBounds_toArray, List.set_cons_zero, List.set_cons_succ] at hK ⊢
          have hn1 : n < 13 := hn
          clear hn
          clear hF
          have H := Lib.hid hK
          clear hK hT
          go_simp
          exact H.out _ _ (Kept.same _ _) rfl (fun h => by cases h) (hI.more (by omega))
        refine Rg.cons 1 2 rfl (Rg.plain rfl ?_) ?_
        · intro vs W n hn hI hG hT hF K hK
          simp only [Rg.putsD, List.getD_cons_zero, List.getD_cons_succ, Act.put, List.setIfInBounds_toArray, List.set_cons_zero, List.set_cons_succ] at hK ⊢
          have hn1 : n < 13 := hn
          clear hn
          clear hF
          have t0 : vs 0 = .pointer (some ⟨w.heap.size + 1, 0, none⟩) := hT 0 (by decide)
          simp only [t0] at hK
          have H := Lib.hid hK
          clear hK hT
          go_simp
          exact H.out _ _ (Kept.same _ _) rfl (fun h => by cases h) (hI.more (by omega))
        refine Rg.cons 2 3 rfl (Rg.plain rfl ?_) ?_
        · intro vs W n hn hI hG hT hF K hK
          simp only [Rg.putsD, List.getD_cons_zero, List.getD_cons_succ, Act.put, List.setIfInBounds_toArray, List.set_cons_zero, List.set_cons_succ] at hK ⊢
          have hn1 : n < 13 := hn
          clear hn
          clear hF
          have t1 : vs 1 = .pointer (some ⟨w.heap.size + 1, 0, none⟩) := hT 1 (by decide)
          simp only [t1] at hK
          have H := Lib.hid hK
          clear hK hT
          go_simp
          exact H.out _ _ (Kept.same _ _) rfl (fun h => by cases h) (hI.more (by omega))
        refine Rg.cons 3 4 rfl (Rg.plain rfl ?_) ?_
        · intro vs W n hn hI hG hT hF K hK
          simp only [Rg.putsD, List.getD_cons_zero, List.getD_cons_succ, Act.put, List.setIfInBounds_toArray, List.set_cons_zero, List.set_cons_succ] at hK ⊢
          have hn1 : n < 13 := hn
          clear hn
          clear hF
          have t2 : vs 2 = .pointer (some ⟨w.heap.size + 1, 0, none⟩) := hT 2 (by decide)
          have hbk := hG.blk H1.out.k3 (by omega)
          have cb := cell_of_blk hbk 0
          simp at cb
          clear hbk
          simp only [t2] at hK
          have H := Lib.hid hK
          clear hK hT
          go_simp
          exact H.out _ _ (Kept.same _ _) rfl (fun h => by cases h) (hI.more (by omega))
        refine Rg.cons 4 5 rfl (Rg.plain rfl ?_) ?_
        · intro vs W n hn hI hG hT hF K hK
          simp only [Rg.putsD, List.getD_cons_zero, List.getD_cons_succ, Act.put, List.setIfInBounds_toArray, List.set_cons_zero, List.set_cons_succ] at hK ⊢
          have hn1 : n < 13 := hn
          clear hn
          clear hF
          have H := Lib.hid hK
          clear hK hT
          go_simp
          exact H.out _ _ (Kept.same _ _) rfl (fun h => by cases h) (hI.more (by omega))
        refine Rg.cons 5 6 rfl (Rg.plain rfl ?_) ?_
        · intro vs W n hn hI hG hT hF K hK
          simp only [Rg.putsD, List.getD_cons_zero, List.getD_cons_succ, Act.put, List.setIfInBounds_toArray, List.set_cons_zero, List.set_cons_succ] at hK ⊢
          have hn1 : n < 13 := hn
          clear hn
          clear hF
          have H := Lib.hid hK
          clear hK hT
          go_simp
          exact H.out _ _ (Kept.same _ _) rfl (fun h => by cases h) (hI.more (by omega))
        refine Rg.cons 6 7 rfl (Rg.plain rfl ?_) ?_
        · intro vs W n hn hI hG hT hF K hK
          simp only [Rg.putsD, List.getD_cons_zero, List.getD_cons_succ, Act.put, List.setIfInBounds_toArray, List.set_cons_zero, List.set_cons_succ] at hK ⊢
          have hn1 : n < 13 := hn
          clear hn
          clear hF
          have t5 : vs 5 = .pointer (some ⟨w.heap.size + 1, 0, none⟩) := hT 5 (by decide)
          simp only [t5] at hK
          have H := Lib.hid hK
          clear hK hT
          go_simp
          exact H.out _ _ (Kept.same _ _) rfl (fun h => by cases h) (hI.more (by omega))
        refine Rg.cons 7 8 rfl (Rg.plain rfl ?_) ?_
        · intro vs W n hn hI hG hT hF K hK
          simp only [Rg.putsD, List.getD_cons_zero, List.getD_cons_succ, Act.put, List.setIfInBounds_toArray, List.set_cons_zero, List.set_cons_succ] at hK ⊢
          have hn1 : n < 13 := hn
          clear hn
          clear hF
          have t6 : vs 6 = .pointer (some ⟨w.heap.size + 1, 0, none⟩) := hT 6 (by decide)
          simp only [t6] at hK
          have H := Lib.hid hK
          clear hK hT
          go_simp
          exact H.out _ _ (Kept.same _ _) rfl (fun h => by cases h) (hI.more (by omega))
        refine Rg.cons 8 9 rfl (Rg.plain rfl ?_) ?_
        · intro vs W n hn hI hG hT hF K hK
          simp only [Rg.putsD, List.getD_cons_zero, List.getD_cons_succ, Act.put, List.setIfInBounds_toArray, List.set_cons_zero, List.set_cons_succ] at hK ⊢
          have hn1 : n < 13 := hn
          clear hn
          clear hF
          have t7 : vs 7 = .pointer (some ⟨w.heap.size + 1, 0, none⟩) := hT 7 (by decide)
          have hbk := hG.blk H1.out.k3 (by omega)
          have cb := cell_of_blk hbk 0
          simp at cb
          clear hbk
          simp only [t7] at hK
          have H := Lib.hid hK
          clear hK hT
          go_simp
          exact H.out _ _ (Kept.same _ _) rfl (fun h => by cases h) (hI.more (by omega))
        refine Rg.cons 9 10 rfl (Rg.plain rfl ?_) ?_
        · intro vs W n hn hI hG hT hF K hK
          simp only [Rg.putsD, List.getD_cons_zero, List.getD_cons_succ, Act.put, List.setIfInBounds_toArray, List.set_cons_zero, List.set_cons_succ] at hK ⊢
          have hn1 : n < 13 := hn
          clear hn
          clear hF
          have t8 : vs 8 = .slice (some ⟨g, 0, none⟩) l.length k1 := hT 8 (by decide)
          simp only [t8] at hK
          have H := Lib.hid hK
          clear hK hT
          go_simp
          exact H.out _ _ (Kept.same _ _) rfl (fun h => by cases h) (hI.more (by omega))
        refine Rg.cons 10 11 rfl (Rg.plain rfl ?_) ?_
        · intro vs W n hn hI hG hT hF K hK
          simp only [Rg.putsD, List.getD_cons_zero, List.getD_cons_succ, Act.put, List.setIfInBounds_toArray, List.set_cons_zero, List.set_cons_succ] at hK ⊢
          have hn1 : n < 13 := hn
          clear hn
          clear hF
          have t4 : vs 4 = .pointer (some ⟨sb, 0, none⟩) := hT 4 (by decide)
          have t9 : vs 9 = .int .i64 l.length := hT 9 (by decide)
          simp only [t4, t9] at hK
          have H := Lib.hid hK
          clear hK hT
          go_simp
          refine (next_any sb _ _ _ (by omega) (by omega) (by omega) hI).mono ?_
          rintro e w1 ⟨x, q0, q1, rfl, ht⟩
          exact H.out _ _ ht.2 ⟨x.toNat, by omega, by rw [Int.toNat_of_nonneg q0]; rfl⟩ (fun h => by cases h) (ht.1.more (by omega))
        exact Rg.nil
      · intro vs W hG hI hT hF
        have t0 : vs 0 = .pointer (some ⟨w.heap.size + 1, 0, none⟩) := hT 0 (by decide)
        have t1 : vs 1 = .pointer (some ⟨w.heap.size + 1, 0, none⟩) := hT 1 (by decide)
        have t2 : vs 2 = .pointer (some ⟨w.heap.size + 1, 0, none⟩) := hT 2 (by decide)
        have t3 : vs 3 = .slice (some ⟨g, 0, none⟩) l.length k1 := hT 3 (by decide)
        have t4 : vs 4 = .pointer (some ⟨sb, 0, none⟩) := hT 4 (by decide)
        have t5 : vs 5 = .pointer (some ⟨w.heap.size + 1, 0, none⟩) := hT 5 (by decide)
        have t6 : vs 6 = .pointer (some ⟨w.heap.size + 1, 0, none⟩) := hT 6 (by decide)
        have t7 : vs 7 = .pointer (some ⟨w.heap.size + 1, 0, none⟩) := hT 7 (by decide)
        have t8 : vs 8 = .slice (some ⟨g, 0, none⟩) l.length k1 := hT 8 (by decide)
        have t9 : vs 9 = .int .i64 l.length := hT 9 (by decide)
        have t10 : ∃ j : Nat, j < l.length ∧ vs 10 = .int .i64 j := hT 10 (by decide)
        simp only [List.length_cons, List.length_nil, Nat.reduceAdd, List.range, List.range.loop, List.drop_succ_cons, List.drop_zero, Rg.putsD, List.getD_cons_zero, List.getD_cons_succ, Act.put, List.setIfInBounds_toArray, List.set_cons_zero, List.set_cons_succ, t0, t1, t2, t3, t4, t5, t6, t7, t8, t9]
        clear hT t0 t1 t2 t3 t4 t5 t6 t7 t8 t9
        obtain ⟨j, hj, e10⟩ := t10
        have hIE : IsStream W sb (b + 1 + 11) := hI
        have HW : Hid (CO sb (b + 12) w (.slice (some ⟨g, 0, none⟩) l.length k1) (.slice A2 al.length k2) l al W) :=
          ⟨⟨hIE.more (by omega), H1.out.tk.drew.2.then_ hG⟩, hG.blk H1.out.k2 (by omega), hG.blk H1.out.k3 (by omega), hG.blk H1.out.kn (by omega), kept_own (w := W1.drew) (base := w.heap.size + 3) H1.out.o1 hG (by omega), kept_own (w := W1.drew) (base := w.heap.size + 3) H1.out.o2 hG (by omega), H1.out.s1, H1.out.s2⟩
        have hgW : g < W.heap.size := Nat.lt_of_lt_of_le (show g < W1.heap.size by omega) hG.more
        have E1 := Lib.hid e10
        clear hI hIE hG hF e10 H1
        simp only [E1.out]
        go_wp2_with fail
        obtain ⟨W6, rfl⟩ : ∃ W6 : World, W6 = W := ⟨_, rfl⟩
        obtain ⟨lz, hlz, hlzl⟩ := zlist _ l HW.out.s1
        have HI0 : Hid (RowI encPZ 47 4 sb (b + 12) g l.length k1 (w.heap.size + 3) 0 W6.drew) := ⟨HW.out.tk.1.drew, lz, hlzl, by rw [pzflat, hlz]; exact HW.out.o1⟩
        clear hlz hlzl
        refine Rg.rgL (Kept2 sb g)
          [(fun vs u => vs 0 = .pointer (some ⟨g, j * 4, none⟩)), (fun vs u => vs 1 = .pointer (some ⟨g, j * 4, none⟩)), (fun vs u => vs 2 = .pointer (some ⟨g, j * 4, none⟩)), (fun vs u => vs 3 = .pointer (some ⟨sb, 0, none⟩)), (fun vs u => vs 4 = .pointer (some ⟨g, j * 4, none⟩)), (fun vs u => vs 5 = .pointer (some ⟨g, j * 4, none⟩)), (fun vs u => vs 6 = .pointer (some ⟨g, j * 4, none⟩)), (fun vs u => ∃ s : ByteArray, vs 7 = .string s ∧ s.size ≤ 5), (fun vs u => StrZ W6.heap.size 3 (vs 8) u), (fun vs u => ∃ s : ByteArray, vs 9 = .string s ∧ s.size ≤ 5), (fun vs u => vs 10 = .pointer (some ⟨sb, 0, none⟩)), (fun vs u => vs 11 = .pointer (some ⟨g, j * 4, none⟩)), (fun vs u => vs 12 = .pointer (some ⟨g, j * 4, none⟩)), (fun vs u => vs 13 = .pointer (some ⟨g, j * 4 + 2, none⟩)), (fun vs u => ∃ x : Int, vs 14 = .int .i64 x), (fun vs u => IntSl W6.heap.size 3 (vs 15) u), (fun vs u => ∃ x : Int, vs 16 = .int .i64 x), (fun vs u => vs 17 = .pointer (some ⟨sb, 0, none⟩)), (fun vs u => vs 18 = .pointer (some ⟨g, j * 4, none⟩)), (fun vs u => vs 19 = .pointer (some ⟨g, j * 4, none⟩)), (fun vs u => vs 20 = .pointer (some ⟨g, j * 4 + 3, none⟩)), (fun vs u => ∃ x : Int, vs 21 = .int .i64 x), (fun vs u => IntSl W6.heap.size 3 (vs 22) u), (fun vs u => ∃ x : Int, vs 23 = .int .i64 x), (fun vs u => vs 24 = .pointer (some ⟨g, j * 4, none⟩)), (fun vs u => vs 25 = .pointer (some ⟨g, j * 4, none⟩)), (fun _ _ => True), (fun vs u => vs 27 = .pointer (some ⟨g, j * 4, none⟩)), (fun vs u => vs 28 = .pointer (some ⟨g, j * 4 + 2, none⟩)), (fun _ _ => True)]
          [[], [], [], [], [], [4], [4, 5], [4, 5, 6], [4, 5, 6, 7], [3, 4, 5, 6, 7, 8], [], [], [11], [11, 12], [11, 12, 13], [11, 12, 13, 14], [3, 4, 5, 6, 7, 8, 9, 10, 11, 12, 13, 14, 15], [], [], [18], [18, 19], [18, 19, 20], [18, 19, 20, 21], [3, 4, 5, 6, 7, 8, 9, 10, 11, 12, 13, 14, 15, 16, 17, 18, 19, 20, 21, 22], [0, 3, 4, 5, 6, 7, 8, 9, 10, 11, 12, 13, 14, 15, 16, 17, 18, 19, 20, 21, 22, 23], [0, 3, 4, 5, 6, 7, 8, 9, 10, 11, 12, 13, 14, 15, 16, 17, 18, 19, 20, 21, 22, 23, 24], [0, 3, 4, 5, 6, 7, 8, 9, 10, 11, 12, 13, 14, 15, 16, 17, 18, 19, 20, 21, 22, 23, 24, 25], [0, 1, 3, 4, 5, 6, 7, 8, 9, 10, 11, 12, 13, 14, 15, 16, 17, 18, 19, 20, 21, 22, 23, 24, 25, 26], [0, 1, 3, 4, 5, 6, 7, 8, 9, 10, 11, 12, 13, 14, 15, 16, 17, 18, 19, 20, 21, 22, 23, 24, 25, 26, 27], [0, 1, 3, 4, 5, 6, 7, 8, 9, 10, 11, 12, 13, 14, 15, 16, 17, 18, 19, 20, 21, 22, 23, 24, 25, 26, 27, 28]] [some 75, some 76, some 77, some 78, some 79, some 80, some 81, some 82, some 83, some 84, some 85, some 86, some 87, some 88, some 89, some 90, some 91, some 92, some 93, some 94, some 95, some 96, some 97, some 98, some 99, some 100, none, some 101, some 102, none, some 103, some 104, none] [] (RowI encPZ 47 4 sb (b+12) g l.length k1 (w.heap.size+3)) [[], [], [], [], [], [4], [4, 5], [4, 5, 6], [4, 5, 6, 7], [3, 4, 5, 6, 7, 8], [], [], [11], [11, 12], [11, 12, 13], [11, 12, 13, 14], [3, 4, 5, 6, 7, 8, 9, 10, 11, 12, 13, 14, 15], [], [], [18], [18, 19], [18, 19, 20], [18, 19, 20, 21], [3, 4, 5, 6, 7, 8, 9, 10, 11, 12, 13, 14, 15, 16, 17, 18, 19, 20, 21, 22], [0, 3, 4, 5, 6, 7, 8, 9, 10, 11, 12, 13, 14, 15, 16, 17, 18, 19, 20, 21, 22, 23], [0, 3, 4, 5, 6, 7, 8, 9, 10, 11, 12, 13, 14, 15, 16, 17, 18, 19, 20, 21, 22, 23, 24], [0, 3, 4, 5, 6, 7, 8, 9, 10, 11, 12, 13, 14, 15, 16, 17, 18, 19, 20, 21, 22, 23, 24, 25], [0, 1, 3, 4, 5, 6, 7, 8, 9, 10, 11, 12, 13, 14, 15, 16, 17, 18, 19, 20, 21, 22, 23, 24, 25, 26], [0, 1, 3, 4, 5, 6, 7, 8, 9, 10, 11, 12, 13, 14, 15, 16, 17, 18, 19, 20, 21, 22, 23, 24, 25, 26, 27], [0, 1, 3, 4, 5, 6, 7, 8, 9, 10, 11, 12, 13, 14, 15, 16, 17, 18, 19, 20, 21, 22, 23, 24, 25, 26, 27, 28], [0, 1, 2, 3, 4, 5, 6, 7, 8, 9, 10, 11, 12, 13, 14, 15, 16, 17, 18, 19, 20, 21, 22, 23, 24, 25, 26, 27, 28, 29], [0, 1, 2, 3, 4, 5, 6, 7, 8, 9, 10, 11, 12, 13, 14, 15, 16, 17, 18, 19, 20, 21, 22, 23, 24, 25, 26, 27, 28, 29, 30], [0, 1, 2, 3, 4, 5, 6, 7, 8, 9, 10, 11, 12, 13, 14, 15, 16, 17, 18, 19, 20, 21, 22, 23, 24, 25, 26, 27, 28, 29, 30, 31]]
          (by kernel_rfl) (by decide) (by kernel_rfl) (by kernel_rfl) (by kernel_rfl) (by kernel_rfl) (by kernel_rfl) (fun _ => Kept2.same _ _ _) (fun _ _ _ h k => h.then_ k) (fun _ _ h => h.more) ?_ (HI0.out) ?_ ?_
        · intro t ht vs w w' h hE
          simp only [List.mem_cons, List.not_mem_nil, or_false] at ht
          rcases ht with rfl | rfl | rfl | rfl | rfl | rfl | rfl | rfl | rfl | rfl | rfl | rfl | rfl | rfl | rfl | rfl | rfl | rfl | rfl | rfl | rfl | rfl | rfl | rfl | rfl | rfl | rfl | rfl | rfl | rfl
          · exact h
          · exact h
          · exact h
          · exact h
          · exact h
          · exact h
          · exact h
          · exact h
          · exact h.kept2 hE (by omega) (by omega)
          · exact h
          · exact h
          · exact h
          · exact h
          · exact h
          · exact h
          · exact h.kept2 hE (by omega) (by omega)
          · exact h
          · exact h
          · exact h
          · exact h
          · exact h
          · exact h
          · exact h.kept2 hE (by omega) (by omega)
          · exact h
          · exact h
          · exact h
          · exact h
          · exact h
          · exact h
          · exact h
        ·
          refine Rg.cons 0 1 rfl (Rg.plain rfl ?_) ?_
          · intro vs W n hn hI hG hT hF K hK
            simp only [Rg.putsD, List.getD_cons_zero, List.getD_cons_succ, Act.put, List.setIfInBounds_toArray, List.set_cons_zero, List.set_cons_succ] at hK ⊢
            have hn1 : n < 33 := hn
            clear hn
            clear hF
            have H := Lib.hid hK
            clear hK hT
            go_simp
            exact H.out _ _ (Kept2.same _ _ _) rfl (fun h => by cases h) hI.step
          refine Rg.cons 1 2 rfl (Rg.plain rfl ?_) ?_
          · intro vs W n hn hI hG hT hF K hK
            simp only [Rg.putsD, List.getD_cons_zero, List.getD_cons_succ, Act.put, List.setIfInBounds_toArray, List.set_cons_zero, List.set_cons_succ] at hK ⊢
            have hn1 : n < 33 := hn
            clear hn
            clear hF
            have H := Lib.hid hK
            clear hK hT
            go_simp
            exact H.out _ _ (Kept2.same _ _ _) rfl (fun h => by cases h) hI.step
          refine Rg.cons 2 3 rfl (Rg.plain rfl ?_) ?_
          · intro vs W n hn hI hG hT hF K hK
            simp only [Rg.putsD, List.getD_cons_zero, List.getD_cons_succ, Act.put, List.setIfInBounds_toArray, List.set_cons_zero, List.set_cons_succ] at hK ⊢
            have hn1 : n < 33 := hn
            clear hn
            clear hF
            have H := Lib.hid hK
            clear hK hT
            go_simp
            exact H.out _ _ (Kept2.same _ _ _) rfl (fun h => by cases h) hI.step
          refine Rg.cons 3 4 rfl (Rg.plain rfl ?_) ?_
          · intro vs W n hn hI hG hT hF K hK
            simp only [Rg.putsD, List.getD_cons_zero, List.getD_cons_succ, Act.put, List.setIfInBounds_toArray, List.set_cons_zero, List.set_cons_succ] at hK ⊢
            have hn1 : n < 33 := hn
            clear hn
            clear hF
            have H := Lib.hid hK
            clear hK hT
            go_simp
            exact H.out _ _ (Kept2.same _ _ _) rfl (fun h => by cases h) hI.step
          refine Rg.cons 4 5 rfl (Rg.plain rfl ?_) ?_
          · intro vs W n hn hI hG hT hF K hK
            simp only [Rg.putsD, List.getD_cons_zero, List.getD_cons_succ, Act.put, List.setIfInBounds_toArray, List.set_cons_zero, List.set_cons_succ] at hK ⊢
            have hn1 : n < 33 := hn
            clear hn
            clear hF
            have H := Lib.hid hK
            clear hK hT
            go_simp
            exact H.out _ _ (Kept2.same _ _ _) rfl (fun h => by cases h) hI.step
          refine Rg.cons 5 6 rfl (Rg.plain rfl ?_) ?_
          · intro vs W n hn hI hG hT hF K hK
            simp only [Rg.putsD, List.getD_cons_zero, List.getD_cons_succ, Act.put, List.setIfInBounds_toArray, List.set_cons_zero, List.set_cons_succ] at hK ⊢
            have hn1 : n < 33 := hn
            clear hn
            clear hF
            have t4 : vs 4 = .pointer (some ⟨g, j * 4, none⟩) := hT 4 (by decide)
            simp only [t4] at hK
            have H := Lib.hid hK
            clear hK hT
            go_simp
            exact H.out _ _ (Kept2.same _ _ _) rfl (fun h => by cases h) hI.step
          refine Rg.cons 6 7 rfl (Rg.plain rfl ?_) ?_
          · intro vs W n hn hI hG hT hF K hK
            simp only [Rg.putsD, List.getD_cons_zero, List.getD_cons_succ, Act.put, List.setIfInBounds_toArray, List.set_cons_zero, List.set_cons_succ] at hK ⊢
            have hn1 : n < 33 := hn
            clear hn
            clear hF
            have t5 : vs 5 = .pointer (some ⟨g, j * 4, none⟩) := hT 5 (by decide)
            simp only [t5] at hK
            have H := Lib.hid hK
            clear hK hT
            go_simp
            exact H.out _ _ (Kept2.same _ _ _) rfl (fun h => by cases h) hI.step
          refine Rg.cons 7 8 rfl (Rg.plain rfl ?_) ?_
          · intro vs W n hn hI hG hT hF K hK
            simp only [Rg.putsD, List.getD_cons_zero, List.getD_cons_succ, Act.put, List.setIfInBounds_toArray, List.set_cons_zero, List.set_cons_succ] at hK ⊢
            have hn1 : n < 33 := hn
            clear hn
            clear hF
            have t6 : vs 6 = .pointer (some ⟨g, j * 4, none⟩) := hT 6 (by decide)
            obtain ⟨z1, z2, z3, z4, zz, c0, c1, c2, c3⟩ := pz_row hI rfl hj
            simp only [t6] at hK
            have H := Lib.hid hK
            clear hK hT
            go_simp
            exact H.out _ _ (Kept2.same _ _ _) ⟨_, rfl, zz.1⟩ (fun h => by cases h) hI.step
          refine Rg.cons 8 9 rfl (Rg.plain rfl ?_) ?_
          · intro vs W n hn hI hG hT hF K hK
            simp only [Rg.putsD, List.getD_cons_zero, List.getD_cons_succ, Act.put, List.setIfInBounds_toArray, List.set_cons_zero, List.set_cons_succ] at hK ⊢
            have hn1 : n < 33 := hn
            clear hn
            clear hF
            have t7 : ∃ s : ByteArray, vs 7 = .string s ∧ s.size ≤ 5 := hT 7 (by decide)
            obtain ⟨s7, e7, z7⟩ := t7
            simp only [e7] at hK
            have H := Lib.hid hK
            clear hK hT
            go_simp
            exact H.out _ _ (Kept2.alloc _) (StrZ.new [s7, ⟨#[]⟩, ⟨#[98]⟩] rfl hG.more (by intro s hs; simp at hs; rcases hs with rfl | rfl | rfl; exact z7; decide; decide)) (fun h => by cases h) (hI.alloc _)
          refine Rg.cons 9 10 rfl (Rg.plain rfl ?_) ?_
          · intro vs W n hn hI hG hT hF K hK
            simp only [Rg.putsD, List.getD_cons_zero, List.getD_cons_succ, Act.put, List.setIfInBounds_toArray, List.set_cons_zero, List.set_cons_succ] at hK ⊢
            have hn1 : n < 33 := hn
            clear hn
            clear hF
            have t3 : vs 3 = .pointer (some ⟨sb, 0, none⟩) := hT 3 (by decide)
            have t8 : StrZ W6.heap.size 3 (vs 8) W := hT 8 (by decide)
            obtain ⟨b8, xs8, n8, c8, e8, k8, f8⟩ := t8
            have N8 := Lib.hid (And.intro n8 k8)
            clear n8 k8
            simp only [e8] at hK
            simp only [t3] at hK
            have H := Lib.hid hK
            clear hK hT
            go_simp
            refine (some_blk N8.out.2 N8.out.1 (by decide) (by decide) (by omega) (by omega) hI.1).mono ?_
            rintro e w1 ⟨x, hx, rfl, ht⟩
            exact H.out _ _ (.of_took ht) ⟨_, rfl, f8 _ hx⟩ (fun h => by cases h) (hI.took ht (by omega))
          refine Rg.cons 10 11 rfl (Rg.plain rfl ?_) ?_
          · intro vs W n hn hI hG hT hF K hK
            simp only [Rg.putsD, List.getD_cons_zero, List.getD_cons_succ, Act.put, List.setIfInBounds_toArray, List.set_cons_zero, List.set_cons_succ] at hK ⊢
            have hn1 : n < 33 := hn
            clear hn
            clear hF
            have H := Lib.hid hK
            clear hK hT
            go_simp
            exact H.out _ _ (Kept2.same _ _ _) rfl (fun h => by cases h) hI.step
          refine Rg.cons 11 12 rfl (Rg.plain rfl ?_) ?_
          · intro vs W n hn hI hG hT hF K hK
            simp only [Rg.putsD, List.getD_cons_zero, List.getD_cons_succ, Act.put, List.setIfInBounds_toArray, List.set_cons_zero, List.set_cons_succ] at hK ⊢
            have hn1 : n < 33 := hn
            clear hn
            clear hF
            have H := Lib.hid hK
            clear hK hT
            go_simp
            exact H.out _ _ (Kept2.same _ _ _) rfl (fun h => by cases h) hI.step
          refine Rg.cons 12 13 rfl (Rg.plain rfl ?_) ?_
          · intro vs W n hn hI hG hT hF K hK
            simp only [Rg.putsD, List.getD_cons_zero, List.getD_cons_succ, Act.put, List.setIfInBounds_toArray, List.set_cons_zero, List.set_cons_succ] at hK ⊢
            have hn1 : n < 33 := hn
            clear hn
            clear hF
            have t11 : vs 11 = .pointer (some ⟨g, j * 4, none⟩) := hT 11 (by decide)
            simp only [t11] at hK
            have H := Lib.hid hK
            clear hK hT
            go_simp
            exact H.out _ _ (Kept2.same _ _ _) rfl (fun h => by cases h) hI.step
          refine Rg.cons 13 14 rfl (Rg.plain rfl ?_) ?_
          · intro vs W n hn hI hG hT hF K hK
            simp only [Rg.putsD, List.getD_cons_zero, List.getD_cons_succ, Act.put, List.setIfInBounds_toArray, List.set_cons_zero, List.set_cons_succ] at hK ⊢
            have hn1 : n < 33 := hn
            clear hn
            clear hF
            have t12 : vs 12 = .pointer (some ⟨g, j * 4, none⟩) := hT 12 (by decide)
            simp only [t12] at hK
            have H := Lib.hid hK
            clear hK hT
            go_simp
            exact H.out _ _ (Kept2.same _ _ _) rfl (fun h => by cases h) hI.step
          refine Rg.cons 14 15 rfl (Rg.plain rfl ?_) ?_
          · intro vs W n hn hI hG hT hF K hK
            simp only [Rg.putsD, List.getD_cons_zero, List.getD_cons_succ, Act.put, List.setIfInBounds_toArray, List.set_cons_zero, List.set_cons_succ] at hK ⊢
            have hn1 : n < 33 := hn
            clear hn
            clear hF
            have t13 : vs 13 = .pointer (some ⟨g, j * 4 + 2, none⟩) := hT 13 (by decide)
            obtain ⟨z1, z2, z3, z4, zz, c0, c1, c2, c3⟩ := pz_row hI rfl hj
            simp only [t13] at hK
            have H := Lib.hid hK
            clear hK hT
            go_simp
            exact H.out _ _ (Kept2.same _ _ _) ⟨_, rfl⟩ (fun h => by cases h) hI.step
          refine Rg.cons 15 16 rfl (Rg.plain rfl ?_) ?_
          · intro vs W n hn hI hG hT hF K hK
            simp only [Rg.putsD, List.getD_cons_zero, List.getD_cons_succ, Act.put, List.setIfInBounds_toArray, List.set_cons_zero, List.set_cons_succ] at hK ⊢
            have hn1 : n < 33 := hn
            clear hn
            clear hF
            have t14 : ∃ x : Int, vs 14 = .int .i64 x := hT 14 (by decide)
            obtain ⟨x14, e14⟩ := t14
            simp only [e14] at hK
            have H := Lib.hid hK
            clear hK hT
            go_simp
            exact H.out _ _ (Kept2.alloc _) (IntSl.new [x14, 0, 7] rfl hG.more) (fun h => by cases h) (hI.alloc _)
          refine Rg.cons 16 17 rfl (Rg.plain rfl ?_) ?_
          · intro vs W n hn hI hG hT hF K hK
            simp only [Rg.putsD, List.getD_cons_zero, List.getD_cons_succ, Act.put, List.setIfInBounds_toArray, List.set_cons_zero, List.set_cons_succ] at hK ⊢
            have hn1 : n < 33 := hn
            clear hn
            clear hF
            have t10 : vs 10 = .pointer (some ⟨sb, 0, none⟩) := hT 10 (by decide)
            have t15 : IntSl W6.heap.size 3 (vs 15) W := hT 15 (by decide)
            obtain ⟨b15, xs15, n15, c15, e15, k15⟩ := t15
            have N15 := Lib.hid (And.intro n15 k15)
            clear n15 k15
            simp only [e15] at hK
            simp only [t10] at hK
            have H := Lib.hid hK
            clear hK hT
            go_simp
            refine (pick_blk N15.out.2 N15.out.1 (by decide) (by decide) (by omega) (by omega) hI.1).mono ?_
            rintro e w1 ⟨x, _, rfl, ht⟩
            exact H.out _ _ (.of_took ht) ⟨_, rfl⟩ (fun h => by cases h) (hI.took ht (by omega))
          refine Rg.cons 17 18 rfl (Rg.plain rfl ?_) ?_
          · intro vs W n hn hI hG hT hF K hK
            simp only [Rg.putsD, List.getD_cons_zero, List.getD_cons_succ, Act.put, List.setIfInBounds_toArray, List.set_cons_zero, List.set_cons_succ] at hK ⊢
            have hn1 : n < 33 := hn
            clear hn
            clear hF
            have H := Lib.hid hK
            clear hK hT
            go_simp
            exact H.out _ _ (Kept2.same _ _ _) rfl (fun h => by cases h) hI.step
          refine Rg.cons 18 19 rfl (Rg.plain rfl ?_) ?_
          · intro vs W n hn hI hG hT hF K hK
            simp only [Rg.putsD, List.getD_cons_zero, List.getD_cons_succ, Act.put, List.setIfInBounds_toArray, List.set_cons_zero, List.set_cons_succ] at hK ⊢
            have hn1 : n < 33 := hn
            clear hn
            clear hF
            have H := Lib.hid hK
            clear hK hT
            go_simp
            exact H.out _ _ (Kept2.same _ _ _) rfl (fun h => by cases h) hI.step
          refine Rg.cons 19 20 rfl (Rg.plain rfl ?_) ?_
          · intro vs W n hn hI hG hT hF K hK
            simp only [Rg.putsD, List.getD_cons_zero, List.getD_cons_succ, Act.put, List.setIfInBounds_toArray, List.set_cons_zero, List.set_cons_succ] at hK ⊢
            have hn1 : n < 33 := hn
            clear hn
            clear hF
            have t18 : vs 18 = .pointer (some ⟨g, j * 4, none⟩) := hT 18 (by decide)
            simp only [t18] at hK
            have H := Lib.hid hK
            clear hK hT
            go_simp
            exact H.out _ _ (Kept2.same _ _ _) rfl (fun h => by cases h) hI.step
          refine Rg.cons 20 21 rfl (Rg.plain rfl ?_) ?_
          · intro vs W n hn hI hG hT hF K hK
            simp only [Rg.putsD, List.getD_cons_zero, List.getD_cons_succ, Act.put, List.setIfInBounds_toArray, List.set_cons_zero, List.set_cons_succ] at hK ⊢
            have hn1 : n < 33 := hn
            clear hn
            clear hF
            have t19 : vs 19 = .pointer (some ⟨g, j * 4, none⟩) := hT 19 (by decide)
            simp only [t19] at hK
            have H := Lib.hid hK
            clear hK hT
            go_simp
            exact H.out _ _ (Kept2.same _ _ _) rfl (fun h => by cases h) hI.step
          refine Rg.cons 21 22 rfl (Rg.plain rfl ?_) ?_
          · intro vs W n hn hI hG hT hF K hK
            simp only [Rg.putsD, List.getD_cons_zero, List.getD_cons_succ, Act.put, List.setIfInBounds_toArray, List.set_cons_zero, List.set_cons_succ] at hK ⊢
            have hn1 : n < 33 := hn
            clear hn
            clear hF
            have t20 : vs 20 = .pointer (some ⟨g, j * 4 + 3, none⟩) := hT 20 (by decide)
            obtain ⟨z1, z2, z3, z4, zz, c0, c1, c2, c3⟩ := pz_row hI rfl hj
            simp only [t20] at hK
            have H := Lib.hid hK
            clear hK hT
            go_simp
            exact H.out _ _ (Kept2.same _ _ _) ⟨_, rfl⟩ (fun h => by cases h) hI.step
          refine Rg.cons 22 23 rfl (Rg.plain rfl ?_) ?_
          · intro vs W n hn hI hG hT hF K hK
            simp only [Rg.putsD, List.getD_cons_zero, List.getD_cons_succ, Act.put, List.setIfInBounds_toArray, List.set_cons_zero, List.set_cons_succ] at hK ⊢
            have hn1 : n < 33 := hn
            clear hn
            clear hF
            have t21 : ∃ x : Int, vs 21 = .int .i64 x := hT 21 (by decide)
            obtain ⟨x21, e21⟩ := t21
            simp only [e21] at hK
            have H := Lib.hid hK
            clear hK hT
            go_simp
            exact H.out _ _ (Kept2.alloc _) (IntSl.new [x21, (-1), 720000001] rfl hG.more) (fun h => by cases h) (hI.alloc _)
          refine Rg.cons 23 24 rfl (Rg.plain rfl ?_) ?_
          · intro vs W n hn hI hG hT hF K hK
            simp only [Rg.putsD, List.getD_cons_zero, List.getD_cons_succ, Act.put, List.setIfInBounds_toArray, List.set_cons_zero, List.set_cons_succ] at hK ⊢
            have hn1 : n < 33 := hn
            clear hn
            clear hF
            have t17 : vs 17 = .pointer (some ⟨sb, 0, none⟩) := hT 17 (by decide)
            have t22 : IntSl W6.heap.size 3 (vs 22) W := hT 22 (by decide)
            obtain ⟨b22, xs22, n22, c22, e22, k22⟩ := t22
            have N22 := Lib.hid (And.intro n22 k22)
            clear n22 k22
            simp only [e22] at hK
            simp only [t17] at hK
            have H := Lib.hid hK
            clear hK hT
            go_simp
            refine (pick_blk N22.out.2 N22.out.1 (by decide) (by decide) (by omega) (by omega) hI.1).mono ?_
            rintro e w1 ⟨x, _, rfl, ht⟩
            exact H.out _ _ (.of_took ht) ⟨_, rfl⟩ (fun h => by cases h) (hI.took ht (by omega))
          refine Rg.cons 24 25 rfl (Rg.plain rfl ?_) ?_
          · intro vs W n hn hI hG hT hF K hK
            simp only [Rg.putsD, List.getD_cons_zero, List.getD_cons_succ, Act.put, List.setIfInBounds_toArray, List.set_cons_zero, List.set_cons_succ] at hK ⊢
            have hn1 : n < 33 := hn
            clear hn
            clear hF
            have t0 : vs 0 = .pointer (some ⟨g, j * 4, none⟩) := hT 0 (by decide)
            simp only [t0] at hK
            have H := Lib.hid hK
            clear hK hT
            go_simp
            exact H.out _ _ (Kept2.same _ _ _) rfl (fun h => by cases h) hI.step
          refine Rg.cons 25 26 rfl (Rg.plain rfl ?_) ?_
          · intro vs W n hn hI hG hT hF K hK
            simp only [Rg.putsD, List.getD_cons_zero, List.getD_cons_succ, Act.put, List.setIfInBounds_toArray, List.set_cons_zero, List.set_cons_succ] at hK ⊢
            have hn1 : n < 33 := hn
            clear hn
            clear hF
            have t24 : vs 24 = .pointer (some ⟨g, j * 4, none⟩) := hT 24 (by decide)
            simp only [t24] at hK
            have H := Lib.hid hK
            clear hK hT
            go_simp
            exact H.out _ _ (Kept2.same _ _ _) rfl (fun h => by cases h) hI.step
          refine Rg.cons 26 27 rfl (Rg.plain rfl ?_) ?_
          · intro vs W n hn hI hG hT hF K hK
            simp only [Rg.putsD, List.getD_cons_zero, List.getD_cons_succ, Act.put, List.setIfInBounds_toArray, List.set_cons_zero, List.set_cons_succ] at hK ⊢
            have hn1 : n < 33 := hn
            clear hn
            clear hF
            have t25 : vs 25 = .pointer (some ⟨g, j * 4, none⟩) := hT 25 (by decide)
            have t9 : ∃ s : ByteArray, vs 9 = .string s ∧ s.size ≤ 5 := hT 9 (by decide)
            obtain ⟨s9, e9, z9⟩ := t9
            simp only [e9] at hK
            obtain ⟨z1, z2, z3, z4, zz, c0, c1, c2, c3⟩ := pz_row hI rfl hj
            have fz := hI.frozen (j * 4)
            simp only [t25] at hK
            have H := Lib.hid hK
            clear hK hT
            go_simp
            exact H.out (.bool true) _ ((Kept2.same sb g W).store (p := ⟨g, _, none⟩) rfl _) trivial (fun h => by cases h) (hI.store (j := 0) pz_typ hj (by decide) _ (by omega) (pz_str0 _ z9))
          refine Rg.cons 27 28 rfl (Rg.plain rfl ?_) ?_
          · intro vs W n hn hI hG hT hF K hK
            simp only [Rg.putsD, List.getD_cons_zero, List.getD_cons_succ, Act.put, List.setIfInBounds_toArray, List.set_cons_zero, List.set_cons_succ] at hK ⊢
            have hn1 : n < 33 := hn
            clear hn
            clear hF
            have t1 : vs 1 = .pointer (some ⟨g, j * 4, none⟩) := hT 1 (by decide)
            simp only [t1] at hK
            have H := Lib.hid hK
            clear hK hT
            go_simp
            exact H.out _ _ (Kept2.same _ _ _) rfl (fun h => by cases h) hI.step
          refine Rg.cons 28 29 rfl (Rg.plain rfl ?_) ?_
          · intro vs W n hn hI hG hT hF K hK
            simp only [Rg.putsD, List.getD_cons_zero, List.getD_cons_succ, Act.put, List.setIfInBounds_toArray, List.set_cons_zero, List.set_cons_succ] at hK ⊢
            have hn1 : n < 33 := hn
            clear hn
            clear hF
            have t27 : vs 27 = .pointer (some ⟨g, j * 4, none⟩) := hT 27 (by decide)
            simp only [t27] at hK
            have H := Lib.hid hK
            clear hK hT
            go_simp
            exact H.out _ _ (Kept2.same _ _ _) rfl (fun h => by cases h) hI.step
          refine Rg.cons 29 30 rfl (Rg.plain rfl ?_) ?_
          · intro vs W n hn hI hG hT hF K hK
            simp only [Rg.putsD, List.getD_cons_zero, List.getD_cons_succ, Act.put, List.setIfInBounds_toArray, List.set_cons_zero, List.set_cons_succ] at hK ⊢
            have hn1 : n < 33 := hn
            clear hn
            clear hF
            have t28 : vs 28 = .pointer (some ⟨g, j * 4 + 2, none⟩) := hT 28 (by decide)
            have t16 : ∃ x : Int, vs 16 = .int .i64 x := hT 16 (by decide)
            obtain ⟨x16, e16⟩ := t16
            simp only [e16] at hK
            obtain ⟨z1, z2, z3, z4, zz, c0, c1, c2, c3⟩ := pz_row hI rfl hj
            have fz := hI.frozen (j * 4 + 2)
            simp only [t28] at hK
            have H := Lib.hid hK
            clear hK hT
            go_simp
            exact H.out (.bool true) _ ((Kept2.same sb g W).store (p := ⟨g, _, none⟩) rfl _) trivial (fun h => by cases h) (hI.store (j := 2) pz_typ hj (by decide) _ (by omega) (pz_int2 _))
          exact Rg.nil
        · intro vs W hG hI hT hF
          have t0 : vs 0 = .pointer (some ⟨g, j * 4, none⟩) := hT 0 (by decide)
          have t1 : vs 1 = .pointer (some ⟨g, j * 4, none⟩) := hT 1 (by decide)
          have t2 : vs 2 = .pointer (some ⟨g, j * 4, none⟩) := hT 2 (by decide)
          have t3 : vs 3 = .pointer (some ⟨sb, 0, none⟩) := hT 3 (by decide)
          have t4 : vs 4 = .pointer (some ⟨g, j * 4, none⟩) := hT 4 (by decide)
          have t5 : vs 5 = .pointer (some ⟨g, j * 4, none⟩) := hT 5 (by decide)
          have t6 : vs 6 = .pointer (some ⟨g, j * 4, none⟩) := hT 6 (by decide)
          have t7 : ∃ s : ByteArray, vs 7 = .string s ∧ s.size ≤ 5 := hT 7 (by decide)
          have t8 : StrZ W6.heap.size 3 (vs 8) W := hT 8 (by decide)
          have t9 : ∃ s : ByteArray, vs 9 = .string s ∧ s.size ≤ 5 := hT 9 (by decide)
          have t10 : vs 10 = .pointer (some ⟨sb, 0, none⟩) := hT 10 (by decide)
          have t11 : vs 11 = .pointer (some ⟨g, j * 4, none⟩) := hT 11 (by decide)
          have t12 : vs 12 = .pointer (some ⟨g, j * 4, none⟩) := hT 12 (by decide)
          have t13 : vs 13 = .pointer (some ⟨g, j * 4 + 2, none⟩) := hT 13 (by decide)
          have t14 : ∃ x : Int, vs 14 = .int .i64 x := hT 14 (by decide)
          have t15 : IntSl W6.heap.size 3 (vs 15) W := hT 15 (by decide)
          have t16 : ∃ x : Int, vs 16 = .int .i64 x := hT 16 (by decide)
          have t17 : vs 17 = .pointer (some ⟨sb, 0, none⟩) := hT 17 (by decide)
          have t18 : vs 18 = .pointer (some ⟨g, j * 4, none⟩) := hT 18 (by decide)
          have t19 : vs 19 = .pointer (some ⟨g, j * 4, none⟩) := hT 19 (by decide)
          have t20 : vs 20 = .pointer (some ⟨g, j * 4 + 3, none⟩) := hT 20 (by decide)
          have t21 : ∃ x : Int, vs 21 = .int .i64 x := hT 21 (by decide)
          have t22 : IntSl W6.heap.size 3 (vs 22) W := hT 22 (by decide)
          have t23 : ∃ x : Int, vs 23 = .int .i64 x := hT 23 (by decide)
          have t24 : vs 24 = .pointer (some ⟨g, j * 4, none⟩) := hT 24 (by decide)
          have t25 : vs 25 = .pointer (some ⟨g, j * 4, none⟩) := hT 25 (by decide)
          have t27 : vs 27 = .pointer (some ⟨g, j * 4, none⟩) := hT 27 (by decide)
          have t28 : vs 28 = .pointer (some ⟨g, j * 4 + 2, none⟩) := hT 28 (by decide)
          simp only [List.length_cons, List.length_nil, Nat.reduceAdd, List.range, List.range.loop, List.drop_succ_cons, List.drop_zero, Rg.putsD, List.getD_cons_zero, List.getD_cons_succ, Act.put, List.setIfInBounds_toArray, List.set_cons_zero, List.set_cons_succ, t0, t1, t2, t3, t4, t5, t6, t10, t11, t12, t13, t17, t18, t19, t20, t24, t25, t27, t28]
          clear hT t0 t1 t2 t3 t4 t5 t6 t10 t11 t12 t13 t17 t18 t19 t20 t24 t25 t27 t28
          obtain ⟨x23, e23⟩ := t23
          have hIv : RowI encPZ 47 4 sb (b + 12) g l.length k1 (w.heap.size + 3) 30 W := hI
          obtain ⟨z1, z2, z3, z4, zz, c0, c1, c2, c3⟩ := pz_row hIv rfl hj
          have fz := hIv.frozen (j * 4 + 3)
          have hst := hIv.store pz_typ hj (j := 3) (by decide) (.int .i64 x23) (by omega) (pz_int3 x23)
          have HF : Hid (∃ l' al', l'.length = l.length ∧ al'.length = al.length ∧ CO sb (b + 200) w (.slice (some ⟨g, 0, none⟩) l.length k1) (.slice A2 al.length k2) l' al' (W.setCell ⟨g, j * 4 + 3, none⟩ (.int .i64 x23))) := by
            obtain ⟨hs2, l2, hl2, ho2⟩ := hst
            refine ⟨l2.map Subtype.val, al, by rw [List.length_map, hl2], rfl, ⟨hs2.more (by omega), (kept_of2 HW.out.tk.drew.2 hG (by omega)).store (.inr (by simp; omega)) _⟩, blk_far (hG.blk HW.out.k2 (by omega) (by omega)) (by simp; omega) _, blk_far (hG.blk HW.out.k3 (by omega) (by omega)) (by simp; omega) _, blk_far (hG.blk HW.out.kn (by omega) (by omega)) (by simp; omega) _, ?_, ?_, ?_, HW.out.s2⟩
            · rw [← pzflat, List.length_map, hl2]
              exact ho2
            · exact own_kept2 (w := W6.drew) HW.out.o2 (hG.store (p := ⟨g, _, none⟩) rfl _) (by omega) (own_apart HW.out.o2 HW.out.o1 (by decide))
            · intro p hp
              obtain ⟨q, _, rfl⟩ := List.mem_map.mp hp
              exact q.2
          have E23 := Lib.hid e23
          clear hst hI hIv hG hF e23 HW HI0
          simp only [E23.out]
          go_wp2_with fail
          refine bodyPost_end (v := .tuple #[]) (by unfold results; simp only [Tryz.results20]; go_simp) rfl ⟨rfl, HF.out⟩
    · clear hl3
      have hsz1 : w.heap.size + 1 + 1 < W1.heap.size := lt_of_blk H1.out.kn
      obtain ⟨g, rfl, hgl, hgb⟩ : ∃ g : Nat, A2 = some ⟨g, 0, none⟩ ∧ g < W1.heap.size ∧ w.heap.size + 3 ≤ g := by
        obtain ⟨A', c', e, hh⟩ := own_form H1.out.o2
        cases e
        exact hh (by omega)
      clear HA1 HA2
      go_wp2_with fail
      refine Rg.rgL (Kept sb)
        [(fun vs u => vs 0 = .pointer (some ⟨w.heap.size + 1, 0, none⟩)), (fun vs u => vs 1 = .pointer (some ⟨w.heap.size + 1, 0, none⟩)), (fun vs u => vs 2 = .pointer (some ⟨w.heap.size + 1, 1, none⟩)), (fun vs u => vs 3 = .slice (some ⟨g, 0, none⟩) al.length k2), (fun vs u => vs 4 = .pointer (some ⟨sb, 0, none⟩)), (fun vs u => vs 5 = .pointer (some ⟨w.heap.size + 1, 0, none⟩)), (fun vs u => vs 6 = .pointer (some ⟨w.heap.size + 1, 0, none⟩)), (fun vs u => vs 7 = .pointer (some ⟨w.heap.size + 1, 1, none⟩)), (fun vs u => vs 8 = .slice (some ⟨g, 0, none⟩) al.length k2), (fun vs u => vs 9 = .int .i64 al.length), (fun vs u => ∃ j : Nat, j < al.length ∧ vs 10 = .int .i64 j)]
        [[], [0], [0, 1], [0, 1, 2], [], [], [5], [5, 6], [5, 6, 7], [5, 6, 7, 8], [4, 5, 6, 7, 8, 9]] [some 16, some 17, some 18, some 19, some 20, some 21, some 22, some 23, some 24, some 25, some 26, some 27, some 4] [] (fun n W => IsStream W sb (b+1 + n)) [[], [0], [0, 1], [0, 1, 2], [], [], [5], [5, 6], [5, 6, 7], [5, 6, 7, 8], [4, 5, 6, 7, 8, 9], [0, 1, 2, 3, 4, 5, 6, 7, 8, 9, 10], [0, 1, 2, 3, 4, 5, 6, 7, 8, 9, 10, 11]]
        (by kernel_rfl) (by decide) (by kernel_rfl) (by kernel_rfl) (by kernel_rfl) (by kernel_rfl) (by kernel_rfl) (fun _ => Kept.same _ _) (fun _ _ _ h k => h.then_ k) (fun _ _ h => h.more) ?_ (H1.out.tk.1.drew) ?_ ?_
      · intro t ht vs w w' h hE
        simp only [List.mem_cons, List.not_mem_nil, or_false] at ht
        rcases ht with rfl | rfl | rfl | rfl | rfl | rfl | rfl | rfl | rfl | rfl | rfl
        · exact h
        · exact h
        · exact h
        · exact h
        · exact h
        · exact h
        · exact h
        · exact h
        · exact h
        · exact h
        · exact h
      ·
        refine Rg.cons 0 1 rfl (Rg.plain rfl ?_) ?_
        · intro vs W n hn hI hG hT hF K hK
          simp only [Rg.putsD, List.getD_cons_zero, List.getD_cons_succ, Act.put, List.setIfInBounds_toArray, List.set_cons_zero, List.set_cons_succ] at hK ⊢
          have hn1 : n < 13 := hn
          clear hn
          clear hF
          have H := Lib.hid hK
          clear hK hT
          go_simp
          exact H.out _ _ (Kept.same _ _) rfl (fun h => by cases h) (hI.more (by omega))
        refine Rg.cons 1 2 rfl (Rg.plain rfl ?_) ?_
        · intro vs W n hn hI hG hT hF K hK
          simp only [Rg.putsD, List.getD_cons_zero, List.getD_cons_succ, Act.put, List.setIfInBounds_toArray, List.set_cons_zero, List.set_cons_succ] at hK ⊢
          have hn1 : n < 13 := hn
          clear hn
          clear hF
          have t0 : vs 0 = .pointer (some ⟨w.heap.size + 1, 0, none⟩) := hT 0 (by decide)
          simp only [t0] at hK
          have H := Lib.hid hK
          clear hK hT
          go_simp
          exact H.out _ _ (Kept.same _ _) rfl (fun h => by cases h) (hI.more (by omega))
        refine Rg.cons 2 3 rfl (Rg.plain rfl ?_) ?_
        · intro vs W n hn hI hG hT hF K hK
          simp only [Rg.putsD, List.getD_cons_zero, List.getD_cons_succ, Act.put, List.setIfInBounds_toArray, List.set_cons_zero, List.set_cons_succ] at hK ⊢
          have hn1 : n < 13 := hn
          clear hn
          clear hF
          have t1 : vs 1 = .pointer (some ⟨w.heap.size + 1, 0, none⟩) := hT 1 (by decide)
          simp only [t1] at hK
          have H := Lib.hid hK
          clear hK hT
          go_simp
          exact H.out _ _ (Kept.same _ _) rfl (fun h => by cases h) (hI.more (by omega))
        refine Rg.cons 3 4 rfl (Rg.plain rfl ?_) ?_
        · intro vs W n hn hI hG hT hF K hK
          simp only [Rg.putsD, List.getD_cons_zero, List.getD_cons_succ, Act.put, List.setIfInBounds_toArray, List.set_cons_zero, List.set_cons_succ] at hK ⊢
          have hn1 : n < 13 := hn
          clear hn
          clear hF
          have t2 : vs 2 = .pointer (some ⟨w.heap.size + 1, 1, none⟩) := hT 2 (by decide)
          have hbk := hG.blk H1.out.k3 (by omega)
          have cb := cell_of_blk hbk 1
          simp at cb
          clear hbk
          simp only [t2] at hK
          have H := Lib.hid hK
          clear hK hT
          go_simp
          exact H.out _ _ (Kept.same _ _) rfl (fun h => by cases h) (hI.more (by omega))
        refine Rg.cons 4 5 rfl (Rg.plain rfl ?_) ?_
        · intro vs W n hn hI hG hT hF K hK
          simp only [Rg.putsD, List.getD_cons_zero, List.getD_cons_succ, Act.put, List.setIfInBounds_toArray, List.set_cons_zero, List.set_cons_succ] at hK ⊢
          have hn1 : n < 13 := hn
          clear hn
          clear hF
          have H := Lib.hid hK
          clear hK hT
          go_simp
          exact H.out _ _ (Kept.same _ _) rfl (fun h => by cases h) (hI.more (by omega))
        refine Rg.cons 5 6 rfl (Rg.plain rfl ?_) ?_
        · intro vs W n hn hI hG hT hF K hK
          simp only [Rg.putsD, List.getD_cons_zero, List.getD_cons_succ, Act.put, List.setIfInBounds_toArray, List.set_cons_zero, List.set_cons_succ] at hK ⊢
          have hn1 : n < 13 := hn
          clear hn
          clear hF
          have H := Lib.hid hK
          clear hK hT
          go_simp
          exact H.out _ _ (Kept.same _ _) rfl (fun h => by cases h) (hI.more (by omega))
        refine Rg.cons 6 7 rfl (Rg.plain rfl ?_) ?_
        · intro vs W n hn hI hG hT hF K hK
          simp only [Rg.putsD, List.getD_cons_zero, List.getD_cons_succ, Act.put, List.setIfInBounds_toArray, List.set_cons_zero, List.set_cons_succ] at hK ⊢
          have hn1 : n < 13 := hn
          clear hn
          clear hF
          have t5 : vs 5 = .pointer (some ⟨w.heap.size + 1, 0, none⟩) := hT 5 (by decide)
          simp only [t5] at hK
          have H := Lib.hid hK
          clear hK hT
          go_simp
          exact H.out _ _ (Kept.same _ _) rfl (fun h => by cases h) (hI.more (by omega))
        refine Rg.cons 7 8 rfl (Rg.plain rfl ?_) ?_
        · intro vs W n hn hI hG hT hF K hK
          simp only [Rg.putsD, List.getD_cons_zero, List.getD_cons_succ, Act.put, List.setIfInBounds_toArray, List.set_cons_zero, List.set_cons_succ] at hK ⊢
          have hn1 : n < 13 := hn
          clear hn
          clear hF
          have t6 : vs 6 = .pointer (some ⟨w.heap.size + 1, 0, none⟩) := hT 6 (by decide)
          simp only [t6] at hK
          have H := Lib.hid hK
          clear hK hT
          go_simp
          exact H.out _ _ (Kept.same _ _) rfl (fun h => by cases h) (hI.more (by omega))
        refine Rg.cons 8 9 rfl (Rg.plain rfl ?_) ?_
        · intro vs W n hn hI hG hT hF K hK
          simp only [Rg.putsD, List.getD_cons_zero, List.getD_cons_succ, Act.put, List.setIfInBounds_toArray, List.set_cons_zero, List.set_cons_succ] at hK ⊢
          have hn1 : n < 13 := hn
          clear hn
          clear hF
          have t7 : vs 7 = .pointer (some ⟨w.heap.size + 1, 1, none⟩) := hT 7 (by decide)
          have hbk := hG.blk H1.out.k3 (by omega)
          have cb := cell_of_blk hbk 1
          simp at cb
          clear hbk
          simp only [t7] at hK
          have H := Lib.hid hK
          clear hK hT
          go_simp
          exact H.out _ _ (Kept.same _ _) rfl (fun h => by cases h) (hI.more (by omega))
        refine Rg.cons 9 10 rfl (Rg.plain rfl ?_) ?_
        · intro vs W n hn hI hG hT hF K hK
          simp only [Rg.putsD, List.getD_cons_zero, List.getD_cons_succ, Act.put, List.setIfInBounds_toArray, List.set_cons_zero, List.set_cons_succ] at hK ⊢
          have hn1 : n < 13 := hn
          clear hn
          clear hF
          have t8 : vs 8 = .slice (some ⟨g, 0, none⟩) al.length k2 := hT 8 (by decide)
          simp only [t8] at hK
          have H := Lib.hid hK
          clear hK hT
          go_simp
          exact H.out _ _ (Kept.same _ _) rfl (fun h => by cases h) (hI.more (by omega))
        refine Rg.cons 10 11 rfl (Rg.plain rfl ?_) ?_
        · intro vs W n hn hI hG hT hF K hK
          simp only [Rg.putsD, List.getD_cons_zero, List.getD_cons_succ, Act.put, List.setIfInBounds_toArray, List.set_cons_zero, List.set_cons_succ] at hK ⊢
          have hn1 : n < 13 := hn
          clear hn
          clear hF
          have t4 : vs 4 = .pointer (some ⟨sb, 0, none⟩) := hT 4 (by decide)
          have t9 : vs 9 = .int .i64 al.length := hT 9 (by decide)
          simp only [t4, t9] at hK
          have H := Lib.hid hK
          clear hK hT
          go_simp
          refine (next_any sb _ _ _ (by omega) (by omega) (by omega) hI).mono ?_
          rintro e w1 ⟨x, q0, q1, rfl, ht⟩
          exact H.out _ _ ht.2 ⟨x.toNat, by omega, by rw [Int.toNat_of_nonneg q0]; rfl⟩ (fun h => by cases h) (ht.1.more (by omega))
        exact Rg.nil
      · intro vs W hG hI hT hF
        have t0 : vs 0 = .pointer (some ⟨w.heap.size + 1, 0, none⟩) := hT 0 (by decide)
        have t1 : vs 1 = .pointer (some ⟨w.heap.size + 1, 0, none⟩) := hT 1 (by decide)
        have t2 : vs 2 = .pointer (some ⟨w.heap.size + 1, 1, none⟩) := hT 2 (by decide)
        have t3 : vs 3 = .slice (some ⟨g, 0, none⟩) al.length k2 := hT 3 (by decide)
        have t4 : vs 4 = .pointer (some ⟨sb, 0, none⟩) := hT 4 (by decide)
        have t5 : vs 5 = .pointer (some ⟨w.heap.size + 1, 0, none⟩) := hT 5 (by decide)
        have t6 : vs 6 = .pointer (some ⟨w.heap.size + 1, 0, none⟩) := hT 6 (by decide)
        have t7 : vs 7 = .pointer (some ⟨w.heap.size + 1, 1, none⟩) := hT 7 (by decide)
        have t8 : vs 8 = .slice (some ⟨g, 0, none⟩) al.length k2 := hT 8 (by decide)
        have t9 : vs 9 = .int .i64 al.length := hT 9 (by decide)
        have t10 : ∃ j : Nat, j < al.length ∧ vs 10 = .int .i64 j := hT 10 (by decide)
        simp only [List.length_cons, List.length_nil, Nat.reduceAdd, List.range, List.range.loop, List.drop_succ_cons, List.drop_zero, Rg.putsD, List.getD_cons_zero, List.getD_cons_succ, Act.put, List.setIfInBounds_toArray, List.set_cons_zero, List.set_cons_succ, t0, t1, t2, t3, t4, t5, t6, t7, t8, t9]
        clear hT t0 t1 t2 t3 t4 t5 t6 t7 t8 t9
        obtain ⟨j, hj, e10⟩ := t10
        have hIE : IsStream W sb (b + 1 + 11) := hI
        have HW : Hid (CO sb (b + 12) w (.slice A1 l.length k1) (.slice (some ⟨g, 0, none⟩) al.length k2) l al W) :=
          ⟨⟨hIE.more (by omega), H1.out.tk.drew.2.then_ hG⟩, hG.blk H1.out.k2 (by omega), hG.blk H1.out.k3 (by omega), hG.blk H1.out.kn (by omega), kept_own (w := W1.drew) (base := w.heap.size + 3) H1.out.o1 hG (by omega), kept_own (w := W1.drew) (base := w.heap.size + 3) H1.out.o2 hG (by omega), H1.out.s1, H1.out.s2⟩
        have hgW : g < W.heap.size := Nat.lt_of_lt_of_le (show g < W1.heap.size by omega) hG.more
        have E1 := Lib.hid e10
        clear hI hIE hG hF e10 H1
        simp only [E1.out]
        go_wp2_with fail
        obtain ⟨W6, rfl⟩ : ∃ W6 : World, W6 = W := ⟨_, rfl⟩
        obtain ⟨lz, hlz, hlzl⟩ := zlist _ al HW.out.s2
        have HI0 : Hid (RowI encAZ 51 3 sb (b + 12) g al.length k2 (w.heap.size + 3) 0 W6.drew) := ⟨HW.out.tk.1.drew, lz, hlzl, by rw [azflat, hlz]; exact HW.out.o2⟩
        clear hlz hlzl
        refine Rg.rgL (Kept2 sb g)
          [(fun vs u => vs 0 = .pointer (some ⟨g, j * 3, none⟩)), (fun vs u => vs 1 = .pointer (some ⟨g, j * 3, none⟩)), (fun vs u => vs 2 = .pointer (some ⟨g, j * 3, none⟩)), (fun vs u => vs 3 = .pointer (some ⟨sb, 0, none⟩)), (fun vs u => vs 4 = .pointer (some ⟨g, j * 3, none⟩)), (fun vs u => vs 5 = .pointer (some ⟨g, j * 3, none⟩)), (fun vs u => vs 6 = .pointer (some ⟨g, j * 3, none⟩)), (fun vs u => ∃ s : ByteArray, vs 7 = .string s ∧ s.size ≤ 5), (fun vs u => vs 8 = .pointer (some ⟨g, j * 3, none⟩)), (fun vs u => vs 9 = .pointer (some ⟨g, j * 3, none⟩)), (fun vs u => vs 10 = .pointer (some ⟨g, j * 3 + 1, none⟩)), (fun vs u => ∃ s : ByteArray, vs 11 = .string s ∧ s.size ≤ 5), (fun vs u => StrZ W6.heap.size 3 (vs 12) u), (fun vs u => ∃ s : ByteArray, vs 13 = .string s ∧ s.size ≤ 5), (fun vs u => vs 14 = .pointer (some ⟨sb, 0, none⟩)), (fun vs u => vs 15 = .pointer (some ⟨g, j * 3, none⟩)), (fun vs u => vs 16 = .pointer (some ⟨g, j * 3, none⟩)), (fun vs u => vs 17 = .pointer (some ⟨g, j * 3 + 1, none⟩)), (fun vs u => ∃ s : ByteArray, vs 18 = .string s ∧ s.size ≤ 5), (fun vs u => StrZ W6.heap.size 3 (vs 19) u), (fun vs u => ∃ s : ByteArray, vs 20 = .string s ∧ s.size ≤ 5), (fun vs u => vs 21 = .pointer (some ⟨sb, 0, none⟩)), (fun vs u => ∃ x : Bool, vs 22 = .bool x), (fun vs u => vs 23 = .pointer (some ⟨g, j * 3, none⟩)), (fun vs u => vs 24 = .pointer (some ⟨g, j * 3, none⟩)), (fun _ _ => True), (fun vs u => vs 26 = .pointer (some ⟨g, j * 3, none⟩)), (fun vs u => vs 27 = .pointer (some ⟨g, j * 3 + 1, none⟩)), (fun _ _ => True)]
          [[], [], [], [], [], [4], [4, 5], [4, 5, 6], [], [8], [8, 9], [8, 9, 10], [4, 5, 6, 7, 8, 9, 10, 11], [3, 4, 5, 6, 7, 8, 9, 10, 11, 12], [], [], [15], [15, 16], [15, 16, 17], [15, 16, 17, 18], [3, 4, 5, 6, 7, 8, 9, 10, 11, 12, 13, 14, 15, 16, 17, 18, 19], [], [3, 4, 5, 6, 7, 8, 9, 10, 11, 12, 13, 14, 15, 16, 17, 18, 19, 20, 21], [0, 3, 4, 5, 6, 7, 8, 9, 10, 11, 12, 13, 14, 15, 16, 17, 18, 19, 20, 21, 22], [0, 3, 4, 5, 6, 7, 8, 9, 10, 11, 12, 13, 14, 15, 16, 17, 18, 19, 20, 21, 22, 23], [0, 3, 4, 5, 6, 7, 8, 9, 10, 11, 12, 13, 14, 15, 16, 17, 18, 19, 20, 21, 22, 23, 24], [0, 1, 3, 4, 5, 6, 7, 8, 9, 10, 11, 12, 13, 14, 15, 16, 17, 18, 19, 20, 21, 22, 23, 24, 25], [0, 1, 3, 4, 5, 6, 7, 8, 9, 10, 11, 12, 13, 14, 15, 16, 17, 18, 19, 20, 21, 22, 23, 24, 25, 26], [0, 1, 3, 4, 5, 6, 7, 8, 9, 10, 11, 12, 13, 14, 15, 16, 17, 18, 19, 20, 21, 22, 23, 24, 25, 26, 27]] [some 28, some 29, some 30, some 31, some 32, some 33, some 34, some 35, some 36, some 37, some 38, some 39, some 40, some 41, some 42, some 43, some 44, some 45, some 46, some 47, some 48, some 49, some 50, some 51, some 52, none, some 53, some 54, none, some 55, some 56, none] [] (RowI encAZ 51 3 sb (b+12) g al.length k2 (w.heap.size+3)) [[], [], [], [], [], [4], [4, 5], [4, 5, 6], [], [8], [8, 9], [8, 9, 10], [4, 5, 6, 7, 8, 9, 10, 11], [3, 4, 5, 6, 7, 8, 9, 10, 11, 12], [], [], [15], [15, 16], [15, 16, 17], [15, 16, 17, 18], [3, 4, 5, 6, 7, 8, 9, 10, 11, 12, 13, 14, 15, 16, 17, 18, 19], [], [3, 4, 5, 6, 7, 8, 9, 10, 11, 12, 13, 14, 15, 16, 17, 18, 19, 20, 21], [0, 3, 4, 5, 6, 7, 8, 9, 10, 11, 12, 13, 14, 15, 16, 17, 18, 19, 20, 21, 22], [0, 3, 4, 5, 6, 7, 8, 9, 10, 11, 12, 13, 14, 15, 16, 17, 18, 19, 20, 21, 22, 23], [0, 3, 4, 5, 6, 7, 8, 9, 10, 11, 12, 13, 14, 15, 16, 17, 18, 19, 20, 21, 22, 23, 24], [0, 1, 3, 4, 5, 6, 7, 8, 9, 10, 11, 12, 13, 14, 15, 16, 17, 18, 19, 20, 21, 22, 23, 24, 25], [0, 1, 3, 4, 5, 6, 7, 8, 9, 10, 11, 12, 13, 14, 15, 16, 17, 18, 19, 20, 21, 22, 23, 24, 25, 26], [0, 1, 3, 4, 5, 6, 7, 8, 9, 10, 11, 12, 13, 14, 15, 16, 17, 18, 19, 20, 21, 22, 23, 24, 25, 26, 27], [0, 1, 2, 3, 4, 5, 6, 7, 8, 9, 10, 11, 12, 13, 14, 15, 16, 17, 18, 19, 20, 21, 22, 23, 24, 25, 26, 27, 28], [0, 1, 2, 3, 4, 5, 6, 7, 8, 9, 10, 11, 12, 13, 14, 15, 16, 17, 18, 19, 20, 21, 22, 23, 24, 25, 26, 27, 28, 29], [0, 1, 2, 3, 4, 5, 6, 7, 8, 9, 10, 11, 12, 13, 14, 15, 16, 17, 18, 19, 20, 21, 22, 23, 24, 25, 26, 27, 28, 29, 30]]
          (by kernel_rfl) (by decide) (by kernel_rfl) (by kernel_rfl) (by kernel_rfl) (by kernel_rfl) (by kernel_rfl) (fun _ => Kept2.same _ _ _) (fun _ _ _ h k => h.then_ k) (fun _ _ h => h.more) ?_ (HI0.out) ?_ ?_
        · intro t ht vs w w' h hE
          simp only [List.mem_cons, List.not_mem_nil, or_false] at ht
          rcases ht with rfl | rfl | rfl | rfl | rfl | rfl | rfl | rfl | rfl | rfl | rfl | rfl | rfl | rfl | rfl | rfl | rfl | rfl | rfl | rfl | rfl | rfl | rfl | rfl | rfl | rfl | rfl | rfl | rfl
          · exact h
          · exact h
          · exact h
          · exact h
          · exact h
          · exact h
          · exact h
          · exact h
          · exact h
          · exact h
          · exact h
          · exact h
          · exact h.kept2 hE (by omega) (by omega)
          · exact h
          · exact h
          · exact h
          · exact h
          · exact h
          · exact h
          · exact h.kept2 hE (by omega) (by omega)
          · exact h
          · exact h
          · exact h
          · exact h
          · exact h
          · exact h
          · exact h
          · exact h
          · exact h
        ·
          refine Rg.cons 0 1 rfl (Rg.plain rfl ?_) ?_
          · intro vs W n hn hI hG hT hF K hK
            simp only [Rg.putsD, List.getD_cons_zero, List.getD_cons_succ, Act.put, List.setIfInBounds_toArray, List.set_cons_zero, List.set_cons_succ] at hK ⊢
            have hn1 : n < 32 := hn
            clear hn
            clear hF
            have H := Lib.hid hK
            clear hK hT
            go_simp
            exact H.out _ _ (Kept2.same _ _ _) rfl (fun h => by cases h) hI.step
          refine Rg.cons 1 2 rfl (Rg.plain rfl ?_) ?_
          · intro vs W n hn hI hG hT hF K hK
            simp only [Rg.putsD, List.getD_cons_zero, List.getD_cons_succ, Act.put, List.setIfInBounds_toArray, List.set_cons_zero, List.set_cons_succ] at hK ⊢
            have hn1 : n < 32 := hn
            clear hn
            clear hF
            have H := Lib.hid hK
            clear hK hT
            go_simp
            exact H.out _ _ (Kept2.same _ _ _) rfl (fun h => by cases h) hI.step
          refine Rg.cons 2 3 rfl (Rg.plain rfl ?_) ?_
          · intro vs W n hn hI hG hT hF K hK
            simp only [Rg.putsD, List.getD_cons_zero, List.getD_cons_succ, Act.put, List.setIfInBounds_toArray, List.set_cons_zero, List.set_cons_succ] at hK ⊢
            have hn1 : n < 32 := hn
            clear hn
            clear hF
            have H := Lib.hid hK
            clear hK hT
            go_simp
            exact H.out _ _ (Kept2.same _ _ _) rfl (fun h => by cases h) hI.step
          refine Rg.cons 3 4 rfl (Rg.plain rfl ?_) ?_
          · intro vs W n hn hI hG hT hF K hK
            simp only [Rg.putsD, List.getD_cons_zero, List.getD_cons_succ, Act.put, List.setIfInBounds_toArray, List.set_cons_zero, List.set_cons_succ] at hK ⊢
            have hn1 : n < 32 := hn
            clear hn
            clear hF
            have H := Lib.hid hK
            clear hK hT
            go_simp
            exact H.out _ _ (Kept2.same _ _ _) rfl (fun h => by cases h) hI.step
          refine Rg.cons 4 5 rfl (Rg.plain rfl ?_) ?_
          · intro vs W n hn hI hG hT hF K hK
            simp only [Rg.putsD, List.getD_cons_zero, List.getD_cons_succ, Act.put, List.setIfInBounds_toArray, List.set_cons_zero, List.set_cons_succ] at hK ⊢
            have hn1 : n < 32 := hn
            clear hn
            clear hF
            have H := Lib.hid hK
            clear hK hT
            go_simp
            exact H.out _ _ (Kept2.same _ _ _) rfl (fun h => by cases h) hI.step
          refine Rg.cons 5 6 rfl (Rg.plain rfl ?_) ?_
          · intro vs W n hn hI hG hT hF K hK
            simp only [Rg.putsD, List.getD_cons_zero, List.getD_cons_succ, Act.put, List.setIfInBounds_toArray, List.set_cons_zero, List.set_cons_succ] at hK ⊢
            have hn1 : n < 32 := hn
            clear hn
            clear hF
            have t4 : vs 4 = .pointer (some ⟨g, j * 3, none⟩) := hT 4 (by decide)
            simp only [t4] at hK
            have H := Lib.hid hK
            clear hK hT
            go_simp
            exact H.out _ _ (Kept2.same _ _ _) rfl (fun h => by cases h) hI.step
          refine Rg.cons 6 7 rfl (Rg.plain rfl ?_) ?_
          · intro vs W n hn hI hG hT hF K hK
            simp only [Rg.putsD, List.getD_cons_zero, List.getD_cons_succ, Act.put, List.setIfInBounds_toArray, List.set_cons_zero, List.set_cons_succ] at hK ⊢
            have hn1 : n < 32 := hn
            clear hn
            clear hF
            have t5 : vs 5 = .pointer (some ⟨g, j * 3, none⟩) := hT 5 (by decide)
            simp only [t5] at hK
            have H := Lib.hid hK
            clear hK hT
            go_simp
            exact H.out _ _ (Kept2.same _ _ _) rfl (fun h => by cases h) hI.step
          refine Rg.cons 7 8 rfl (Rg.plain rfl ?_) ?_
          · intro vs W n hn hI hG hT hF K hK
            simp only [Rg.putsD, List.getD_cons_zero, List.getD_cons_succ, Act.put, List.setIfInBounds_toArray, List.set_cons_zero, List.set_cons_succ] at hK ⊢
            have hn1 : n < 32 := hn
            clear hn
            clear hF
            have t6 : vs 6 = .pointer (some ⟨g, j * 3, none⟩) := hT 6 (by decide)
            obtain ⟨z1, z2, z3, zz, c0, c1, c2⟩ := az_row hI rfl hj
            simp only [t6] at hK
            have H := Lib.hid hK
            clear hK hT
            go_simp
            exact H.out _ _ (Kept2.same _ _ _) ⟨_, rfl, zz.1⟩ (fun h => by cases h) hI.step
          refine Rg.cons 8 9 rfl (Rg.plain rfl ?_) ?_
          · intro vs W n hn hI hG hT hF K hK
            simp only [Rg.putsD, List.getD_cons_zero, List.getD_cons_succ, Act.put, List.setIfInBounds_toArray, List.set_cons_zero, List.set_cons_succ] at hK ⊢
            have hn1 : n < 32 := hn
            clear hn
            clear hF
            have H := Lib.hid hK
            clear hK hT
            go_simp
            exact H.out _ _ (Kept2.same _ _ _) rfl (fun h => by cases h) hI.step
          refine Rg.cons 9 10 rfl (Rg.plain rfl ?_) ?_
          · intro vs W n hn hI hG hT hF K hK
            simp only [Rg.putsD, List.getD_cons_zero, List.getD_cons_succ, Act.put, List.setIfInBounds_toArray, List.set_cons_zero, List.set_cons_succ] at hK ⊢
            have hn1 : n < 32 := hn
            clear hn
            clear hF
            have t8 : vs 8 = .pointer (some ⟨g, j * 3, none⟩) := hT 8 (by decide)
            simp only [t8] at hK
            have H := Lib.hid hK
            clear hK hT
            go_simp
            exact H.out _ _ (Kept2.same _ _ _) rfl (fun h => by cases h) hI.step
          refine Rg.cons 10 11 rfl (Rg.plain rfl ?_) ?_
          · intro vs W n hn hI hG hT hF K hK
            simp only [Rg.putsD, List.getD_cons_zero, List.getD_cons_succ, Act.put, List.setIfInBounds_toArray, List.set_cons_zero, List.set_cons_succ] at hK ⊢
            have hn1 : n < 32 := hn
            clear hn
            clear hF
            have t9 : vs 9 = .pointer (some ⟨g, j * 3, none⟩) := hT 9 (by decide)
            simp only [t9] at hK
            have H := Lib.hid hK
            clear hK hT
            go_simp
            exact H.out _ _ (Kept2.same _ _ _) rfl (fun h => by cases h) hI.step
          refine Rg.cons 11 12 rfl (Rg.plain rfl ?_) ?_
          · intro vs W n hn hI hG hT hF K hK
            simp only [Rg.putsD, List.getD_cons_zero, List.getD_cons_succ, Act.put, List.setIfInBounds_toArray, List.set_cons_zero, List.set_cons_succ] at hK ⊢
            have hn1 : n < 32 := hn
            clear hn
            clear hF
            have t10 : vs 10 = .pointer (some ⟨g, j * 3 + 1, none⟩) := hT 10 (by decide)
            obtain ⟨z1, z2, z3, zz, c0, c1, c2⟩ := az_row hI rfl hj
            simp only [t10] at hK
            have H := Lib.hid hK
            clear hK hT
            go_simp
            exact H.out _ _ (Kept2.same _ _ _) ⟨_, rfl, zz.2⟩ (fun h => by cases h) hI.step
          refine Rg.cons 12 13 rfl (Rg.plain rfl ?_) ?_
          · intro vs W n hn hI hG hT hF K hK
            simp only [Rg.putsD, List.getD_cons_zero, List.getD_cons_succ, Act.put, List.setIfInBounds_toArray, List.set_cons_zero, List.set_cons_succ] at hK ⊢
            have hn1 : n < 32 := hn
            clear hn
            clear hF
            have t7 : ∃ s : ByteArray, vs 7 = .string s ∧ s.size ≤ 5 := hT 7 (by decide)
            have t11 : ∃ s : ByteArray, vs 11 = .string s ∧ s.size ≤ 5 := hT 11 (by decide)
            obtain ⟨s7, e7, z7⟩ := t7
            obtain ⟨s11, e11, z11⟩ := t11
            simp only [e7, e11] at hK
            have H := Lib.hid hK
            clear hK hT
            go_simp
            exact H.out _ _ (Kept2.alloc _) (StrZ.new [s7, s11, ⟨#[122, 122]⟩] rfl hG.more (by intro s hs; simp at hs; rcases hs with rfl | rfl | rfl; exact z7; exact z11; decide)) (fun h => by cases h) (hI.alloc _)
          refine Rg.cons 13 14 rfl (Rg.plain rfl ?_) ?_
          · intro vs W n hn hI hG hT hF K hK
            simp only [Rg.putsD, List.getD_cons_zero, List.getD_cons_succ, Act.put, List.setIfInBounds_toArray, List.set_cons_zero, List.set_cons_succ] at hK ⊢
            have hn1 : n < 32 := hn
            clear hn
            clear hF
            have t3 : vs 3 = .pointer (some ⟨sb, 0, none⟩) := hT 3 (by decide)
            have t12 : StrZ W6.heap.size 3 (vs 12) W := hT 12 (by decide)
            obtain ⟨b8, xs8, n8, c8, e8, k8, f8⟩ := t12
            have N8 := Lib.hid (And.intro n8 k8)
            clear n8 k8
            simp only [e8] at hK
            simp only [t3] at hK
            have H := Lib.hid hK
            clear hK hT
            go_simp
            refine (some_blk N8.out.2 N8.out.1 (by decide) (by decide) (by omega) (by omega) hI.1).mono ?_
            rintro e w1 ⟨x, hx, rfl, ht⟩
            exact H.out _ _ (.of_took ht) ⟨_, rfl, f8 _ hx⟩ (fun h => by cases h) (hI.took ht (by omega))
          refine Rg.cons 14 15 rfl (Rg.plain rfl ?_) ?_
          · intro vs W n hn hI hG hT hF K hK
            simp only [Rg.putsD, List.getD_cons_zero, List.getD_cons_succ, Act.put, List.setIfInBounds_toArray, List.set_cons_zero, List.set_cons_succ] at hK ⊢
            have hn1 : n < 32 := hn
            clear hn
            clear hF
            have H := Lib.hid hK
            clear hK hT
            go_simp
            exact H.out _ _ (Kept2.same _ _ _) rfl (fun h => by cases h) hI.step
          refine Rg.cons 15 16 rfl (Rg.plain rfl ?_) ?_
          · intro vs W n hn hI hG hT hF K hK
            simp only [Rg.putsD, List.getD_cons_zero, List.getD_cons_succ, Act.put, List.setIfInBounds_toArray, List.set_cons_zero, List.set_cons_succ] at hK ⊢
            have hn1 : n < 32 := hn
            clear hn
            clear hF
            have H := Lib.hid hK
            clear hK hT
            go_simp
            exact H.out _ _ (Kept2.same _ _ _) rfl (fun h => by cases h) hI.step
          refine Rg.cons 16 17 rfl (Rg.plain rfl ?_) ?_
          · intro vs W n hn hI hG hT hF K hK
            simp only [Rg.putsD, List.getD_cons_zero, List.getD_cons_succ, Act.put, List.setIfInBounds_toArray, List.set_cons_zero, List.set_cons_succ] at hK ⊢
            have hn1 : n < 32 := hn
            clear hn
            clear hF
            have t15 : vs 15 = .pointer (some ⟨g, j * 3, none⟩) := hT 15 (by decide)
            simp only [t15] at hK
            have H := Lib.hid hK
            clear hK hT
            go_simp
            exact H.out _ _ (Kept2.same _ _ _) rfl (fun h => by cases h) hI.step
          refine Rg.cons 17 18 rfl (Rg.plain rfl ?_) ?_
          · intro vs W n hn hI hG hT hF K hK
            simp only [Rg.putsD, List.getD_cons_zero, List.getD_cons_succ, Act.put, List.setIfInBounds_toArray, List.set_cons_zero, List.set_cons_succ] at hK ⊢
            have hn1 : n < 32 := hn
            clear hn
            clear hF
            have t16 : vs 16 = .pointer (some ⟨g, j * 3, none⟩) := hT 16 (by decide)
            simp only [t16] at hK
            have H := Lib.hid hK
            clear hK hT
            go_simp
            exact H.out _ _ (Kept2.same _ _ _) rfl (fun h => by cases h) hI.step
          refine Rg.cons 18 19 rfl (Rg.plain rfl ?_) ?_
          · intro vs W n hn hI hG hT hF K hK
            simp only [Rg.putsD, List.getD_cons_zero, List.getD_cons_succ, Act.put, List.setIfInBounds_toArray, List.set_cons_zero, List.set_cons_succ] at hK ⊢
            have hn1 : n < 32 := hn
            clear hn
            clear hF
            have t17 : vs 17 = .pointer (some ⟨g, j * 3 + 1, none⟩) := hT 17 (by decide)
            obtain ⟨z1, z2, z3, zz, c0, c1, c2⟩ := az_row hI rfl hj
            simp only [t17] at hK
            have H := Lib.hid hK
            clear hK hT
            go_simp
            exact H.out _ _ (Kept2.same _ _ _) ⟨_, rfl, zz.2⟩ (fun h => by cases h) hI.step
          refine Rg.cons 19 20 rfl (Rg.plain rfl ?_) ?_
          · intro vs W n hn hI hG hT hF K hK
            simp only [Rg.putsD, List.getD_cons_zero, List.getD_cons_succ, Act.put, List.setIfInBounds_toArray, List.set_cons_zero, List.set_cons_succ] at hK ⊢
            have hn1 : n < 32 := hn
            clear hn
            clear hF
            have t18 : ∃ s : ByteArray, vs 18 = .string s ∧ s.size ≤ 5 := hT 18 (by decide)
            obtain ⟨s18, e18, z18⟩ := t18
            simp only [e18] at hK
            have H := Lib.hid hK
            clear hK hT
            go_simp
            exact H.out _ _ (Kept2.alloc _) (StrZ.new [s18, ⟨#[97]⟩, ⟨#[98]⟩] rfl hG.more (by intro s hs; simp at hs; rcases hs with rfl | rfl | rfl; exact z18; decide; decide)) (fun h => by cases h) (hI.alloc _)
          refine Rg.cons 20 21 rfl (Rg.plain rfl ?_) ?_
          · intro vs W n hn hI hG hT hF K hK
            simp only [Rg.putsD, List.getD_cons_zero, List.getD_cons_succ, Act.put, List.setIfInBounds_toArray, List.set_cons_zero, List.set_cons_succ] at hK ⊢
            have hn1 : n < 32 := hn
            clear hn
            clear hF
            have t14 : vs 14 = .pointer (some ⟨sb, 0, none⟩) := hT 14 (by decide)
            have t19 : StrZ W6.heap.size 3 (vs 19) W := hT 19 (by decide)
            obtain ⟨b8, xs8, n8, c8, e8, k8, f8⟩ := t19
            have N8 := Lib.hid (And.intro n8 k8)
            clear n8 k8
            simp only [e8] at hK
            simp only [t14] at hK
            have H := Lib.hid hK
            clear hK hT
            go_simp
            refine (some_blk N8.out.2 N8.out.1 (by decide) (by decide) (by omega) (by omega) hI.1).mono ?_
            rintro e w1 ⟨x, hx, rfl, ht⟩
            exact H.out _ _ (.of_took ht) ⟨_, rfl, f8 _ hx⟩ (fun h => by cases h) (hI.took ht (by omega))
          refine Rg.cons 21 22 rfl (Rg.plain rfl ?_) ?_
          · intro vs W n hn hI hG hT hF K hK
            simp only [Rg.putsD, List.getD_cons_zero, List.getD_cons_succ, Act.put, List.setIfInBounds_toArray, List.set_cons_zero, List.set_cons_succ] at hK ⊢
            have hn1 : n < 32 := hn
            clear hn
            clear hF
            have H := Lib.hid hK
            clear hK hT
            go_simp
            exact H.out _ _ (Kept2.same _ _ _) rfl (fun h => by cases h) hI.step
          refine Rg.cons 22 23 rfl (Rg.plain rfl ?_) ?_
          · intro vs W n hn hI hG hT hF K hK
            simp only [Rg.putsD, List.getD_cons_zero, List.getD_cons_succ, Act.put, List.setIfInBounds_toArray, List.set_cons_zero, List.set_cons_succ] at hK ⊢
            have hn1 : n < 32 := hn
            clear hn
            clear hF
            have t21 : vs 21 = .pointer (some ⟨sb, 0, none⟩) := hT 21 (by decide)
            simp only [t21] at hK
            have H := Lib.hid hK
            clear hK hT
            go_simp
            refine (flip_any sb _ _ _ (by omega) (by omega) (by omega) hI.1).mono ?_
            rintro e w1 ⟨x, rfl, ht⟩
            exact H.out _ _ (.of_took ht) ⟨_, rfl⟩ (fun h => by cases h) (hI.took ht (by omega))
          refine Rg.cons 23 24 rfl (Rg.plain rfl ?_) ?_
          · intro vs W n hn hI hG hT hF K hK
            simp only [Rg.putsD, List.getD_cons_zero, List.getD_cons_succ, Act.put, List.setIfInBounds_toArray, List.set_cons_zero, List.set_cons_succ] at hK ⊢
            have hn1 : n < 32 := hn
            clear hn
            clear hF
            have t0 : vs 0 = .pointer (some ⟨g, j * 3, none⟩) := hT 0 (by decide)
            simp only [t0] at hK
            have H := Lib.hid hK
            clear hK hT
            go_simp
            exact H.out _ _ (Kept2.same _ _ _) rfl (fun h => by cases h) hI.step
          refine Rg.cons 24 25 rfl (Rg.plain rfl ?_) ?_
          · intro vs W n hn hI hG hT hF K hK
            simp only [Rg.putsD, List.getD_cons_zero, List.getD_cons_succ, Act.put, List.setIfInBounds_toArray, List.set_cons_zero, List.set_cons_succ] at hK ⊢
            have hn1 : n < 32 := hn
            clear hn
            clear hF
            have t23 : vs 23 = .pointer (some ⟨g, j * 3, none⟩) := hT 23 (by decide)
            simp only [t23] at hK
            have H := Lib.hid hK
            clear hK hT
            go_simp
            exact H.out _ _ (Kept2.same _ _ _) rfl (fun h => by cases h) hI.step
          refine Rg.cons 25 26 rfl (Rg.plain rfl ?_) ?_
          · intro vs W n hn hI hG hT hF K hK
            simp only [Rg.putsD, List.getD_cons_zero, List.getD_cons_succ, Act.put, List.setIfInBounds_toArray, List.set_cons_zero, List.set_cons_succ] at hK ⊢
            have hn1 : n < 32 := hn
            clear hn
            clear hF
            have t24 : vs 24 = .pointer (some ⟨g, j * 3, none⟩) := hT 24 (by decide)
            have t13 : ∃ s : ByteArray, vs 13 = .string s ∧ s.size ≤ 5 := hT 13 (by decide)
            obtain ⟨s9, e9, z9⟩ := t13
            simp only [e9] at hK
            obtain ⟨z1, z2, z3, zz, c0, c1, c2⟩ := az_row hI rfl hj
            have fz := hI.frozen (j * 3)
            simp only [t24] at hK
            have H := Lib.hid hK
            clear hK hT
            go_simp
            exact H.out (.bool true) _ ((Kept2.same sb g W).store (p := ⟨g, _, none⟩) rfl _) trivial (fun h => by cases h) (hI.store (j := 0) az_typ hj (by decide) _ (by omega) (az_str0 _ z9))
          refine Rg.cons 26 27 rfl (Rg.plain rfl ?_) ?_
          · intro vs W n hn hI hG hT hF K hK
            simp only [Rg.putsD, List.getD_cons_zero, List.getD_cons_succ, Act.put, List.setIfInBounds_toArray, List.set_cons_zero, List.set_cons_succ] at hK ⊢
            have hn1 : n < 32 := hn
            clear hn
            clear hF
            have t1 : vs 1 = .pointer (some ⟨g, j * 3, none⟩) := hT 1 (by decide)
            simp only [t1] at hK
            have H := Lib.hid hK
            clear hK hT
            go_simp
            exact H.out _ _ (Kept2.same _ _ _) rfl (fun h => by cases h) hI.step
          refine Rg.cons 27 28 rfl (Rg.plain rfl ?_) ?_
          · intro vs W n hn hI hG hT hF K hK
            simp only [Rg.putsD, List.getD_cons_zero, List.getD_cons_succ, Act.put, List.setIfInBounds_toArray, List.set_cons_zero, List.set_cons_succ] at hK ⊢
            have hn1 : n < 32 := hn
            clear hn
            clear hF
            have t26 : vs 26 = .pointer (some ⟨g, j * 3, none⟩) := hT 26 (by decide)
            simp only [t26] at hK
            have H := Lib.hid hK
            clear hK hT
            go_simp
            exact H.out _ _ (Kept2.same _ _ _) rfl (fun h => by cases h) hI.step
          refine Rg.cons 28 29 rfl (Rg.plain rfl ?_) ?_
          · intro vs W n hn hI hG hT hF K hK
            simp only [Rg.putsD, List.getD_cons_zero, List.getD_cons_succ, Act.put, List.setIfInBounds_toArray, List.set_cons_zero, List.set_cons_succ] at hK ⊢
            have hn1 : n < 32 := hn
            clear hn
            clear hF
            have t27 : vs 27 = .pointer (some ⟨g, j * 3 + 1, none⟩) := hT 27 (by decide)
            have t20 : ∃ s : ByteArray, vs 20 = .string s ∧ s.size ≤ 5 := hT 20 (by decide)
            obtain ⟨s9, e9, z9⟩ := t20
            simp only [e9] at hK
            obtain ⟨z1, z2, z3, zz, c0, c1, c2⟩ := az_row hI rfl hj
            have fz := hI.frozen (j * 3 + 1)
            simp only [t27] at hK
            have H := Lib.hid hK
            clear hK hT
            go_simp
            exact H.out (.bool true) _ ((Kept2.same sb g W).store (p := ⟨g, _, none⟩) rfl _) trivial (fun h => by cases h) (hI.store (j := 1) az_typ hj (by decide) _ (by omega) (az_str1 _ z9))
          exact Rg.nil
        · intro vs W hG hI hT hF
          have t0 : vs 0 = .pointer (some ⟨g, j * 3, none⟩) := hT 0 (by decide)
          have t1 : vs 1 = .pointer (some ⟨g, j * 3, none⟩) := hT 1 (by decide)
          have t2 : vs 2 = .pointer (some ⟨g, j * 3, none⟩) := hT 2 (by decide)
          have t3 : vs 3 = .pointer (some ⟨sb, 0, none⟩) := hT 3 (by decide)
          have t4 : vs 4 = .pointer (some ⟨g, j * 3, none⟩) := hT 4 (by decide)
          have t5 : vs 5 = .pointer (some ⟨g, j * 3, none⟩) := hT 5 (by decide)
          have t6 : vs 6 = .pointer (some ⟨g, j * 3, none⟩) := hT 6 (by decide)
          have t7 : ∃ s : ByteArray, vs 7 = .string s ∧ s.size ≤ 5 := hT 7 (by decide)
          have t8 : vs 8 = .pointer (some ⟨g, j * 3, none⟩) := hT 8 (by decide)
          have t9 : vs 9 = .pointer (some ⟨g, j * 3, none⟩) := hT 9 (by decide)
          have t10 : vs 10 = .pointer (some ⟨g, j * 3 + 1, none⟩) := hT 10 (by decide)
          have t11 : ∃ s : ByteArray, vs 11 = .string s ∧ s.size ≤ 5 := hT 11 (by decide)
          have t12 : StrZ W6.heap.size 3 (vs 12) W := hT 12 (by decide)
          have t13 : ∃ s : ByteArray, vs 13 = .string s ∧ s.size ≤ 5 := hT 13 (by decide)
          have t14 : vs 14 = .pointer (some ⟨sb, 0, none⟩) := hT 14 (by decide)
          have t15 : vs 15 = .pointer (some ⟨g, j * 3, none⟩) := hT 15 (by decide)
          have t16 : vs 16 = .pointer (some ⟨g, j * 3, none⟩) := hT 16 (by decide)
          have t17 : vs 17 = .pointer (some ⟨g, j * 3 + 1, none⟩) := hT 17 (by decide)
          have t18 : ∃ s : ByteArray, vs 18 = .string s ∧ s.size ≤ 5 := hT 18 (by decide)
          have t19 : StrZ W6.heap.size 3 (vs 19) W := hT 19 (by decide)
          have t20 : ∃ s : ByteArray, vs 20 = .string s ∧ s.size ≤ 5 := hT 20 (by decide)
          have t21 : vs 21 = .pointer (some ⟨sb, 0, none⟩) := hT 21 (by decide)
          have t22 : ∃ x : Bool, vs 22 = .bool x := hT 22 (by decide)
          have t23 : vs 23 = .pointer (some ⟨g, j * 3, none⟩) := hT 23 (by decide)
          have t24 : vs 24 = .pointer (some ⟨g, j * 3, none⟩) := hT 24 (by decide)
          have t26 : vs 26 = .pointer (some ⟨g, j * 3, none⟩) := hT 26 (by decide)
          have t27 : vs 27 = .pointer (some ⟨g, j * 3 + 1, none⟩) := hT 27 (by decide)
          simp only [List.length_cons, List.length_nil, Nat.reduceAdd, List.range, List.range.loop, List.drop_succ_cons, List.drop_zero, Rg.putsD, List.getD_cons_zero, List.getD_cons_succ, Act.put, List.setIfInBounds_toArray, List.set_cons_zero, List.set_cons_succ, t0, t1, t2, t3, t4, t5, t6, t8, t9, t10, t14, t15, t16, t17, t21, t23, t24, t26, t27]
          clear hT t0 t1 t2 t3 t4 t5 t6 t8 t9 t10 t14 t15 t16 t17 t21 t23 t24 t26 t27
          obtain ⟨x23, e23⟩ := t22
          have hIv : RowI encAZ 51 3 sb (b + 12) g al.length k2 (w.heap.size + 3) 29 W := hI
          obtain ⟨z1, z2, z3, zz, c0, c1, c2⟩ := az_row hIv rfl hj
          have fz := hIv.frozen (j * 3 + 2)
          have hst := hIv.store az_typ hj (j := 2) (by decide) (.bool x23) (by omega) (az_bool2 x23)
          have HF : Hid (∃ l' al', l'.length = l.length ∧ al'.length = al.length ∧ CO sb (b + 200) w (.slice A1 l.length k1) (.slice (some ⟨g, 0, none⟩) al.length k2) l' al' (W.setCell ⟨g, j * 3 + 2, none⟩ (.bool x23))) := by
            obtain ⟨hs2, l2, hl2, ho2⟩ := hst
            refine ⟨l, l2.map Subtype.val, rfl, by rw [List.length_map, hl2], ⟨hs2.more (by omega), (kept_of2 HW.out.tk.drew.2 hG (by omega)).store (.inr (by simp; omega)) _⟩, blk_far (hG.blk HW.out.k2 (by omega) (by omega)) (by simp; omega) _, blk_far (hG.blk HW.out.k3 (by omega) (by omega)) (by simp; omega) _, blk_far (hG.blk HW.out.kn (by omega) (by omega)) (by simp; omega) _, ?_, ?_, HW.out.s1, ?_⟩
            · exact own_kept2 (w := W6.drew) HW.out.o1 (hG.store (p := ⟨g, _, none⟩) rfl _) (by omega) (own_apart HW.out.o1 HW.out.o2 (by decide))
            · rw [← azflat, List.length_map, hl2]
              exact ho2
            · intro p hp
              obtain ⟨q, _, rfl⟩ := List.mem_map.mp hp
              exact q.2
          have E23 := Lib.hid e23
          clear hst hI hIv hG hF e23 HW HI0
          simp only [E23.out]
          go_wp2_with fail
          refine bodyPost_ret (v := .tuple #[]) (by unfold results; simp only [Tryz.results20]; go_simp) rfl ⟨rfl, HF.out⟩
end Go.Proofs.YtiooimfkobjpkaaGreatDoor
