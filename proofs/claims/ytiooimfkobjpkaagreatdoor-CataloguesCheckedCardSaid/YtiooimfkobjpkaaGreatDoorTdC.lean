/-
  The maker of catalogues.
-/
import Derived.Test.YtiooimfkobjpkaaGreatDoorTdB
namespace Go.Proofs.YtiooimfkobjpkaaGreatDoor
open Go.RowKit
set_option linter.unusedSimpArgs false
set_option linter.unusedVariables false

def nmL : List ByteArray := [⟨#[97]⟩, ⟨#[98]⟩, ⟨#[99]⟩, ⟨#[100]⟩, ⟨#[101]⟩]
def pkL : List ByteArray := [⟨#[112, 48, 52, 48, 50]⟩, ⟨#[112, 48, 52, 48, 50]⟩, ⟨#[112, 48, 54, 48, 51]⟩]
theorem nmL_size {k : Nat} (h : k < nmL.length) : nmL[k].size ≤ 5 := by
  have : ∀ s ∈ nmL, s.size ≤ 5 := by decide
  exact this _ (List.getElem_mem h)
/-- What stands in memory while a catalogue is made. -/
structure CO (sb b : Nat) (w : World) (v1 v2 : Value) (l : List Pa) (al : List Al) (W : World) : Prop where
  tk : Took sb b w W
  k2 : W.heap[w.heap.size]? = some (.cells #[.slice none 0 0, .slice none 0 0] 29 (0, 0))
  k3 : W.heap[w.heap.size + 1]? = some (.cells #[v1, v2] 29 (0, 0))
  kn : W.heap[w.heap.size + 1 + 1]? = some (.cells (nmL.map Value.string).toArray 9 (0, 0))
  o1 : W.ownsRow (w.heap.size + 3) 47 4 v1 l.length (l.flatMap encPa)
  o2 : W.ownsRow (w.heap.size + 3) 51 3 v2 al.length (al.flatMap encAl)
  s1 : ∀ p ∈ l, p.key.size ≤ 5 ∧ p.pk.size ≤ 5
  s2 : ∀ a ∈ al, a.par.size ≤ 5 ∧ a.by_.size ≤ 5
theorem CO.took {sb b b' : Nat} {w W W' : World} {v1 v2 : Value} {l : List Pa} {al : List Al} (h : CO sb b w v1 v2 l al W) (hlt : sb < w.heap.size) (t : Took sb b' W W') : CO sb b' w v1 v2 l al W' :=
  ⟨h.tk.trans t, t.blk h.k2 (by omega), t.blk h.k3 (by omega), t.blk h.kn (by omega), kept_own h.o1 t.2 (by omega), kept_own h.o2 t.2 (by omega), h.s1, h.s2⟩
theorem CO.below {sb b : Nat} {w W W' : World} {v1 v2 : Value} {l : List Pa} {al : List Al} (h : CO sb b w v1 v2 l al W) (hb : Below W.heap.size W W') : CO sb b w v1 v2 l al W' :=
  ⟨h.tk.below hb, blk_below hb h.k2, blk_below hb h.k3, blk_below hb h.kn, own_below h.o1 hb, own_below h.o2 hb, h.s1, h.s2⟩
theorem CO.more {sb b b' : Nat} {w W : World} {v1 v2 : Value} {l : List Pa} {al : List Al} (h : CO sb b w v1 v2 l al W) (hb : b ≤ b') : CO sb b' w v1 v2 l al W := ⟨h.tk.more hb, h.k2, h.k3, h.kn, h.o1, h.o2, h.s1, h.s2⟩
/-- A catalogue that a stream makes. -/
def CatOf (sb b : Nat) (w : World) (e : Ending) (w' : World) : Prop :=
  ∃ (v1 v2 : Value) (l : List Pa) (al : List Al), e = .returned (.agg #[v1, v2]) ∧ l.length ≤ 5 ∧ al.length ≤ 25 ∧ (∀ p ∈ l, p.key.size ≤ 5 ∧ p.pk.size ≤ 5) ∧ (∀ a ∈ al, a.par.size ≤ 5 ∧ a.by_.size ≤ 5) ∧ w'.ownsRow w.heap.size 47 4 v1 l.length (l.flatMap encPa) ∧ w'.ownsRow w.heap.size 51 3 v2 al.length (al.flatMap encAl) ∧ Took sb b w w'
def SpoilOk : Prop := ∀ (sb b : Nat) (w W : World) (v1 v2 : Value) (l : List Pa) (al : List Al), sb < w.heap.size → b ≤ 800000 → l.length ≤ 5 → al.length ≤ 25 → CO sb b w v1 v2 l al W →
  Calls Tryz.prog 20 #[.pointer (some ⟨sb, 0, none⟩), .pointer (some ⟨w.heap.size + 1, 0, none⟩)] W fun e W' => e = .returned (.tuple #[]) ∧ ∃ (l' : List Pa) (al' : List Al), l'.length = l.length ∧ al'.length = al.length ∧ CO sb (b + 200) w v1 v2 l' al' W'

set_option maxRecDepth 100000 in
set_option maxHeartbeats 16000000 in
theorem catOf_any (hsp : SpoilOk) (sb b : Nat) (w : World) (hb : b ≤ 700000) (hs : IsStream w sb b) :
    Calls Tryz.prog 4 #[.pointer (some ⟨sb, 0, none⟩)] w (CatOf sb (b + 700) w) := by
  have hlt := hs.lt
  have HSP := Lib.hid hsp
  clear hsp
  go_enter Tryz.func4, Tryz.ntmps4
  go_wp2_with fail
  refine (range_any sb b 0 5 _ (by omega) (by omega) (by omega) (by omega) (((hs.alloc _).alloc _).alloc _)).mono ?_
  rintro e w3 ⟨cnt, hc0, hc5, rfl, t3⟩
  obtain ⟨cn, rfl⟩ := Int.eq_ofNat_of_zero_le hc0
  have hcn : cn ≤ 5 := by omega
  have H3 : Hid (CO sb (b + 1) w (.slice none 0 0) (.slice none 0 0) [] [] w3) :=
    ⟨t3.from_alloc.from_alloc.from_alloc, t3.blk (blk_alloc (blk_alloc (blk_new w _ rfl) _) _) (by omega), t3.blk (blk_alloc (blk_new _ _ (by simp)) _) (by omega), t3.blk (blk_new _ _ (by simp)) (by omega), World.ownsRow_nil _ _ _ _, World.ownsRow_nil _ _ _ _, (fun p hp => by cases hp), (fun p hp => by cases hp)⟩
  have hs3 : w.heap.size + 1 + 1 < w3.heap.size := lt_of_blk H3.out.kn
  clear t3 hc0 hc5
  go_wp2_with fail
  go_loopw [18] (fun kk wr => ∃ (k : Nat) (v1 : Value) (l : List Pa), k ≤ cn ∧ kk = .int .i64 k ∧ l.length = k ∧ w.heap.size + 1 + 1 < wr.heap.size ∧ Hid (CO sb (b + 1 + 24 * k) w v1 (.slice none 0 0) l [] wr)) (fun kk _ => cn - (intOf kk).toNat)
  case atStart => exact ⟨0, _, [], by omega, rfl, rfl, hs3, H3.out⟩
  case round =>
    clear H3
    obtain ⟨k, v1, l, hk, rfl, hl, hsz1, HR⟩ := hrel
    obtain ⟨A3, k3, rfl, _⟩ := own_form HR.out.o1
    have HLL := Lib.hid hl
    have hl5 : l.length ≤ 5 := by omega
    clear hl
    by_cases hlt5 : k < cn
    · have hk5 : k < nmL.length := by show k < 5; omega
      have q0 : wr.cell? ⟨w.heap.size + 1 + 1, k, none⟩ = some (.string nmL[k]) := by rw [cell_of_blk HR.out.kn]; simp [hk5]
      have HNZ := Lib.hid (nmL_size hk5)
      generalize nmL[k] = nm at *
      clear hk5
      have i1 : (0 : Int) ≤ (k : Int) := by omega
      have i2 : (k : Int) < (cn : Int) := by omega
      go_wp2_with fail
      clear q0
      refine Rg.rgL (Kept sb)
        [(fun vs u => vs 0 = .pointer (some ⟨w.heap.size + 1, 0, none⟩)), (fun vs u => vs 1 = .slice A3 l.length k3), (fun vs u => vs 2 = .string nm), (fun vs u => vs 3 = .pointer (some ⟨sb, 0, none⟩)), (fun vs u => ∃ b4 : Nat, vs 4 = .slice (some ⟨b4, 0, none⟩) 3 3 ∧ wr.heap.size ≤ b4 ∧ u.heap[b4]? = some (.cells (pkL.map Value.string).toArray 9 (0, 0))), (fun vs u => ∃ s : ByteArray, vs 5 = .string s ∧ s.size ≤ 5), (fun vs u => vs 6 = .pointer (some ⟨sb, 0, none⟩)), (fun vs u => IntSl wr.heap.size 6 (vs 7) u), (fun vs u => ∃ x : Int, vs 8 = .int .i64 x), (fun vs u => vs 9 = .pointer (some ⟨sb, 0, none⟩)), (fun vs u => IntSl wr.heap.size 3 (vs 10) u), (fun vs u => ∃ x : Int, vs 11 = .int .i64 x), (fun vs u => ∃ (s : ByteArray) (x y : Int), s.size ≤ 5 ∧ vs 12 = .agg #[.string nm, .string s, .int .i64 x, .int .i64 y]), (fun vs u => ∃ (g : Nat) (p : Pa), (p.key.size ≤ 5 ∧ p.pk.size ≤ 5) ∧ wr.heap.size ≤ g ∧ vs 13 = .slice (some ⟨g, 0, none⟩) 1 1 ∧ u.heap[g]? = some (.cells (encPa p).toArray 47 (0, 0)))]
        [[], [0], [], [], [], [3, 4], [], [], [3, 4, 5, 6, 7], [], [], [3, 4, 5, 6, 7, 8, 9, 10], [2, 3, 4, 5, 6, 7, 8, 9, 10, 11], [2, 3, 4, 5, 6, 7, 8, 9, 10, 11, 12]] [some 22, some 23, some 24, some 25, some 26, some 27, some 28, some 29, some 30, some 31, some 32, some 33, some 34, some 35, some 36, some 37, none] [] (fun n W => IsStream W sb (b+1+24*k + n)) [[], [0], [], [], [], [3, 4], [], [], [3, 4, 5, 6, 7], [], [], [3, 4, 5, 6, 7, 8, 9, 10], [2, 3, 4, 5, 6, 7, 8, 9, 10, 11], [2, 3, 4, 5, 6, 7, 8, 9, 10, 11, 12], [0, 1, 2, 3, 4, 5, 6, 7, 8, 9, 10, 11, 12, 13], [0, 1, 2, 3, 4, 5, 6, 7, 8, 9, 10, 11, 12, 13, 14], [0, 1, 2, 3, 4, 5, 6, 7, 8, 9, 10, 11, 12, 13, 14, 15]]
        (by kernel_rfl) (by decide) (by kernel_rfl) (by kernel_rfl) (by kernel_rfl) (by kernel_rfl) (by kernel_rfl) (fun _ => Kept.same _ _) (fun _ _ _ h k => h.then_ k) (fun _ _ h => h.more) ?_ (HR.out.tk.1.drew) ?_ ?_
      · intro t ht vs w w' h hE
        simp only [List.mem_cons, List.not_mem_nil, or_false] at ht
        rcases ht with rfl | rfl | rfl | rfl | rfl | rfl | rfl | rfl | rfl | rfl | rfl | rfl | rfl | rfl
        · exact h
        · exact h
        · exact h
        · exact h
        · obtain ⟨b4, e, hb4, k⟩ := h
          exact ⟨b4, e, hb4, hE.blk k (by omega)⟩
        · exact h
        · exact h
        · exact h.kept hE (by omega)
        · exact h
        · exact h
        · exact h.kept hE (by omega)
        · exact h
        · exact h
        · obtain ⟨g, p, z, a, c, d⟩ := h
          exact ⟨g, p, z, a, c, hE.blk d (by omega)⟩
      ·
        refine Rg.cons 0 1 rfl (Rg.plain rfl ?_) ?_
        · intro vs W n hn hI hG hT hF K hK
          simp only [Rg.putsD, List.getD_cons_zero, List.getD_cons_succ, Act.put, List.setIfInBounds_toArray, List.set_cons_zero, List.set_cons_succ] at hK ⊢
          have hn1 : n < 17 := hn
          clear hn
          clear hF
          have H := Lib.hid hK
          clear hK hT
          go_simp
          exact H.out _ _ (Kept.same _ _) rfl (fun h => by cases h) (hI.more (by omega))
        refine Rg.cons 1 2 rfl (Rg.plain rfl ?_) ?_
        · intro vs W n hn hI hG hT hF K hK
          simp only [Rg.putsD, List.getD_cons_zero, List.getD_cons_succ, Act.put, List.setIfInBounds_toArray, List.set_cons_zero, List.set_cons_succ] at hK ⊢
          have hn1 : n < 17 := hn
          clear hn
          clear hF
          have t0 : vs 0 = .pointer (some ⟨w.heap.size + 1, 0, none⟩) := hT 0 (by decide)
          have hbk := hG.blk HR.out.k3 (by omega)
          have cb := cell_of_blk hbk 0
          simp at cb
          clear hbk
          simp only [t0] at hK
          have H := Lib.hid hK
          clear hK hT
          go_simp
          exact H.out _ _ (Kept.same _ _) rfl (fun h => by cases h) (hI.more (by omega))
        refine Rg.cons 2 3 rfl (Rg.plain rfl ?_) ?_
        · intro vs W n hn hI hG hT hF K hK
          simp only [Rg.putsD, List.getD_cons_zero, List.getD_cons_succ, Act.put, List.setIfInBounds_toArray, List.set_cons_zero, List.set_cons_succ] at hK ⊢
          have hn1 : n < 17 := hn
          clear hn
          clear hF
          have H := Lib.hid hK
          clear hK hT
          go_simp
          exact H.out _ _ (Kept.same _ _) rfl (fun h => by cases h) (hI.more (by omega))
        refine Rg.cons 3 4 rfl (Rg.plain rfl ?_) ?_
        · intro vs W n hn hI hG hT hF K hK
          simp only [Rg.putsD, List.getD_cons_zero, List.getD_cons_succ, Act.put, List.setIfInBounds_toArray, List.set_cons_zero, List.set_cons_succ] at hK ⊢
          have hn1 : n < 17 := hn
          clear hn
          clear hF
          have H := Lib.hid hK
          clear hK hT
          go_simp
          exact H.out _ _ (Kept.same _ _) rfl (fun h => by cases h) (hI.more (by omega))
        refine Rg.cons 4 5 rfl (Rg.plain rfl ?_) ?_
        · intro vs W n hn hI hG hT hF K hK
          simp only [Rg.putsD, List.getD_cons_zero, List.getD_cons_succ, Act.put, List.setIfInBounds_toArray, List.set_cons_zero, List.set_cons_succ] at hK ⊢
          have hn1 : n < 17 := hn
          clear hn
          clear hF
          have H := Lib.hid hK
          clear hK hT
          go_simp
          exact H.out _ _ (Kept.of_below ((Below.refl _ _).alloc (Nat.le_refl _) _)) ⟨_, rfl, hG.more, blk_new W _ rfl⟩ (fun h => by cases h) ((hI.alloc _).more (by omega))
        refine Rg.cons 5 6 rfl (Rg.plain rfl ?_) ?_
        · intro vs W n hn hI hG hT hF K hK
          simp only [Rg.putsD, List.getD_cons_zero, List.getD_cons_succ, Act.put, List.setIfInBounds_toArray, List.set_cons_zero, List.set_cons_succ] at hK ⊢
          have hn1 : n < 17 := hn
          clear hn
          clear hF
          have t3 : vs 3 = .pointer (some ⟨sb, 0, none⟩) := hT 3 (by decide)
          have t4 : ∃ b4 : Nat, vs 4 = .slice (some ⟨b4, 0, none⟩) 3 3 ∧ wr.heap.size ≤ b4 ∧ W.heap[b4]? = some (.cells (pkL.map Value.string).toArray 9 (0, 0)) := hT 4 (by decide)
          obtain ⟨b4, e4, hb4, k4⟩ := t4
          simp only [e4] at hK
          have N4 := Lib.hid k4
          clear k4
          simp only [t3] at hK
          have H := Lib.hid hK
          clear hK hT
          go_simp
          refine (some_blk (xs := pkL) N4.out rfl (by decide) (by decide) (by omega) (by omega) hI).mono ?_
          rintro e w1 ⟨x, hx, rfl, ht⟩
          exact H.out _ _ ht.2 ⟨_, rfl, (show ∀ s ∈ pkL, s.size ≤ 5 by decide) _ hx⟩ (fun h => by cases h) (ht.1.more (by omega))
        refine Rg.cons 6 7 rfl (Rg.plain rfl ?_) ?_
        · intro vs W n hn hI hG hT hF K hK
          simp only [Rg.putsD, List.getD_cons_zero, List.getD_cons_succ, Act.put, List.setIfInBounds_toArray, List.set_cons_zero, List.set_cons_succ] at hK ⊢
          have hn1 : n < 17 := hn
          clear hn
          clear hF
          have H := Lib.hid hK
          clear hK hT
          go_simp
          exact H.out _ _ (Kept.same _ _) rfl (fun h => by cases h) (hI.more (by omega))
        refine Rg.cons 7 8 rfl (Rg.plain rfl ?_) ?_
        · intro vs W n hn hI hG hT hF K hK
          simp only [Rg.putsD, List.getD_cons_zero, List.getD_cons_succ, Act.put, List.setIfInBounds_toArray, List.set_cons_zero, List.set_cons_succ] at hK ⊢
          have hn1 : n < 17 := hn
          clear hn
          clear hF
          have H := Lib.hid hK
          clear hK hT
          go_simp
          exact H.out _ _ (Kept.of_below ((Below.refl _ _).alloc (Nat.le_refl _) _)) (IntSl.new [1, 2, 3, 4, 5, 6] rfl hG.more) (fun h => by cases h) ((hI.alloc _).more (by omega))
        refine Rg.cons 8 9 rfl (Rg.plain rfl ?_) ?_
        · intro vs W n hn hI hG hT hF K hK
          simp only [Rg.putsD, List.getD_cons_zero, List.getD_cons_succ, Act.put, List.setIfInBounds_toArray, List.set_cons_zero, List.set_cons_succ] at hK ⊢
          have hn1 : n < 17 := hn
          clear hn
          clear hF
          have t6 : vs 6 = .pointer (some ⟨sb, 0, none⟩) := hT 6 (by decide)
          have t7 : IntSl wr.heap.size 6 (vs 7) W := hT 7 (by decide)
          obtain ⟨b7, xs7, n7, c7, e7, k7⟩ := t7
          have N7 := Lib.hid (And.intro n7 k7)
          clear n7 k7
          simp only [e7] at hK
          simp only [t6] at hK
          have H := Lib.hid hK
          clear hK hT
          go_simp
          refine (pick_blk N7.out.2 N7.out.1 (by decide) (by decide) (by omega) (by omega) hI).mono ?_
          rintro e w1 ⟨x, _, rfl, ht⟩
          exact H.out _ _ ht.2 ⟨_, rfl⟩ (fun h => by cases h) (ht.1.more (by omega))
        refine Rg.cons 9 10 rfl (Rg.plain rfl ?_) ?_
        · intro vs W n hn hI hG hT hF K hK
          simp only [Rg.putsD, List.getD_cons_zero, List.getD_cons_succ, Act.put, List.setIfInBounds_toArray, List.set_cons_zero, List.set_cons_succ] at hK ⊢
          have hn1 : n < 17 := hn
          clear hn
          clear hF
          have H := Lib.hid hK
          clear hK hT
          go_simp
          exact H.out _ _ (Kept.same _ _) rfl (fun h => by cases h) (hI.more (by omega))
        refine Rg.cons 10 11 rfl (Rg.plain rfl ?_) ?_
        · intro vs W n hn hI hG hT hF K hK
          simp only [Rg.putsD, List.getD_cons_zero, List.getD_cons_succ, Act.put, List.setIfInBounds_toArray, List.set_cons_zero, List.set_cons_succ] at hK ⊢
          have hn1 : n < 17 := hn
          clear hn
          clear hF
          have H := Lib.hid hK
          clear hK hT
          go_simp
          exact H.out _ _ (Kept.of_below ((Below.refl _ _).alloc (Nat.le_refl _) _)) (IntSl.new [0, 28800000, 172800000] rfl hG.more) (fun h => by cases h) ((hI.alloc _).more (by omega))
        refine Rg.cons 11 12 rfl (Rg.plain rfl ?_) ?_
        · intro vs W n hn hI hG hT hF K hK
          simp only [Rg.putsD, List.getD_cons_zero, List.getD_cons_succ, Act.put, List.setIfInBounds_toArray, List.set_cons_zero, List.set_cons_succ] at hK ⊢
          have hn1 : n < 17 := hn
          clear hn
          clear hF
          have t9 : vs 9 = .pointer (some ⟨sb, 0, none⟩) := hT 9 (by decide)
          have t10 : IntSl wr.heap.size 3 (vs 10) W := hT 10 (by decide)
          obtain ⟨b10, xs10, n10, c10, e10, k10⟩ := t10
          have N10 := Lib.hid (And.intro n10 k10)
          clear n10 k10
          simp only [e10] at hK
          simp only [t9] at hK
          have H := Lib.hid hK
          clear hK hT
          go_simp
          refine (pick_blk N10.out.2 N10.out.1 (by decide) (by decide) (by omega) (by omega) hI).mono ?_
          rintro e w1 ⟨x, _, rfl, ht⟩
          exact H.out _ _ ht.2 ⟨_, rfl⟩ (fun h => by cases h) (ht.1.more (by omega))
        refine Rg.cons 12 13 rfl (Rg.plain rfl ?_) ?_
        · intro vs W n hn hI hG hT hF K hK
          simp only [Rg.putsD, List.getD_cons_zero, List.getD_cons_succ, Act.put, List.setIfInBounds_toArray, List.set_cons_zero, List.set_cons_succ] at hK ⊢
          have hn1 : n < 17 := hn
          clear hn
          clear hF
          have t2 : vs 2 = .string nm := hT 2 (by decide)
          have t5 : ∃ s : ByteArray, vs 5 = .string s ∧ s.size ≤ 5 := hT 5 (by decide)
          have t8 : ∃ x : Int, vs 8 = .int .i64 x := hT 8 (by decide)
          have t11 : ∃ x : Int, vs 11 = .int .i64 x := hT 11 (by decide)
          obtain ⟨x8, e8⟩ := t8
          simp only [e8] at hK
          obtain ⟨x11, e11⟩ := t11
          simp only [e11] at hK
          obtain ⟨s5, e5, z5⟩ := t5
          simp only [e5] at hK
          simp only [t2] at hK
          have H := Lib.hid hK
          clear hK hT
          go_simp
          exact H.out _ _ (Kept.same _ _) ⟨_, _, _, z5, rfl⟩ (fun h => by cases h) (hI.more (by omega))
        refine Rg.cons 13 14 rfl (Rg.plain rfl ?_) ?_
        · intro vs W n hn hI hG hT hF K hK
          simp only [Rg.putsD, List.getD_cons_zero, List.getD_cons_succ, Act.put, List.setIfInBounds_toArray, List.set_cons_zero, List.set_cons_succ] at hK ⊢
          have hn1 : n < 17 := hn
          clear hn
          clear hF
          have t12 : ∃ (s : ByteArray) (x y : Int), s.size ≤ 5 ∧ vs 12 = .agg #[.string nm, .string s, .int .i64 x, .int .i64 y] := hT 12 (by decide)
          obtain ⟨s12, x12, y12, z12, e12⟩ := t12
          simp only [e12] at hK
          have H := Lib.hid hK
          clear hK hT
          go_simp
          exact H.out _ _ (Kept.of_below ((Below.refl _ _).alloc (Nat.le_refl _) _)) ⟨_, ⟨nm, s12, x12, y12⟩, ⟨HNZ.out, z12⟩, hG.more, rfl, blk_new W _ rfl⟩ (fun h => by cases h) ((hI.alloc _).more (by omega))
        exact Rg.nil
      · intro vs W hG hI hT hF
        have t0 : vs 0 = .pointer (some ⟨w.heap.size + 1, 0, none⟩) := hT 0 (by decide)
        have t1 : vs 1 = .slice A3 l.length k3 := hT 1 (by decide)
        have t2 : vs 2 = .string nm := hT 2 (by decide)
        have t3 : vs 3 = .pointer (some ⟨sb, 0, none⟩) := hT 3 (by decide)
        have t4 : ∃ b4 : Nat, vs 4 = .slice (some ⟨b4, 0, none⟩) 3 3 ∧ wr.heap.size ≤ b4 ∧ W.heap[b4]? = some (.cells (pkL.map Value.string).toArray 9 (0, 0)) := hT 4 (by decide)
        have t5 : ∃ s : ByteArray, vs 5 = .string s ∧ s.size ≤ 5 := hT 5 (by decide)
        have t6 : vs 6 = .pointer (some ⟨sb, 0, none⟩) := hT 6 (by decide)
        have t7 : IntSl wr.heap.size 6 (vs 7) W := hT 7 (by decide)
        have t8 : ∃ x : Int, vs 8 = .int .i64 x := hT 8 (by decide)
        have t9 : vs 9 = .pointer (some ⟨sb, 0, none⟩) := hT 9 (by decide)
        have t10 : IntSl wr.heap.size 3 (vs 10) W := hT 10 (by decide)
        have t11 : ∃ x : Int, vs 11 = .int .i64 x := hT 11 (by decide)
        have t12 : ∃ (s : ByteArray) (x y : Int), s.size ≤ 5 ∧ vs 12 = .agg #[.string nm, .string s, .int .i64 x, .int .i64 y] := hT 12 (by decide)
        have t13 : ∃ (g : Nat) (p : Pa), (p.key.size ≤ 5 ∧ p.pk.size ≤ 5) ∧ wr.heap.size ≤ g ∧ vs 13 = .slice (some ⟨g, 0, none⟩) 1 1 ∧ W.heap[g]? = some (.cells (encPa p).toArray 47 (0, 0)) := hT 13 (by decide)
        simp only [List.length_cons, List.length_nil, Nat.reduceAdd, List.range, List.range.loop, List.drop_succ_cons, List.drop_zero, Rg.putsD, List.getD_cons_zero, List.getD_cons_succ, Act.put, List.setIfInBounds_toArray, List.set_cons_zero, List.set_cons_succ, t0, t1, t2, t3, t6, t9]
        clear hT t0 t1 t2 t3 t6 t9
        obtain ⟨gg, p, hps, hgg, e22, k22⟩ := t13
        have hIE : IsStream W sb (b + 1 + 24 * k + 14) := hI
        have HW : Hid (CO sb (b + 1 + 24 * (k + 1)) w (.slice A3 l.length k3) (.slice none 0 0) l [] W ∧ W.heap[gg]? = some (.cells (encPa p).toArray 47 (0, 0)) ∧ (p.key.size ≤ 5 ∧ p.pk.size ≤ 5)) :=
          ⟨⟨⟨hIE.more (by omega), HR.out.tk.drew.2.then_ hG⟩, hG.blk HR.out.k2 (by omega), hG.blk HR.out.k3 (by omega), hG.blk HR.out.kn (by omega), kept_own (w := wr.drew) (base := w.heap.size + 3) HR.out.o1 hG (by omega), World.ownsRow_nil _ _ _ _, HR.out.s1, HR.out.s2⟩, k22, hps⟩
        have hsW : w.heap.size + 1 + 1 < W.heap.size := lt_of_blk HW.out.1.kn
        have E22 := Lib.hid e22
        clear t4 t5 t7 t8 t10 t11 t12 hgg k22 hG hI hIE hF HR
        simp only [E22.out]
        clear e22 E22
        obtain ⟨i0, hi, hz0, hz1, hz2⟩ := info_parts part_info
        have HI := Lib.hid (And.intro hi (And.intro hz0 (And.intro hz1 hz2)))
        clear hi hz0 hz1 hz2
        refine wpList_append_own _ rfl _ _ 26 rfl (w.heap.size + 3) 47 i0 _ 4 48 Tryz.underlying26 HI.out.1 HI.out.2.1 HI.out.2.2.1 HI.out.2.2.2 rfl (by omega) (.slice A3 l.length k3) l.length (l.flatMap encPa) rfl HW.out.1.o1 ⟨gg, 0, none⟩ 1 1 (encPa p) rfl rfl ?c1 (by intro u hu; simp [encPa] at hu; rcases hu with rfl | rfl | rfl | rfl <;> rfl) ?c2 ?c3 (by omega) ?_
        case c1 =>
          intro j u hu
          rw [addr_new, cell_of_blk HW.out.2.1]
          simpa using hu
        case c2 => unfold maxLen; omega
        case c3 => omega
        intro vv w' hown' hg' _
        obtain ⟨g2, cap2, rfl, _⟩ := own_read hown' (by omega)
        have hsw' := hg'.size
        have hr := own_row HW.out.1.o1
        have kb := (hg'.block (w.heap.size + 1) (by omega) (fun e => by have := hr _ e.symm; omega)).trans HW.out.1.k3
        have HF : Hid (CO sb (b + 1 + 24 * (k + 1)) w (.slice (some ⟨g2, 0, none⟩) (l.length + 1) cap2) (.slice none 0 0) (l ++ [p]) [] (w'.setCell ⟨w.heap.size + 1, 0, none⟩ (.slice (some ⟨g2, 0, none⟩) (l.length + 1) cap2))) := by
          refine ⟨(HW.out.1.tk.grown (by omega) hg' (fun j e => by have := hr _ e; omega)).setCell (by simp) (by omega) _, blk_far ((hg'.block w.heap.size (by omega) (fun e => by have := hr _ e.symm; omega)).trans HW.out.1.k2) (by simp) _, blk_set kb _, blk_far ((hg'.block (w.heap.size + 1 + 1) (by omega) (fun e => by have := hr _ e.symm; omega)).trans HW.out.1.kn) (by simp) _, ?_, World.ownsRow_nil _ _ _ _, ?_, HW.out.1.s2⟩
          · rw [flatPa_snoc, List.length_append]
            exact own_far hown' (by simp) _
          · intro q hq
            rcases List.mem_append.mp hq with hq | hq
            · exact HW.out.1.s1 q hq
            · have : q = p := by simpa using hq
              subst this
              exact HW.out.2.2
        have hc3 : w'.cell? ⟨w.heap.size + 1, 0, none⟩ = some (.slice A3 l.length k3) := by rw [cell_of_blk kb]; rfl
        have hf3 : w'.frozen? ⟨w.heap.size + 1, 0, none⟩ = false := frozen_of_blk kb _
        have hl3 := lt_of_blk kb
        have HSZ : Hid (w.heap.size + 1 + 1 < (w'.setCell ⟨w.heap.size + 1, 0, none⟩ (.slice (some ⟨g2, 0, none⟩) (l.length + 1) cap2)).heap.size) := lt_of_blk HF.out.kn
        clear hown' hg' kb hr
        go_wp2_with fail
        go_roundw
        case rel => exact ⟨k + 1, _, l ++ [p], by omega, by go_num, by rw [List.length_append, HLL.out]; rfl, HSZ.out, HF.out⟩
        case measure => simp [intOf]; omega
    · obtain rfl : k = cn := by omega
      have HR2 : Hid (CO sb (b + 125) w (.slice A3 l.length k3) (.slice none 0 0) l [] wr) := HR.out.more (by omega)
      clear HR
      go_wp2_with fail
      go_loopw [41] (fun kk wr => ∃ (i : Nat) (v2 : Value) (al : List Al), i ≤ k ∧ kk = .int .i64 i ∧ al.length ≤ 5 * i ∧ w.heap.size + 1 + 1 < wr.heap.size ∧ Hid (CO sb (b + 125 + 40 * i) w (.slice A3 l.length k3) v2 l al wr)) (fun kk _ => k - (intOf kk).toNat)
      case atStart => exact ⟨0, _, [], by omega, rfl, by simp, hsz1, HR2.out⟩
      case round =>
        clear HR2
        obtain ⟨i, v2, al, hi, rfl, hal, hsz2, HR⟩ := hrel
        by_cases hik : i < k
        · have hi5 : i < nmL.length := by show i < 5; omega
          have q0 : wr.cell? ⟨w.heap.size + 1 + 1, i, none⟩ = some (.string nmL[i]) := by rw [cell_of_blk HR.out.kn]; simp [hi5]
          have HNX := Lib.hid (nmL_size hi5)
          generalize nmL[i] = x at *
          clear hi5
          have i1 : (0 : Int) ≤ (i : Int) := by omega
          have i2 : (i : Int) < (k : Int) := by omega
          have H1 : Hid (CO sb (b + 125 + 40 * i) w (.slice A3 l.length k3) v2 l al (wr.alloc (.cells #[.string x] 9)) ∧ (wr.alloc (.cells #[.string x] 9)).heap[wr.heap.size]? = some (.cells #[.string x] 9 (0, 0))) := ⟨HR.out.below ((Below.refl _ _).alloc (Nat.le_refl _) _), blk_new wr _ rfl⟩
          have hsz3 : w.heap.size + 1 + 1 < (wr.alloc (.cells #[.string x] 9)).heap.size := lt_of_blk H1.out.1.kn
          clear HR
          go_upto_region 11 with (fail)
          generalize wr.alloc (.cells #[.string x] 9) = wx at *
          have hpx : w.heap.size + 1 + 1 < wr.heap.size := hsz2
          generalize wr.heap.size = px at *
          clear q0
          go_wp2_with fail
          go_loopw [48] (fun kk wr => ∃ (j : Nat) (v2 : Value) (al : List Al), j ≤ k ∧ kk = .int .i64 j ∧ al.length ≤ 5 * i + j ∧ w.heap.size + 1 + 1 < wr.heap.size ∧ Hid (CO sb (b + 125 + 40 * i + 8 * j) w (.slice A3 l.length k3) v2 l al wr ∧ wr.heap[px]? = some (.cells #[.string x] 9 (0, 0)))) (fun kk _ => k - (intOf kk).toNat)
          case atStart => exact ⟨0, _, al, by omega, rfl, by omega, hsz3, H1.out.1, H1.out.2⟩
          case round =>
            clear H1
            obtain ⟨j, v2, al, hj, rfl, hal2, hsz4, HR⟩ := hrel
            by_cases hjk : j < k
            · have hj5 : j < nmL.length := by show j < 5; omega
              have q0 : wr.cell? ⟨w.heap.size + 1 + 1, j, none⟩ = some (.string nmL[j]) := by rw [cell_of_blk HR.out.1.kn]; simp [hj5]
              have HNY := Lib.hid (nmL_size hj5)
              generalize nmL[j] = y at *
              clear hj5
              have j1 : (0 : Int) ≤ (j : Int) := by omega
              have j2 : (j : Int) < (k : Int) := by omega
              have hbw : Below wr.heap.size wr (wr.alloc (.cells #[.string y] 9)) := (Below.refl _ _).alloc (Nat.le_refl _) _
              have H2 : Hid (CO sb (b + 125 + 40 * i + 8 * j) w (.slice A3 l.length k3) v2 l al (wr.alloc (.cells #[.string y] 9)) ∧ (wr.alloc (.cells #[.string y] 9)).heap[px]? = some (.cells #[.string x] 9 (0, 0)) ∧ (wr.alloc (.cells #[.string y] 9)).heap[wr.heap.size]? = some (.cells #[.string y] 9 (0, 0))) := ⟨HR.out.1.below hbw, blk_below hbw HR.out.2, blk_new wr _ rfl⟩
              clear hbw
              have hsz5 : w.heap.size + 1 + 1 < (wr.alloc (.cells #[.string y] 9)).heap.size := lt_of_blk H2.out.1.kn
              clear HR
              go_upto_region 14 with (fail)
              generalize wr.alloc (.cells #[.string y] 9) = wy at *
              generalize wr.heap.size = py at *
              clear q0
              cases hij : ((i : Int) == (j : Int))
              rotate_left
              · go_wp2_with fail
                go_roundw
                case rel => exact ⟨j + 1, v2, al, by omega, by go_num, by omega, hsz5, H2.out.1.more (by omega), H2.out.2.1⟩
                case measure => simp [intOf]; omega
              · go_wp2_with fail
                refine (flip_any sb (b + 125 + 40 * i + 8 * j) _ _ (by omega) (by omega) (by omega) H2.out.1.tk.1).mono ?_
                rintro e w4 ⟨f, rfl, t4⟩
                have H4 : Hid (CO sb (b + 125 + 40 * i + 8 * j + 1) w (.slice A3 l.length k3) v2 l al w4 ∧ w4.heap[px]? = some (.cells #[.string x] 9 (0, 0)) ∧ w4.heap[py]? = some (.cells #[.string y] 9 (0, 0))) := ⟨H2.out.1.took hlt t4, t4.blk H2.out.2.1 (by omega), t4.blk H2.out.2.2 (by omega)⟩
                have hsz6 : w.heap.size + 1 + 1 < w4.heap.size := lt_of_blk H4.out.1.kn
                clear t4 H2
                cases f
                · go_wp2_with fail
                  go_roundw
                  case rel => exact ⟨j + 1, v2, al, by omega, by go_num, by omega, hsz6, H4.out.1.more (by omega), H4.out.2.1⟩
                  case measure => simp [intOf]; omega
                go_wp2_with fail
                refine (flip_any sb (b + 125 + 40 * i + 8 * j + 1) _ _ (by omega) (by omega) (by omega) H4.out.1.tk.1).mono ?_
                rintro e w5 ⟨f2, rfl, t5⟩
                have hb5 : Below w5.heap.size w5 (w5.alloc (.cells #[.bool f2] 4)) := (Below.refl _ _).alloc (Nat.le_refl _) _
                have H5 : Hid (CO sb (b + 125 + 40 * i + 8 * j + 2) w (.slice A3 l.length k3) v2 l al (w5.alloc (.cells #[.bool f2] 4)) ∧ Cap py px w5.heap.size y x f2 (w5.alloc (.cells #[.bool f2] 4))) :=
                  ⟨(H4.out.1.took hlt t5).below hb5, blk_below hb5 (t5.blk H4.out.2.2 (by omega)), blk_below hb5 (t5.blk H4.out.2.1 (by omega)), blk_new w5 _ rfl⟩
                clear t5 H4 hb5
                go_upto_region 16 with (fail)
                generalize w5.alloc (.cells #[.bool f2] 4) = w6 at *
                generalize w5.heap.size = pb at *
                have hsz7 : w.heap.size + 1 + 1 < w6.heap.size := lt_of_blk H5.out.1.kn
                obtain ⟨c0, c1, _, _⟩ := blk2 H5.out.1.k3
                have CC := Lib.hid (containsA_any al (by omega) py px pb y x f2 (reads_own H5.out.1.o2) H5.out.2)
                obtain ⟨A4, k4, rfl, _⟩ := own_form H5.out.1.o2
                go_wp2_with fail
                refine CC.out.mono ?_
                rintro e w7 ⟨⟨r, rfl⟩, b7⟩
                have H7 : Hid (CO sb (b + 125 + 40 * i + 8 * j + 2) w (.slice A3 l.length k3) (.slice A4 al.length k4) l al w7 ∧ Cap py px pb y x f2 w7) := ⟨H5.out.1.below b7, H5.out.2.below b7⟩
                have hsz8 : w.heap.size + 1 + 1 < w7.heap.size := lt_of_blk H7.out.1.kn
                clear b7 H5 CC c0 c1
                cases r
                rotate_left
                · go_wp2_with fail
                  go_roundw
                  case rel => exact ⟨j + 1, _, al, by omega, by go_num, by omega, hsz8, H7.out.1.more (by omega), H7.out.2.kx⟩
                  case measure => simp [intOf]; omega
                obtain ⟨c0, c1, f0, f1⟩ := blk2 H7.out.1.k3
                have hl3 := lt_of_blk H7.out.1.k3
                have d1 := blk_cell0 H7.out.2.ky
                have l1 := lt_of_blk H7.out.2.ky
                have d2 := blk_cell0 H7.out.2.kx
                have l2 := lt_of_blk H7.out.2.kx
                have d3 := blk_cell0 H7.out.2.kb
                have l3 := lt_of_blk H7.out.2.kb
                have hal3 : al.length ≤ 30 := by omega
                obtain ⟨i0, hi0, hz0, hz1, hz2⟩ := info_parts alt_info
                have HI := Lib.hid (And.intro hi0 (And.intro hz0 (And.intro hz1 hz2)))
                clear hi0 hz0 hz1 hz2
                go_wp2_with (at_builtin; refine hold ?_)
                refine loose ?_
                refine wpList_append_own _ rfl _ _ 27 rfl (w.heap.size + 3) 51 i0 _ 3 40 Tryz.underlying27 HI.out.1 HI.out.2.1 HI.out.2.2.1 HI.out.2.2.2 rfl (by omega) (.slice A4 al.length k4) al.length (al.flatMap encAl) rfl (H7.out.1.o2.alloc _) ⟨w7.heap.size, 0, none⟩ 1 1 [.string x, .string y, .bool f2] rfl rfl (fun q u hu => by rw [addr_new, cell_of_blk (blk_new w7 _ rfl)]; simpa using hu) (by intro u hu; simp at hu; rcases hu with rfl | rfl | rfl <;> rfl) (by unfold maxLen; omega) (by omega) (by simp; omega) ?_
                intro vv w8 hown' hg' _
                obtain ⟨g2, cap2, rfl, _⟩ := own_read hown' (by omega)
                have hr := own_row H7.out.1.o2
                have h7b : CO sb (b + 125 + 40 * i + 8 * j + 2) w (.slice A3 l.length k3) (.slice A4 al.length k4) l al (w7.alloc (.cells #[.string x, .string y, .bool f2] 51)) := H7.out.1.below ((Below.refl _ _).alloc (Nat.le_refl _) _)
                have hkx : w8.heap[px]? = some (.cells #[.string x] 9 (0, 0)) := (hg'.block px (by simp; omega) (fun e => by
                  obtain ⟨cur, hc⟩ := own_blk H7.out.1.o2 e.symm
                  rw [H7.out.2.kx] at hc
                  injection hc with hc
                  injection hc with _ hc _
                  exact absurd hc (by decide))).trans (blk_alloc H7.out.2.kx _)
                have kb := (hg'.block (w.heap.size + 1) (by simp; omega) (fun e => by have := hr _ e.symm; omega)).trans h7b.k3
                have HF : Hid (CO sb (b + 125 + 40 * i + 8 * (j + 1)) w (.slice A3 l.length k3) (.slice (some ⟨g2, 0, none⟩) (al.length + 1) cap2) l (al ++ [⟨x, y, f2⟩]) (w8.setCell ⟨w.heap.size + 1, 1, none⟩ (.slice (some ⟨g2, 0, none⟩) (al.length + 1) cap2)) ∧ (w8.setCell ⟨w.heap.size + 1, 1, none⟩ (.slice (some ⟨g2, 0, none⟩) (al.length + 1) cap2)).heap[px]? = some (.cells #[.string x] 9 (0, 0))) := by
                  refine ⟨⟨((h7b.tk.more (by omega)).grown (by omega) hg' (fun j e => by have := hr _ e; omega)).setCell (by simp) (by omega) _, blk_far ((hg'.block w.heap.size (by simp; omega) (fun e => by have := hr _ e.symm; omega)).trans h7b.k2) (by simp) _, blk_set kb _, blk_far ((hg'.block (w.heap.size + 1 + 1) (by simp; omega) (fun e => by have := hr _ e.symm; omega)).trans h7b.kn) (by simp) _, own_far (h7b.o1.kept hg' (own_apart h7b.o1 h7b.o2 (by decide))) (by simp) _, ?_, H7.out.1.s1, ?_⟩, blk_far hkx (by show px ≠ w.heap.size + 1; omega) _⟩
                  · rw [flatAl_snoc, List.length_append]
                    exact own_far hown' (by simp) _
                  · intro q hq
                    rcases List.mem_append.mp hq with hq | hq
                    · exact H7.out.1.s2 q hq
                    · have : q = ⟨x, y, f2⟩ := by simpa using hq
                      subst this
                      exact ⟨HNX.out, HNY.out⟩
                have hc3 : w8.cell? ⟨w.heap.size + 1, 1, none⟩ = some (.slice A4 al.length k4) := by rw [cell_of_blk kb]; rfl
                have hf3 : w8.frozen? ⟨w.heap.size + 1, 1, none⟩ = false := frozen_of_blk kb _
                have hl8 := lt_of_blk kb
                have HSZ : Hid (w.heap.size + 1 + 1 < (w8.setCell ⟨w.heap.size + 1, 1, none⟩ (.slice (some ⟨g2, 0, none⟩) (al.length + 1) cap2)).heap.size) := lt_of_blk HF.out.1.kn
                clear hown' hg' kb hr hkx h7b c0 c1 f0 f1 hl3 d1 l1 d2 l2 d3 l3
                go_wp2_with fail
                go_roundw
                case rel => exact ⟨j + 1, _, al ++ [⟨x, y, f2⟩], by omega, by go_num, by rw [List.length_append]; simp; omega, HSZ.out, HF.out.1, HF.out.2⟩
                case measure => simp [intOf]; omega
            · obtain rfl : j = k := by omega
              go_wp2_with fail
              go_roundw
              case rel => exact ⟨i + 1, v2, al, by omega, by go_num, by omega, hsz4, HR.out.1.more (by omega)⟩
              case measure => simp [intOf]; omega
        · obtain rfl : i = k := by omega
          have H9 : Hid (CO sb (b + 325) w (.slice A3 l.length k3) v2 l al wr) := HR.out.more (by omega)
          have hal9 : al.length ≤ 25 := by omega
          clear HR
          go_wp2_with fail
          refine (flip_any sb (b + 325) _ _ (by omega) (by omega) (by omega) H9.out.tk.1).mono ?_
          rintro e w4 ⟨f, rfl, t4⟩
          have H4 : Hid (CO sb (b + 326) w (.slice A3 l.length k3) v2 l al w4) := H9.out.took hlt t4
          clear t4 H9
          have hl4 := lt_of_blk H4.out.k3
          go_upto_if 79 with (fail)
          go_cut [] (fun wc => Hid (∃ (l' : List Pa) (al' : List Al), l'.length = l.length ∧ al'.length = al.length ∧ CO sb (b + 600) w (.slice A3 l.length k3) v2 l' al' wc))
          case first =>
            cases f
            · go_wp2_with fail
              go_meet
              exact ⟨l, al, rfl, rfl, H4.out.more (by omega)⟩
            · have CP := Lib.hid (HSP.out sb (b + 326) w w4 _ _ l al hlt (by omega) hl5 hal9 H4.out)
              go_wp2_with fail
              refine CP.out.mono ?_
              rintro e w5 ⟨rfl, l', al', e1, e2, h5⟩
              have H5 : Hid (∃ (l' : List Pa) (al' : List Al), l'.length = l.length ∧ al'.length = al.length ∧ CO sb (b + 600) w (.slice A3 l.length k3) v2 l' al' w5) := ⟨l', al', e1, e2, h5.more (by omega)⟩
              clear h5 H4 CP
              go_wp2_with fail
              go_meet
              exact H5.out
          case rest =>
            clear H4
            have HE := Lib.hid hcut
            obtain ⟨l', al', e1, e2, h8⟩ := hcut.out
            have H8 := Lib.hid h8
            have hl6 : l'.length ≤ 5 := by omega
            have hal6 : al'.length ≤ 25 := by omega
            have he1 := Lib.hid e1
            clear h8 e1 e2 hcut HE
            obtain ⟨A5, k5, rfl, _⟩ := own_form H8.out.o2
            obtain ⟨c0, c1, _, _⟩ := blk2 H8.out.k3
            have hl3 := lt_of_blk H8.out.k3
            obtain ⟨r0, r1, f0, f1⟩ := blk2 H8.out.k2
            have hl2 := lt_of_blk H8.out.k2
            go_wp2_with fail
            have HF : Hid (((wc.setCell ⟨w.heap.size, 0, none⟩ (.slice A3 l.length k3)).setCell ⟨w.heap.size, 1, none⟩ (.slice A5 al'.length k5)).heap[w.heap.size]? = some (.cells #[.slice A3 l.length k3, .slice A5 al'.length k5] 29 (0, 0)) ∧ CatOf sb (b + 700) w (.returned (.agg #[.slice A3 l.length k3, .slice A5 al'.length k5])) ((wc.setCell ⟨w.heap.size, 0, none⟩ (.slice A3 l.length k3)).setCell ⟨w.heap.size, 1, none⟩ (.slice A5 al'.length k5))) := by
              refine ⟨blk_set (blk_set H8.out.k2 _) _, _, _, l', al', rfl, hl6, hal6, H8.out.s1, H8.out.s2, ?_, ?_, ?_⟩
              · exact own_mono (own_far (own_far H8.out.o1 (by simp) _) (by simp) _) (by omega)
              · exact own_mono (own_far (own_far H8.out.o2 (by simp) _) (by simp) _) (by omega)
              · exact ((H8.out.tk.more (by omega)).setCell (by simp) hlt _).setCell (by simp) hlt _
            generalize (wc.setCell ⟨w.heap.size, 0, none⟩ (.slice A3 l.length k3)).setCell ⟨w.heap.size, 1, none⟩ (.slice A5 al'.length k5) = w9 at *
            clear c0 c1 r0 r1 f0 f1 hl3 hl2
            obtain ⟨r0, r1, _, _⟩ := blk2 HF.out.1
            refine bodyPost_ret (v := .agg #[.slice A3 l.length k3, .slice A5 al'.length k5]) (by unfold results; simp only [Tryz.results4]; go_simp) rfl HF.out.2
end Go.Proofs.YtiooimfkobjpkaaGreatDoor
