/-
  The walk of the maker of panels.
-/
import Derived.Test.YtopnadilfjakiaaPanM
import Derived.Test.YtopnadilfjakiaaGen0
import Derived.Test.YtopnadilfjakiaaRg
namespace Go.Proofs.Ytopnadilfjakiaa
open Go.RowKit

/-- A panel that a stream makes. -/
def PanOf (sb b : Nat) (w : World) (e : Ending) (w' : World) : Prop :=
  ∃ (PW PH : Int) (v : Value) (l : List Sl), e = .returned (.agg #[.int .i64 PW, .int .i64 PH, v]) ∧ l.length ≤ 5 ∧ w'.ownsRow w.heap.size 70 4 v l.length (flatSl l) ∧ Took sb b w w'
theorem slot_info : (Try.prog.info? 70).map (fun i => (i.zero, i.size, i.bytes)) = some (some (.agg #[.int .i64 0, .int .i64 0, .int .i64 0, .bool false]), 4, 32) := by kernel_rfl
def SSt (g sb b : Nat) (w2 wc : World) : Prop :=
  ∃ (PW PH : Int) (v : Value) (l : List Sl), l.length ≤ 5 ∧ wc.heap[g]? = some (.cells #[.int .i64 PW, .int .i64 PH, v] 32 (0, 0)) ∧ wc.ownsRow (g + 1) 70 4 v l.length (flatSl l) ∧ Took sb b w2 wc
theorem sl_typ (x : Sl) : (Sl.cells x).length = 4 := rfl
theorem sl_int0 (s : Int) (x : Sl) : ∃ y, (Sl.cells x).set 0 (.int .i64 s) = Sl.cells y := ⟨{ x with x := s }, rfl⟩
theorem sl_int1 (s : Int) (x : Sl) : ∃ y, (Sl.cells x).set 1 (.int .i64 s) = Sl.cells y := ⟨{ x with y := s }, rfl⟩
theorem sl_int2 (s : Int) (x : Sl) : ∃ y, (Sl.cells x).set 2 (.int .i64 s) = Sl.cells y := ⟨{ x with q := s }, rfl⟩
theorem sl_row {T k sb b g len cap base n i : Nat} {W : World} (h : RowI Sl.cells T k sb b g len cap base n W) (hk : k = 4) (hi : i < len) :
    ∃ (x y q : Int) (s : Bool), W.cell? ⟨g, i * 4, none⟩ = some (.int .i64 x) ∧ W.cell? ⟨g, i * 4 + 1, none⟩ = some (.int .i64 y) ∧ W.cell? ⟨g, i * 4 + 2, none⟩ = some (.int .i64 q) ∧ W.cell? ⟨g, i * 4 + 3, none⟩ = some (.bool s) := by
  subst hk
  obtain ⟨p, hp⟩ := h.cell (fun _ => rfl) hi
  exact ⟨p.x, p.y, p.q, p.skip, hp 0 (by omega), hp 1 (by omega), hp 2 (by omega), hp 3 (by omega)⟩

set_option maxRecDepth 100000 in
set_option maxHeartbeats 4000000 in
theorem apanel_any (sb b : Nat) (key : ByteArray) (Wd Hg : Int) (PA : Option Addr) (pn pc : Nat) (w : World) (hb : b ≤ 900000) (hs : IsStream w sb b) :
    Calls Try.prog 5 #[.pointer (some ⟨sb, 0, none⟩), prod key Wd Hg PA pn pc] w (PanOf sb (b + 200) w) := by
  have hlt := hs.lt
  go_enter Try.func5, Try.ntmps5
  go_wp2_with fail
  refine (pick_lit sb b [300, 2500] _ _ 2 rfl (by omega) (by omega) (by simp) (by omega) ((hs.alloc _).alloc _)).mono ?_
  rintro e w1 ⟨PW, _, rfl, t1⟩
  go_wp2_with fail
  refine (pick_lit sb (b + 1) [200, 2500] _ _ 2 rfl (by omega) (by omega) (by simp) (by omega) t1.1).mono ?_
  rintro e w2 ⟨PH, _, rfl, t2⟩
  go_wp2_with fail
  have t12 : Took sb (b + 2) w w2 := t1.from_alloc.from_alloc.trans t2
  have t12a := t1.trans t2
  have hk2 : w2.heap[w.heap.size + 1]? = some (.cells #[.int .i64 0, .int .i64 0, .slice none 0 0] 32 (0, 0)) := t12a.blk (blk_new _ _ (by simp)) (by omega)
  have hk1 : w2.heap[w.heap.size]? = some (.cells #[.string key, .int .i64 Wd, .int .i64 Hg, .slice PA pn pc] 28 (0, 0)) := t12a.blk (blk_alloc (blk_new w _ rfl) _) (by omega)
  have hlt2 := lt_of_blk hk2
  have HK2 := Lib.hid (And.intro hk2 (And.intro hk1 t12))
  clear t1 t2 t12 t12a hk2 hk1
  refine (range_any sb (b + 2) 0 5 _ (by omega) (by omega) (by omega) (by omega) (HK2.out.2.2.1.alloc _)).mono ?_
  rintro e w3 ⟨cnt, hc0, hc5, rfl, t3⟩
  obtain ⟨cn, rfl⟩ := Int.eq_ofNat_of_zero_le hc0
  have hcn : cn ≤ 5 := by omega
  have hs3 := t3.size
  simp at hs3
  have H3 : Hid (w3.heap[w2.heap.size]? = some (.cells #[.int .i64 PW, .int .i64 PH, .slice none 0 0] 32 (0, 0)) ∧ Took sb (b + 3) w2 w3) :=
    ⟨t3.blk (blk_new w2 _ rfl) (by omega), t3.from_alloc⟩
  clear t3 hc0 hc5
  go_wp2_with fail
  go_loopw [16] (fun kk wr => ∃ (k : Nat) (v : Value) (l : List Sl), k ≤ cn ∧ kk = .int .i64 k ∧ l.length ≤ k ∧ w2.heap.size < wr.heap.size ∧ Hid (
    wr.heap[w2.heap.size]? = some (.cells #[.int .i64 PW, .int .i64 PH, v] 32 (0, 0)) ∧
    wr.ownsRow (w2.heap.size + 1) 70 4 v l.length (flatSl l) ∧ Took sb (b + 3 + 24 * k) w2 wr)) (fun kk _ => cn - (intOf kk).toNat)
  case atStart => exact ⟨0, _, [], by omega, rfl, by simp, by omega, H3.out.1, World.ownsRow_nil _ _ _ _, H3.out.2⟩
  case round =>
    clear H3
    obtain ⟨k, v, l, hk, rfl, hl, hsz1, HR⟩ := hrel
    obtain ⟨A3, k3, rfl, hA3⟩ := own_form HR.out.2.1
    have HA3 := Lib.hid hA3
    clear hA3
    by_cases hlt5 : k < cn
    · have kpr := HR.out.2.2.blk HK2.out.2.1 (by omega)
      have HPR := Lib.hid kpr
      clear kpr
      go_wp2_with fail
      refine Rg.rgL (Kept sb)
        [(fun vs u => vs 0 = .pointer (some ⟨w2.heap.size, 2, none⟩)), (fun vs u => vs 1 = .slice A3 l.length k3), (fun vs u => vs 2 = .pointer (some ⟨sb, 0, none⟩)), (fun vs u => vs 3 = .pointer (some ⟨w.heap.size, 1, none⟩)), (fun vs u => vs 4 = .int .i64 Wd), (fun vs u => ∃ x : Int, vs 5 = .int .i64 x), (fun vs u => ∃ x : Int, vs 6 = .int .i64 x), (fun vs u => IntSl wr.heap.size 5 (vs 7) u), (fun vs u => ∃ x : Int, vs 8 = .int .i64 x), (fun vs u => vs 9 = .pointer (some ⟨sb, 0, none⟩)), (fun vs u => vs 10 = .pointer (some ⟨w.heap.size, 2, none⟩)), (fun vs u => vs 11 = .int .i64 Hg), (fun vs u => ∃ x : Int, vs 12 = .int .i64 x), (fun vs u => ∃ x : Int, vs 13 = .int .i64 x), (fun vs u => IntSl wr.heap.size 5 (vs 14) u), (fun vs u => ∃ x : Int, vs 15 = .int .i64 x), (fun vs u => vs 16 = .pointer (some ⟨sb, 0, none⟩)), (fun vs u => IntSl wr.heap.size 5 (vs 17) u), (fun vs u => ∃ x : Int, vs 18 = .int .i64 x), (fun vs u => vs 19 = .pointer (some ⟨sb, 0, none⟩)), (fun vs u => ∃ x : Bool, vs 20 = .bool x), (fun vs u => ∃ (x y q : Int) (s : Bool), vs 21 = .agg #[.int .i64 x, .int .i64 y, .int .i64 q, .bool s]), (fun vs u => ∃ (g : Nat) (p : Sl), wr.heap.size ≤ g ∧ vs 22 = .slice (some ⟨g, 0, none⟩) 1 1 ∧ u.heap[g]? = some (.cells p.cells.toArray 70 (0, 0)))]
        [[], [0], [], [], [3], [3, 4], [3, 4, 5], [3, 4, 5, 6], [2, 3, 4, 5, 6, 7], [], [], [10], [10, 11], [10, 11, 12], [10, 11, 12, 13], [2, 3, 4, 5, 6, 7, 8, 9, 10, 11, 12, 13, 14], [], [], [2, 3, 4, 5, 6, 7, 8, 9, 10, 11, 12, 13, 14, 15, 16, 17], [], [2, 3, 4, 5, 6, 7, 8, 9, 10, 11, 12, 13, 14, 15, 16, 17, 18, 19], [2, 3, 4, 5, 6, 7, 8, 9, 10, 11, 12, 13, 14, 15, 16, 17, 18, 19, 20], [2, 3, 4, 5, 6, 7, 8, 9, 10, 11, 12, 13, 14, 15, 16, 17, 18, 19, 20, 21]] [some 18, some 19, some 20, some 21, some 22, some 23, some 24, some 25, some 26, some 27, some 28, some 29, some 30, some 31, some 32, some 33, some 34, some 35, some 36, some 37, some 38, some 39, some 40, some 41, some 42, none] [] (fun n W => IsStream W sb (b+3+24*k + n)) [[], [0], [], [], [3], [3, 4], [3, 4, 5], [3, 4, 5, 6], [2, 3, 4, 5, 6, 7], [], [], [10], [10, 11], [10, 11, 12], [10, 11, 12, 13], [2, 3, 4, 5, 6, 7, 8, 9, 10, 11, 12, 13, 14], [], [], [2, 3, 4, 5, 6, 7, 8, 9, 10, 11, 12, 13, 14, 15, 16, 17], [], [2, 3, 4, 5, 6, 7, 8, 9, 10, 11, 12, 13, 14, 15, 16, 17, 18, 19], [2, 3, 4, 5, 6, 7, 8, 9, 10, 11, 12, 13, 14, 15, 16, 17, 18, 19, 20], [2, 3, 4, 5, 6, 7, 8, 9, 10, 11, 12, 13, 14, 15, 16, 17, 18, 19, 20, 21], [0, 1, 2, 3, 4, 5, 6, 7, 8, 9, 10, 11, 12, 13, 14, 15, 16, 17, 18, 19, 20, 21, 22], [0, 1, 2, 3, 4, 5, 6, 7, 8, 9, 10, 11, 12, 13, 14, 15, 16, 17, 18, 19, 20, 21, 22, 23], [0, 1, 2, 3, 4, 5, 6, 7, 8, 9, 10, 11, 12, 13, 14, 15, 16, 17, 18, 19, 20, 21, 22, 23, 24]]
        (by kernel_rfl) (by decide) (by kernel_rfl) (by kernel_rfl) (by kernel_rfl) (by kernel_rfl) (by kernel_rfl) (fun _ => Kept.same _ _) (fun _ _ _ h k => h.then_ k) (fun _ _ h => h.more) ?_ (HR.out.2.2.1.drew) ?_ ?_
      · intro t ht vs w w' h hE
        simp only [List.mem_cons, List.not_mem_nil, or_false] at ht
        rcases ht with rfl | rfl | rfl | rfl | rfl | rfl | rfl | rfl | rfl | rfl | rfl | rfl | rfl | rfl | rfl | rfl | rfl | rfl | rfl | rfl | rfl | rfl | rfl
        · exact h
        · exact h
        · exact h
        · exact h
        · exact h
        · exact h
        · exact h
        · exact h.kept hE (by omega)
        · exact h
        · exact h
        · exact h
        · exact h
        · exact h
        · exact h
        · exact h.kept hE (by omega)
        · exact h
        · exact h
        · exact h.kept hE (by omega)
        · exact h
        · exact h
        · exact h
        · exact h
        · obtain ⟨g, p, a, c, d⟩ := h
          exact ⟨g, p, a, c, hE.blk d (by omega)⟩
      ·
        refine Rg.cons 0 1 rfl (Rg.plain rfl ?_) ?_
        · intro vs W n hn hI hG hT hF K hK
          simp only [Rg.putsD, List.getD_cons_zero, List.getD_cons_succ, Act.put, List.setIfInBounds_toArray, List.set_cons_zero, List.set_cons_succ] at hK ⊢
          have hn1 : n < 26 := hn
          clear hn
          clear hF
          have H := Lib.hid hK
          clear hK hT
          go_simp
          exact H.out _ _ (Kept.same _ _) rfl (fun h => by cases h) (hI.more (by omega))
        refine Rg.cons 1 2 rfl (Rg.plain rfl ?_) ?_
        · intro vs W n hn hI hG hT hF K hK
          simp only [Rg.putsD, List.getD_cons_zero, List.getD_cons_succ, Act.put, List.setIfInBounds_toArray, List.set_cons_zero, List.set_cons_succ] at hK ⊢
          have hn1 : n < 26 := hn
          clear hn
          clear hF
          have t0 : vs 0 = .pointer (some ⟨w2.heap.size, 2, none⟩) := hT 0 (by decide)
          have hbk := hG.blk HR.out.1 (by omega)
          have cb := cell_of_blk hbk 2
          simp at cb
          clear hbk
          simp only [t0] at hK
          have H := Lib.hid hK
          clear hK hT
          go_simp
          exact H.out _ _ (Kept.same _ _) rfl (fun h => by cases h) (hI.more (by omega))
        refine Rg.cons 2 3 rfl (Rg.plain rfl ?_) ?_
        · intro vs W n hn hI hG hT hF K hK
          simp only [Rg.putsD, List.getD_cons_zero, List.getD_cons_succ, Act.put, List.setIfInBounds_toArray, List.set_cons_zero, List.set_cons_succ] at hK ⊢
          have hn1 : n < 26 := hn
          clear hn
          clear hF
          have H := Lib.hid hK
          clear hK hT
          go_simp
          exact H.out _ _ (Kept.same _ _) rfl (fun h => by cases h) (hI.more (by omega))
        refine Rg.cons 3 4 rfl (Rg.plain rfl ?_) ?_
        · intro vs W n hn hI hG hT hF K hK
          simp only [Rg.putsD, List.getD_cons_zero, List.getD_cons_succ, Act.put, List.setIfInBounds_toArray, List.set_cons_zero, List.set_cons_succ] at hK ⊢
          have hn1 : n < 26 := hn
          clear hn
          clear hF
          have H := Lib.hid hK
          clear hK hT
          go_simp
          exact H.out _ _ (Kept.same _ _) rfl (fun h => by cases h) (hI.more (by omega))
        refine Rg.cons 4 5 rfl (Rg.plain rfl ?_) ?_
        · intro vs W n hn hI hG hT hF K hK
          simp only [Rg.putsD, List.getD_cons_zero, List.getD_cons_succ, Act.put, List.setIfInBounds_toArray, List.set_cons_zero, List.set_cons_succ] at hK ⊢
          have hn1 : n < 26 := hn
          clear hn
          clear hF
          have t3 : vs 3 = .pointer (some ⟨w.heap.size, 1, none⟩) := hT 3 (by decide)
          have hbk := hG.blk HPR.out (by omega)
          have cb := cell_of_blk hbk 1
          simp at cb
          clear hbk
          simp only [t3] at hK
          have H := Lib.hid hK
          clear hK hT
          go_simp
          exact H.out _ _ (Kept.same _ _) rfl (fun h => by cases h) (hI.more (by omega))
        refine Rg.cons 5 6 rfl (Rg.plain rfl ?_) ?_
        · intro vs W n hn hI hG hT hF K hK
          simp only [Rg.putsD, List.getD_cons_zero, List.getD_cons_succ, Act.put, List.setIfInBounds_toArray, List.set_cons_zero, List.set_cons_succ] at hK ⊢
          have hn1 : n < 26 := hn
          clear hn
          clear hF
          have t4 : vs 4 = .int .i64 Wd := hT 4 (by decide)
          simp only [t4] at hK
          have H := Lib.hid hK
          clear hK hT
          go_simp
          exact H.out _ _ (Kept.same _ _) ⟨_, rfl⟩ (fun h => by cases h) (hI.more (by omega))
        refine Rg.cons 6 7 rfl (Rg.plain rfl ?_) ?_
        · intro vs W n hn hI hG hT hF K hK
          simp only [Rg.putsD, List.getD_cons_zero, List.getD_cons_succ, Act.put, List.setIfInBounds_toArray, List.set_cons_zero, List.set_cons_succ] at hK ⊢
          have hn1 : n < 26 := hn
          clear hn
          clear hF
          have t5 : ∃ x : Int, vs 5 = .int .i64 x := hT 5 (by decide)
          obtain ⟨x5, e5⟩ := t5
          simp only [e5] at hK
          have H := Lib.hid hK
          clear hK hT
          go_simp
          exact H.out _ _ (Kept.same _ _) ⟨_, rfl⟩ (fun h => by cases h) (hI.more (by omega))
        refine Rg.cons 7 8 rfl (Rg.plain rfl ?_) ?_
        · intro vs W n hn hI hG hT hF K hK
          simp only [Rg.putsD, List.getD_cons_zero, List.getD_cons_succ, Act.put, List.setIfInBounds_toArray, List.set_cons_zero, List.set_cons_succ] at hK ⊢
          have hn1 : n < 26 := hn
          clear hn
          clear hF
          have t6 : ∃ x : Int, vs 6 = .int .i64 x := hT 6 (by decide)
          obtain ⟨x6, e6⟩ := t6
          simp only [e6] at hK
          have H := Lib.hid hK
          clear hK hT
          go_simp
          exact H.out _ _ (Kept.of_below ((Below.refl _ _).alloc (Nat.le_refl _) _)) (IntSl.new [0, 10, 100, 150, x6] rfl hG.more) (fun h => by cases h) ((hI.alloc _).more (by omega))
        refine Rg.cons 8 9 rfl (Rg.plain rfl ?_) ?_
        · intro vs W n hn hI hG hT hF K hK
          simp only [Rg.putsD, List.getD_cons_zero, List.getD_cons_succ, Act.put, List.setIfInBounds_toArray, List.set_cons_zero, List.set_cons_succ] at hK ⊢
          have hn1 : n < 26 := hn
          clear hn
          clear hF
          have t2 : vs 2 = .pointer (some ⟨sb, 0, none⟩) := hT 2 (by decide)
          have t7 : IntSl wr.heap.size 5 (vs 7) W := hT 7 (by decide)
          obtain ⟨b7, xs7, n7, c7, e7, k7⟩ := t7
          have N7 := Lib.hid (And.intro n7 k7)
          clear n7 k7
          simp only [e7] at hK
          simp only [t2] at hK
          have H := Lib.hid hK
          clear hK hT
          go_simp
          refine (pick_blk N7.out.2 N7.out.1 (by decide) (by decide) (by omega) (by omega) hI).mono ?_
          rintro e w1 ⟨x, _, rfl, ht⟩
          exact H.out _ _ ht.2 ⟨_, rfl⟩ (fun h => by cases h) (ht.1.more (by omega))
        refine Rg.cons 9 10 rfl (Rg.plain rfl ?_) ?_
        · intro vs W n hn hI hG hT hF K hK
          simp only [Rg.putsD, List.getD_cons_zero, List.getD_cons_succ, Act.put, List.setIfInBounds_toArray, List.set_cons_zero, List.set_cons_succ] at hK ⊢
          have hn1 : n < 26 := hn
          clear hn
          clear hF
          have H := Lib.hid hK
          clear hK hT
          go_simp
          exact H.out _ _ (Kept.same _ _) rfl (fun h => by cases h) (hI.more (by omega))
        refine Rg.cons 10 11 rfl (Rg.plain rfl ?_) ?_
        · intro vs W n hn hI hG hT hF K hK
          simp only [Rg.putsD, List.getD_cons_zero, List.getD_cons_succ, Act.put, List.setIfInBounds_toArray, List.set_cons_zero, List.set_cons_succ] at hK ⊢
          have hn1 : n < 26 := hn
          clear hn
          clear hF
          have H := Lib.hid hK
          clear hK hT
          go_simp
          exact H.out _ _ (Kept.same _ _) rfl (fun h => by cases h) (hI.more (by omega))
        refine Rg.cons 11 12 rfl (Rg.plain rfl ?_) ?_
        · intro vs W n hn hI hG hT hF K hK
          simp only [Rg.putsD, List.getD_cons_zero, List.getD_cons_succ, Act.put, List.setIfInBounds_toArray, List.set_cons_zero, List.set_cons_succ] at hK ⊢
          have hn1 : n < 26 := hn
          clear hn
          clear hF
          have t10 : vs 10 = .pointer (some ⟨w.heap.size, 2, none⟩) := hT 10 (by decide)
          have hbk := hG.blk HPR.out (by omega)
          have cb := cell_of_blk hbk 2
          simp at cb
          clear hbk
          simp only [t10] at hK
          have H := Lib.hid hK
          clear hK hT
          go_simp
          exact H.out _ _ (Kept.same _ _) rfl (fun h => by cases h) (hI.more (by omega))
        refine Rg.cons 12 13 rfl (Rg.plain rfl ?_) ?_
        · intro vs W n hn hI hG hT hF K hK
          simp only [Rg.putsD, List.getD_cons_zero, List.getD_cons_succ, Act.put, List.setIfInBounds_toArray, List.set_cons_zero, List.set_cons_succ] at hK ⊢
          have hn1 : n < 26 := hn
          clear hn
          clear hF
          have t11 : vs 11 = .int .i64 Hg := hT 11 (by decide)
          simp only [t11] at hK
          have H := Lib.hid hK
          clear hK hT
          go_simp
          exact H.out _ _ (Kept.same _ _) ⟨_, rfl⟩ (fun h => by cases h) (hI.more (by omega))
        refine Rg.cons 13 14 rfl (Rg.plain rfl ?_) ?_
        · intro vs W n hn hI hG hT hF K hK
          simp only [Rg.putsD, List.getD_cons_zero, List.getD_cons_succ, Act.put, List.setIfInBounds_toArray, List.set_cons_zero, List.set_cons_succ] at hK ⊢
          have hn1 : n < 26 := hn
          clear hn
          clear hF
          have t12 : ∃ x : Int, vs 12 = .int .i64 x := hT 12 (by decide)
          obtain ⟨x12, e12⟩ := t12
          simp only [e12] at hK
          have H := Lib.hid hK
          clear hK hT
          go_simp
          exact H.out _ _ (Kept.same _ _) ⟨_, rfl⟩ (fun h => by cases h) (hI.more (by omega))
        refine Rg.cons 14 15 rfl (Rg.plain rfl ?_) ?_
        · intro vs W n hn hI hG hT hF K hK
          simp only [Rg.putsD, List.getD_cons_zero, List.getD_cons_succ, Act.put, List.setIfInBounds_toArray, List.set_cons_zero, List.set_cons_succ] at hK ⊢
          have hn1 : n < 26 := hn
          clear hn
          clear hF
          have t13 : ∃ x : Int, vs 13 = .int .i64 x := hT 13 (by decide)
          obtain ⟨x13, e13⟩ := t13
          simp only [e13] at hK
          have H := Lib.hid hK
          clear hK hT
          go_simp
          exact H.out _ _ (Kept.of_below ((Below.refl _ _).alloc (Nat.le_refl _) _)) (IntSl.new [0, 40, 60, 100, x13] rfl hG.more) (fun h => by cases h) ((hI.alloc _).more (by omega))
        refine Rg.cons 15 16 rfl (Rg.plain rfl ?_) ?_
        · intro vs W n hn hI hG hT hF K hK
          simp only [Rg.putsD, List.getD_cons_zero, List.getD_cons_succ, Act.put, List.setIfInBounds_toArray, List.set_cons_zero, List.set_cons_succ] at hK ⊢
          have hn1 : n < 26 := hn
          clear hn
          clear hF
          have t9 : vs 9 = .pointer (some ⟨sb, 0, none⟩) := hT 9 (by decide)
          have t14 : IntSl wr.heap.size 5 (vs 14) W := hT 14 (by decide)
          obtain ⟨b14, xs14, n14, c14, e14, k14⟩ := t14
          have N14 := Lib.hid (And.intro n14 k14)
          clear n14 k14
          simp only [e14] at hK
          simp only [t9] at hK
          have H := Lib.hid hK
          clear hK hT
          go_simp
          refine (pick_blk N14.out.2 N14.out.1 (by decide) (by decide) (by omega) (by omega) hI).mono ?_
          rintro e w1 ⟨x, _, rfl, ht⟩
          exact H.out _ _ ht.2 ⟨_, rfl⟩ (fun h => by cases h) (ht.1.more (by omega))
        refine Rg.cons 16 17 rfl (Rg.plain rfl ?_) ?_
        · intro vs W n hn hI hG hT hF K hK
          simp only [Rg.putsD, List.getD_cons_zero, List.getD_cons_succ, Act.put, List.setIfInBounds_toArray, List.set_cons_zero, List.set_cons_succ] at hK ⊢
          have hn1 : n < 26 := hn
          clear hn
          clear hF
          have H := Lib.hid hK
          clear hK hT
          go_simp
          exact H.out _ _ (Kept.same _ _) rfl (fun h => by cases h) (hI.more (by omega))
        refine Rg.cons 17 18 rfl (Rg.plain rfl ?_) ?_
        · intro vs W n hn hI hG hT hF K hK
          simp only [Rg.putsD, List.getD_cons_zero, List.getD_cons_succ, Act.put, List.setIfInBounds_toArray, List.set_cons_zero, List.set_cons_succ] at hK ⊢
          have hn1 : n < 26 := hn
          clear hn
          clear hF
          have H := Lib.hid hK
          clear hK hT
          go_simp
          exact H.out _ _ (Kept.of_below ((Below.refl _ _).alloc (Nat.le_refl _) _)) (IntSl.new [0, 0, 1, 2, 3] rfl hG.more) (fun h => by cases h) ((hI.alloc _).more (by omega))
        refine Rg.cons 18 19 rfl (Rg.plain rfl ?_) ?_
        · intro vs W n hn hI hG hT hF K hK
          simp only [Rg.putsD, List.getD_cons_zero, List.getD_cons_succ, Act.put, List.setIfInBounds_toArray, List.set_cons_zero, List.set_cons_succ] at hK ⊢
          have hn1 : n < 26 := hn
          clear hn
          clear hF
          have t16 : vs 16 = .pointer (some ⟨sb, 0, none⟩) := hT 16 (by decide)
          have t17 : IntSl wr.heap.size 5 (vs 17) W := hT 17 (by decide)
          obtain ⟨b17, xs17, n17, c17, e17, k17⟩ := t17
          have N17 := Lib.hid (And.intro n17 k17)
          clear n17 k17
          simp only [e17] at hK
          simp only [t16] at hK
          have H := Lib.hid hK
          clear hK hT
          go_simp
          refine (pick_blk N17.out.2 N17.out.1 (by decide) (by decide) (by omega) (by omega) hI).mono ?_
          rintro e w1 ⟨x, _, rfl, ht⟩
          exact H.out _ _ ht.2 ⟨_, rfl⟩ (fun h => by cases h) (ht.1.more (by omega))
        refine Rg.cons 19 20 rfl (Rg.plain rfl ?_) ?_
        · intro vs W n hn hI hG hT hF K hK
          simp only [Rg.putsD, List.getD_cons_zero, List.getD_cons_succ, Act.put, List.setIfInBounds_toArray, List.set_cons_zero, List.set_cons_succ] at hK ⊢
          have hn1 : n < 26 := hn
          clear hn
          clear hF
          have H := Lib.hid hK
          clear hK hT
          go_simp
          exact H.out _ _ (Kept.same _ _) rfl (fun h => by cases h) (hI.more (by omega))
        refine Rg.cons 20 21 rfl (Rg.plain rfl ?_) ?_
        · intro vs W n hn hI hG hT hF K hK
          simp only [Rg.putsD, List.getD_cons_zero, List.getD_cons_succ, Act.put, List.setIfInBounds_toArray, List.set_cons_zero, List.set_cons_succ] at hK ⊢
          have hn1 : n < 26 := hn
          clear hn
          clear hF
          have t19 : vs 19 = .pointer (some ⟨sb, 0, none⟩) := hT 19 (by decide)
          simp only [t19] at hK
          have H := Lib.hid hK
          clear hK hT
          go_simp
          refine (flip_any sb _ _ _ (by omega) (by omega) (by omega) hI).mono ?_
          rintro e w1 ⟨x, rfl, ht⟩
          exact H.out _ _ ht.2 ⟨_, rfl⟩ (fun h => by cases h) (ht.1.more (by omega))
        refine Rg.cons 21 22 rfl (Rg.plain rfl ?_) ?_
        · intro vs W n hn hI hG hT hF K hK
          simp only [Rg.putsD, List.getD_cons_zero, List.getD_cons_succ, Act.put, List.setIfInBounds_toArray, List.set_cons_zero, List.set_cons_succ] at hK ⊢
          have hn1 : n < 26 := hn
          clear hn
          clear hF
          have t8 : ∃ x : Int, vs 8 = .int .i64 x := hT 8 (by decide)
          have t15 : ∃ x : Int, vs 15 = .int .i64 x := hT 15 (by decide)
          have t18 : ∃ x : Int, vs 18 = .int .i64 x := hT 18 (by decide)
          have t20 : ∃ x : Bool, vs 20 = .bool x := hT 20 (by decide)
          obtain ⟨x8, e8⟩ := t8
          simp only [e8] at hK
          obtain ⟨x15, e15⟩ := t15
          simp only [e15] at hK
          obtain ⟨x18, e18⟩ := t18
          simp only [e18] at hK
          obtain ⟨x20, e20⟩ := t20
          simp only [e20] at hK
          have H := Lib.hid hK
          clear hK hT
          go_simp
          exact H.out _ _ (Kept.same _ _) ⟨_, _, _, _, rfl⟩ (fun h => by cases h) (hI.more (by omega))
        refine Rg.cons 22 23 rfl (Rg.plain rfl ?_) ?_
        · intro vs W n hn hI hG hT hF K hK
          simp only [Rg.putsD, List.getD_cons_zero, List.getD_cons_succ, Act.put, List.setIfInBounds_toArray, List.set_cons_zero, List.set_cons_succ] at hK ⊢
          have hn1 : n < 26 := hn
          clear hn
          clear hF
          have t21 : ∃ (x y q : Int) (s : Bool), vs 21 = .agg #[.int .i64 x, .int .i64 y, .int .i64 q, .bool s] := hT 21 (by decide)
          obtain ⟨xx, yy, qq, ss, e21⟩ := t21
          simp only [e21] at hK
          have H := Lib.hid hK
          clear hK hT
          go_simp
          exact H.out _ _ (Kept.of_below ((Below.refl _ _).alloc (Nat.le_refl _) _)) ⟨_, ⟨xx, yy, qq, ss⟩, hG.more, rfl, blk_new W _ rfl⟩ (fun h => by cases h) ((hI.alloc _).more (by omega))
        exact Rg.nil
      · intro vs W hG hI hT hF
        have t0 : vs 0 = .pointer (some ⟨w2.heap.size, 2, none⟩) := hT 0 (by decide)
        have t1 : vs 1 = .slice A3 l.length k3 := hT 1 (by decide)
        have t2 : vs 2 = .pointer (some ⟨sb, 0, none⟩) := hT 2 (by decide)
        have t3 : vs 3 = .pointer (some ⟨w.heap.size, 1, none⟩) := hT 3 (by decide)
        have t4 : vs 4 = .int .i64 Wd := hT 4 (by decide)
        have t5 : ∃ x : Int, vs 5 = .int .i64 x := hT 5 (by decide)
        have t6 : ∃ x : Int, vs 6 = .int .i64 x := hT 6 (by decide)
        have t7 : IntSl wr.heap.size 5 (vs 7) W := hT 7 (by decide)
        have t8 : ∃ x : Int, vs 8 = .int .i64 x := hT 8 (by decide)
        have t9 : vs 9 = .pointer (some ⟨sb, 0, none⟩) := hT 9 (by decide)
        have t10 : vs 10 = .pointer (some ⟨w.heap.size, 2, none⟩) := hT 10 (by decide)
        have t11 : vs 11 = .int .i64 Hg := hT 11 (by decide)
        have t12 : ∃ x : Int, vs 12 = .int .i64 x := hT 12 (by decide)
        have t13 : ∃ x : Int, vs 13 = .int .i64 x := hT 13 (by decide)
        have t14 : IntSl wr.heap.size 5 (vs 14) W := hT 14 (by decide)
        have t15 : ∃ x : Int, vs 15 = .int .i64 x := hT 15 (by decide)
        have t16 : vs 16 = .pointer (some ⟨sb, 0, none⟩) := hT 16 (by decide)
        have t17 : IntSl wr.heap.size 5 (vs 17) W := hT 17 (by decide)
        have t18 : ∃ x : Int, vs 18 = .int .i64 x := hT 18 (by decide)
        have t19 : vs 19 = .pointer (some ⟨sb, 0, none⟩) := hT 19 (by decide)
        have t20 : ∃ x : Bool, vs 20 = .bool x := hT 20 (by decide)
        have t21 : ∃ (x y q : Int) (s : Bool), vs 21 = .agg #[.int .i64 x, .int .i64 y, .int .i64 q, .bool s] := hT 21 (by decide)
        have t22 : ∃ (g : Nat) (p : Sl), wr.heap.size ≤ g ∧ vs 22 = .slice (some ⟨g, 0, none⟩) 1 1 ∧ W.heap[g]? = some (.cells p.cells.toArray 70 (0, 0)) := hT 22 (by decide)
        simp only [List.length_cons, List.length_nil, Nat.reduceAdd, List.range, List.range.loop, List.drop_succ_cons, List.drop_zero, Rg.putsD, List.getD_cons_zero, List.getD_cons_succ, Act.put, List.setIfInBounds_toArray, List.set_cons_zero, List.set_cons_succ, t0, t1, t2, t3, t4, t9, t10, t11, t16, t19]
        clear hT t0 t1 t2 t3 t4 t9 t10 t11 t16 t19
        obtain ⟨gg, p, hgg, e22, k22⟩ := t22
        have hI19 : IsStream W sb (b + 3 + 24 * k + 23) := hI
        have HW : Hid (W.heap[w2.heap.size]? = some (.cells #[.int .i64 PW, .int .i64 PH, .slice A3 l.length k3] 32 (0, 0)) ∧
          W.ownsRow (w2.heap.size + 1) 70 4 (.slice A3 l.length k3) l.length (flatSl l) ∧ Took sb (b + 3 + 24 * k + 24) w2 W ∧ W.heap[gg]? = some (.cells p.cells.toArray 70 (0, 0))) :=
          ⟨hG.blk HR.out.1 (by omega), kept_own (w := wr.drew) (base := w2.heap.size + 1) HR.out.2.1 hG (by omega), ⟨hI19.more (by omega), HR.out.2.2.drew.2.then_ hG⟩, k22⟩
        have hsW : w2.heap.size < W.heap.size := Nat.lt_of_lt_of_le (show w2.heap.size < wr.heap.size by omega) hG.more
        have E22 := Lib.hid e22
        clear t5 t6 t8 t12 t13 t15 t18 t20 t21 hgg k22 hG hI hI19 hF HR t7 t14 t17
        simp only [E22.out]
        clear e22 E22
        obtain ⟨i0, hi, hz0, hz1, hz2⟩ := info_parts slot_info
        have HI := Lib.hid (And.intro hi (And.intro hz0 (And.intro hz1 hz2)))
        clear hi hz0 hz1 hz2
        refine wpList_append_own _ rfl _ _ 30 rfl (w2.heap.size + 1) 70 i0 _ 4 32 Try.underlying30 HI.out.1 HI.out.2.1 HI.out.2.2.1 HI.out.2.2.2 rfl (by omega) (.slice A3 l.length k3) l.length (flatSl l) rfl HW.out.2.1 ⟨gg, 0, none⟩ 1 1 p.cells rfl rfl ?c1 (by intro u hu; simp [Sl.cells] at hu; rcases hu with rfl | rfl | rfl | rfl <;> rfl) ?c2 ?c3 (by omega) ?_
        case c1 =>
          intro j u hu
          rw [addr_new, cell_of_blk HW.out.2.2.2]
          simpa using hu
        case c2 => unfold maxLen; omega
        case c3 => omega
        intro vv w' hown' hg' _
        obtain ⟨g2, cap2, rfl, _⟩ := own_read hown' (by omega)
        have hsw' := hg'.size
        have hr := own_row HW.out.2.1
        have kb := (hg'.block _ (by omega) (fun e => by have := hr _ e.symm; omega)).trans HW.out.1
        have HF : Hid ((w'.setCell ⟨w2.heap.size, 2, none⟩ (.slice (some ⟨g2, 0, none⟩) (l.length + 1) cap2)).heap[w2.heap.size]? = some (.cells #[.int .i64 PW, .int .i64 PH, .slice (some ⟨g2, 0, none⟩) (l.length + 1) cap2] 32 (0, 0)) ∧
          (w'.setCell ⟨w2.heap.size, 2, none⟩ (.slice (some ⟨g2, 0, none⟩) (l.length + 1) cap2)).ownsRow (w2.heap.size + 1) 70 4 (.slice (some ⟨g2, 0, none⟩) (l.length + 1) cap2) (l ++ [p]).length (flatSl (l ++ [p])) ∧ Took sb (b + 3 + 24 * k + 24) w2 (w'.setCell ⟨w2.heap.size, 2, none⟩ (.slice (some ⟨g2, 0, none⟩) (l.length + 1) cap2))) := by
          refine ⟨blk_set kb _, ?_, ?_⟩
          · have e1 : flatSl (l ++ [p]) = flatSl l ++ p.cells := by simp [flatSl]
            rw [e1, List.length_append]
            exact own_far hown' (by simp) _
          · exact (HW.out.2.2.1.grown (by omega) hg' (fun j e => by have := hr _ e; omega)).setCell (by simp) (by omega) _
        have hc3 : w'.cell? ⟨w2.heap.size, 2, none⟩ = some (.slice A3 l.length k3) := by rw [cell_of_blk kb]; rfl
        have hf3 : w'.frozen? ⟨w2.heap.size, 2, none⟩ = false := frozen_of_blk kb _
        have HSZ : Hid (w2.heap.size < (w'.setCell ⟨w2.heap.size, 2, none⟩ (.slice (some ⟨g2, 0, none⟩) (l.length + 1) cap2)).heap.size) := by show _ < _; simp [World.setCell]; omega
        clear hown' hg' kb hr
        go_wp2_with fail
        go_roundw
        case rel => exact ⟨k + 1, _, l ++ [p], by omega, by go_num, by simp; omega, HSZ.out, HF.out.1, HF.out.2.1, HF.out.2.2.more (by omega)⟩
        case measure => simp [intOf]; omega
    · have HR4 : Hid (wr.heap[w2.heap.size]? = some (.cells #[.int .i64 PW, .int .i64 PH, .slice A3 l.length k3] 32 (0, 0)) ∧
        wr.ownsRow (w2.heap.size + 1) 70 4 (.slice A3 l.length k3) l.length (flatSl l) ∧ Took sb (b + 123) w2 wr) := ⟨HR.out.1, HR.out.2.1, HR.out.2.2.more (by omega)⟩
      clear HR
      go_wp2_with fail
      refine (flip_any sb (b + 123) _ _ (by omega) (by omega) (by omega) HR4.out.2.2.1).mono ?_
      rintro e w4 ⟨f, rfl, t4⟩
      have hsz4 := t4.size
      have HQ : Hid (w4.heap[w2.heap.size]? = some (.cells #[.int .i64 PW, .int .i64 PH, .slice A3 l.length k3] 32 (0, 0)) ∧
        w4.ownsRow (w2.heap.size + 1) 70 4 (.slice A3 l.length k3) l.length (flatSl l) ∧ Took sb (b + 124) w2 w4) := ⟨t4.blk HR4.out.1 (by omega), kept_own HR4.out.2.1 t4.2 (by omega), HR4.out.2.2.trans t4⟩
      clear t4 HR4
      go_upto_if 45 with (fail)
      go_cut [] (fun wc => w2.heap.size < wc.heap.size ∧ Hid (SSt w2.heap.size sb (b + 200) w2 wc))
      case first =>
        cases f
        case false =>
          go_wp2_with fail
          go_meet
          exact ⟨by omega, _, _, _, l, by omega, HQ.out.1, HQ.out.2.1, HQ.out.2.2.more (by omega)⟩
        case true =>
          obtain ⟨c0, c1, c2, _⟩ := blk3 HQ.out.1
          by_cases hl0 : l.length = 0
          · have hd0 : decide (0 < l.length) = false := decide_eq_false (by omega)
            go_wp2_with fail
            clear c0 c1 c2
            refine Rg.rgL (Kept sb)
              [(fun vs u => vs 0 = .pointer (some ⟨sb, 0, none⟩)), (fun vs u => vs 1 = .pointer (some ⟨w2.heap.size, 0, none⟩)), (fun vs u => vs 2 = .int .i64 PW), (fun vs u => IntSl w4.heap.size 4 (vs 3) u), (fun vs u => ∃ x : Int, vs 4 = .int .i64 x), (fun vs u => vs 5 = .pointer (some ⟨sb, 0, none⟩)), (fun vs u => vs 6 = .pointer (some ⟨w2.heap.size, 1, none⟩)), (fun vs u => vs 7 = .int .i64 PH), (fun vs u => IntSl w4.heap.size 3 (vs 8) u), (fun vs u => ∃ x : Int, vs 9 = .int .i64 x), (fun vs u => vs 10 = .pointer (some ⟨w2.heap.size, 0, none⟩))]
              [[], [], [1], [1, 2], [0, 1, 2, 3], [], [], [6], [6, 7], [0, 1, 2, 3, 4, 5, 6, 7, 8], [0, 1, 2, 3, 4, 6, 7]] [some 96, some 97, some 98, some 99, some 100, some 101, some 102, some 103, some 104, some 105, some 106, none, some 107, none] [] (fun n W => IsStream W sb (b+124 + n)) [[], [], [1], [1, 2], [0, 1, 2, 3], [], [], [6], [6, 7], [0, 1, 2, 3, 4, 5, 6, 7, 8], [0, 1, 2, 3, 4, 6, 7], [0, 1, 2, 3, 4, 5, 6, 7, 8, 9, 10], [0, 1, 2, 3, 4, 5, 6, 7, 8, 9, 10, 11], [0, 1, 2, 3, 4, 5, 6, 7, 8, 9, 10, 11, 12]]
              (by kernel_rfl) (by decide) (by kernel_rfl) (by kernel_rfl) (by kernel_rfl) (by kernel_rfl) (by kernel_rfl) (fun _ => Kept.same _ _) (fun _ _ _ h k => h.then_ k) (fun _ _ h => h.more) ?_ (HQ.out.2.2.1.drew) ?_ ?_
            · intro t ht vs w w' h hE
              simp only [List.mem_cons, List.not_mem_nil, or_false] at ht
              rcases ht with rfl | rfl | rfl | rfl | rfl | rfl | rfl | rfl | rfl | rfl | rfl
              · exact h
              · exact h
              · exact h
              · exact h.kept hE (by omega)
              · exact h
              · exact h
              · exact h
              · exact h
              · exact h.kept hE (by omega)
              · exact h
              · exact h
            ·
              refine Rg.cons 0 1 rfl (Rg.plain rfl ?_) ?_
              · intro vs W n hn hI hG hT hF K hK
                simp only [Rg.putsD, List.getD_cons_zero, List.getD_cons_succ, Act.put, List.setIfInBounds_toArray, List.set_cons_zero, List.set_cons_succ] at hK ⊢
                have hn1 : n < 14 := hn
                clear hn
                clear hF
                have H := Lib.hid hK
                clear hK hT
                go_simp
                exact H.out _ _ (Kept.same _ _) rfl (fun h => by cases h) (hI.more (by omega))
              refine Rg.cons 1 2 rfl (Rg.plain rfl ?_) ?_
              · intro vs W n hn hI hG hT hF K hK
                simp only [Rg.putsD, List.getD_cons_zero, List.getD_cons_succ, Act.put, List.setIfInBounds_toArray, List.set_cons_zero, List.set_cons_succ] at hK ⊢
                have hn1 : n < 14 := hn
                clear hn
                clear hF
                have H := Lib.hid hK
                clear hK hT
                go_simp
                exact H.out _ _ (Kept.same _ _) rfl (fun h => by cases h) (hI.more (by omega))
              refine Rg.cons 2 3 rfl (Rg.plain rfl ?_) ?_
              · intro vs W n hn hI hG hT hF K hK
                simp only [Rg.putsD, List.getD_cons_zero, List.getD_cons_succ, Act.put, List.setIfInBounds_toArray, List.set_cons_zero, List.set_cons_succ] at hK ⊢
                have hn1 : n < 14 := hn
                clear hn
                clear hF
                have t1 : vs 1 = .pointer (some ⟨w2.heap.size, 0, none⟩) := hT 1 (by decide)
                have hbk := hG.blk HQ.out.1 (by omega)
                have cb := cell_of_blk hbk 0
                simp at cb
                clear hbk
                simp only [t1] at hK
                have H := Lib.hid hK
                clear hK hT
                go_simp
                exact H.out _ _ (Kept.same _ _) rfl (fun h => by cases h) (hI.more (by omega))
              refine Rg.cons 3 4 rfl (Rg.plain rfl ?_) ?_
              · intro vs W n hn hI hG hT hF K hK
                simp only [Rg.putsD, List.getD_cons_zero, List.getD_cons_succ, Act.put, List.setIfInBounds_toArray, List.set_cons_zero, List.set_cons_succ] at hK ⊢
                have hn1 : n < 14 := hn
                clear hn
                clear hF
                have t2 : vs 2 = .int .i64 PW := hT 2 (by decide)
                simp only [t2] at hK
                have H := Lib.hid hK
                clear hK hT
                go_simp
                exact H.out _ _ (Kept.of_below ((Below.refl _ _).alloc (Nat.le_refl _) _)) (IntSl.new [PW, 0, 500001, 30] rfl hG.more) (fun h => by cases h) ((hI.alloc _).more (by omega))
              refine Rg.cons 4 5 rfl (Rg.plain rfl ?_) ?_
              · intro vs W n hn hI hG hT hF K hK
                simp only [Rg.putsD, List.getD_cons_zero, List.getD_cons_succ, Act.put, List.setIfInBounds_toArray, List.set_cons_zero, List.set_cons_succ] at hK ⊢
                have hn1 : n < 14 := hn
                clear hn
                clear hF
                have t0 : vs 0 = .pointer (some ⟨sb, 0, none⟩) := hT 0 (by decide)
                have t3 : IntSl w4.heap.size 4 (vs 3) W := hT 3 (by decide)
                obtain ⟨b3, xs3, n3, c3, e3, k3⟩ := t3
                have N3 := Lib.hid (And.intro n3 k3)
                clear n3 k3
                simp only [e3] at hK
                simp only [t0] at hK
                have H := Lib.hid hK
                clear hK hT
                go_simp
                refine (pick_blk N3.out.2 N3.out.1 (by decide) (by decide) (by omega) (by omega) hI).mono ?_
                rintro e w1 ⟨x, _, rfl, ht⟩
                exact H.out _ _ ht.2 ⟨_, rfl⟩ (fun h => by cases h) (ht.1.more (by omega))
              refine Rg.cons 5 6 rfl (Rg.plain rfl ?_) ?_
              · intro vs W n hn hI hG hT hF K hK
                simp only [Rg.putsD, List.getD_cons_zero, List.getD_cons_succ, Act.put, List.setIfInBounds_toArray, List.set_cons_zero, List.set_cons_succ] at hK ⊢
                have hn1 : n < 14 := hn
                clear hn
                clear hF
                have H := Lib.hid hK
                clear hK hT
                go_simp
                exact H.out _ _ (Kept.same _ _) rfl (fun h => by cases h) (hI.more (by omega))
              refine Rg.cons 6 7 rfl (Rg.plain rfl ?_) ?_
              · intro vs W n hn hI hG hT hF K hK
                simp only [Rg.putsD, List.getD_cons_zero, List.getD_cons_succ, Act.put, List.setIfInBounds_toArray, List.set_cons_zero, List.set_cons_succ] at hK ⊢
                have hn1 : n < 14 := hn
                clear hn
                clear hF
                have H := Lib.hid hK
                clear hK hT
                go_simp
                exact H.out _ _ (Kept.same _ _) rfl (fun h => by cases h) (hI.more (by omega))
              refine Rg.cons 7 8 rfl (Rg.plain rfl ?_) ?_
              · intro vs W n hn hI hG hT hF K hK
                simp only [Rg.putsD, List.getD_cons_zero, List.getD_cons_succ, Act.put, List.setIfInBounds_toArray, List.set_cons_zero, List.set_cons_succ] at hK ⊢
                have hn1 : n < 14 := hn
                clear hn
                clear hF
                have t6 : vs 6 = .pointer (some ⟨w2.heap.size, 1, none⟩) := hT 6 (by decide)
                have hbk := hG.blk HQ.out.1 (by omega)
                have cb := cell_of_blk hbk 1
                simp at cb
                clear hbk
                simp only [t6] at hK
                have H := Lib.hid hK
                clear hK hT
                go_simp
                exact H.out _ _ (Kept.same _ _) rfl (fun h => by cases h) (hI.more (by omega))
              refine Rg.cons 8 9 rfl (Rg.plain rfl ?_) ?_
              · intro vs W n hn hI hG hT hF K hK
                simp only [Rg.putsD, List.getD_cons_zero, List.getD_cons_succ, Act.put, List.setIfInBounds_toArray, List.set_cons_zero, List.set_cons_succ] at hK ⊢
                have hn1 : n < 14 := hn
                clear hn
                clear hF
                have t7 : vs 7 = .int .i64 PH := hT 7 (by decide)
                simp only [t7] at hK
                have H := Lib.hid hK
                clear hK hT
                go_simp
                exact H.out _ _ (Kept.of_below ((Below.refl _ _).alloc (Nat.le_refl _) _)) (IntSl.new [PH, (-1), 20] rfl hG.more) (fun h => by cases h) ((hI.alloc _).more (by omega))
              refine Rg.cons 9 10 rfl (Rg.plain rfl ?_) ?_
              · intro vs W n hn hI hG hT hF K hK
                simp only [Rg.putsD, List.getD_cons_zero, List.getD_cons_succ, Act.put, List.setIfInBounds_toArray, List.set_cons_zero, List.set_cons_succ] at hK ⊢
                have hn1 : n < 14 := hn
                clear hn
                clear hF
                have t5 : vs 5 = .pointer (some ⟨sb, 0, none⟩) := hT 5 (by decide)
                have t8 : IntSl w4.heap.size 3 (vs 8) W := hT 8 (by decide)
                obtain ⟨b8, xs8, n8, c8, e8, k8⟩ := t8
                have N8 := Lib.hid (And.intro n8 k8)
                clear n8 k8
                simp only [e8] at hK
                simp only [t5] at hK
                have H := Lib.hid hK
                clear hK hT
                go_simp
                refine (pick_blk N8.out.2 N8.out.1 (by decide) (by decide) (by omega) (by omega) hI).mono ?_
                rintro e w1 ⟨x, _, rfl, ht⟩
                exact H.out _ _ ht.2 ⟨_, rfl⟩ (fun h => by cases h) (ht.1.more (by omega))
              refine Rg.cons 10 11 rfl (Rg.plain rfl ?_) ?_
              · intro vs W n hn hI hG hT hF K hK
                simp only [Rg.putsD, List.getD_cons_zero, List.getD_cons_succ, Act.put, List.setIfInBounds_toArray, List.set_cons_zero, List.set_cons_succ] at hK ⊢
                have hn1 : n < 14 := hn
                clear hn
                clear hF
                have H := Lib.hid hK
                clear hK hT
                go_simp
                exact H.out _ _ (Kept.same _ _) rfl (fun h => by cases h) (hI.more (by omega))
              exact Rg.nil
            · intro vs W hG hI hT hF
              have t0 : vs 0 = .pointer (some ⟨sb, 0, none⟩) := hT 0 (by decide)
              have t1 : vs 1 = .pointer (some ⟨w2.heap.size, 0, none⟩) := hT 1 (by decide)
              have t2 : vs 2 = .int .i64 PW := hT 2 (by decide)
              have t3 : IntSl w4.heap.size 4 (vs 3) W := hT 3 (by decide)
              have t4 : ∃ x : Int, vs 4 = .int .i64 x := hT 4 (by decide)
              have t5 : vs 5 = .pointer (some ⟨sb, 0, none⟩) := hT 5 (by decide)
              have t6 : vs 6 = .pointer (some ⟨w2.heap.size, 1, none⟩) := hT 6 (by decide)
              have t7 : vs 7 = .int .i64 PH := hT 7 (by decide)
              have t8 : IntSl w4.heap.size 3 (vs 8) W := hT 8 (by decide)
              have t9 : ∃ x : Int, vs 9 = .int .i64 x := hT 9 (by decide)
              have t10 : vs 10 = .pointer (some ⟨w2.heap.size, 0, none⟩) := hT 10 (by decide)
              simp only [List.length_cons, List.length_nil, Nat.reduceAdd, List.range, List.range.loop, List.drop_succ_cons, List.drop_zero, Rg.putsD, List.getD_cons_zero, List.getD_cons_succ, Act.put, List.setIfInBounds_toArray, List.set_cons_zero, List.set_cons_succ, t0, t1, t2, t5, t6, t7, t10]
              clear hT t0 t1 t2 t5 t6 t7 t10
              have hI11 : IsStream W sb (b + 124 + 11) := hI
              have hkk := hG.blk HQ.out.1 (by omega)
              obtain ⟨x4, e4⟩ := t4
              obtain ⟨x9, e9⟩ := t9
              have HW : Hid (W.heap[w2.heap.size]? = some (.cells #[.int .i64 PW, .int .i64 PH, .slice A3 l.length k3] 32 (0, 0)) ∧
                W.ownsRow (w2.heap.size + 1) 70 4 (.slice A3 l.length k3) l.length (flatSl l) ∧ Took sb (b + 124 + 11) w2 W) :=
                ⟨hkk, kept_own (w := w4.drew) (base := w2.heap.size + 1) HQ.out.2.1 hG (by omega), hI11, HQ.out.2.2.drew.2.then_ hG⟩
              have hsW : w2.heap.size < W.heap.size := Nat.lt_of_lt_of_le (show w2.heap.size < w4.heap.size by omega) hG.more
              have E1 := Lib.hid (And.intro e4 e9)
              obtain ⟨c0, c1, c2, _⟩ := blk3 hkk
              have f0 := frozen_of_blk hkk 0
              have f1 := frozen_of_blk hkk 1
              clear t3 t8 hI hI11 hG hF e4 e9 hkk HQ
              simp only [E1.out.1, E1.out.2]
              go_wp2_with fail
              go_meet
              have hb := blk_set (i := 1) (blk_set (i := 0) HW.out.1 (.int .i64 x4)) (.int .i64 x9)
              exact ⟨by simp [World.setCell]; omega, _, _, _, l, by omega, hb, own_far (own_far HW.out.2.1 (by simp) _) (by simp) _, ((HW.out.2.2.more (by omega)).setCell (by simp) (by omega) _).setCell (by simp) (by omega) _⟩
          · obtain ⟨g, rfl, hgl, hgb⟩ := HA3.out (by omega)
            have hd0 : 0 < l.length := by omega
            clear hl0
            go_wp2_with fail
            refine (flip_any sb (b + 124) _ _ (by omega) (by omega) (by omega) HQ.out.2.2.1).mono ?_
            rintro e w5 ⟨f2, rfl, t5'⟩
            have hsz5 := t5'.size
            have HQ5 : Hid (w5.heap[w2.heap.size]? = some (.cells #[.int .i64 PW, .int .i64 PH, .slice (some ⟨g, 0, none⟩) l.length k3] 32 (0, 0)) ∧
              w5.ownsRow (w2.heap.size + 1) 70 4 (.slice (some ⟨g, 0, none⟩) l.length k3) l.length (flatSl l) ∧ Took sb (b + 125) w2 w5) := ⟨t5'.blk HQ.out.1 (by omega), kept_own HQ.out.2.1 t5'.2 (by omega), HQ.out.2.2.trans t5'⟩
            clear t5' HQ c0 c1 c2
            cases f2
            · go_wp2_with fail
              refine Rg.rgL (Kept sb)
                [(fun vs u => vs 0 = .pointer (some ⟨sb, 0, none⟩)), (fun vs u => vs 1 = .pointer (some ⟨w2.heap.size, 0, none⟩)), (fun vs u => vs 2 = .int .i64 PW), (fun vs u => IntSl w5.heap.size 4 (vs 3) u), (fun vs u => ∃ x : Int, vs 4 = .int .i64 x), (fun vs u => vs 5 = .pointer (some ⟨sb, 0, none⟩)), (fun vs u => vs 6 = .pointer (some ⟨w2.heap.size, 1, none⟩)), (fun vs u => vs 7 = .int .i64 PH), (fun vs u => IntSl w5.heap.size 3 (vs 8) u), (fun vs u => ∃ x : Int, vs 9 = .int .i64 x), (fun vs u => vs 10 = .pointer (some ⟨w2.heap.size, 0, none⟩))]
                [[], [], [1], [1, 2], [0, 1, 2, 3], [], [], [6], [6, 7], [0, 1, 2, 3, 4, 5, 6, 7, 8], [0, 1, 2, 3, 4, 6, 7]] [some 96, some 97, some 98, some 99, some 100, some 101, some 102, some 103, some 104, some 105, some 106, none, some 107, none] [] (fun n W => IsStream W sb (b+125 + n)) [[], [], [1], [1, 2], [0, 1, 2, 3], [], [], [6], [6, 7], [0, 1, 2, 3, 4, 5, 6, 7, 8], [0, 1, 2, 3, 4, 6, 7], [0, 1, 2, 3, 4, 5, 6, 7, 8, 9, 10], [0, 1, 2, 3, 4, 5, 6, 7, 8, 9, 10, 11], [0, 1, 2, 3, 4, 5, 6, 7, 8, 9, 10, 11, 12]]
                (by kernel_rfl) (by decide) (by kernel_rfl) (by kernel_rfl) (by kernel_rfl) (by kernel_rfl) (by kernel_rfl) (fun _ => Kept.same _ _) (fun _ _ _ h k => h.then_ k) (fun _ _ h => h.more) ?_ (HQ5.out.2.2.1.drew) ?_ ?_
              · intro t ht vs w w' h hE
                simp only [List.mem_cons, List.not_mem_nil, or_false] at ht
                rcases ht with rfl | rfl | rfl | rfl | rfl | rfl | rfl | rfl | rfl | rfl | rfl
                · exact h
                · exact h
                · exact h
                · exact h.kept hE (by omega)
                · exact h
                · exact h
                · exact h
                · exact h
                · exact h.kept hE (by omega)
                · exact h
                · exact h
              ·
                refine Rg.cons 0 1 rfl (Rg.plain rfl ?_) ?_
                · intro vs W n hn hI hG hT hF K hK
                  simp only [Rg.putsD, List.getD_cons_zero, List.getD_cons_succ, Act.put, List.setIfInBounds_toArray, List.set_cons_zero, List.set_cons_succ] at hK ⊢
                  have hn1 : n < 14 := hn
                  clear hn
                  clear hF
                  have H := Lib.hid hK
                  clear hK hT
                  go_simp
                  exact H.out _ _ (Kept.same _ _) rfl (fun h => by cases h) (hI.more (by omega))
                refine Rg.cons 1 2 rfl (Rg.plain rfl ?_) ?_
                · intro vs W n hn hI hG hT hF K hK
                  simp only [Rg.putsD, List.getD_cons_zero, List.getD_cons_succ, Act.put, List.setIfInBounds_toArray, List.set_cons_zero, List.set_cons_succ] at hK ⊢
                  have hn1 : n < 14 := hn
                  clear hn
                  clear hF
                  have H := Lib.hid hK
                  clear hK hT
                  go_simp
                  exact H.out _ _ (Kept.same _ _) rfl (fun h => by cases h) (hI.more (by omega))
                refine Rg.cons 2 3 rfl (Rg.plain rfl ?_) ?_
                · intro vs W n hn hI hG hT hF K hK
                  simp only [Rg.putsD, List.getD_cons_zero, List.getD_cons_succ, Act.put, List.setIfInBounds_toArray, List.set_cons_zero, List.set_cons_succ] at hK ⊢
                  have hn1 : n < 14 := hn
                  clear hn
                  clear hF
                  have t1 : vs 1 = .pointer (some ⟨w2.heap.size, 0, none⟩) := hT 1 (by decide)
                  have hbk := hG.blk HQ5.out.1 (by omega)
                  have cb := cell_of_blk hbk 0
                  simp at cb
                  clear hbk
                  simp only [t1] at hK
                  have H := Lib.hid hK
                  clear hK hT
                  go_simp
                  exact H.out _ _ (Kept.same _ _) rfl (fun h => by cases h) (hI.more (by omega))
                refine Rg.cons 3 4 rfl (Rg.plain rfl ?_) ?_
                · intro vs W n hn hI hG hT hF K hK
                  simp only [Rg.putsD, List.getD_cons_zero, List.getD_cons_succ, Act.put, List.setIfInBounds_toArray, List.set_cons_zero, List.set_cons_succ] at hK ⊢
                  have hn1 : n < 14 := hn
                  clear hn
                  clear hF
                  have t2 : vs 2 = .int .i64 PW := hT 2 (by decide)
                  simp only [t2] at hK
                  have H := Lib.hid hK
                  clear hK hT
                  go_simp
                  exact H.out _ _ (Kept.of_below ((Below.refl _ _).alloc (Nat.le_refl _) _)) (IntSl.new [PW, 0, 500001, 30] rfl hG.more) (fun h => by cases h) ((hI.alloc _).more (by omega))
                refine Rg.cons 4 5 rfl (Rg.plain rfl ?_) ?_
                · intro vs W n hn hI hG hT hF K hK
                  simp only [Rg.putsD, List.getD_cons_zero, List.getD_cons_succ, Act.put, List.setIfInBounds_toArray, List.set_cons_zero, List.set_cons_succ] at hK ⊢
                  have hn1 : n < 14 := hn
                  clear hn
                  clear hF
                  have t0 : vs 0 = .pointer (some ⟨sb, 0, none⟩) := hT 0 (by decide)
                  have t3 : IntSl w5.heap.size 4 (vs 3) W := hT 3 (by decide)
                  obtain ⟨b3, xs3, n3, c3, e3, k3⟩ := t3
                  have N3 := Lib.hid (And.intro n3 k3)
                  clear n3 k3
                  simp only [e3] at hK
                  simp only [t0] at hK
                  have H := Lib.hid hK
                  clear hK hT
                  go_simp
                  refine (pick_blk N3.out.2 N3.out.1 (by decide) (by decide) (by omega) (by omega) hI).mono ?_
                  rintro e w1 ⟨x, _, rfl, ht⟩
                  exact H.out _ _ ht.2 ⟨_, rfl⟩ (fun h => by cases h) (ht.1.more (by omega))
                refine Rg.cons 5 6 rfl (Rg.plain rfl ?_) ?_
                · intro vs W n hn hI hG hT hF K hK
                  simp only [Rg.putsD, List.getD_cons_zero, List.getD_cons_succ, Act.put, List.setIfInBounds_toArray, List.set_cons_zero, List.set_cons_succ] at hK ⊢
                  have hn1 : n < 14 := hn
                  clear hn
                  clear hF
                  have H := Lib.hid hK
                  clear hK hT
                  go_simp
                  exact H.out _ _ (Kept.same _ _) rfl (fun h => by cases h) (hI.more (by omega))
                refine Rg.cons 6 7 rfl (Rg.plain rfl ?_) ?_
                · intro vs W n hn hI hG hT hF K hK
                  simp only [Rg.putsD, List.getD_cons_zero, List.getD_cons_succ, Act.put, List.setIfInBounds_toArray, List.set_cons_zero, List.set_cons_succ] at hK ⊢
                  have hn1 : n < 14 := hn
                  clear hn
                  clear hF
                  have H := Lib.hid hK
                  clear hK hT
                  go_simp
                  exact H.out _ _ (Kept.same _ _) rfl (fun h => by cases h) (hI.more (by omega))
                refine Rg.cons 7 8 rfl (Rg.plain rfl ?_) ?_
                · intro vs W n hn hI hG hT hF K hK
                  simp only [Rg.putsD, List.getD_cons_zero, List.getD_cons_succ, Act.put, List.setIfInBounds_toArray, List.set_cons_zero, List.set_cons_succ] at hK ⊢
                  have hn1 : n < 14 := hn
                  clear hn
                  clear hF
                  have t6 : vs 6 = .pointer (some ⟨w2.heap.size, 1, none⟩) := hT 6 (by decide)
                  have hbk := hG.blk HQ5.out.1 (by omega)
                  have cb := cell_of_blk hbk 1
                  simp at cb
                  clear hbk
                  simp only [t6] at hK
                  have H := Lib.hid hK
                  clear hK hT
                  go_simp
                  exact H.out _ _ (Kept.same _ _) rfl (fun h => by cases h) (hI.more (by omega))
                refine Rg.cons 8 9 rfl (Rg.plain rfl ?_) ?_
                · intro vs W n hn hI hG hT hF K hK
                  simp only [Rg.putsD, List.getD_cons_zero, List.getD_cons_succ, Act.put, List.setIfInBounds_toArray, List.set_cons_zero, List.set_cons_succ] at hK ⊢
                  have hn1 : n < 14 := hn
                  clear hn
                  clear hF
                  have t7 : vs 7 = .int .i64 PH := hT 7 (by decide)
                  simp only [t7] at hK
                  have H := Lib.hid hK
                  clear hK hT
                  go_simp
                  exact H.out _ _ (Kept.of_below ((Below.refl _ _).alloc (Nat.le_refl _) _)) (IntSl.new [PH, (-1), 20] rfl hG.more) (fun h => by cases h) ((hI.alloc _).more (by omega))
                refine Rg.cons 9 10 rfl (Rg.plain rfl ?_) ?_
                · intro vs W n hn hI hG hT hF K hK
                  simp only [Rg.putsD, List.getD_cons_zero, List.getD_cons_succ, Act.put, List.setIfInBounds_toArray, List.set_cons_zero, List.set_cons_succ] at hK ⊢
                  have hn1 : n < 14 := hn
                  clear hn
                  clear hF
                  have t5 : vs 5 = .pointer (some ⟨sb, 0, none⟩) := hT 5 (by decide)
                  have t8 : IntSl w5.heap.size 3 (vs 8) W := hT 8 (by decide)
                  obtain ⟨b8, xs8, n8, c8, e8, k8⟩ := t8
                  have N8 := Lib.hid (And.intro n8 k8)
                  clear n8 k8
                  simp only [e8] at hK
                  simp only [t5] at hK
                  have H := Lib.hid hK
                  clear hK hT
                  go_simp
                  refine (pick_blk N8.out.2 N8.out.1 (by decide) (by decide) (by omega) (by omega) hI).mono ?_
                  rintro e w1 ⟨x, _, rfl, ht⟩
                  exact H.out _ _ ht.2 ⟨_, rfl⟩ (fun h => by cases h) (ht.1.more (by omega))
                refine Rg.cons 10 11 rfl (Rg.plain rfl ?_) ?_
                · intro vs W n hn hI hG hT hF K hK
                  simp only [Rg.putsD, List.getD_cons_zero, List.getD_cons_succ, Act.put, List.setIfInBounds_toArray, List.set_cons_zero, List.set_cons_succ] at hK ⊢
                  have hn1 : n < 14 := hn
                  clear hn
                  clear hF
                  have H := Lib.hid hK
                  clear hK hT
                  go_simp
                  exact H.out _ _ (Kept.same _ _) rfl (fun h => by cases h) (hI.more (by omega))
                exact Rg.nil
              · intro vs W hG hI hT hF
                have t0 : vs 0 = .pointer (some ⟨sb, 0, none⟩) := hT 0 (by decide)
                have t1 : vs 1 = .pointer (some ⟨w2.heap.size, 0, none⟩) := hT 1 (by decide)
                have t2 : vs 2 = .int .i64 PW := hT 2 (by decide)
                have t3 : IntSl w5.heap.size 4 (vs 3) W := hT 3 (by decide)
                have t4 : ∃ x : Int, vs 4 = .int .i64 x := hT 4 (by decide)
                have t5 : vs 5 = .pointer (some ⟨sb, 0, none⟩) := hT 5 (by decide)
                have t6 : vs 6 = .pointer (some ⟨w2.heap.size, 1, none⟩) := hT 6 (by decide)
                have t7 : vs 7 = .int .i64 PH := hT 7 (by decide)
                have t8 : IntSl w5.heap.size 3 (vs 8) W := hT 8 (by decide)
                have t9 : ∃ x : Int, vs 9 = .int .i64 x := hT 9 (by decide)
                have t10 : vs 10 = .pointer (some ⟨w2.heap.size, 0, none⟩) := hT 10 (by decide)
                simp only [List.length_cons, List.length_nil, Nat.reduceAdd, List.range, List.range.loop, List.drop_succ_cons, List.drop_zero, Rg.putsD, List.getD_cons_zero, List.getD_cons_succ, Act.put, List.setIfInBounds_toArray, List.set_cons_zero, List.set_cons_succ, t0, t1, t2, t5, t6, t7, t10]
                clear hT t0 t1 t2 t5 t6 t7 t10
                have hI11 : IsStream W sb (b + 125 + 11) := hI
                have hkk := hG.blk HQ5.out.1 (by omega)
                obtain ⟨x4, e4⟩ := t4
                obtain ⟨x9, e9⟩ := t9
                have HW : Hid (W.heap[w2.heap.size]? = some (.cells #[.int .i64 PW, .int .i64 PH, .slice (some ⟨g, 0, none⟩) l.length k3] 32 (0, 0)) ∧
                  W.ownsRow (w2.heap.size + 1) 70 4 (.slice (some ⟨g, 0, none⟩) l.length k3) l.length (flatSl l) ∧ Took sb (b + 125 + 11) w2 W) :=
                  ⟨hkk, kept_own (w := w5.drew) (base := w2.heap.size + 1) HQ5.out.2.1 hG (by omega), hI11, HQ5.out.2.2.drew.2.then_ hG⟩
                have hsW : w2.heap.size < W.heap.size := Nat.lt_of_lt_of_le (show w2.heap.size < w5.heap.size by omega) hG.more
                have E1 := Lib.hid (And.intro e4 e9)
                obtain ⟨c0, c1, c2, _⟩ := blk3 hkk
                have f0 := frozen_of_blk hkk 0
                have f1 := frozen_of_blk hkk 1
                clear t3 t8 hI hI11 hG hF e4 e9 hkk HQ5
                simp only [E1.out.1, E1.out.2]
                go_wp2_with fail
                go_meet
                have hb := blk_set (i := 1) (blk_set (i := 0) HW.out.1 (.int .i64 x4)) (.int .i64 x9)
                exact ⟨by simp [World.setCell]; omega, _, _, _, l, by omega, hb, own_far (own_far HW.out.2.1 (by simp) _) (by simp) _, ((HW.out.2.2.more (by omega)).setCell (by simp) (by omega) _).setCell (by simp) (by omega) _⟩
            · go_wp2_with fail
              refine Rg.rgL (Kept sb)
                [(fun vs u => vs 0 = .pointer (some ⟨w2.heap.size, 2, none⟩)), (fun vs u => vs 1 = .slice (some ⟨g, 0, none⟩) l.length k3), (fun vs u => vs 2 = .pointer (some ⟨sb, 0, none⟩)), (fun vs u => vs 3 = .pointer (some ⟨w2.heap.size, 2, none⟩)), (fun vs u => vs 4 = .slice (some ⟨g, 0, none⟩) l.length k3), (fun vs u => vs 5 = .int .i64 l.length), (fun vs u => ∃ j : Nat, j < l.length ∧ vs 6 = .int .i64 j)]
                [[], [0], [], [], [3], [3, 4], [2, 3, 4, 5]] [some 54, some 55, some 56, some 57, some 58, some 59, some 60, some 61, some 6] [] (fun n W => IsStream W sb (b+125 + n)) [[], [0], [], [], [3], [3, 4], [2, 3, 4, 5], [0, 1, 2, 3, 4, 5, 6], [0, 1, 2, 3, 4, 5, 6, 7]]
                (by kernel_rfl) (by decide) (by kernel_rfl) (by kernel_rfl) (by kernel_rfl) (by kernel_rfl) (by kernel_rfl) (fun _ => Kept.same _ _) (fun _ _ _ h k => h.then_ k) (fun _ _ h => h.more) ?_ (HQ5.out.2.2.1.drew) ?_ ?_
              · intro t ht vs w w' h hE
                simp only [List.mem_cons, List.not_mem_nil, or_false] at ht
                rcases ht with rfl | rfl | rfl | rfl | rfl | rfl | rfl
                · exact h
                · exact h
                · exact h
                · exact h
                · exact h
                · exact h
                · exact h
              ·
                refine Rg.cons 0 1 rfl (Rg.plain rfl ?_) ?_
                · intro vs W n hn hI hG hT hF K hK
                  simp only [Rg.putsD, List.getD_cons_zero, List.getD_cons_succ, Act.put, List.setIfInBounds_toArray, List.set_cons_zero, List.set_cons_succ] at hK ⊢
                  have hn1 : n < 9 := hn
                  clear hn
                  clear hF
                  have H := Lib.hid hK
                  clear hK hT
                  go_simp
                  exact H.out _ _ (Kept.same _ _) rfl (fun h => by cases h) (hI.more (by omega))
                refine Rg.cons 1 2 rfl (Rg.plain rfl ?_) ?_
                · intro vs W n hn hI hG hT hF K hK
                  simp only [Rg.putsD, List.getD_cons_zero, List.getD_cons_succ, Act.put, List.setIfInBounds_toArray, List.set_cons_zero, List.set_cons_succ] at hK ⊢
                  have hn1 : n < 9 := hn
                  clear hn
                  clear hF
                  have t0 : vs 0 = .pointer (some ⟨w2.heap.size, 2, none⟩) := hT 0 (by decide)
                  have hbk := hG.blk HQ5.out.1 (by omega)
                  have cb := cell_of_blk hbk 2
                  simp at cb
                  clear hbk
                  simp only [t0] at hK
                  have H := Lib.hid hK
                  clear hK hT
                  go_simp
                  exact H.out _ _ (Kept.same _ _) rfl (fun h => by cases h) (hI.more (by omega))
                refine Rg.cons 2 3 rfl (Rg.plain rfl ?_) ?_
                · intro vs W n hn hI hG hT hF K hK
                  simp only [Rg.putsD, List.getD_cons_zero, List.getD_cons_succ, Act.put, List.setIfInBounds_toArray, List.set_cons_zero, List.set_cons_succ] at hK ⊢
                  have hn1 : n < 9 := hn
                  clear hn
                  clear hF
                  have H := Lib.hid hK
                  clear hK hT
                  go_simp
                  exact H.out _ _ (Kept.same _ _) rfl (fun h => by cases h) (hI.more (by omega))
                refine Rg.cons 3 4 rfl (Rg.plain rfl ?_) ?_
                · intro vs W n hn hI hG hT hF K hK
                  simp only [Rg.putsD, List.getD_cons_zero, List.getD_cons_succ, Act.put, List.setIfInBounds_toArray, List.set_cons_zero, List.set_cons_succ] at hK ⊢
                  have hn1 : n < 9 := hn
                  clear hn
                  clear hF
                  have H := Lib.hid hK
                  clear hK hT
                  go_simp
                  exact H.out _ _ (Kept.same _ _) rfl (fun h => by cases h) (hI.more (by omega))
                refine Rg.cons 4 5 rfl (Rg.plain rfl ?_) ?_
                · intro vs W n hn hI hG hT hF K hK
                  simp only [Rg.putsD, List.getD_cons_zero, List.getD_cons_succ, Act.put, List.setIfInBounds_toArray, List.set_cons_zero, List.set_cons_succ] at hK ⊢
                  have hn1 : n < 9 := hn
                  clear hn
                  clear hF
                  have t3 : vs 3 = .pointer (some ⟨w2.heap.size, 2, none⟩) := hT 3 (by decide)
                  have hbk := hG.blk HQ5.out.1 (by omega)
                  have cb := cell_of_blk hbk 2
                  simp at cb
                  clear hbk
                  simp only [t3] at hK
                  have H := Lib.hid hK
                  clear hK hT
                  go_simp
                  exact H.out _ _ (Kept.same _ _) rfl (fun h => by cases h) (hI.more (by omega))
                refine Rg.cons 5 6 rfl (Rg.plain rfl ?_) ?_
                · intro vs W n hn hI hG hT hF K hK
                  simp only [Rg.putsD, List.getD_cons_zero, List.getD_cons_succ, Act.put, List.setIfInBounds_toArray, List.set_cons_zero, List.set_cons_succ] at hK ⊢
                  have hn1 : n < 9 := hn
                  clear hn
                  clear hF
                  have t4 : vs 4 = .slice (some ⟨g, 0, none⟩) l.length k3 := hT 4 (by decide)
                  simp only [t4] at hK
                  have H := Lib.hid hK
                  clear hK hT
                  go_simp
                  exact H.out _ _ (Kept.same _ _) rfl (fun h => by cases h) (hI.more (by omega))
                refine Rg.cons 6 7 rfl (Rg.plain rfl ?_) ?_
                · intro vs W n hn hI hG hT hF K hK
                  simp only [Rg.putsD, List.getD_cons_zero, List.getD_cons_succ, Act.put, List.setIfInBounds_toArray, List.set_cons_zero, List.set_cons_succ] at hK ⊢
                  have hn1 : n < 9 := hn
                  clear hn
                  clear hF
                  have t2 : vs 2 = .pointer (some ⟨sb, 0, none⟩) := hT 2 (by decide)
                  have t5 : vs 5 = .int .i64 l.length := hT 5 (by decide)
                  simp only [t2, t5] at hK
                  have H := Lib.hid hK
                  clear hK hT
                  go_simp
                  refine (next_any sb _ _ _ (by omega) (by omega) (by omega) hI).mono ?_
                  rintro e w1 ⟨x, q0, q1, rfl, ht⟩
                  exact H.out _ _ ht.2 ⟨x.toNat, by omega, by rw [Int.toNat_of_nonneg q0]; rfl⟩ (fun h => by cases h) (ht.1.more (by omega))
                exact Rg.nil
              · intro vs W hG hI hT hF
                have t0 : vs 0 = .pointer (some ⟨w2.heap.size, 2, none⟩) := hT 0 (by decide)
                have t1 : vs 1 = .slice (some ⟨g, 0, none⟩) l.length k3 := hT 1 (by decide)
                have t2 : vs 2 = .pointer (some ⟨sb, 0, none⟩) := hT 2 (by decide)
                have t3 : vs 3 = .pointer (some ⟨w2.heap.size, 2, none⟩) := hT 3 (by decide)
                have t4 : vs 4 = .slice (some ⟨g, 0, none⟩) l.length k3 := hT 4 (by decide)
                have t5 : vs 5 = .int .i64 l.length := hT 5 (by decide)
                have t6 : ∃ j : Nat, j < l.length ∧ vs 6 = .int .i64 j := hT 6 (by decide)
                simp only [List.length_cons, List.length_nil, Nat.reduceAdd, List.range, List.range.loop, List.drop_succ_cons, List.drop_zero, Rg.putsD, List.getD_cons_zero, List.getD_cons_succ, Act.put, List.setIfInBounds_toArray, List.set_cons_zero, List.set_cons_succ, t0, t1, t2, t3, t4, t5]
                clear hT t0 t1 t2 t3 t4 t5
                obtain ⟨j, hj, e6⟩ := t6
                have hI7 : IsStream W sb (b + 125 + 7) := hI
                have HW : Hid (W.heap[w2.heap.size]? = some (.cells #[.int .i64 PW, .int .i64 PH, .slice (some ⟨g, 0, none⟩) l.length k3] 32 (0, 0)) ∧
                  W.ownsRow (w2.heap.size + 1) 70 4 (.slice (some ⟨g, 0, none⟩) l.length k3) l.length (flatSl l) ∧ Took sb (b + 132) w2 W) :=
                  ⟨hG.blk HQ5.out.1 (by omega), kept_own (w := w5.drew) (base := w2.heap.size + 1) HQ5.out.2.1 hG (by omega), hI7, HQ5.out.2.2.drew.2.then_ hG⟩
                have hsW : w2.heap.size < W.heap.size := Nat.lt_of_lt_of_le (show w2.heap.size < w5.heap.size by omega) hG.more
                have hgW : g < W.heap.size := Nat.lt_of_lt_of_le (show g < w5.heap.size by omega) hG.more
                have E1 := Lib.hid e6
                clear hI hI7 hG hF e6 HQ5
                simp only [E1.out]
                go_wp2_with fail
                obtain ⟨W6, rfl⟩ : ∃ W6 : World, W6 = W := ⟨_, rfl⟩
                have HI0 : Hid (RowI Sl.cells 70 4 sb (b + 132) g l.length k3 (w2.heap.size + 1) 0 W6.drew) := ⟨HW.out.2.2.1.drew, l, rfl, HW.out.2.1⟩
                refine Rg.rgL (Kept2 sb g)
                  [(fun vs u => vs 0 = .pointer (some ⟨g, j * 4, none⟩)), (fun vs u => vs 1 = .pointer (some ⟨g, j * 4, none⟩)), (fun vs u => vs 2 = .pointer (some ⟨g, j * 4, none⟩)), (fun vs u => vs 3 = .pointer (some ⟨sb, 0, none⟩)), (fun vs u => vs 4 = .pointer (some ⟨g, j * 4, none⟩)), (fun vs u => vs 5 = .pointer (some ⟨g, j * 4, none⟩)), (fun vs u => vs 6 = .pointer (some ⟨g, j * 4, none⟩)), (fun vs u => ∃ x : Int, vs 7 = .int .i64 x), (fun vs u => IntSl W6.heap.size 3 (vs 8) u), (fun vs u => ∃ x : Int, vs 9 = .int .i64 x), (fun vs u => vs 10 = .pointer (some ⟨sb, 0, none⟩)), (fun vs u => vs 11 = .pointer (some ⟨g, j * 4, none⟩)), (fun vs u => vs 12 = .pointer (some ⟨g, j * 4, none⟩)), (fun vs u => vs 13 = .pointer (some ⟨g, j * 4 + 1, none⟩)), (fun vs u => ∃ x : Int, vs 14 = .int .i64 x), (fun vs u => vs 15 = .pointer (some ⟨g, j * 4, none⟩)), (fun vs u => vs 16 = .pointer (some ⟨g, j * 4, none⟩)), (fun vs u => vs 17 = .pointer (some ⟨g, j * 4 + 1, none⟩)), (fun vs u => ∃ x : Int, vs 18 = .int .i64 x), (fun vs u => IntSl W6.heap.size 4 (vs 19) u), (fun vs u => ∃ x : Int, vs 20 = .int .i64 x), (fun vs u => vs 21 = .pointer (some ⟨sb, 0, none⟩)), (fun vs u => vs 22 = .pointer (some ⟨g, j * 4, none⟩)), (fun vs u => vs 23 = .pointer (some ⟨g, j * 4, none⟩)), (fun vs u => vs 24 = .pointer (some ⟨g, j * 4 + 2, none⟩)), (fun vs u => ∃ x : Int, vs 25 = .int .i64 x), (fun vs u => IntSl W6.heap.size 3 (vs 26) u), (fun vs u => ∃ x : Int, vs 27 = .int .i64 x), (fun vs u => vs 28 = .pointer (some ⟨g, j * 4, none⟩)), (fun vs u => vs 29 = .pointer (some ⟨g, j * 4, none⟩)), (fun _ _ => True), (fun vs u => vs 31 = .pointer (some ⟨g, j * 4, none⟩)), (fun vs u => vs 32 = .pointer (some ⟨g, j * 4 + 1, none⟩)), (fun _ _ => True)]
                  [[], [], [], [], [], [4], [4, 5], [4, 5, 6], [4, 5, 6, 7], [3, 4, 5, 6, 7, 8], [], [], [11], [11, 12], [11, 12, 13], [], [15], [15, 16], [15, 16, 17], [11, 12, 13, 14, 15, 16, 17, 18], [3, 4, 5, 6, 7, 8, 9, 10, 11, 12, 13, 14, 15, 16, 17, 18, 19], [], [], [22], [22, 23], [22, 23, 24], [22, 23, 24, 25], [3, 4, 5, 6, 7, 8, 9, 10, 11, 12, 13, 14, 15, 16, 17, 18, 19, 20, 21, 22, 23, 24, 25, 26], [0, 3, 4, 5, 6, 7, 8, 9, 10, 11, 12, 13, 14, 15, 16, 17, 18, 19, 20, 21, 22, 23, 24, 25, 26, 27], [0, 3, 4, 5, 6, 7, 8, 9, 10, 11, 12, 13, 14, 15, 16, 17, 18, 19, 20, 21, 22, 23, 24, 25, 26, 27, 28], [0, 3, 4, 5, 6, 7, 8, 9, 10, 11, 12, 13, 14, 15, 16, 17, 18, 19, 20, 21, 22, 23, 24, 25, 26, 27, 28, 29], [0, 1, 3, 4, 5, 6, 7, 8, 9, 10, 11, 12, 13, 14, 15, 16, 17, 18, 19, 20, 21, 22, 23, 24, 25, 26, 27, 28, 29, 30], [0, 1, 3, 4, 5, 6, 7, 8, 9, 10, 11, 12, 13, 14, 15, 16, 17, 18, 19, 20, 21, 22, 23, 24, 25, 26, 27, 28, 29, 30, 31], [0, 1, 3, 4, 5, 6, 7, 8, 9, 10, 11, 12, 13, 14, 15, 16, 17, 18, 19, 20, 21, 22, 23, 24, 25, 26, 27, 28, 29, 30, 31, 32]] [some 62, some 63, some 64, some 65, some 66, some 67, some 68, some 69, some 70, some 71, some 72, some 73, some 74, some 75, some 76, some 77, some 78, some 79, some 80, some 81, some 82, some 83, some 84, some 85, some 86, some 87, some 88, some 89, some 90, some 91, none, some 92, some 93, none, some 94, some 95, none] [] (RowI Sl.cells 70 4 sb (b+132) g l.length k3 (w2.heap.size+1)) [[], [], [], [], [], [4], [4, 5], [4, 5, 6], [4, 5, 6, 7], [3, 4, 5, 6, 7, 8], [], [], [11], [11, 12], [11, 12, 13], [], [15], [15, 16], [15, 16, 17], [11, 12, 13, 14, 15, 16, 17, 18], [3, 4, 5, 6, 7, 8, 9, 10, 11, 12, 13, 14, 15, 16, 17, 18, 19], [], [], [22], [22, 23], [22, 23, 24], [22, 23, 24, 25], [3, 4, 5, 6, 7, 8, 9, 10, 11, 12, 13, 14, 15, 16, 17, 18, 19, 20, 21, 22, 23, 24, 25, 26], [0, 3, 4, 5, 6, 7, 8, 9, 10, 11, 12, 13, 14, 15, 16, 17, 18, 19, 20, 21, 22, 23, 24, 25, 26, 27], [0, 3, 4, 5, 6, 7, 8, 9, 10, 11, 12, 13, 14, 15, 16, 17, 18, 19, 20, 21, 22, 23, 24, 25, 26, 27, 28], [0, 3, 4, 5, 6, 7, 8, 9, 10, 11, 12, 13, 14, 15, 16, 17, 18, 19, 20, 21, 22, 23, 24, 25, 26, 27, 28, 29], [0, 1, 3, 4, 5, 6, 7, 8, 9, 10, 11, 12, 13, 14, 15, 16, 17, 18, 19, 20, 21, 22, 23, 24, 25, 26, 27, 28, 29, 30], [0, 1, 3, 4, 5, 6, 7, 8, 9, 10, 11, 12, 13, 14, 15, 16, 17, 18, 19, 20, 21, 22, 23, 24, 25, 26, 27, 28, 29, 30, 31], [0, 1, 3, 4, 5, 6, 7, 8, 9, 10, 11, 12, 13, 14, 15, 16, 17, 18, 19, 20, 21, 22, 23, 24, 25, 26, 27, 28, 29, 30, 31, 32], [0, 1, 2, 3, 4, 5, 6, 7, 8, 9, 10, 11, 12, 13, 14, 15, 16, 17, 18, 19, 20, 21, 22, 23, 24, 25, 26, 27, 28, 29, 30, 31, 32, 33], [0, 1, 2, 3, 4, 5, 6, 7, 8, 9, 10, 11, 12, 13, 14, 15, 16, 17, 18, 19, 20, 21, 22, 23, 24, 25, 26, 27, 28, 29, 30, 31, 32, 33, 34], [0, 1, 2, 3, 4, 5, 6, 7, 8, 9, 10, 11, 12, 13, 14, 15, 16, 17, 18, 19, 20, 21, 22, 23, 24, 25, 26, 27, 28, 29, 30, 31, 32, 33, 34, 35]]
                  (by kernel_rfl) (by decide) (by kernel_rfl) (by kernel_rfl) (by kernel_rfl) (by kernel_rfl) (by kernel_rfl) (fun _ => Kept2.same _ _ _) (fun _ _ _ h k => h.then_ k) (fun _ _ h => h.more) ?_ (HI0.out) ?_ ?_
                · intro t ht vs w w' h hE
                  simp only [List.mem_cons, List.not_mem_nil, or_false] at ht
                  rcases ht with rfl | rfl | rfl | rfl | rfl | rfl | rfl | rfl | rfl | rfl | rfl | rfl | rfl | rfl | rfl | rfl | rfl | rfl | rfl | rfl | rfl | rfl | rfl | rfl | rfl | rfl | rfl | rfl | rfl | rfl | rfl | rfl | rfl | rfl
                  · exact h
                  · exact h
                  · exact h
                  · exact h
                  · exact h
                  · exact h
                  · exact h
                  · exact h
                  · exact h.kept2 hE (by omega) (by omega)
                  · exact h
                  · exact h
                  · exact h
                  · exact h
                  · exact h
                  · exact h
                  · exact h
                  · exact h
                  · exact h
                  · exact h
                  · exact h.kept2 hE (by omega) (by omega)
                  · exact h
                  · exact h
                  · exact h
                  · exact h
                  · exact h
                  · exact h
                  · exact h.kept2 hE (by omega) (by omega)
                  · exact h
                  · exact h
                  · exact h
                  · exact h
                  · exact h
                  · exact h
                  · exact h
                ·
                  refine Rg.cons 0 1 rfl (Rg.plain rfl ?_) ?_
                  · intro vs W n hn hI hG hT hF K hK
                    simp only [Rg.putsD, List.getD_cons_zero, List.getD_cons_succ, Act.put, List.setIfInBounds_toArray, List.set_cons_zero, List.set_cons_succ] at hK ⊢
                    have hn1 : n < 37 := hn
                    clear hn
                    clear hF
                    have H := Lib.hid hK
                    clear hK hT
                    go_simp
                    exact H.out _ _ (Kept2.same _ _ _) rfl (fun h => by cases h) hI.step
                  refine Rg.cons 1 2 rfl (Rg.plain rfl ?_) ?_
                  · intro vs W n hn hI hG hT hF K hK
                    simp only [Rg.putsD, List.getD_cons_zero, List.getD_cons_succ, Act.put, List.setIfInBounds_toArray, List.set_cons_zero, List.set_cons_succ] at hK ⊢
                    have hn1 : n < 37 := hn
                    clear hn
                    clear hF
                    have H := Lib.hid hK
                    clear hK hT
                    go_simp
                    exact H.out _ _ (Kept2.same _ _ _) rfl (fun h => by cases h) hI.step
                  refine Rg.cons 2 3 rfl (Rg.plain rfl ?_) ?_
                  · intro vs W n hn hI hG hT hF K hK
                    simp only [Rg.putsD, List.getD_cons_zero, List.getD_cons_succ, Act.put, List.setIfInBounds_toArray, List.set_cons_zero, List.set_cons_succ] at hK ⊢
                    have hn1 : n < 37 := hn
                    clear hn
                    clear hF
                    have H := Lib.hid hK
                    clear hK hT
                    go_simp
                    exact H.out _ _ (Kept2.same _ _ _) rfl (fun h => by cases h) hI.step
                  refine Rg.cons 3 4 rfl (Rg.plain rfl ?_) ?_
                  · intro vs W n hn hI hG hT hF K hK
                    simp only [Rg.putsD, List.getD_cons_zero, List.getD_cons_succ, Act.put, List.setIfInBounds_toArray, List.set_cons_zero, List.set_cons_succ] at hK ⊢
                    have hn1 : n < 37 := hn
                    clear hn
                    clear hF
                    have H := Lib.hid hK
                    clear hK hT
                    go_simp
                    exact H.out _ _ (Kept2.same _ _ _) rfl (fun h => by cases h) hI.step
                  refine Rg.cons 4 5 rfl (Rg.plain rfl ?_) ?_
                  · intro vs W n hn hI hG hT hF K hK
                    simp only [Rg.putsD, List.getD_cons_zero, List.getD_cons_succ, Act.put, List.setIfInBounds_toArray, List.set_cons_zero, List.set_cons_succ] at hK ⊢
                    have hn1 : n < 37 := hn
                    clear hn
                    clear hF
                    have H := Lib.hid hK
                    clear hK hT
                    go_simp
                    exact H.out _ _ (Kept2.same _ _ _) rfl (fun h => by cases h) hI.step
                  refine Rg.cons 5 6 rfl (Rg.plain rfl ?_) ?_
                  · intro vs W n hn hI hG hT hF K hK
                    simp only [Rg.putsD, List.getD_cons_zero, List.getD_cons_succ, Act.put, List.setIfInBounds_toArray, List.set_cons_zero, List.set_cons_succ] at hK ⊢
                    have hn1 : n < 37 := hn
                    clear hn
                    clear hF
                    have t4 : vs 4 = .pointer (some ⟨g, j * 4, none⟩) := hT 4 (by decide)
                    simp only [t4] at hK
                    have H := Lib.hid hK
                    clear hK hT
                    go_simp
                    exact H.out _ _ (Kept2.same _ _ _) rfl (fun h => by cases h) hI.step
                  refine Rg.cons 6 7 rfl (Rg.plain rfl ?_) ?_
                  · intro vs W n hn hI hG hT hF K hK
                    simp only [Rg.putsD, List.getD_cons_zero, List.getD_cons_succ, Act.put, List.setIfInBounds_toArray, List.set_cons_zero, List.set_cons_succ] at hK ⊢
                    have hn1 : n < 37 := hn
                    clear hn
                    clear hF
                    have t5 : vs 5 = .pointer (some ⟨g, j * 4, none⟩) := hT 5 (by decide)
                    simp only [t5] at hK
                    have H := Lib.hid hK
                    clear hK hT
                    go_simp
                    exact H.out _ _ (Kept2.same _ _ _) rfl (fun h => by cases h) hI.step
                  refine Rg.cons 7 8 rfl (Rg.plain rfl ?_) ?_
                  · intro vs W n hn hI hG hT hF K hK
                    simp only [Rg.putsD, List.getD_cons_zero, List.getD_cons_succ, Act.put, List.setIfInBounds_toArray, List.set_cons_zero, List.set_cons_succ] at hK ⊢
                    have hn1 : n < 37 := hn
                    clear hn
                    clear hF
                    have t6 : vs 6 = .pointer (some ⟨g, j * 4, none⟩) := hT 6 (by decide)
                    obtain ⟨z1, z2, z3, z4, c0, c1, c2, c3⟩ := sl_row hI rfl hj
                    simp only [t6] at hK
                    have H := Lib.hid hK
                    clear hK hT
                    go_simp
                    exact H.out _ _ (Kept2.same _ _ _) ⟨_, rfl⟩ (fun h => by cases h) hI.step
                  refine Rg.cons 8 9 rfl (Rg.plain rfl ?_) ?_
                  · intro vs W n hn hI hG hT hF K hK
                    simp only [Rg.putsD, List.getD_cons_zero, List.getD_cons_succ, Act.put, List.setIfInBounds_toArray, List.set_cons_zero, List.set_cons_succ] at hK ⊢
                    have hn1 : n < 37 := hn
                    clear hn
                    clear hF
                    have t7 : ∃ x : Int, vs 7 = .int .i64 x := hT 7 (by decide)
                    obtain ⟨x7, e7⟩ := t7
                    simp only [e7] at hK
                    have H := Lib.hid hK
                    clear hK hT
                    go_simp
                    exact H.out _ _ (Kept2.alloc _) (IntSl.new [x7, (-1), 500001] rfl hG.more) (fun h => by cases h) (hI.alloc _)
                  refine Rg.cons 9 10 rfl (Rg.plain rfl ?_) ?_
                  · intro vs W n hn hI hG hT hF K hK
                    simp only [Rg.putsD, List.getD_cons_zero, List.getD_cons_succ, Act.put, List.setIfInBounds_toArray, List.set_cons_zero, List.set_cons_succ] at hK ⊢
                    have hn1 : n < 37 := hn
                    clear hn
                    clear hF
                    have t3 : vs 3 = .pointer (some ⟨sb, 0, none⟩) := hT 3 (by decide)
                    have t8 : IntSl W6.heap.size 3 (vs 8) W := hT 8 (by decide)
                    obtain ⟨b8, xs8, n8, c8, e8, k8⟩ := t8
                    have N8 := Lib.hid (And.intro n8 k8)
                    clear n8 k8
                    simp only [e8] at hK
                    simp only [t3] at hK
                    have H := Lib.hid hK
                    clear hK hT
                    go_simp
                    refine (pick_blk N8.out.2 N8.out.1 (by decide) (by decide) (by omega) (by omega) hI.1).mono ?_
                    rintro e w1 ⟨x, _, rfl, ht⟩
                    exact H.out _ _ (.of_took ht) ⟨_, rfl⟩ (fun h => by cases h) (hI.took ht (by omega))
                  refine Rg.cons 10 11 rfl (Rg.plain rfl ?_) ?_
                  · intro vs W n hn hI hG hT hF K hK
                    simp only [Rg.putsD, List.getD_cons_zero, List.getD_cons_succ, Act.put, List.setIfInBounds_toArray, List.set_cons_zero, List.set_cons_succ] at hK ⊢
                    have hn1 : n < 37 := hn
                    clear hn
                    clear hF
                    have H := Lib.hid hK
                    clear hK hT
                    go_simp
                    exact H.out _ _ (Kept2.same _ _ _) rfl (fun h => by cases h) hI.step
                  refine Rg.cons 11 12 rfl (Rg.plain rfl ?_) ?_
                  · intro vs W n hn hI hG hT hF K hK
                    simp only [Rg.putsD, List.getD_cons_zero, List.getD_cons_succ, Act.put, List.setIfInBounds_toArray, List.set_cons_zero, List.set_cons_succ] at hK ⊢
                    have hn1 : n < 37 := hn
                    clear hn
                    clear hF
                    have H := Lib.hid hK
                    clear hK hT
                    go_simp
                    exact H.out _ _ (Kept2.same _ _ _) rfl (fun h => by cases h) hI.step
                  refine Rg.cons 12 13 rfl (Rg.plain rfl ?_) ?_
                  · intro vs W n hn hI hG hT hF K hK
                    simp only [Rg.putsD, List.getD_cons_zero, List.getD_cons_succ, Act.put, List.setIfInBounds_toArray, List.set_cons_zero, List.set_cons_succ] at hK ⊢
                    have hn1 : n < 37 := hn
                    clear hn
                    clear hF
                    have t11 : vs 11 = .pointer (some ⟨g, j * 4, none⟩) := hT 11 (by decide)
                    simp only [t11] at hK
                    have H := Lib.hid hK
                    clear hK hT
                    go_simp
                    exact H.out _ _ (Kept2.same _ _ _) rfl (fun h => by cases h) hI.step
                  refine Rg.cons 13 14 rfl (Rg.plain rfl ?_) ?_
                  · intro vs W n hn hI hG hT hF K hK
                    simp only [Rg.putsD, List.getD_cons_zero, List.getD_cons_succ, Act.put, List.setIfInBounds_toArray, List.set_cons_zero, List.set_cons_succ] at hK ⊢
                    have hn1 : n < 37 := hn
                    clear hn
                    clear hF
                    have t12 : vs 12 = .pointer (some ⟨g, j * 4, none⟩) := hT 12 (by decide)
                    simp only [t12] at hK
                    have H := Lib.hid hK
                    clear hK hT
                    go_simp
                    exact H.out _ _ (Kept2.same _ _ _) rfl (fun h => by cases h) hI.step
                  refine Rg.cons 14 15 rfl (Rg.plain rfl ?_) ?_
                  · intro vs W n hn hI hG hT hF K hK
                    simp only [Rg.putsD, List.getD_cons_zero, List.getD_cons_succ, Act.put, List.setIfInBounds_toArray, List.set_cons_zero, List.set_cons_succ] at hK ⊢
                    have hn1 : n < 37 := hn
                    clear hn
                    clear hF
                    have t13 : vs 13 = .pointer (some ⟨g, j * 4 + 1, none⟩) := hT 13 (by decide)
                    obtain ⟨z1, z2, z3, z4, c0, c1, c2, c3⟩ := sl_row hI rfl hj
                    simp only [t13] at hK
                    have H := Lib.hid hK
                    clear hK hT
                    go_simp
                    exact H.out _ _ (Kept2.same _ _ _) ⟨_, rfl⟩ (fun h => by cases h) hI.step
                  refine Rg.cons 15 16 rfl (Rg.plain rfl ?_) ?_
                  · intro vs W n hn hI hG hT hF K hK
                    simp only [Rg.putsD, List.getD_cons_zero, List.getD_cons_succ, Act.put, List.setIfInBounds_toArray, List.set_cons_zero, List.set_cons_succ] at hK ⊢
                    have hn1 : n < 37 := hn
                    clear hn
                    clear hF
                    have H := Lib.hid hK
                    clear hK hT
                    go_simp
                    exact H.out _ _ (Kept2.same _ _ _) rfl (fun h => by cases h) hI.step
                  refine Rg.cons 16 17 rfl (Rg.plain rfl ?_) ?_
                  · intro vs W n hn hI hG hT hF K hK
                    simp only [Rg.putsD, List.getD_cons_zero, List.getD_cons_succ, Act.put, List.setIfInBounds_toArray, List.set_cons_zero, List.set_cons_succ] at hK ⊢
                    have hn1 : n < 37 := hn
                    clear hn
                    clear hF
                    have t15 : vs 15 = .pointer (some ⟨g, j * 4, none⟩) := hT 15 (by decide)
                    simp only [t15] at hK
                    have H := Lib.hid hK
                    clear hK hT
                    go_simp
                    exact H.out _ _ (Kept2.same _ _ _) rfl (fun h => by cases h) hI.step
                  refine Rg.cons 17 18 rfl (Rg.plain rfl ?_) ?_
                  · intro vs W n hn hI hG hT hF K hK
                    simp only [Rg.putsD, List.getD_cons_zero, List.getD_cons_succ, Act.put, List.setIfInBounds_toArray, List.set_cons_zero, List.set_cons_succ] at hK ⊢
                    have hn1 : n < 37 := hn
                    clear hn
                    clear hF
                    have t16 : vs 16 = .pointer (some ⟨g, j * 4, none⟩) := hT 16 (by decide)
                    simp only [t16] at hK
                    have H := Lib.hid hK
                    clear hK hT
                    go_simp
                    exact H.out _ _ (Kept2.same _ _ _) rfl (fun h => by cases h) hI.step
                  refine Rg.cons 18 19 rfl (Rg.plain rfl ?_) ?_
                  · intro vs W n hn hI hG hT hF K hK
                    simp only [Rg.putsD, List.getD_cons_zero, List.getD_cons_succ, Act.put, List.setIfInBounds_toArray, List.set_cons_zero, List.set_cons_succ] at hK ⊢
                    have hn1 : n < 37 := hn
                    clear hn
                    clear hF
                    have t17 : vs 17 = .pointer (some ⟨g, j * 4 + 1, none⟩) := hT 17 (by decide)
                    obtain ⟨z1, z2, z3, z4, c0, c1, c2, c3⟩ := sl_row hI rfl hj
                    simp only [t17] at hK
                    have H := Lib.hid hK
                    clear hK hT
                    go_simp
                    exact H.out _ _ (Kept2.same _ _ _) ⟨_, rfl⟩ (fun h => by cases h) hI.step
                  refine Rg.cons 19 20 rfl (Rg.plain rfl ?_) ?_
                  · intro vs W n hn hI hG hT hF K hK
                    simp only [Rg.putsD, List.getD_cons_zero, List.getD_cons_succ, Act.put, List.setIfInBounds_toArray, List.set_cons_zero, List.set_cons_succ] at hK ⊢
                    have hn1 : n < 37 := hn
                    clear hn
                    clear hF
                    have t14 : ∃ x : Int, vs 14 = .int .i64 x := hT 14 (by decide)
                    have t18 : ∃ x : Int, vs 18 = .int .i64 x := hT 18 (by decide)
                    obtain ⟨x14, e14⟩ := t14
                    simp only [e14] at hK
                    obtain ⟨x18, e18⟩ := t18
                    simp only [e18] at hK
                    have H := Lib.hid hK
                    clear hK hT
                    go_simp
                    exact H.out _ _ (Kept2.alloc _) (IntSl.new [x14, x18, (-1), 500000] rfl hG.more) (fun h => by cases h) (hI.alloc _)
                  refine Rg.cons 20 21 rfl (Rg.plain rfl ?_) ?_
                  · intro vs W n hn hI hG hT hF K hK
                    simp only [Rg.putsD, List.getD_cons_zero, List.getD_cons_succ, Act.put, List.setIfInBounds_toArray, List.set_cons_zero, List.set_cons_succ] at hK ⊢
                    have hn1 : n < 37 := hn
                    clear hn
                    clear hF
                    have t10 : vs 10 = .pointer (some ⟨sb, 0, none⟩) := hT 10 (by decide)
                    have t19 : IntSl W6.heap.size 4 (vs 19) W := hT 19 (by decide)
                    obtain ⟨b19, xs19, n19, c19, e19, k19⟩ := t19
                    have N19 := Lib.hid (And.intro n19 k19)
                    clear n19 k19
                    simp only [e19] at hK
                    simp only [t10] at hK
                    have H := Lib.hid hK
                    clear hK hT
                    go_simp
                    refine (pick_blk N19.out.2 N19.out.1 (by decide) (by decide) (by omega) (by omega) hI.1).mono ?_
                    rintro e w1 ⟨x, _, rfl, ht⟩
                    exact H.out _ _ (.of_took ht) ⟨_, rfl⟩ (fun h => by cases h) (hI.took ht (by omega))
                  refine Rg.cons 21 22 rfl (Rg.plain rfl ?_) ?_
                  · intro vs W n hn hI hG hT hF K hK
                    simp only [Rg.putsD, List.getD_cons_zero, List.getD_cons_succ, Act.put, List.setIfInBounds_toArray, List.set_cons_zero, List.set_cons_succ] at hK ⊢
                    have hn1 : n < 37 := hn
                    clear hn
                    clear hF
                    have H := Lib.hid hK
                    clear hK hT
                    go_simp
                    exact H.out _ _ (Kept2.same _ _ _) rfl (fun h => by cases h) hI.step
                  refine Rg.cons 22 23 rfl (Rg.plain rfl ?_) ?_
                  · intro vs W n hn hI hG hT hF K hK
                    simp only [Rg.putsD, List.getD_cons_zero, List.getD_cons_succ, Act.put, List.setIfInBounds_toArray, List.set_cons_zero, List.set_cons_succ] at hK ⊢
                    have hn1 : n < 37 := hn
                    clear hn
                    clear hF
                    have H := Lib.hid hK
                    clear hK hT
                    go_simp
                    exact H.out _ _ (Kept2.same _ _ _) rfl (fun h => by cases h) hI.step
                  refine Rg.cons 23 24 rfl (Rg.plain rfl ?_) ?_
                  · intro vs W n hn hI hG hT hF K hK
                    simp only [Rg.putsD, List.getD_cons_zero, List.getD_cons_succ, Act.put, List.setIfInBounds_toArray, List.set_cons_zero, List.set_cons_succ] at hK ⊢
                    have hn1 : n < 37 := hn
                    clear hn
                    clear hF
                    have t22 : vs 22 = .pointer (some ⟨g, j * 4, none⟩) := hT 22 (by decide)
                    simp only [t22] at hK
                    have H := Lib.hid hK
                    clear hK hT
                    go_simp
                    exact H.out _ _ (Kept2.same _ _ _) rfl (fun h => by cases h) hI.step
                  refine Rg.cons 24 25 rfl (Rg.plain rfl ?_) ?_
                  · intro vs W n hn hI hG hT hF K hK
                    simp only [Rg.putsD, List.getD_cons_zero, List.getD_cons_succ, Act.put, List.setIfInBounds_toArray, List.set_cons_zero, List.set_cons_succ] at hK ⊢
                    have hn1 : n < 37 := hn
                    clear hn
                    clear hF
                    have t23 : vs 23 = .pointer (some ⟨g, j * 4, none⟩) := hT 23 (by decide)
                    simp only [t23] at hK
                    have H := Lib.hid hK
                    clear hK hT
                    go_simp
                    exact H.out _ _ (Kept2.same _ _ _) rfl (fun h => by cases h) hI.step
                  refine Rg.cons 25 26 rfl (Rg.plain rfl ?_) ?_
                  · intro vs W n hn hI hG hT hF K hK
                    simp only [Rg.putsD, List.getD_cons_zero, List.getD_cons_succ, Act.put, List.setIfInBounds_toArray, List.set_cons_zero, List.set_cons_succ] at hK ⊢
                    have hn1 : n < 37 := hn
                    clear hn
                    clear hF
                    have t24 : vs 24 = .pointer (some ⟨g, j * 4 + 2, none⟩) := hT 24 (by decide)
                    obtain ⟨z1, z2, z3, z4, c0, c1, c2, c3⟩ := sl_row hI rfl hj
                    simp only [t24] at hK
                    have H := Lib.hid hK
                    clear hK hT
                    go_simp
                    exact H.out _ _ (Kept2.same _ _ _) ⟨_, rfl⟩ (fun h => by cases h) hI.step
                  refine Rg.cons 26 27 rfl (Rg.plain rfl ?_) ?_
                  · intro vs W n hn hI hG hT hF K hK
                    simp only [Rg.putsD, List.getD_cons_zero, List.getD_cons_succ, Act.put, List.setIfInBounds_toArray, List.set_cons_zero, List.set_cons_succ] at hK ⊢
                    have hn1 : n < 37 := hn
                    clear hn
                    clear hF
                    have t25 : ∃ x : Int, vs 25 = .int .i64 x := hT 25 (by decide)
                    obtain ⟨x25, e25⟩ := t25
                    simp only [e25] at hK
                    have H := Lib.hid hK
                    clear hK hT
                    go_simp
                    exact H.out _ _ (Kept2.alloc _) (IntSl.new [x25, 4, (-1)] rfl hG.more) (fun h => by cases h) (hI.alloc _)
                  refine Rg.cons 27 28 rfl (Rg.plain rfl ?_) ?_
                  · intro vs W n hn hI hG hT hF K hK
                    simp only [Rg.putsD, List.getD_cons_zero, List.getD_cons_succ, Act.put, List.setIfInBounds_toArray, List.set_cons_zero, List.set_cons_succ] at hK ⊢
                    have hn1 : n < 37 := hn
                    clear hn
                    clear hF
                    have t21 : vs 21 = .pointer (some ⟨sb, 0, none⟩) := hT 21 (by decide)
                    have t26 : IntSl W6.heap.size 3 (vs 26) W := hT 26 (by decide)
                    obtain ⟨b26, xs26, n26, c26, e26, k26⟩ := t26
                    have N26 := Lib.hid (And.intro n26 k26)
                    clear n26 k26
                    simp only [e26] at hK
                    simp only [t21] at hK
                    have H := Lib.hid hK
                    clear hK hT
                    go_simp
                    refine (pick_blk N26.out.2 N26.out.1 (by decide) (by decide) (by omega) (by omega) hI.1).mono ?_
                    rintro e w1 ⟨x, _, rfl, ht⟩
                    exact H.out _ _ (.of_took ht) ⟨_, rfl⟩ (fun h => by cases h) (hI.took ht (by omega))
                  refine Rg.cons 28 29 rfl (Rg.plain rfl ?_) ?_
                  · intro vs W n hn hI hG hT hF K hK
                    simp only [Rg.putsD, List.getD_cons_zero, List.getD_cons_succ, Act.put, List.setIfInBounds_toArray, List.set_cons_zero, List.set_cons_succ] at hK ⊢
                    have hn1 : n < 37 := hn
                    clear hn
                    clear hF
                    have t0 : vs 0 = .pointer (some ⟨g, j * 4, none⟩) := hT 0 (by decide)
                    simp only [t0] at hK
                    have H := Lib.hid hK
                    clear hK hT
                    go_simp
                    exact H.out _ _ (Kept2.same _ _ _) rfl (fun h => by cases h) hI.step
                  refine Rg.cons 29 30 rfl (Rg.plain rfl ?_) ?_
                  · intro vs W n hn hI hG hT hF K hK
                    simp only [Rg.putsD, List.getD_cons_zero, List.getD_cons_succ, Act.put, List.setIfInBounds_toArray, List.set_cons_zero, List.set_cons_succ] at hK ⊢
                    have hn1 : n < 37 := hn
                    clear hn
                    clear hF
                    have t28 : vs 28 = .pointer (some ⟨g, j * 4, none⟩) := hT 28 (by decide)
                    simp only [t28] at hK
                    have H := Lib.hid hK
                    clear hK hT
                    go_simp
                    exact H.out _ _ (Kept2.same _ _ _) rfl (fun h => by cases h) hI.step
                  refine Rg.cons 30 31 rfl (Rg.plain rfl ?_) ?_
                  · intro vs W n hn hI hG hT hF K hK
                    simp only [Rg.putsD, List.getD_cons_zero, List.getD_cons_succ, Act.put, List.setIfInBounds_toArray, List.set_cons_zero, List.set_cons_succ] at hK ⊢
                    have hn1 : n < 37 := hn
                    clear hn
                    clear hF
                    have t29 : vs 29 = .pointer (some ⟨g, j * 4, none⟩) := hT 29 (by decide)
                    have t9 : ∃ x : Int, vs 9 = .int .i64 x := hT 9 (by decide)
                    obtain ⟨x9, e9⟩ := t9
                    simp only [e9] at hK
                    obtain ⟨z1, z2, z3, z4, c0, c1, c2, c3⟩ := sl_row hI rfl hj
                    have fz := hI.frozen (j * 4)
                    simp only [t29] at hK
                    have H := Lib.hid hK
                    clear hK hT
                    go_simp
                    exact H.out (.bool true) _ ((Kept2.same sb g W).store (p := ⟨g, _, none⟩) rfl _) trivial (fun h => by cases h) (hI.store (j := 0) sl_typ hj (by decide) _ (by omega) (sl_int0 _))
                  refine Rg.cons 31 32 rfl (Rg.plain rfl ?_) ?_
                  · intro vs W n hn hI hG hT hF K hK
                    simp only [Rg.putsD, List.getD_cons_zero, List.getD_cons_succ, Act.put, List.setIfInBounds_toArray, List.set_cons_zero, List.set_cons_succ] at hK ⊢
                    have hn1 : n < 37 := hn
                    clear hn
                    clear hF
                    have t1 : vs 1 = .pointer (some ⟨g, j * 4, none⟩) := hT 1 (by decide)
                    simp only [t1] at hK
                    have H := Lib.hid hK
                    clear hK hT
                    go_simp
                    exact H.out _ _ (Kept2.same _ _ _) rfl (fun h => by cases h) hI.step
                  refine Rg.cons 32 33 rfl (Rg.plain rfl ?_) ?_
                  · intro vs W n hn hI hG hT hF K hK
                    simp only [Rg.putsD, List.getD_cons_zero, List.getD_cons_succ, Act.put, List.setIfInBounds_toArray, List.set_cons_zero, List.set_cons_succ] at hK ⊢
                    have hn1 : n < 37 := hn
                    clear hn
                    clear hF
                    have t31 : vs 31 = .pointer (some ⟨g, j * 4, none⟩) := hT 31 (by decide)
                    simp only [t31] at hK
                    have H := Lib.hid hK
                    clear hK hT
                    go_simp
                    exact H.out _ _ (Kept2.same _ _ _) rfl (fun h => by cases h) hI.step
                  refine Rg.cons 33 34 rfl (Rg.plain rfl ?_) ?_
                  · intro vs W n hn hI hG hT hF K hK
                    simp only [Rg.putsD, List.getD_cons_zero, List.getD_cons_succ, Act.put, List.setIfInBounds_toArray, List.set_cons_zero, List.set_cons_succ] at hK ⊢
                    have hn1 : n < 37 := hn
                    clear hn
                    clear hF
                    have t32 : vs 32 = .pointer (some ⟨g, j * 4 + 1, none⟩) := hT 32 (by decide)
                    have t20 : ∃ x : Int, vs 20 = .int .i64 x := hT 20 (by decide)
                    obtain ⟨x20, e20⟩ := t20
                    simp only [e20] at hK
                    obtain ⟨z1, z2, z3, z4, c0, c1, c2, c3⟩ := sl_row hI rfl hj
                    have fz := hI.frozen (j * 4 + 1)
                    simp only [t32] at hK
                    have H := Lib.hid hK
                    clear hK hT
                    go_simp
                    exact H.out (.bool true) _ ((Kept2.same sb g W).store (p := ⟨g, _, none⟩) rfl _) trivial (fun h => by cases h) (hI.store (j := 1) sl_typ hj (by decide) _ (by omega) (sl_int1 _))
                  exact Rg.nil
                · intro vs W hG hI hT hF
                  have t0 : vs 0 = .pointer (some ⟨g, j * 4, none⟩) := hT 0 (by decide)
                  have t1 : vs 1 = .pointer (some ⟨g, j * 4, none⟩) := hT 1 (by decide)
                  have t2 : vs 2 = .pointer (some ⟨g, j * 4, none⟩) := hT 2 (by decide)
                  have t3 : vs 3 = .pointer (some ⟨sb, 0, none⟩) := hT 3 (by decide)
                  have t4 : vs 4 = .pointer (some ⟨g, j * 4, none⟩) := hT 4 (by decide)
                  have t5 : vs 5 = .pointer (some ⟨g, j * 4, none⟩) := hT 5 (by decide)
                  have t6 : vs 6 = .pointer (some ⟨g, j * 4, none⟩) := hT 6 (by decide)
                  have t7 : ∃ x : Int, vs 7 = .int .i64 x := hT 7 (by decide)
                  have t8 : IntSl W6.heap.size 3 (vs 8) W := hT 8 (by decide)
                  have t9 : ∃ x : Int, vs 9 = .int .i64 x := hT 9 (by decide)
                  have t10 : vs 10 = .pointer (some ⟨sb, 0, none⟩) := hT 10 (by decide)
                  have t11 : vs 11 = .pointer (some ⟨g, j * 4, none⟩) := hT 11 (by decide)
                  have t12 : vs 12 = .pointer (some ⟨g, j * 4, none⟩) := hT 12 (by decide)
                  have t13 : vs 13 = .pointer (some ⟨g, j * 4 + 1, none⟩) := hT 13 (by decide)
                  have t14 : ∃ x : Int, vs 14 = .int .i64 x := hT 14 (by decide)
                  have t15 : vs 15 = .pointer (some ⟨g, j * 4, none⟩) := hT 15 (by decide)
                  have t16 : vs 16 = .pointer (some ⟨g, j * 4, none⟩) := hT 16 (by decide)
                  have t17 : vs 17 = .pointer (some ⟨g, j * 4 + 1, none⟩) := hT 17 (by decide)
                  have t18 : ∃ x : Int, vs 18 = .int .i64 x := hT 18 (by decide)
                  have t19 : IntSl W6.heap.size 4 (vs 19) W := hT 19 (by decide)
                  have t20 : ∃ x : Int, vs 20 = .int .i64 x := hT 20 (by decide)
                  have t21 : vs 21 = .pointer (some ⟨sb, 0, none⟩) := hT 21 (by decide)
                  have t22 : vs 22 = .pointer (some ⟨g, j * 4, none⟩) := hT 22 (by decide)
                  have t23 : vs 23 = .pointer (some ⟨g, j * 4, none⟩) := hT 23 (by decide)
                  have t24 : vs 24 = .pointer (some ⟨g, j * 4 + 2, none⟩) := hT 24 (by decide)
                  have t25 : ∃ x : Int, vs 25 = .int .i64 x := hT 25 (by decide)
                  have t26 : IntSl W6.heap.size 3 (vs 26) W := hT 26 (by decide)
                  have t27 : ∃ x : Int, vs 27 = .int .i64 x := hT 27 (by decide)
                  have t28 : vs 28 = .pointer (some ⟨g, j * 4, none⟩) := hT 28 (by decide)
                  have t29 : vs 29 = .pointer (some ⟨g, j * 4, none⟩) := hT 29 (by decide)
                  have t31 : vs 31 = .pointer (some ⟨g, j * 4, none⟩) := hT 31 (by decide)
                  have t32 : vs 32 = .pointer (some ⟨g, j * 4 + 1, none⟩) := hT 32 (by decide)
                  simp only [List.length_cons, List.length_nil, Nat.reduceAdd, List.range, List.range.loop, List.drop_succ_cons, List.drop_zero, Rg.putsD, List.getD_cons_zero, List.getD_cons_succ, Act.put, List.setIfInBounds_toArray, List.set_cons_zero, List.set_cons_succ, t0, t1, t2, t3, t4, t5, t6, t10, t11, t12, t13, t15, t16, t17, t21, t22, t23, t24, t28, t29, t31, t32]
                  clear hT t0 t1 t2 t3 t4 t5 t6 t10 t11 t12 t13 t15 t16 t17 t21 t22 t23 t24 t28 t29 t31 t32
                  obtain ⟨x27, e27⟩ := t27
                  have hIv : RowI Sl.cells 70 4 sb (b + 132) g l.length k3 (w2.heap.size + 1) 34 W := hI
                  obtain ⟨z1, z2, z3, z4, c0, c1, c2, c3⟩ := sl_row hIv rfl hj
                  have fz := hIv.frozen (j * 4 + 2)
                  have hst := hIv.store sl_typ hj (j := 2) (by decide) (.int .i64 x27) (by omega) (sl_int2 x27)
                  have HW2 := Lib.hid (And.intro hst (And.intro (hG.blk HW.out.1 (by omega) (by omega)) (kept_of2 HW.out.2.2.drew.2 hG (by omega))))
                  have hsW2 : w2.heap.size < W.heap.size := Nat.lt_of_lt_of_le (show w2.heap.size < W6.heap.size by omega) hG.more
                  have E27 := Lib.hid e27
                  clear hst hI hIv hG hF e27 HW HI0 t7 t8 t9 t14 t18 t19 t20 t25 t26
                  simp only [E27.out]
                  go_wp2_with fail
                  go_meet
                  obtain ⟨hs2, l2, hl2, ho2⟩ := HW2.out.1
                  exact ⟨by simp [World.setCell]; omega, _, _, _, l2, by omega, blk_far HW2.out.2.1 (by simp; omega) _, by rw [hl2]; exact ho2, hs2.more (by omega), HW2.out.2.2.store (.inr (by simp; omega)) _⟩
      case rest =>
        obtain ⟨hsc, HC⟩ := hcut
        obtain ⟨PW', PH', v, l, hl, hk3, how, tk⟩ := HC.out
        obtain ⟨c0, c1, c2, _⟩ := blk3 hk3
        have hkr := tk.blk HK2.out.1 (by omega)
        obtain ⟨d0, d1, d2, _⟩ := blk3 hkr
        have g0 := frozen_of_blk hkr 0
        have g1 := frozen_of_blk hkr 1
        have g2 := frozen_of_blk hkr 2
        obtain ⟨A, c, rfl, _⟩ := own_form how
        have HF := Lib.hid (And.intro how tk)
        clear how tk hk3 hkr HC
        go_wp2_with fail
        refine bodyPost_ret (v := .agg #[.int .i64 PW', .int .i64 PH', .slice A l.length c]) (by unfold results; simp only [Try.results5]; go_simp) rfl ⟨PW', PH', _, l, rfl, hl, ?_, ?_⟩
        · exact own_mono (own_far (own_far (own_far HF.out.1 (by simp; omega) _) (by simp; omega) _) (by simp; omega) _) (by omega)
        · exact ((((HK2.out.2.2.trans HF.out.2).more (by omega)).setCell (by simp) (by omega) _).setCell (by simp) (by omega) _).setCell (by simp) (by omega) _
end Go.Proofs.Ytopnadilfjakiaa
