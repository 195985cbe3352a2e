/-
  The walk of the maker of products.
-/
import Derived.Test.YtmjonmoagpkdiabGreatDoorLmA
import Derived.Test.YtmjonmoagpkdiabGreatDoorRg
namespace Go.Proofs.YtmjonmoagpkdiabGreatDoor
open Go.RowKit
set_option linter.unusedSimpArgs false
set_option linter.unusedVariables false

/-- A product that a stream makes. -/
def ProdOf (sb b : Nat) (w : World) (e : Ending) (w' : World) : Prop :=
  ∃ (key : ByteArray) (W H : Int) (v : Value) (l : List Pl), e = .returned (.agg #[.string key, .int .i64 W, .int .i64 H, v]) ∧ l.length ≤ 5 ∧ w'.ownsRow w.heap.size 50 5 v l.length (flatP l) ∧ Took sb b w w'

theorem pl_info : (Tryz.prog.info? 50).map (fun i => (i.zero, i.size, i.bytes)) = some (some (.agg #[.string ⟨#[]⟩, .string ⟨#[]⟩, .int .i64 0, .int .i64 0, .int .i64 0]), 5, 56) := by kernel_rfl

def PSt (g sb b : Nat) (w2 wc : World) : Prop :=
  ∃ (key : ByteArray) (W H : Int) (v : Value) (l : List Pl), l.length ≤ 5 ∧ wc.heap[g]? = some (.cells #[.string key, .int .i64 W, .int .i64 H, v] 28 (0, 0)) ∧ wc.ownsRow (g + 2) 50 5 v l.length (flatP l) ∧ Took sb b w2 wc

set_option maxRecDepth 100000 in
set_option maxHeartbeats 4000000 in
theorem aproduct_any (sb b : Nat) (w : World) (hb : b ≤ 900000) (hs : IsStream w sb b) :
    Calls Tryz.prog 10 #[.pointer (some ⟨sb, 0, none⟩)] w (ProdOf sb (b + 200) w) := by
  have hlt := hs.lt
  go_enter Tryz.func10, Tryz.ntmps10
  go_wp2_with fail
  refine (pick_lit sb b [100, 60, 1000] _ _ 3 rfl (by omega) (by omega) (by simp) (by omega) (hs.alloc _)).mono ?_
  rintro e w1 ⟨W0, hW, rfl, t1⟩
  go_wp2_with fail
  refine (pick_lit sb (b + 1) [40, 60, 999] _ _ 3 rfl (by omega) (by omega) (by simp) (by omega) t1.1).mono ?_
  rintro e w2 ⟨H0, hH, rfl, t2⟩
  go_wp2_with fail
  simp only [List.mem_cons, List.not_mem_nil, or_false] at hW hH
  have hWb : 0 ≤ W0 ∧ W0 ≤ 1000 := by omega
  have hHb : 0 ≤ H0 ∧ H0 ≤ 1000 := by omega
  clear hW hH
  have t12 : Took sb (b + 2) w w2 := t1.from_alloc.trans t2
  have hsz : w.heap.size ≤ w2.heap.size := t12.size
  have hk2 : w2.heap[w.heap.size]? = some (.cells #[.string ⟨#[]⟩, .int .i64 0, .int .i64 0, .slice none 0 0] 28 (0, 0)) :=
    t2.blk (t1.blk (blk_new w _ rfl) (by omega)) (by omega)
  have hlt2 := lt_of_blk hk2
  have HK2 := Lib.hid hk2
  have T12 := Lib.hid t12
  clear t1 t2 t12 hk2
  have HS2 := Lib.hid T12.out.1
  go_loopw [16] (fun kk wr => ∃ (k : Nat) (v : Value) (l : List Pl), k ≤ 5 ∧ kk = .int .i64 k ∧ l.length ≤ k ∧ w2.heap.size + 1 < wr.heap.size ∧ Hid (
    wr.heap[w2.heap.size]? = some (.cells #[.string ⟨#[112]⟩, .int .i64 W0, .int .i64 H0, v] 28 (0, 0)) ∧
    wr.heap[w2.heap.size + 1]? = some (.cells #[.string ⟨#[99, 49]⟩, .string ⟨#[99, 50]⟩, .string ⟨#[114, 49]⟩, .string ⟨#[114, 50]⟩, .string ⟨#[117, 49]⟩] 9 (0, 0)) ∧
    wr.ownsRow (w2.heap.size + 2) 50 5 v l.length (flatP l) ∧ Took sb (b + 2 + 20 * k) w2 wr)) (fun kk _ => 5 - (intOf kk).toNat)
  case atStart => exact ⟨0, _, [], by omega, rfl, by simp, by simp, blk_alloc (blk_new _ _ rfl) _, blk_new _ _ (by simp), World.ownsRow_nil _ _ _ _, ((Took.refl T12.out.1).alloc _).alloc _⟩
  case round =>
    obtain ⟨k, v, l, hk, rfl, hl, hsz1, HR⟩ := hrel
    by_cases hlt5 : k < 5
    · have hsl : ∃ sk : ByteArray, wr.cell? ⟨w2.heap.size + 1, k, none⟩ = some (.string sk) := by
        rw [cell_of_blk HR.out.2.1]
        have : k = 0 ∨ k = 1 ∨ k = 2 ∨ k = 3 ∨ k = 4 := by omega
        rcases this with rfl | rfl | rfl | rfl | rfl <;> exact ⟨_, rfl⟩
      obtain ⟨sk, hsk⟩ := hsl
      go_wp2_with fail
      refine (flip_any sb (b + 2 + 20 * k) _ _ (by omega) (by omega) (by omega) HR.out.2.2.2.1).mono ?_
      rintro e w3 ⟨f, rfl, t3⟩
      have hsz3 := t3.size
      have HR3 : Hid (
        w3.heap[w2.heap.size]? = some (.cells #[.string ⟨#[112]⟩, .int .i64 W0, .int .i64 H0, v] 28 (0, 0)) ∧
        w3.heap[w2.heap.size + 1]? = some (.cells #[.string ⟨#[99, 49]⟩, .string ⟨#[99, 50]⟩, .string ⟨#[114, 49]⟩, .string ⟨#[114, 50]⟩, .string ⟨#[117, 49]⟩] 9 (0, 0)) ∧
        w3.ownsRow (w2.heap.size + 2) 50 5 v l.length (flatP l) ∧ Took sb (b + 2 + 20 * k + 1) w2 w3) :=
        ⟨t3.blk HR.out.1 (by omega), t3.blk HR.out.2.1 (by omega), kept_own HR.out.2.2.1 t3.2 (by omega), HR.out.2.2.2.trans t3⟩
      clear t3 HR hsk
      cases f
      case true =>
        go_wp2_with fail
        go_roundw
        case rel => exact ⟨k + 1, v, l, by omega, by go_num, by omega, by omega, HR3.out.1, HR3.out.2.1, HR3.out.2.2.1, HR3.out.2.2.2.more (by omega)⟩
        case measure => simp [intOf]; omega
      case false =>
        go_wp2_with fail
        refine Rg.rgL (Kept sb)
          [(fun vs u => vs 0 = .pointer (some ⟨w2.heap.size, 3, none⟩)), (fun vs u => vs 1 = v), (fun vs u => vs 2 = .string sk), (fun vs u => vs 3 = .pointer (some ⟨sb, 0, none⟩)), (fun vs u => StrSl w3.heap.size 4 (vs 4) u), (fun vs u => ∃ s : ByteArray, vs 5 = .string s), (fun vs u => vs 6 = .pointer (some ⟨sb, 0, none⟩)), (fun vs u => vs 7 = .pointer (some ⟨w2.heap.size, 1, none⟩)), (fun vs u => vs 8 = .int .i64 W0), (fun vs u => ∃ x : Int, vs 9 = .int .i64 x), (fun vs u => vs 10 = .pointer (some ⟨sb, 0, none⟩)), (fun vs u => vs 11 = .pointer (some ⟨w2.heap.size, 2, none⟩)), (fun vs u => vs 12 = .int .i64 H0), (fun vs u => ∃ x : Int, 0 ≤ x ∧ x ≤ 30 ∧ vs 13 = .int .i64 x), (fun vs u => ∃ x : Int, vs 14 = .int .i64 x), (fun vs u => vs 15 = .pointer (some ⟨sb, 0, none⟩)), (fun vs u => ∃ x : Int, vs 16 = .int .i64 x), (fun vs u => ∃ (a c : ByteArray) (x y q : Int), vs 17 = .agg #[.string a, .string c, .int .i64 x, .int .i64 y, .int .i64 q]), (fun vs u => ∃ (g : Nat) (p : Pl), w3.heap.size ≤ g ∧ vs 18 = .slice (some ⟨g, 0, none⟩) 1 1 ∧ u.heap[g]? = some (.cells p.cells.toArray 50 (0, 0)))]
          [[], [0], [], [], [], [3, 4], [], [], [7], [3, 4, 5, 6, 7, 8], [], [], [11], [11, 12], [3, 4, 5, 6, 7, 8, 9, 10, 11, 12, 13], [], [3, 4, 5, 6, 7, 8, 9, 10, 11, 12, 13, 14, 15], [2, 3, 4, 5, 6, 7, 8, 9, 10, 11, 12, 13, 14, 15, 16], [2, 3, 4, 5, 6, 7, 8, 9, 10, 11, 12, 13, 14, 15, 16, 17]] [some 22, some 23, some 24, some 25, some 26, some 27, some 28, some 29, some 30, some 31, some 32, some 33, some 34, some 35, some 36, some 37, some 38, some 39, some 40, some 41, some 42, none] [] (fun n W => IsStream W sb (b+2+20*k+1 + n)) [[], [0], [], [], [], [3, 4], [], [], [7], [3, 4, 5, 6, 7, 8], [], [], [11], [11, 12], [3, 4, 5, 6, 7, 8, 9, 10, 11, 12, 13], [], [3, 4, 5, 6, 7, 8, 9, 10, 11, 12, 13, 14, 15], [2, 3, 4, 5, 6, 7, 8, 9, 10, 11, 12, 13, 14, 15, 16], [2, 3, 4, 5, 6, 7, 8, 9, 10, 11, 12, 13, 14, 15, 16, 17], [0, 1, 2, 3, 4, 5, 6, 7, 8, 9, 10, 11, 12, 13, 14, 15, 16, 17, 18], [0, 1, 2, 3, 4, 5, 6, 7, 8, 9, 10, 11, 12, 13, 14, 15, 16, 17, 18, 19], [0, 1, 2, 3, 4, 5, 6, 7, 8, 9, 10, 11, 12, 13, 14, 15, 16, 17, 18, 19, 20]]
          (by kernel_rfl) (by decide) (by kernel_rfl) (by kernel_rfl) (by kernel_rfl) (by kernel_rfl) (by kernel_rfl) (fun _ => Kept.same _ _) (fun _ _ _ h k => h.then_ k) (fun _ _ h => h.more) ?_ (HR3.out.2.2.2.1.drew) ?_ ?_
        · intro t ht vs w w' h hE
          simp only [List.mem_cons, List.not_mem_nil, or_false] at ht
          rcases ht with rfl | rfl | rfl | rfl | rfl | rfl | rfl | rfl | rfl | rfl | rfl | rfl | rfl | rfl | rfl | rfl | rfl | rfl | rfl
          · exact h
          · exact h
          · exact h
          · exact h
          · exact h.kept hE (by omega)
          · exact h
          · exact h
          · exact h
          · exact h
          · exact h
          · exact h
          · exact h
          · exact h
          · exact h
          · exact h
          · exact h
          · exact h
          · exact h
          · obtain ⟨g, p, a, c, d⟩ := h
            exact ⟨g, p, a, c, hE.blk d (by omega)⟩
        ·
          refine Rg.cons 0 1 rfl (Rg.plain rfl ?_) ?_
          · intro vs W n hn hI hG hT hF K hK
            simp only [Rg.putsD, List.getD_cons_zero, List.getD_cons_succ, Act.put, List.setIfInBounds_toArray, List.set_cons_zero, List.set_cons_succ] at hK ⊢
            have hn1 : n < 22 := hn
            clear hn
            clear hF
            have H := Lib.hid hK
            clear hK hT
            go_simp
            exact H.out _ _ (Kept.same _ _) rfl (fun h => by cases h) (hI.more (by omega))
          refine Rg.cons 1 2 rfl (Rg.plain rfl ?_) ?_
          · intro vs W n hn hI hG hT hF K hK
            simp only [Rg.putsD, List.getD_cons_zero, List.getD_cons_succ, Act.put, List.setIfInBounds_toArray, List.set_cons_zero, List.set_cons_succ] at hK ⊢
            have hn1 : n < 22 := hn
            clear hn
            clear hF
            have t0 : vs 0 = .pointer (some ⟨w2.heap.size, 3, none⟩) := hT 0 (by decide)
            have hbk := hG.blk HR3.out.1 (by omega)
            have cb := cell_of_blk hbk 3
            simp at cb
            clear hbk
            simp only [t0] at hK
            have H := Lib.hid hK
            clear hK hT
            go_simp
            exact H.out _ _ (Kept.same _ _) rfl (fun h => by cases h) (hI.more (by omega))
          refine Rg.cons 2 3 rfl (Rg.plain rfl ?_) ?_
          · intro vs W n hn hI hG hT hF K hK
            simp only [Rg.putsD, List.getD_cons_zero, List.getD_cons_succ, Act.put, List.setIfInBounds_toArray, List.set_cons_zero, List.set_cons_succ] at hK ⊢
            have hn1 : n < 22 := hn
            clear hn
            clear hF
            have H := Lib.hid hK
            clear hK hT
            go_simp
            exact H.out _ _ (Kept.same _ _) rfl (fun h => by cases h) (hI.more (by omega))
          refine Rg.cons 3 4 rfl (Rg.plain rfl ?_) ?_
          · intro vs W n hn hI hG hT hF K hK
            simp only [Rg.putsD, List.getD_cons_zero, List.getD_cons_succ, Act.put, List.setIfInBounds_toArray, List.set_cons_zero, List.set_cons_succ] at hK ⊢
            have hn1 : n < 22 := hn
            clear hn
            clear hF
            have H := Lib.hid hK
            clear hK hT
            go_simp
            exact H.out _ _ (Kept.same _ _) rfl (fun h => by cases h) (hI.more (by omega))
          refine Rg.cons 4 5 rfl (Rg.plain rfl ?_) ?_
          · intro vs W n hn hI hG hT hF K hK
            simp only [Rg.putsD, List.getD_cons_zero, List.getD_cons_succ, Act.put, List.setIfInBounds_toArray, List.set_cons_zero, List.set_cons_succ] at hK ⊢
            have hn1 : n < 22 := hn
            clear hn
            clear hF
            have H := Lib.hid hK
            clear hK hT
            go_simp
            exact H.out _ _ (Kept.of_below ((Below.refl _ _).alloc (Nat.le_refl _) _)) (StrSl.new [⟨#[99, 97, 112]⟩, ⟨#[114, 101, 115]⟩, ⟨#[114, 101, 115]⟩, ⟨#[105, 99]⟩] rfl hG.more) (fun h => by cases h) ((hI.alloc _).more (by omega))
          refine Rg.cons 5 6 rfl (Rg.plain rfl ?_) ?_
          · intro vs W n hn hI hG hT hF K hK
            simp only [Rg.putsD, List.getD_cons_zero, List.getD_cons_succ, Act.put, List.setIfInBounds_toArray, List.set_cons_zero, List.set_cons_succ] at hK ⊢
            have hn1 : n < 22 := hn
            clear hn
            clear hF
            have t3 : vs 3 = .pointer (some ⟨sb, 0, none⟩) := hT 3 (by decide)
            have t4 : StrSl w3.heap.size 4 (vs 4) W := hT 4 (by decide)
            obtain ⟨b4, xs4, n4, c4, e4, k4⟩ := t4
            have N4 := Lib.hid (And.intro n4 k4)
            clear n4 k4
            simp only [e4] at hK
            simp only [t3] at hK
            have H := Lib.hid hK
            clear hK hT
            go_simp
            refine (some_blk N4.out.2 N4.out.1 (by decide) (by decide) (by omega) (by omega) hI).mono ?_
            rintro e w1 ⟨x, _, rfl, ht⟩
            exact H.out _ _ ht.2 ⟨_, rfl⟩ (fun h => by cases h) (ht.1.more (by omega))
          refine Rg.cons 6 7 rfl (Rg.plain rfl ?_) ?_
          · intro vs W n hn hI hG hT hF K hK
            simp only [Rg.putsD, List.getD_cons_zero, List.getD_cons_succ, Act.put, List.setIfInBounds_toArray, List.set_cons_zero, List.set_cons_succ] at hK ⊢
            have hn1 : n < 22 := hn
            clear hn
            clear hF
            have H := Lib.hid hK
            clear hK hT
            go_simp
            exact H.out _ _ (Kept.same _ _) rfl (fun h => by cases h) (hI.more (by omega))
          refine Rg.cons 7 8 rfl (Rg.plain rfl ?_) ?_
          · intro vs W n hn hI hG hT hF K hK
            simp only [Rg.putsD, List.getD_cons_zero, List.getD_cons_succ, Act.put, List.setIfInBounds_toArray, List.set_cons_zero, List.set_cons_succ] at hK ⊢
            have hn1 : n < 22 := hn
            clear hn
            clear hF
            have H := Lib.hid hK
            clear hK hT
            go_simp
            exact H.out _ _ (Kept.same _ _) rfl (fun h => by cases h) (hI.more (by omega))
          refine Rg.cons 8 9 rfl (Rg.plain rfl ?_) ?_
          · intro vs W n hn hI hG hT hF K hK
            simp only [Rg.putsD, List.getD_cons_zero, List.getD_cons_succ, Act.put, List.setIfInBounds_toArray, List.set_cons_zero, List.set_cons_succ] at hK ⊢
            have hn1 : n < 22 := hn
            clear hn
            clear hF
            have t7 : vs 7 = .pointer (some ⟨w2.heap.size, 1, none⟩) := hT 7 (by decide)
            have hbk := hG.blk HR3.out.1 (by omega)
            have cb := cell_of_blk hbk 1
            simp at cb
            clear hbk
            simp only [t7] at hK
            have H := Lib.hid hK
            clear hK hT
            go_simp
            exact H.out _ _ (Kept.same _ _) rfl (fun h => by cases h) (hI.more (by omega))
          refine Rg.cons 9 10 rfl (Rg.plain rfl ?_) ?_
          · intro vs W n hn hI hG hT hF K hK
            simp only [Rg.putsD, List.getD_cons_zero, List.getD_cons_succ, Act.put, List.setIfInBounds_toArray, List.set_cons_zero, List.set_cons_succ] at hK ⊢
            have hn1 : n < 22 := hn
            clear hn
            clear hF
            have t6 : vs 6 = .pointer (some ⟨sb, 0, none⟩) := hT 6 (by decide)
            have t8 : vs 8 = .int .i64 W0 := hT 8 (by decide)
            simp only [t6, t8] at hK
            have H := Lib.hid hK
            clear hK hT
            go_simp
            refine (range_any sb _ _ _ _ (by omega) (by omega) (by omega) (by omega) hI).mono ?_
            rintro e w1 ⟨x, _, _, rfl, ht⟩
            exact H.out _ _ ht.2 ⟨_, rfl⟩ (fun h => by cases h) (ht.1.more (by omega))
          refine Rg.cons 10 11 rfl (Rg.plain rfl ?_) ?_
          · intro vs W n hn hI hG hT hF K hK
            simp only [Rg.putsD, List.getD_cons_zero, List.getD_cons_succ, Act.put, List.setIfInBounds_toArray, List.set_cons_zero, List.set_cons_succ] at hK ⊢
            have hn1 : n < 22 := hn
            clear hn
            clear hF
            have H := Lib.hid hK
            clear hK hT
            go_simp
            exact H.out _ _ (Kept.same _ _) rfl (fun h => by cases h) (hI.more (by omega))
          refine Rg.cons 11 12 rfl (Rg.plain rfl ?_) ?_
          · intro vs W n hn hI hG hT hF K hK
            simp only [Rg.putsD, List.getD_cons_zero, List.getD_cons_succ, Act.put, List.setIfInBounds_toArray, List.set_cons_zero, List.set_cons_succ] at hK ⊢
            have hn1 : n < 22 := hn
            clear hn
            clear hF
            have H := Lib.hid hK
            clear hK hT
            go_simp
            exact H.out _ _ (Kept.same _ _) rfl (fun h => by cases h) (hI.more (by omega))
          refine Rg.cons 12 13 rfl (Rg.plain rfl ?_) ?_
          · intro vs W n hn hI hG hT hF K hK
            simp only [Rg.putsD, List.getD_cons_zero, List.getD_cons_succ, Act.put, List.setIfInBounds_toArray, List.set_cons_zero, List.set_cons_succ] at hK ⊢
            have hn1 : n < 22 := hn
            clear hn
            clear hF
            have t11 : vs 11 = .pointer (some ⟨w2.heap.size, 2, none⟩) := hT 11 (by decide)
            have hbk := hG.blk HR3.out.1 (by omega)
            have cb := cell_of_blk hbk 2
            simp at cb
            clear hbk
            simp only [t11] at hK
            have H := Lib.hid hK
            clear hK hT
            go_simp
            exact H.out _ _ (Kept.same _ _) rfl (fun h => by cases h) (hI.more (by omega))
          refine Rg.cons 13 14 rfl (Rg.plain rfl ?_) ?_
          · intro vs W n hn hI hG hT hF K hK
            simp only [Rg.putsD, List.getD_cons_zero, List.getD_cons_succ, Act.put, List.setIfInBounds_toArray, List.set_cons_zero, List.set_cons_succ] at hK ⊢
            have hn1 : n < 22 := hn
            clear hn
            clear hF
            have t12 : vs 12 = .int .i64 H0 := hT 12 (by decide)
            simp only [t12] at hK
            have H := Lib.hid hK
            clear hK hT
            go_simp
            exact H.out _ _ (Kept.same _ _) ⟨_, by omega, by omega, rfl⟩ (fun h => by cases h) (hI.more (by omega))
          refine Rg.cons 14 15 rfl (Rg.plain rfl ?_) ?_
          · intro vs W n hn hI hG hT hF K hK
            simp only [Rg.putsD, List.getD_cons_zero, List.getD_cons_succ, Act.put, List.setIfInBounds_toArray, List.set_cons_zero, List.set_cons_succ] at hK ⊢
            have hn1 : n < 22 := hn
            clear hn
            clear hF
            have t10 : vs 10 = .pointer (some ⟨sb, 0, none⟩) := hT 10 (by decide)
            have t13 : ∃ x : Int, 0 ≤ x ∧ x ≤ 30 ∧ vs 13 = .int .i64 x := hT 13 (by decide)
            obtain ⟨x13, q0, q1, e13⟩ := t13
            simp only [e13] at hK
            simp only [t10] at hK
            have H := Lib.hid hK
            clear hK hT
            go_simp
            refine (range_any sb _ _ _ _ (by omega) (by omega) (by omega) (by omega) hI).mono ?_
            rintro e w1 ⟨x, _, _, rfl, ht⟩
            exact H.out _ _ ht.2 ⟨_, rfl⟩ (fun h => by cases h) (ht.1.more (by omega))
          refine Rg.cons 15 16 rfl (Rg.plain rfl ?_) ?_
          · intro vs W n hn hI hG hT hF K hK
            simp only [Rg.putsD, List.getD_cons_zero, List.getD_cons_succ, Act.put, List.setIfInBounds_toArray, List.set_cons_zero, List.set_cons_succ] at hK ⊢
            have hn1 : n < 22 := hn
            clear hn
            clear hF
            have H := Lib.hid hK
            clear hK hT
            go_simp
            exact H.out _ _ (Kept.same _ _) rfl (fun h => by cases h) (hI.more (by omega))
          refine Rg.cons 16 17 rfl (Rg.plain rfl ?_) ?_
          · intro vs W n hn hI hG hT hF K hK
            simp only [Rg.putsD, List.getD_cons_zero, List.getD_cons_succ, Act.put, List.setIfInBounds_toArray, List.set_cons_zero, List.set_cons_succ] at hK ⊢
            have hn1 : n < 22 := hn
            clear hn
            clear hF
            have t15 : vs 15 = .pointer (some ⟨sb, 0, none⟩) := hT 15 (by decide)
            simp only [t15] at hK
            have H := Lib.hid hK
            clear hK hT
            go_simp
            refine (range_any sb _ _ _ _ (by omega) (by omega) (by omega) (by omega) hI).mono ?_
            rintro e w1 ⟨x, _, _, rfl, ht⟩
            exact H.out _ _ ht.2 ⟨_, rfl⟩ (fun h => by cases h) (ht.1.more (by omega))
          refine Rg.cons 17 18 rfl (Rg.plain rfl ?_) ?_
          · intro vs W n hn hI hG hT hF K hK
            simp only [Rg.putsD, List.getD_cons_zero, List.getD_cons_succ, Act.put, List.setIfInBounds_toArray, List.set_cons_zero, List.set_cons_succ] at hK ⊢
            have hn1 : n < 22 := hn
            clear hn
            clear hF
            have t2 : vs 2 = .string sk := hT 2 (by decide)
            have t5 : ∃ s : ByteArray, vs 5 = .string s := hT 5 (by decide)
            have t9 : ∃ x : Int, vs 9 = .int .i64 x := hT 9 (by decide)
            have t14 : ∃ x : Int, vs 14 = .int .i64 x := hT 14 (by decide)
            have t16 : ∃ x : Int, vs 16 = .int .i64 x := hT 16 (by decide)
            obtain ⟨s5, e5⟩ := t5
            simp only [e5] at hK
            obtain ⟨x9, e9⟩ := t9
            simp only [e9] at hK
            obtain ⟨x14, e14⟩ := t14
            simp only [e14] at hK
            obtain ⟨x16, e16⟩ := t16
            simp only [e16] at hK
            simp only [t2] at hK
            have H := Lib.hid hK
            clear hK hT
            go_simp
            exact H.out _ _ (Kept.same _ _) ⟨_, _, _, _, _, rfl⟩ (fun h => by cases h) (hI.more (by omega))
          refine Rg.cons 18 19 rfl (Rg.plain rfl ?_) ?_
          · intro vs W n hn hI hG hT hF K hK
            simp only [Rg.putsD, List.getD_cons_zero, List.getD_cons_succ, Act.put, List.setIfInBounds_toArray, List.set_cons_zero, List.set_cons_succ] at hK ⊢
            have hn1 : n < 22 := hn
            clear hn
            clear hF
            have t17 : ∃ (a c : ByteArray) (x y q : Int), vs 17 = .agg #[.string a, .string c, .int .i64 x, .int .i64 y, .int .i64 q] := hT 17 (by decide)
            obtain ⟨a17, c17, x17, y17, q17, e17⟩ := t17
            simp only [e17] at hK
            have H := Lib.hid hK
            clear hK hT
            go_simp
            exact H.out _ _ (Kept.of_below ((Below.refl _ _).alloc (Nat.le_refl _) _)) ⟨_, ⟨a17, c17, x17, y17, q17⟩, hG.more, rfl, blk_new W _ rfl⟩ (fun h => by cases h) ((hI.alloc _).more (by omega))
          exact Rg.nil
        · intro vs W hG hI hT hF
          have t0 : vs 0 = .pointer (some ⟨w2.heap.size, 3, none⟩) := hT 0 (by decide)
          have t1 : vs 1 = v := hT 1 (by decide)
          have t2 : vs 2 = .string sk := hT 2 (by decide)
          have t3 : vs 3 = .pointer (some ⟨sb, 0, none⟩) := hT 3 (by decide)
          have t4 : StrSl w3.heap.size 4 (vs 4) W := hT 4 (by decide)
          have t5 : ∃ s : ByteArray, vs 5 = .string s := hT 5 (by decide)
          have t6 : vs 6 = .pointer (some ⟨sb, 0, none⟩) := hT 6 (by decide)
          have t7 : vs 7 = .pointer (some ⟨w2.heap.size, 1, none⟩) := hT 7 (by decide)
          have t8 : vs 8 = .int .i64 W0 := hT 8 (by decide)
          have t9 : ∃ x : Int, vs 9 = .int .i64 x := hT 9 (by decide)
          have t10 : vs 10 = .pointer (some ⟨sb, 0, none⟩) := hT 10 (by decide)
          have t11 : vs 11 = .pointer (some ⟨w2.heap.size, 2, none⟩) := hT 11 (by decide)
          have t12 : vs 12 = .int .i64 H0 := hT 12 (by decide)
          have t13 : ∃ x : Int, 0 ≤ x ∧ x ≤ 30 ∧ vs 13 = .int .i64 x := hT 13 (by decide)
          have t14 : ∃ x : Int, vs 14 = .int .i64 x := hT 14 (by decide)
          have t15 : vs 15 = .pointer (some ⟨sb, 0, none⟩) := hT 15 (by decide)
          have t16 : ∃ x : Int, vs 16 = .int .i64 x := hT 16 (by decide)
          have t17 : ∃ (a c : ByteArray) (x y q : Int), vs 17 = .agg #[.string a, .string c, .int .i64 x, .int .i64 y, .int .i64 q] := hT 17 (by decide)
          have t18 : ∃ (g : Nat) (p : Pl), w3.heap.size ≤ g ∧ vs 18 = .slice (some ⟨g, 0, none⟩) 1 1 ∧ W.heap[g]? = some (.cells p.cells.toArray 50 (0, 0)) := hT 18 (by decide)
          simp only [List.length_cons, List.length_nil, Nat.reduceAdd, List.range, List.range.loop, List.drop_succ_cons, List.drop_zero, Rg.putsD, List.getD_cons_zero, List.getD_cons_succ, Act.put, List.setIfInBounds_toArray, List.set_cons_zero, List.set_cons_succ, t0, t1, t2, t3, t6, t7, t8, t10, t11, t12, t15]
          clear hT t0 t1 t2 t3 t6 t7 t8 t10 t11 t12 t15
          obtain ⟨gg, p, hgg, e18, k18⟩ := t18
          have hI19 : IsStream W sb (b + 2 + 20 * k + 1 + 19) := hI
          have HW : Hid (W.heap[w2.heap.size]? = some (.cells #[.string ⟨#[112]⟩, .int .i64 W0, .int .i64 H0, v] 28 (0, 0)) ∧
            W.heap[w2.heap.size + 1]? = some (.cells #[.string ⟨#[99, 49]⟩, .string ⟨#[99, 50]⟩, .string ⟨#[114, 49]⟩, .string ⟨#[114, 50]⟩, .string ⟨#[117, 49]⟩] 9 (0, 0)) ∧
            W.ownsRow (w2.heap.size + 2) 50 5 v l.length (flatP l) ∧ Took sb (b + 2 + 20 * k + 20) w2 W ∧ W.heap[gg]? = some (.cells p.cells.toArray 50 (0, 0))) :=
            ⟨hG.blk HR3.out.1 (by omega), hG.blk HR3.out.2.1 (by omega), kept_own (w := w3.drew) (base := w2.heap.size + 2) HR3.out.2.2.1 hG (by omega), ⟨hI19.more (by omega), HR3.out.2.2.2.drew.2.then_ hG⟩, k18⟩
          have hsW : w2.heap.size + 1 < W.heap.size := Nat.lt_of_lt_of_le (show w2.heap.size + 1 < w3.heap.size by omega) hG.more
          have E18 := Lib.hid e18
          clear t5 t9 t13 t14 t16 t17 hgg k18 hG hI hI19 hF HR3 t4
          simp only [E18.out]
          clear e18 E18
          obtain ⟨i0, hi, hz0, hz1, hz2⟩ := info_parts pl_info
          have HI := Lib.hid (And.intro hi (And.intro hz0 (And.intro hz1 hz2)))
          clear hi hz0 hz1 hz2
          refine wpList_append_own _ rfl _ _ 26 rfl (w2.heap.size + 2) 50 i0 _ 5 56 Tryz.underlying26 HI.out.1 HI.out.2.1 HI.out.2.2.1 HI.out.2.2.2 rfl (by omega) v l.length (flatP l) rfl HW.out.2.2.1 ⟨gg, 0, none⟩ 1 1 p.cells rfl rfl ?c1 (by intro u hu; simp [Pl.cells] at hu; rcases hu with rfl | rfl | rfl | rfl | rfl <;> rfl) ?c2 ?c3 (by omega) ?_
          case c1 =>
            intro j u hu
            rw [addr_new, cell_of_blk HW.out.2.2.2.2]
            simpa using hu
          case c2 => unfold maxLen; omega
          case c3 => omega
          intro vv w' hown' hg' _
          obtain ⟨g2, cap2, rfl, _⟩ := own_read hown' (by omega)
          have hsw' := hg'.size
          have HF : Hid ((w'.setCell ⟨w2.heap.size, 3, none⟩ (.slice (some ⟨g2, 0, none⟩) (l.length + 1) cap2)).heap[w2.heap.size]? = some (.cells #[.string ⟨#[112]⟩, .int .i64 W0, .int .i64 H0, (.slice (some ⟨g2, 0, none⟩) (l.length + 1) cap2)] 28 (0, 0)) ∧
            (w'.setCell ⟨w2.heap.size, 3, none⟩ (.slice (some ⟨g2, 0, none⟩) (l.length + 1) cap2)).heap[w2.heap.size + 1]? = some (.cells #[.string ⟨#[99, 49]⟩, .string ⟨#[99, 50]⟩, .string ⟨#[114, 49]⟩, .string ⟨#[114, 50]⟩, .string ⟨#[117, 49]⟩] 9 (0, 0)) ∧
            (w'.setCell ⟨w2.heap.size, 3, none⟩ (.slice (some ⟨g2, 0, none⟩) (l.length + 1) cap2)).ownsRow (w2.heap.size + 2) 50 5 (.slice (some ⟨g2, 0, none⟩) (l.length + 1) cap2) (l ++ [p]).length (flatP (l ++ [p])) ∧ Took sb (b + 2 + 20 * k + 20) w2 (w'.setCell ⟨w2.heap.size, 3, none⟩ (.slice (some ⟨g2, 0, none⟩) (l.length + 1) cap2))) := by
            have hr := own_row HW.out.2.2.1
            refine ⟨?_, ?_, ?_, ?_⟩
            · exact blk_set ((hg'.block _ (by omega) (fun e => by have := hr _ e.symm; omega)).trans HW.out.1) (.slice (some ⟨g2, 0, none⟩) (l.length + 1) cap2)
            · exact blk_far ((hg'.block _ (by omega) (fun e => by have := hr _ e.symm; omega)).trans HW.out.2.1) (by simp) (.slice (some ⟨g2, 0, none⟩) (l.length + 1) cap2)
            · have e1 : flatP (l ++ [p]) = flatP l ++ p.cells := by rw [flatP_append]; simp [flatP]
              rw [e1, List.length_append]
              exact own_far hown' (by simp) (.slice (some ⟨g2, 0, none⟩) (l.length + 1) cap2)
            · exact (HW.out.2.2.2.1.grown (by omega) hg' (fun j e => by have := hr _ e; omega)).setCell (by simp) (by omega) _
          have hc3 : w'.cell? ⟨w2.heap.size, 3, none⟩ = some v := by
            have hr := own_row HW.out.2.2.1
            rw [cell_of_blk ((hg'.block _ (by omega) (fun e => by have := hr _ e.symm; omega)).trans HW.out.1)]; rfl
          have hf3 : w'.frozen? ⟨w2.heap.size, 3, none⟩ = false := by
            have hr := own_row HW.out.2.2.1
            exact frozen_of_blk ((hg'.block _ (by omega) (fun e => by have := hr _ e.symm; omega)).trans HW.out.1) _
          have hszF : w2.heap.size + 1 < (w'.setCell ⟨w2.heap.size, 3, none⟩ (.slice (some ⟨g2, 0, none⟩) (l.length + 1) cap2)).heap.size := by simp [World.setCell]; omega
          have HSZ := Lib.hid hszF
          clear hown' hg' hszF
          go_wp2_with fail
          go_roundw
          case rel => exact ⟨k + 1, (.slice (some ⟨g2, 0, none⟩) (l.length + 1) cap2), l ++ [p], by omega, by go_num, by simp; omega, HSZ.out, HF.out.1, HF.out.2.1, HF.out.2.2.1, HF.out.2.2.2.more (by omega)⟩
          case measure => simp [intOf]; omega
    · have HR4 : Hid (wr.heap[w2.heap.size]? = some (.cells #[.string ⟨#[112]⟩, .int .i64 W0, .int .i64 H0, v] 28 (0, 0)) ∧
        wr.ownsRow (w2.heap.size + 2) 50 5 v l.length (flatP l) ∧ Took sb (b + 102) w2 wr) := ⟨HR.out.1, HR.out.2.2.1, HR.out.2.2.2.more (by omega)⟩
      clear HR
      go_wp2_with fail
      refine (flip_any sb (b + 102) _ _ (by omega) (by omega) (by omega) HR4.out.2.2.1).mono ?_
      rintro e w4 ⟨f, rfl, t4⟩
      have hsz4 := t4.size
      have HQ : Hid (w4.heap[w2.heap.size]? = some (.cells #[.string ⟨#[112]⟩, .int .i64 W0, .int .i64 H0, v] 28 (0, 0)) ∧
        w4.ownsRow (w2.heap.size + 2) 50 5 v l.length (flatP l) ∧ Took sb (b + 103) w2 w4) := ⟨t4.blk HR4.out.1 (by omega), kept_own HR4.out.2.1 t4.2 (by omega), HR4.out.2.2.trans t4⟩
      clear t4 HR4
      go_upto_if 45 with (fail)
      go_cut [] (fun wc => w2.heap.size + 1 < wc.heap.size ∧ Hid (PSt w2.heap.size sb (b + 200) w2 wc))
      case first =>
        cases f
        · go_wp2_with fail
          go_meet
          exact ⟨by omega, _, _, _, _, l, by omega, HQ.out.1, HQ.out.2.1, HQ.out.2.2.more (by omega)⟩
        · go_wp2_with fail
          refine (next_any sb (b + 103) _ _ (by omega) (by omega) (by omega) HQ.out.2.2.1).mono ?_
          rintro e w5 ⟨x5, _, _, rfl, t5⟩
          have hsz5 := t5.size
          have HQ5 : Hid (w5.heap[w2.heap.size]? = some (.cells #[.string ⟨#[112]⟩, .int .i64 W0, .int .i64 H0, v] 28 (0, 0)) ∧
            w5.ownsRow (w2.heap.size + 2) 50 5 v l.length (flatP l) ∧ Took sb (b + 104) w2 w5) := ⟨t5.blk HQ.out.1 (by omega), kept_own HQ.out.2.1 t5.2 (by omega), HQ.out.2.2.trans t5⟩
          clear t5 HQ
          cases hx5 : (x5 == 0)
          · obtain ⟨A, c, rfl, hA⟩ := own_form HQ5.out.2.1
            have HA := Lib.hid hA
            clear hA
            obtain ⟨c0, c1, c2, c3⟩ := blk4 HQ5.out.1
            have hk5 : w2.heap.size < w5.heap.size := by omega
            by_cases hl0 : l.length = 0
            · have hd0 : decide (0 < l.length) = false := decide_eq_false (by omega)
              go_wp2_with fail
              go_meet
              exact ⟨by omega, _, _, _, _, l, by omega, HQ5.out.1, HQ5.out.2.1, HQ5.out.2.2.more (by omega)⟩
            · obtain ⟨g, rfl, hgl, hgb⟩ := HA.out (by omega)
              have hd0 : 0 < l.length := by omega
              clear hl0
              go_wp2_with fail
              refine Rg.rgL (Kept sb)
                [(fun vs u => vs 0 = .pointer (some ⟨w2.heap.size, 3, none⟩)), (fun vs u => vs 1 = .slice (some ⟨g, 0, none⟩) l.length c), (fun vs u => vs 2 = .pointer (some ⟨sb, 0, none⟩)), (fun vs u => vs 3 = .pointer (some ⟨w2.heap.size, 3, none⟩)), (fun vs u => vs 4 = .slice (some ⟨g, 0, none⟩) l.length c), (fun vs u => vs 5 = .int .i64 l.length), (fun vs u => ∃ j : Nat, j < l.length ∧ vs 6 = .int .i64 j)]
                [[], [0], [], [], [3], [3, 4], [2, 3, 4, 5]] [some 52, some 53, some 54, some 55, some 56, some 57, some 58, some 59, some 6] [] (fun n W => IsStream W sb (b+104 + n)) [[], [0], [], [], [3], [3, 4], [2, 3, 4, 5], [0, 1, 2, 3, 4, 5, 6], [0, 1, 2, 3, 4, 5, 6, 7]]
                (by kernel_rfl) (by decide) (by kernel_rfl) (by kernel_rfl) (by kernel_rfl) (by kernel_rfl) (by kernel_rfl) (fun _ => Kept.same _ _) (fun _ _ _ h k => h.then_ k) (fun _ _ h => h.more) ?_ (HQ5.out.2.2.1.drew) ?_ ?_
              · intro t ht vs w w' h hE
                simp only [List.mem_cons, List.not_mem_nil, or_false] at ht
                rcases ht with rfl | rfl | rfl | rfl | rfl | rfl | rfl
                · exact h
                · exact h
                · exact h
                · exact h
                · exact h
                · exact h
                · exact h
              ·
                refine Rg.cons 0 1 rfl (Rg.plain rfl ?_) ?_
                · intro vs W n hn hI hG hT hF K hK
                  simp only [Rg.putsD, List.getD_cons_zero, List.getD_cons_succ, Act.put, List.setIfInBounds_toArray, List.set_cons_zero, List.set_cons_succ] at hK ⊢
                  have hn1 : n < 9 := hn
                  clear hn
                  clear hF
                  have H := Lib.hid hK
                  clear hK hT
                  go_simp
                  exact H.out _ _ (Kept.same _ _) rfl (fun h => by cases h) (hI.more (by omega))
                refine Rg.cons 1 2 rfl (Rg.plain rfl ?_) ?_
                · intro vs W n hn hI hG hT hF K hK
                  simp only [Rg.putsD, List.getD_cons_zero, List.getD_cons_succ, Act.put, List.setIfInBounds_toArray, List.set_cons_zero, List.set_cons_succ] at hK ⊢
                  have hn1 : n < 9 := hn
                  clear hn
                  clear hF
                  have t0 : vs 0 = .pointer (some ⟨w2.heap.size, 3, none⟩) := hT 0 (by decide)
                  have hbk := hG.blk HQ5.out.1 (by omega)
                  have cb := cell_of_blk hbk 3
                  simp at cb
                  clear hbk
                  simp only [t0] at hK
                  have H := Lib.hid hK
                  clear hK hT
                  go_simp
                  exact H.out _ _ (Kept.same _ _) rfl (fun h => by cases h) (hI.more (by omega))
                refine Rg.cons 2 3 rfl (Rg.plain rfl ?_) ?_
                · intro vs W n hn hI hG hT hF K hK
                  simp only [Rg.putsD, List.getD_cons_zero, List.getD_cons_succ, Act.put, List.setIfInBounds_toArray, List.set_cons_zero, List.set_cons_succ] at hK ⊢
                  have hn1 : n < 9 := hn
                  clear hn
                  clear hF
                  have H := Lib.hid hK
                  clear hK hT
                  go_simp
                  exact H.out _ _ (Kept.same _ _) rfl (fun h => by cases h) (hI.more (by omega))
                refine Rg.cons 3 4 rfl (Rg.plain rfl ?_) ?_
                · intro vs W n hn hI hG hT hF K hK
                  simp only [Rg.putsD, List.getD_cons_zero, List.getD_cons_succ, Act.put, List.setIfInBounds_toArray, List.set_cons_zero, List.set_cons_succ] at hK ⊢
                  have hn1 : n < 9 := hn
                  clear hn
                  clear hF
                  have H := Lib.hid hK
                  clear hK hT
                  go_simp
                  exact H.out _ _ (Kept.same _ _) rfl (fun h => by cases h) (hI.more (by omega))
                refine Rg.cons 4 5 rfl (Rg.plain rfl ?_) ?_
                · intro vs W n hn hI hG hT hF K hK
                  simp only [Rg.putsD, List.getD_cons_zero, List.getD_cons_succ, Act.put, List.setIfInBounds_toArray, List.set_cons_zero, List.set_cons_succ] at hK ⊢
                  have hn1 : n < 9 := hn
                  clear hn
                  clear hF
                  have t3 : vs 3 = .pointer (some ⟨w2.heap.size, 3, none⟩) := hT 3 (by decide)
                  have hbk := hG.blk HQ5.out.1 (by omega)
                  have cb := cell_of_blk hbk 3
                  simp at cb
                  clear hbk
                  simp only [t3] at hK
                  have H := Lib.hid hK
                  clear hK hT
                  go_simp
                  exact H.out _ _ (Kept.same _ _) rfl (fun h => by cases h) (hI.more (by omega))
                refine Rg.cons 5 6 rfl (Rg.plain rfl ?_) ?_
                · intro vs W n hn hI hG hT hF K hK
                  simp only [Rg.putsD, List.getD_cons_zero, List.getD_cons_succ, Act.put, List.setIfInBounds_toArray, List.set_cons_zero, List.set_cons_succ] at hK ⊢
                  have hn1 : n < 9 := hn
                  clear hn
                  clear hF
                  have t4 : vs 4 = .slice (some ⟨g, 0, none⟩) l.length c := hT 4 (by decide)
                  simp only [t4] at hK
                  have H := Lib.hid hK
                  clear hK hT
                  go_simp
                  exact H.out _ _ (Kept.same _ _) rfl (fun h => by cases h) (hI.more (by omega))
                refine Rg.cons 6 7 rfl (Rg.plain rfl ?_) ?_
                · intro vs W n hn hI hG hT hF K hK
                  simp only [Rg.putsD, List.getD_cons_zero, List.getD_cons_succ, Act.put, List.setIfInBounds_toArray, List.set_cons_zero, List.set_cons_succ] at hK ⊢
                  have hn1 : n < 9 := hn
                  clear hn
                  clear hF
                  have t2 : vs 2 = .pointer (some ⟨sb, 0, none⟩) := hT 2 (by decide)
                  have t5 : vs 5 = .int .i64 l.length := hT 5 (by decide)
                  simp only [t2, t5] at hK
                  have H := Lib.hid hK
                  clear hK hT
                  go_simp
                  refine (next_any sb _ _ _ (by omega) (by omega) (by omega) hI).mono ?_
                  rintro e w1 ⟨x, q0, q1, rfl, ht⟩
                  exact H.out _ _ ht.2 ⟨x.toNat, by omega, by rw [Int.toNat_of_nonneg q0]; rfl⟩ (fun h => by cases h) (ht.1.more (by omega))
                exact Rg.nil
              · intro vs W hG hI hT hF
                have t0 : vs 0 = .pointer (some ⟨w2.heap.size, 3, none⟩) := hT 0 (by decide)
                have t1 : vs 1 = .slice (some ⟨g, 0, none⟩) l.length c := hT 1 (by decide)
                have t2 : vs 2 = .pointer (some ⟨sb, 0, none⟩) := hT 2 (by decide)
                have t3 : vs 3 = .pointer (some ⟨w2.heap.size, 3, none⟩) := hT 3 (by decide)
                have t4 : vs 4 = .slice (some ⟨g, 0, none⟩) l.length c := hT 4 (by decide)
                have t5 : vs 5 = .int .i64 l.length := hT 5 (by decide)
                have t6 : ∃ j : Nat, j < l.length ∧ vs 6 = .int .i64 j := hT 6 (by decide)
                simp only [List.length_cons, List.length_nil, Nat.reduceAdd, List.range, List.range.loop, List.drop_succ_cons, List.drop_zero, Rg.putsD, List.getD_cons_zero, List.getD_cons_succ, Act.put, List.setIfInBounds_toArray, List.set_cons_zero, List.set_cons_succ, t0, t1, t2, t3, t4, t5]
                clear hT t0 t1 t2 t3 t4 t5
                obtain ⟨j, hj, e6⟩ := t6
                have hI7 : IsStream W sb (b + 104 + 7) := hI
                have HW : Hid (W.heap[w2.heap.size]? = some (.cells #[.string ⟨#[112]⟩, .int .i64 W0, .int .i64 H0, .slice (some ⟨g, 0, none⟩) l.length c] 28 (0, 0)) ∧
                  W.ownsRow (w2.heap.size + 2) 50 5 (.slice (some ⟨g, 0, none⟩) l.length c) l.length (flatP l) ∧ Took sb (b + 111) w2 W) :=
                  ⟨hG.blk HQ5.out.1 (by omega), kept_own (w := w5.drew) (base := w2.heap.size + 2) HQ5.out.2.1 hG (by omega), hI7, HQ5.out.2.2.drew.2.then_ hG⟩
                have hsW : w2.heap.size + 1 < W.heap.size := Nat.lt_of_lt_of_le (show w2.heap.size + 1 < w5.heap.size by omega) hG.more
                have hgW : g < W.heap.size := Nat.lt_of_lt_of_le (show g < w5.heap.size by omega) hG.more
                have E1 := Lib.hid e6
                clear hI hI7 hG hF e6 HQ5 c0 c1 c2 c3 hk5 hgl
                simp only [E1.out]
                go_wp2_with fail
                obtain ⟨W6, rfl⟩ : ∃ W6 : World, W6 = W := ⟨_, rfl⟩
                have HI0 : Hid (RowI Pl.cells 50 5 sb (b + 111) g l.length c (w2.heap.size + 2) 0 W6.drew) := ⟨HW.out.2.2.1.drew, l, rfl, HW.out.2.1⟩
                refine Rg.rgL (Kept2 sb g)
                  ((fun vs u => vs 0 = .pointer (some ⟨g, j * 5, none⟩)) :: (fun vs u => vs 1 = .pointer (some ⟨g, j * 5, none⟩)) :: (fun vs u => vs 2 = .pointer (some ⟨g, j * 5, none⟩)) :: (fun vs u => vs 3 = .pointer (some ⟨g, j * 5, none⟩)) :: (fun vs u => vs 4 = .pointer (some ⟨g, j * 5, none⟩)) :: (fun vs u => vs 5 = .pointer (some ⟨sb, 0, none⟩)) :: (fun vs u => vs 6 = .pointer (some ⟨g, j * 5, none⟩)) :: (fun vs u => vs 7 = .pointer (some ⟨g, j * 5, none⟩)) :: (fun vs u => vs 8 = .pointer (some ⟨g, j * 5, none⟩)) :: (fun vs u => ∃ s : ByteArray, vs 9 = .string s) :: (fun vs u => vs 10 = .pointer (some ⟨g, j * 5, none⟩)) :: (fun vs u => vs 11 = .pointer (some ⟨g, j * 5, none⟩)) :: (fun vs u => vs 12 = .pointer (some ⟨g, j * 5, none⟩)) :: (fun vs u => ∃ s : ByteArray, vs 13 = .string s) :: (fun vs u => StrSl W6.heap.size 4 (vs 14) u) :: (fun vs u => ∃ s : ByteArray, vs 15 = .string s) :: (fun vs u => vs 16 = .pointer (some ⟨sb, 0, none⟩)) :: (fun vs u => vs 17 = .pointer (some ⟨g, j * 5, none⟩)) :: (fun vs u => vs 18 = .pointer (some ⟨g, j * 5, none⟩)) :: (fun vs u => vs 19 = .pointer (some ⟨g, j * 5 + 1, none⟩)) :: (fun vs u => ∃ s : ByteArray, vs 20 = .string s) :: (fun vs u => vs 21 = .pointer (some ⟨g, j * 5, none⟩)) :: (fun vs u => vs 22 = .pointer (some ⟨g, j * 5, none⟩)) :: (fun vs u => vs 23 = .pointer (some ⟨g, j * 5 + 1, none⟩)) :: (fun vs u => ∃ s : ByteArray, vs 24 = .string s) :: (fun vs u => StrSl W6.heap.size 3 (vs 25) u) :: (fun vs u => ∃ s : ByteArray, vs 26 = .string s) :: (fun vs u => vs 27 = .pointer (some ⟨sb, 0, none⟩)) :: (fun vs u => vs 28 = .pointer (some ⟨g, j * 5, none⟩)) :: (fun vs u => vs 29 = .pointer (some ⟨g, j * 5, none⟩)) :: (fun vs u => vs 30 = .pointer (some ⟨g, j * 5 + 2, none⟩)) :: (fun vs u => ∃ x : Int, vs 31 = .int .i64 x) :: (fun vs u => vs 32 = .pointer (some ⟨w2.heap.size, 1, none⟩)) :: (fun vs u => vs 33 = .int .i64 W0) :: (fun vs u => ∃ x : Int, vs 34 = .int .i64 x) :: (fun vs u => IntSl W6.heap.size 3 (vs 35) u) :: (fun vs u => ∃ x : Int, vs 36 = .int .i64 x) :: (fun vs u => vs 37 = .pointer (some ⟨sb, 0, none⟩)) :: (fun vs u => vs 38 = .pointer (some ⟨g, j * 5, none⟩)) :: (fun vs u => vs 39 = .pointer (some ⟨g, j * 5, none⟩)) :: (fun vs u => vs 40 = .pointer (some ⟨g, j * 5 + 3, none⟩)) :: (fun vs u => ∃ x : Int, vs 41 = .int .i64 x) :: (fun vs u => vs 42 = .pointer (some ⟨g, j * 5, none⟩)) :: (fun vs u => vs 43 = .pointer (some ⟨g, j * 5, none⟩)) :: (fun vs u => vs 44 = .pointer (some ⟨g, j * 5 + 3, none⟩)) :: (fun vs u => ∃ x : Int, vs 45 = .int .i64 x) :: (fun vs u => IntSl W6.heap.size 4 (vs 46) u) :: (fun vs u => ∃ x : Int, vs 47 = .int .i64 x) :: (fun vs u => vs 48 = .pointer (some ⟨sb, 0, none⟩)) :: (fun vs u => vs 49 = .pointer (some ⟨g, j * 5, none⟩)) :: (fun vs u => vs 50 = .pointer (some ⟨g, j * 5, none⟩)) :: (fun vs u => vs 51 = .pointer (some ⟨g, j * 5 + 4, none⟩)) :: (fun vs u => ∃ x : Int, vs 52 = .int .i64 x) :: (fun vs u => IntSl W6.heap.size 3 (vs 53) u) :: (fun vs u => ∃ x : Int, vs 54 = .int .i64 x) :: (fun vs u => vs 55 = .pointer (some ⟨g, j * 5, none⟩)) :: (fun vs u => vs 56 = .pointer (some ⟨g, j * 5, none⟩)) :: (fun _ _ => True) :: (fun vs u => vs 58 = .pointer (some ⟨g, j * 5, none⟩)) :: (fun vs u => vs 59 = .pointer (some ⟨g, j * 5 + 1, none⟩)) :: (fun _ _ => True) :: (fun vs u => vs 61 = .pointer (some ⟨g, j * 5, none⟩)) :: (fun vs u => vs 62 = .pointer (some ⟨g, j * 5 + 2, none⟩)) :: (fun _ _ => True) :: (fun vs u => vs 64 = .pointer (some ⟨g, j * 5, none⟩)) :: (fun vs u => vs 65 = .pointer (some ⟨g, j * 5 + 3, none⟩)) :: (fun _ _ => True) :: [])
                  ([] :: [] :: [] :: [] :: [] :: [] :: [] :: [6] :: [6, 7] :: [6, 7, 8] :: [] :: [10] :: [10, 11] :: [10, 11, 12] :: [6, 7, 8, 9, 10, 11, 12, 13] :: [5, 6, 7, 8, 9, 10, 11, 12, 13, 14] :: [] :: [] :: [17] :: [17, 18] :: [17, 18, 19] :: [] :: [21] :: [21, 22] :: [21, 22, 23] :: [17, 18, 19, 20, 21, 22, 23, 24] :: [5, 6, 7, 8, 9, 10, 11, 12, 13, 14, 15, 16, 17, 18, 19, 20, 21, 22, 23, 24, 25] :: [] :: [] :: [28] :: [28, 29] :: [28, 29, 30] :: [] :: [32] :: [32, 33] :: [28, 29, 30, 31, 32, 33, 34] :: [5, 6, 7, 8, 9, 10, 11, 12, 13, 14, 15, 16, 17, 18, 19, 20, 21, 22, 23, 24, 25, 26, 27, 28, 29, 30, 31, 32, 33, 34, 35] :: [] :: [] :: [38] :: [38, 39] :: [38, 39, 40] :: [] :: [42] :: [42, 43] :: [42, 43, 44] :: [38, 39, 40, 41, 42, 43, 44, 45] :: [5, 6, 7, 8, 9, 10, 11, 12, 13, 14, 15, 16, 17, 18, 19, 20, 21, 22, 23, 24, 25, 26, 27, 28, 29, 30, 31, 32, 33, 34, 35, 36, 37, 38, 39, 40, 41, 42, 43, 44, 45, 46] :: [] :: [] :: [49] :: [49, 50] :: [49, 50, 51] :: [49, 50, 51, 52] :: [5, 6, 7, 8, 9, 10, 11, 12, 13, 14, 15, 16, 17, 18, 19, 20, 21, 22, 23, 24, 25, 26, 27, 28, 29, 30, 31, 32, 33, 34, 35, 36, 37, 38, 39, 40, 41, 42, 43, 44, 45, 46, 47, 48, 49, 50, 51, 52, 53] :: [0, 5, 6, 7, 8, 9, 10, 11, 12, 13, 14, 15, 16, 17, 18, 19, 20, 21, 22, 23, 24, 25, 26, 27, 28, 29, 30, 31, 32, 33, 34, 35, 36, 37, 38, 39, 40, 41, 42, 43, 44, 45, 46, 47, 48, 49, 50, 51, 52, 53, 54] :: [0, 5, 6, 7, 8, 9, 10, 11, 12, 13, 14, 15, 16, 17, 18, 19, 20, 21, 22, 23, 24, 25, 26, 27, 28, 29, 30, 31, 32, 33, 34, 35, 36, 37, 38, 39, 40, 41, 42, 43, 44, 45, 46, 47, 48, 49, 50, 51, 52, 53, 54, 55] :: [0, 5, 6, 7, 8, 9, 10, 11, 12, 13, 14, 15, 16, 17, 18, 19, 20, 21, 22, 23, 24, 25, 26, 27, 28, 29, 30, 31, 32, 33, 34, 35, 36, 37, 38, 39, 40, 41, 42, 43, 44, 45, 46, 47, 48, 49, 50, 51, 52, 53, 54, 55, 56] :: [0, 1, 5, 6, 7, 8, 9, 10, 11, 12, 13, 14, 15, 16, 17, 18, 19, 20, 21, 22, 23, 24, 25, 26, 27, 28, 29, 30, 31, 32, 33, 34, 35, 36, 37, 38, 39, 40, 41, 42, 43, 44, 45, 46, 47, 48, 49, 50, 51, 52, 53, 54, 55, 56, 57] :: [0, 1, 5, 6, 7, 8, 9, 10, 11, 12, 13, 14, 15, 16, 17, 18, 19, 20, 21, 22, 23, 24, 25, 26, 27, 28, 29, 30, 31, 32, 33, 34, 35, 36, 37, 38, 39, 40, 41, 42, 43, 44, 45, 46, 47, 48, 49, 50, 51, 52, 53, 54, 55, 56, 57, 58] :: [0, 1, 5, 6, 7, 8, 9, 10, 11, 12, 13, 14, 15, 16, 17, 18, 19, 20, 21, 22, 23, 24, 25, 26, 27, 28, 29, 30, 31, 32, 33, 34, 35, 36, 37, 38, 39, 40, 41, 42, 43, 44, 45, 46, 47, 48, 49, 50, 51, 52, 53, 54, 55, 56, 57, 58, 59] :: [0, 1, 2, 5, 6, 7, 8, 9, 10, 11, 12, 13, 14, 15, 16, 17, 18, 19, 20, 21, 22, 23, 24, 25, 26, 27, 28, 29, 30, 31, 32, 33, 34, 35, 36, 37, 38, 39, 40, 41, 42, 43, 44, 45, 46, 47, 48, 49, 50, 51, 52, 53, 54, 55, 56, 57, 58, 59, 60] :: (0 :: 1 :: 2 :: 5 :: 6 :: 7 :: 8 :: 9 :: 10 :: 11 :: 12 :: 13 :: 14 :: 15 :: 16 :: 17 :: 18 :: 19 :: 20 :: 21 :: 22 :: 23 :: 24 :: 25 :: 26 :: 27 :: 28 :: 29 :: 30 :: 31 :: 32 :: 33 :: 34 :: 35 :: 36 :: 37 :: 38 :: 39 :: 40 :: 41 :: 42 :: 43 :: 44 :: 45 :: 46 :: 47 :: 48 :: 49 :: 50 :: 51 :: 52 :: 53 :: 54 :: 55 :: 56 :: 57 :: 58 :: 59 :: 60 :: 61 :: []) :: (0 :: 1 :: 2 :: 5 :: 6 :: 7 :: 8 :: 9 :: 10 :: 11 :: 12 :: 13 :: 14 :: 15 :: 16 :: 17 :: 18 :: 19 :: 20 :: 21 :: 22 :: 23 :: 24 :: 25 :: 26 :: 27 :: 28 :: 29 :: 30 :: 31 :: 32 :: 33 :: 34 :: 35 :: 36 :: 37 :: 38 :: 39 :: 40 :: 41 :: 42 :: 43 :: 44 :: 45 :: 46 :: 47 :: 48 :: 49 :: 50 :: 51 :: 52 :: 53 :: 54 :: 55 :: 56 :: 57 :: 58 :: 59 :: 60 :: 61 :: 62 :: []) :: (0 :: 1 :: 2 :: 3 :: 5 :: 6 :: 7 :: 8 :: 9 :: 10 :: 11 :: 12 :: 13 :: 14 :: 15 :: 16 :: 17 :: 18 :: 19 :: 20 :: 21 :: 22 :: 23 :: 24 :: 25 :: 26 :: 27 :: 28 :: 29 :: 30 :: 31 :: 32 :: 33 :: 34 :: 35 :: 36 :: 37 :: 38 :: 39 :: 40 :: 41 :: 42 :: 43 :: 44 :: 45 :: 46 :: 47 :: 48 :: 49 :: 50 :: 51 :: 52 :: 53 :: 54 :: 55 :: 56 :: 57 :: 58 :: 59 :: 60 :: 61 :: 62 :: 63 :: []) :: (0 :: 1 :: 2 :: 3 :: 5 :: 6 :: 7 :: 8 :: 9 :: 10 :: 11 :: 12 :: 13 :: 14 :: 15 :: 16 :: 17 :: 18 :: 19 :: 20 :: 21 :: 22 :: 23 :: 24 :: 25 :: 26 :: 27 :: 28 :: 29 :: 30 :: 31 :: 32 :: 33 :: 34 :: 35 :: 36 :: 37 :: 38 :: 39 :: 40 :: 41 :: 42 :: 43 :: 44 :: 45 :: 46 :: 47 :: 48 :: 49 :: 50 :: 51 :: 52 :: 53 :: 54 :: 55 :: 56 :: 57 :: 58 :: 59 :: 60 :: 61 :: 62 :: 63 :: 64 :: []) :: (0 :: 1 :: 2 :: 3 :: 5 :: 6 :: 7 :: 8 :: 9 :: 10 :: 11 :: 12 :: 13 :: 14 :: 15 :: 16 :: 17 :: 18 :: 19 :: 20 :: 21 :: 22 :: 23 :: 24 :: 25 :: 26 :: 27 :: 28 :: 29 :: 30 :: 31 :: 32 :: 33 :: 34 :: 35 :: 36 :: 37 :: 38 :: 39 :: 40 :: 41 :: 42 :: 43 :: 44 :: 45 :: 46 :: 47 :: 48 :: 49 :: 50 :: 51 :: 52 :: 53 :: 54 :: 55 :: 56 :: 57 :: 58 :: 59 :: 60 :: 61 :: 62 :: 63 :: 64 :: 65 :: []) :: []) (some 60 :: some 61 :: some 62 :: some 63 :: some 64 :: some 65 :: some 66 :: some 67 :: some 68 :: some 69 :: some 70 :: some 71 :: some 72 :: some 73 :: some 74 :: some 75 :: some 76 :: some 77 :: some 78 :: some 79 :: some 80 :: some 81 :: some 82 :: some 83 :: some 84 :: some 85 :: some 86 :: some 87 :: some 88 :: some 89 :: some 90 :: some 91 :: some 92 :: some 93 :: some 94 :: some 95 :: some 96 :: some 97 :: some 98 :: some 99 :: some 100 :: some 101 :: some 102 :: some 103 :: some 104 :: some 105 :: some 106 :: some 107 :: some 108 :: some 109 :: some 110 :: some 111 :: some 112 :: some 113 :: some 114 :: some 115 :: some 116 :: none :: some 117 :: some 118 :: none :: some 119 :: some 120 :: none :: some 121 :: some 122 :: none :: some 123 :: some 124 :: none :: []) [] (RowI Pl.cells 50 5 sb (b+111) g l.length c (w2.heap.size+2)) ([] :: [] :: [] :: [] :: [] :: [] :: [] :: [6] :: [6, 7] :: [6, 7, 8] :: [] :: [10] :: [10, 11] :: [10, 11, 12] :: [6, 7, 8, 9, 10, 11, 12, 13] :: [5, 6, 7, 8, 9, 10, 11, 12, 13, 14] :: [] :: [] :: [17] :: [17, 18] :: [17, 18, 19] :: [] :: [21] :: [21, 22] :: [21, 22, 23] :: [17, 18, 19, 20, 21, 22, 23, 24] :: [5, 6, 7, 8, 9, 10, 11, 12, 13, 14, 15, 16, 17, 18, 19, 20, 21, 22, 23, 24, 25] :: [] :: [] :: [28] :: [28, 29] :: [28, 29, 30] :: [] :: [32] :: [32, 33] :: [28, 29, 30, 31, 32, 33, 34] :: [5, 6, 7, 8, 9, 10, 11, 12, 13, 14, 15, 16, 17, 18, 19, 20, 21, 22, 23, 24, 25, 26, 27, 28, 29, 30, 31, 32, 33, 34, 35] :: [] :: [] :: [38] :: [38, 39] :: [38, 39, 40] :: [] :: [42] :: [42, 43] :: [42, 43, 44] :: [38, 39, 40, 41, 42, 43, 44, 45] :: [5, 6, 7, 8, 9, 10, 11, 12, 13, 14, 15, 16, 17, 18, 19, 20, 21, 22, 23, 24, 25, 26, 27, 28, 29, 30, 31, 32, 33, 34, 35, 36, 37, 38, 39, 40, 41, 42, 43, 44, 45, 46] :: [] :: [] :: [49] :: [49, 50] :: [49, 50, 51] :: [49, 50, 51, 52] :: [5, 6, 7, 8, 9, 10, 11, 12, 13, 14, 15, 16, 17, 18, 19, 20, 21, 22, 23, 24, 25, 26, 27, 28, 29, 30, 31, 32, 33, 34, 35, 36, 37, 38, 39, 40, 41, 42, 43, 44, 45, 46, 47, 48, 49, 50, 51, 52, 53] :: [0, 5, 6, 7, 8, 9, 10, 11, 12, 13, 14, 15, 16, 17, 18, 19, 20, 21, 22, 23, 24, 25, 26, 27, 28, 29, 30, 31, 32, 33, 34, 35, 36, 37, 38, 39, 40, 41, 42, 43, 44, 45, 46, 47, 48, 49, 50, 51, 52, 53, 54] :: [0, 5, 6, 7, 8, 9, 10, 11, 12, 13, 14, 15, 16, 17, 18, 19, 20, 21, 22, 23, 24, 25, 26, 27, 28, 29, 30, 31, 32, 33, 34, 35, 36, 37, 38, 39, 40, 41, 42, 43, 44, 45, 46, 47, 48, 49, 50, 51, 52, 53, 54, 55] :: [0, 5, 6, 7, 8, 9, 10, 11, 12, 13, 14, 15, 16, 17, 18, 19, 20, 21, 22, 23, 24, 25, 26, 27, 28, 29, 30, 31, 32, 33, 34, 35, 36, 37, 38, 39, 40, 41, 42, 43, 44, 45, 46, 47, 48, 49, 50, 51, 52, 53, 54, 55, 56] :: [0, 1, 5, 6, 7, 8, 9, 10, 11, 12, 13, 14, 15, 16, 17, 18, 19, 20, 21, 22, 23, 24, 25, 26, 27, 28, 29, 30, 31, 32, 33, 34, 35, 36, 37, 38, 39, 40, 41, 42, 43, 44, 45, 46, 47, 48, 49, 50, 51, 52, 53, 54, 55, 56, 57] :: [0, 1, 5, 6, 7, 8, 9, 10, 11, 12, 13, 14, 15, 16, 17, 18, 19, 20, 21, 22, 23, 24, 25, 26, 27, 28, 29, 30, 31, 32, 33, 34, 35, 36, 37, 38, 39, 40, 41, 42, 43, 44, 45, 46, 47, 48, 49, 50, 51, 52, 53, 54, 55, 56, 57, 58] :: [0, 1, 5, 6, 7, 8, 9, 10, 11, 12, 13, 14, 15, 16, 17, 18, 19, 20, 21, 22, 23, 24, 25, 26, 27, 28, 29, 30, 31, 32, 33, 34, 35, 36, 37, 38, 39, 40, 41, 42, 43, 44, 45, 46, 47, 48, 49, 50, 51, 52, 53, 54, 55, 56, 57, 58, 59] :: [0, 1, 2, 5, 6, 7, 8, 9, 10, 11, 12, 13, 14, 15, 16, 17, 18, 19, 20, 21, 22, 23, 24, 25, 26, 27, 28, 29, 30, 31, 32, 33, 34, 35, 36, 37, 38, 39, 40, 41, 42, 43, 44, 45, 46, 47, 48, 49, 50, 51, 52, 53, 54, 55, 56, 57, 58, 59, 60] :: (0 :: 1 :: 2 :: 5 :: 6 :: 7 :: 8 :: 9 :: 10 :: 11 :: 12 :: 13 :: 14 :: 15 :: 16 :: 17 :: 18 :: 19 :: 20 :: 21 :: 22 :: 23 :: 24 :: 25 :: 26 :: 27 :: 28 :: 29 :: 30 :: 31 :: 32 :: 33 :: 34 :: 35 :: 36 :: 37 :: 38 :: 39 :: 40 :: 41 :: 42 :: 43 :: 44 :: 45 :: 46 :: 47 :: 48 :: 49 :: 50 :: 51 :: 52 :: 53 :: 54 :: 55 :: 56 :: 57 :: 58 :: 59 :: 60 :: 61 :: []) :: (0 :: 1 :: 2 :: 5 :: 6 :: 7 :: 8 :: 9 :: 10 :: 11 :: 12 :: 13 :: 14 :: 15 :: 16 :: 17 :: 18 :: 19 :: 20 :: 21 :: 22 :: 23 :: 24 :: 25 :: 26 :: 27 :: 28 :: 29 :: 30 :: 31 :: 32 :: 33 :: 34 :: 35 :: 36 :: 37 :: 38 :: 39 :: 40 :: 41 :: 42 :: 43 :: 44 :: 45 :: 46 :: 47 :: 48 :: 49 :: 50 :: 51 :: 52 :: 53 :: 54 :: 55 :: 56 :: 57 :: 58 :: 59 :: 60 :: 61 :: 62 :: []) :: (0 :: 1 :: 2 :: 3 :: 5 :: 6 :: 7 :: 8 :: 9 :: 10 :: 11 :: 12 :: 13 :: 14 :: 15 :: 16 :: 17 :: 18 :: 19 :: 20 :: 21 :: 22 :: 23 :: 24 :: 25 :: 26 :: 27 :: 28 :: 29 :: 30 :: 31 :: 32 :: 33 :: 34 :: 35 :: 36 :: 37 :: 38 :: 39 :: 40 :: 41 :: 42 :: 43 :: 44 :: 45 :: 46 :: 47 :: 48 :: 49 :: 50 :: 51 :: 52 :: 53 :: 54 :: 55 :: 56 :: 57 :: 58 :: 59 :: 60 :: 61 :: 62 :: 63 :: []) :: (0 :: 1 :: 2 :: 3 :: 5 :: 6 :: 7 :: 8 :: 9 :: 10 :: 11 :: 12 :: 13 :: 14 :: 15 :: 16 :: 17 :: 18 :: 19 :: 20 :: 21 :: 22 :: 23 :: 24 :: 25 :: 26 :: 27 :: 28 :: 29 :: 30 :: 31 :: 32 :: 33 :: 34 :: 35 :: 36 :: 37 :: 38 :: 39 :: 40 :: 41 :: 42 :: 43 :: 44 :: 45 :: 46 :: 47 :: 48 :: 49 :: 50 :: 51 :: 52 :: 53 :: 54 :: 55 :: 56 :: 57 :: 58 :: 59 :: 60 :: 61 :: 62 :: 63 :: 64 :: []) :: (0 :: 1 :: 2 :: 3 :: 5 :: 6 :: 7 :: 8 :: 9 :: 10 :: 11 :: 12 :: 13 :: 14 :: 15 :: 16 :: 17 :: 18 :: 19 :: 20 :: 21 :: 22 :: 23 :: 24 :: 25 :: 26 :: 27 :: 28 :: 29 :: 30 :: 31 :: 32 :: 33 :: 34 :: 35 :: 36 :: 37 :: 38 :: 39 :: 40 :: 41 :: 42 :: 43 :: 44 :: 45 :: 46 :: 47 :: 48 :: 49 :: 50 :: 51 :: 52 :: 53 :: 54 :: 55 :: 56 :: 57 :: 58 :: 59 :: 60 :: 61 :: 62 :: 63 :: 64 :: 65 :: []) :: (0 :: 1 :: 2 :: 3 :: 4 :: 5 :: 6 :: 7 :: 8 :: 9 :: 10 :: 11 :: 12 :: 13 :: 14 :: 15 :: 16 :: 17 :: 18 :: 19 :: 20 :: 21 :: 22 :: 23 :: 24 :: 25 :: 26 :: 27 :: 28 :: 29 :: 30 :: 31 :: 32 :: 33 :: 34 :: 35 :: 36 :: 37 :: 38 :: 39 :: 40 :: 41 :: 42 :: 43 :: 44 :: 45 :: 46 :: 47 :: 48 :: 49 :: 50 :: 51 :: 52 :: 53 :: 54 :: 55 :: 56 :: 57 :: 58 :: 59 :: 60 :: 61 :: 62 :: 63 :: 64 :: 65 :: 66 :: []) :: (0 :: 1 :: 2 :: 3 :: 4 :: 5 :: 6 :: 7 :: 8 :: 9 :: 10 :: 11 :: 12 :: 13 :: 14 :: 15 :: 16 :: 17 :: 18 :: 19 :: 20 :: 21 :: 22 :: 23 :: 24 :: 25 :: 26 :: 27 :: 28 :: 29 :: 30 :: 31 :: 32 :: 33 :: 34 :: 35 :: 36 :: 37 :: 38 :: 39 :: 40 :: 41 :: 42 :: 43 :: 44 :: 45 :: 46 :: 47 :: 48 :: 49 :: 50 :: 51 :: 52 :: 53 :: 54 :: 55 :: 56 :: 57 :: 58 :: 59 :: 60 :: 61 :: 62 :: 63 :: 64 :: 65 :: 66 :: 67 :: []) :: (0 :: 1 :: 2 :: 3 :: 4 :: 5 :: 6 :: 7 :: 8 :: 9 :: 10 :: 11 :: 12 :: 13 :: 14 :: 15 :: 16 :: 17 :: 18 :: 19 :: 20 :: 21 :: 22 :: 23 :: 24 :: 25 :: 26 :: 27 :: 28 :: 29 :: 30 :: 31 :: 32 :: 33 :: 34 :: 35 :: 36 :: 37 :: 38 :: 39 :: 40 :: 41 :: 42 :: 43 :: 44 :: 45 :: 46 :: 47 :: 48 :: 49 :: 50 :: 51 :: 52 :: 53 :: 54 :: 55 :: 56 :: 57 :: 58 :: 59 :: 60 :: 61 :: 62 :: 63 :: 64 :: 65 :: 66 :: 67 :: 68 :: []) :: [])
                  (by kernel_rfl) (by decide) (by kernel_rfl) (by kernel_rfl) (by kernel_rfl) (by kernel_rfl) (by kernel_rfl) (fun _ => Kept2.same _ _ _) (fun _ _ _ h k => h.then_ k) (fun _ _ h => h.more) ?_ (HI0.out) ?_ ?_
                · intro t ht vs w w' h hE
                  simp only [List.mem_cons, List.not_mem_nil, or_false] at ht
                  rcases ht with rfl | rfl | rfl | rfl | rfl | rfl | rfl | rfl | rfl | rfl | rfl | rfl | rfl | rfl | rfl | rfl | rfl | rfl | rfl | rfl | rfl | rfl | rfl | rfl | rfl | rfl | rfl | rfl | rfl | rfl | rfl | rfl | rfl | rfl | rfl | rfl | rfl | rfl | rfl | rfl | rfl | rfl | rfl | rfl | rfl | rfl | rfl | rfl | rfl | rfl | rfl | rfl | rfl | rfl | rfl | rfl | rfl | rfl | rfl | rfl | rfl | rfl | rfl | rfl | rfl | rfl | rfl
                  · exact h
                  · exact h
                  · exact h
                  · exact h
                  · exact h
                  · exact h
                  · exact h
                  · exact h
                  · exact h
                  · exact h
                  · exact h
                  · exact h
                  · exact h
                  · exact h
                  · exact h.kept2 hE (by omega) (by omega)
                  · exact h
                  · exact h
                  · exact h
                  · exact h
                  · exact h
                  · exact h
                  · exact h
                  · exact h
                  · exact h
                  · exact h
                  · exact h.kept2 hE (by omega) (by omega)
                  · exact h
                  · exact h
                  · exact h
                  · exact h
                  · exact h
                  · exact h
                  · exact h
                  · exact h
                  · exact h
                  · exact h.kept2 hE (by omega) (by omega)
                  · exact h
                  · exact h
                  · exact h
                  · exact h
                  · exact h
                  · exact h
                  · exact h
                  · exact h
                  · exact h
                  · exact h
                  · exact h.kept2 hE (by omega) (by omega)
                  · exact h
                  · exact h
                  · exact h
                  · exact h
                  · exact h
                  · exact h
                  · exact h.kept2 hE (by omega) (by omega)
                  · exact h
                  · exact h
                  · exact h
                  · exact h
                  · exact h
                  · exact h
                  · exact h
                  · exact h
                  · exact h
                  · exact h
                  · exact h
                  · exact h
                  · exact h
                ·
                  refine Rg.cons 0 1 rfl (Rg.plain rfl ?_) ?_
                  · intro vs W n hn hI hG hT hF K hK
                    simp only [Rg.putsD, List.getD_cons_zero, List.getD_cons_succ, Act.put, List.setIfInBounds_toArray, List.set_cons_zero, List.set_cons_succ] at hK ⊢
                    have hn1 : n < 70 := hn
                    clear hn
                    clear hF
                    have H := Lib.hid hK
                    clear hK hT
                    go_simp
                    exact H.out _ _ (Kept2.same _ _ _) rfl (fun h => by cases h) hI.step
                  refine Rg.cons 1 2 rfl (Rg.plain rfl ?_) ?_
                  · intro vs W n hn hI hG hT hF K hK
                    simp only [Rg.putsD, List.getD_cons_zero, List.getD_cons_succ, Act.put, List.setIfInBounds_toArray, List.set_cons_zero, List.set_cons_succ] at hK ⊢
                    have hn1 : n < 70 := hn
                    clear hn
                    clear hF
                    have H := Lib.hid hK
                    clear hK hT
                    go_simp
                    exact H.out _ _ (Kept2.same _ _ _) rfl (fun h => by cases h) hI.step
                  refine Rg.cons 2 3 rfl (Rg.plain rfl ?_) ?_
                  · intro vs W n hn hI hG hT hF K hK
                    simp only [Rg.putsD, List.getD_cons_zero, List.getD_cons_succ, Act.put, List.setIfInBounds_toArray, List.set_cons_zero, List.set_cons_succ] at hK ⊢
                    have hn1 : n < 70 := hn
                    clear hn
                    clear hF
                    have H := Lib.hid hK
                    clear hK hT
                    go_simp
                    exact H.out _ _ (Kept2.same _ _ _) rfl (fun h => by cases h) hI.step
                  refine Rg.cons 3 4 rfl (Rg.plain rfl ?_) ?_
                  · intro vs W n hn hI hG hT hF K hK
                    simp only [Rg.putsD, List.getD_cons_zero, List.getD_cons_succ, Act.put, List.setIfInBounds_toArray, List.set_cons_zero, List.set_cons_succ] at hK ⊢
                    have hn1 : n < 70 := hn
                    clear hn
                    clear hF
                    have H := Lib.hid hK
                    clear hK hT
                    go_simp
                    exact H.out _ _ (Kept2.same _ _ _) rfl (fun h => by cases h) hI.step
                  refine Rg.cons 4 5 rfl (Rg.plain rfl ?_) ?_
                  · intro vs W n hn hI hG hT hF K hK
                    simp only [Rg.putsD, List.getD_cons_zero, List.getD_cons_succ, Act.put, List.setIfInBounds_toArray, List.set_cons_zero, List.set_cons_succ] at hK ⊢
                    have hn1 : n < 70 := hn
                    clear hn
                    clear hF
                    have H := Lib.hid hK
                    clear hK hT
                    go_simp
                    exact H.out _ _ (Kept2.same _ _ _) rfl (fun h => by cases h) hI.step
                  refine Rg.cons 5 6 rfl (Rg.plain rfl ?_) ?_
                  · intro vs W n hn hI hG hT hF K hK
                    simp only [Rg.putsD, List.getD_cons_zero, List.getD_cons_succ, Act.put, List.setIfInBounds_toArray, List.set_cons_zero, List.set_cons_succ] at hK ⊢
                    have hn1 : n < 70 := hn
                    clear hn
                    clear hF
                    have H := Lib.hid hK
                    clear hK hT
                    go_simp
                    exact H.out _ _ (Kept2.same _ _ _) rfl (fun h => by cases h) hI.step
                  refine Rg.cons 6 7 rfl (Rg.plain rfl ?_) ?_
                  · intro vs W n hn hI hG hT hF K hK
                    simp only [Rg.putsD, List.getD_cons_zero, List.getD_cons_succ, Act.put, List.setIfInBounds_toArray, List.set_cons_zero, List.set_cons_succ] at hK ⊢
                    have hn1 : n < 70 := hn
                    clear hn
                    clear hF
                    have H := Lib.hid hK
                    clear hK hT
                    go_simp
                    exact H.out _ _ (Kept2.same _ _ _) rfl (fun h => by cases h) hI.step
                  refine Rg.cons 7 8 rfl (Rg.plain rfl ?_) ?_
                  · intro vs W n hn hI hG hT hF K hK
                    simp only [Rg.putsD, List.getD_cons_zero, List.getD_cons_succ, Act.put, List.setIfInBounds_toArray, List.set_cons_zero, List.set_cons_succ] at hK ⊢
                    have hn1 : n < 70 := hn
                    clear hn
                    clear hF
                    have t6 : vs 6 = .pointer (some ⟨g, j * 5, none⟩) := hT 6 (by decide)
                    simp only [t6] at hK
                    have H := Lib.hid hK
                    clear hK hT
                    go_simp
                    exact H.out _ _ (Kept2.same _ _ _) rfl (fun h => by cases h) hI.step
                  refine Rg.cons 8 9 rfl (Rg.plain rfl ?_) ?_
                  · intro vs W n hn hI hG hT hF K hK
                    simp only [Rg.putsD, List.getD_cons_zero, List.getD_cons_succ, Act.put, List.setIfInBounds_toArray, List.set_cons_zero, List.set_cons_succ] at hK ⊢
                    have hn1 : n < 70 := hn
                    clear hn
                    clear hF
                    have t7 : vs 7 = .pointer (some ⟨g, j * 5, none⟩) := hT 7 (by decide)
                    simp only [t7] at hK
                    have H := Lib.hid hK
                    clear hK hT
                    go_simp
                    exact H.out _ _ (Kept2.same _ _ _) rfl (fun h => by cases h) hI.step
                  refine Rg.cons 9 10 rfl (Rg.plain rfl ?_) ?_
                  · intro vs W n hn hI hG hT hF K hK
                    simp only [Rg.putsD, List.getD_cons_zero, List.getD_cons_succ, Act.put, List.setIfInBounds_toArray, List.set_cons_zero, List.set_cons_succ] at hK ⊢
                    have hn1 : n < 70 := hn
                    clear hn
                    clear hF
                    have t8 : vs 8 = .pointer (some ⟨g, j * 5, none⟩) := hT 8 (by decide)
                    obtain ⟨z1, z2, z3, z4, z5, c0, c1, c2, c3, c4⟩ := pl_row hI rfl hj
                    simp only [t8] at hK
                    have H := Lib.hid hK
                    clear hK hT
                    go_simp
                    exact H.out _ _ (Kept2.same _ _ _) ⟨_, rfl⟩ (fun h => by cases h) hI.step
                  refine Rg.cons 10 11 rfl (Rg.plain rfl ?_) ?_
                  · intro vs W n hn hI hG hT hF K hK
                    simp only [Rg.putsD, List.getD_cons_zero, List.getD_cons_succ, Act.put, List.setIfInBounds_toArray, List.set_cons_zero, List.set_cons_succ] at hK ⊢
                    have hn1 : n < 70 := hn
                    clear hn
                    clear hF
                    have H := Lib.hid hK
                    clear hK hT
                    go_simp
                    exact H.out _ _ (Kept2.same _ _ _) rfl (fun h => by cases h) hI.step
                  refine Rg.cons 11 12 rfl (Rg.plain rfl ?_) ?_
                  · intro vs W n hn hI hG hT hF K hK
                    simp only [Rg.putsD, List.getD_cons_zero, List.getD_cons_succ, Act.put, List.setIfInBounds_toArray, List.set_cons_zero, List.set_cons_succ] at hK ⊢
                    have hn1 : n < 70 := hn
                    clear hn
                    clear hF
                    have t10 : vs 10 = .pointer (some ⟨g, j * 5, none⟩) := hT 10 (by decide)
                    simp only [t10] at hK
                    have H := Lib.hid hK
                    clear hK hT
                    go_simp
                    exact H.out _ _ (Kept2.same _ _ _) rfl (fun h => by cases h) hI.step
                  refine Rg.cons 12 13 rfl (Rg.plain rfl ?_) ?_
                  · intro vs W n hn hI hG hT hF K hK
                    simp only [Rg.putsD, List.getD_cons_zero, List.getD_cons_succ, Act.put, List.setIfInBounds_toArray, List.set_cons_zero, List.set_cons_succ] at hK ⊢
                    have hn1 : n < 70 := hn
                    clear hn
                    clear hF
                    have t11 : vs 11 = .pointer (some ⟨g, j * 5, none⟩) := hT 11 (by decide)
                    simp only [t11] at hK
                    have H := Lib.hid hK
                    clear hK hT
                    go_simp
                    exact H.out _ _ (Kept2.same _ _ _) rfl (fun h => by cases h) hI.step
                  refine Rg.cons 13 14 rfl (Rg.plain rfl ?_) ?_
                  · intro vs W n hn hI hG hT hF K hK
                    simp only [Rg.putsD, List.getD_cons_zero, List.getD_cons_succ, Act.put, List.setIfInBounds_toArray, List.set_cons_zero, List.set_cons_succ] at hK ⊢
                    have hn1 : n < 70 := hn
                    clear hn
                    clear hF
                    have t12 : vs 12 = .pointer (some ⟨g, j * 5, none⟩) := hT 12 (by decide)
                    obtain ⟨z1, z2, z3, z4, z5, c0, c1, c2, c3, c4⟩ := pl_row hI rfl hj
                    simp only [t12] at hK
                    have H := Lib.hid hK
                    clear hK hT
                    go_simp
                    exact H.out _ _ (Kept2.same _ _ _) ⟨_, rfl⟩ (fun h => by cases h) hI.step
                  refine Rg.cons 14 15 rfl (Rg.plain rfl ?_) ?_
                  · intro vs W n hn hI hG hT hF K hK
                    simp only [Rg.putsD, List.getD_cons_zero, List.getD_cons_succ, Act.put, List.setIfInBounds_toArray, List.set_cons_zero, List.set_cons_succ] at hK ⊢
                    have hn1 : n < 70 := hn
                    clear hn
                    clear hF
                    have t9 : ∃ s : ByteArray, vs 9 = .string s := hT 9 (by decide)
                    have t13 : ∃ s : ByteArray, vs 13 = .string s := hT 13 (by decide)
                    obtain ⟨s9, e9⟩ := t9
                    simp only [e9] at hK
                    obtain ⟨s13, e13⟩ := t13
                    simp only [e13] at hK
                    have H := Lib.hid hK
                    clear hK hT
                    go_simp
                    exact H.out _ _ (Kept2.alloc _) (StrSl.new [s9, s13, ⟨#[]⟩, ⟨#[99, 49]⟩] rfl hG.more) (fun h => by cases h) (hI.alloc _)
                  refine Rg.cons 15 16 rfl (Rg.plain rfl ?_) ?_
                  · intro vs W n hn hI hG hT hF K hK
                    simp only [Rg.putsD, List.getD_cons_zero, List.getD_cons_succ, Act.put, List.setIfInBounds_toArray, List.set_cons_zero, List.set_cons_succ] at hK ⊢
                    have hn1 : n < 70 := hn
                    clear hn
                    clear hF
                    have t5 : vs 5 = .pointer (some ⟨sb, 0, none⟩) := hT 5 (by decide)
                    have t14 : StrSl W6.heap.size 4 (vs 14) W := hT 14 (by decide)
                    obtain ⟨b14, xs14, n14, c14, e14, k14⟩ := t14
                    have N14 := Lib.hid (And.intro n14 k14)
                    clear n14 k14
                    simp only [e14] at hK
                    simp only [t5] at hK
                    have H := Lib.hid hK
                    clear hK hT
                    go_simp
                    refine (some_blk N14.out.2 N14.out.1 (by decide) (by decide) (by omega) (by omega) hI.1).mono ?_
                    rintro e w1 ⟨x, _, rfl, ht⟩
                    exact H.out _ _ (.of_took ht) ⟨_, rfl⟩ (fun h => by cases h) (hI.took ht (by omega))
                  refine Rg.cons 16 17 rfl (Rg.plain rfl ?_) ?_
                  · intro vs W n hn hI hG hT hF K hK
                    simp only [Rg.putsD, List.getD_cons_zero, List.getD_cons_succ, Act.put, List.setIfInBounds_toArray, List.set_cons_zero, List.set_cons_succ] at hK ⊢
                    have hn1 : n < 70 := hn
                    clear hn
                    clear hF
                    have H := Lib.hid hK
                    clear hK hT
                    go_simp
                    exact H.out _ _ (Kept2.same _ _ _) rfl (fun h => by cases h) hI.step
                  refine Rg.cons 17 18 rfl (Rg.plain rfl ?_) ?_
                  · intro vs W n hn hI hG hT hF K hK
                    simp only [Rg.putsD, List.getD_cons_zero, List.getD_cons_succ, Act.put, List.setIfInBounds_toArray, List.set_cons_zero, List.set_cons_succ] at hK ⊢
                    have hn1 : n < 70 := hn
                    clear hn
                    clear hF
                    have H := Lib.hid hK
                    clear hK hT
                    go_simp
                    exact H.out _ _ (Kept2.same _ _ _) rfl (fun h => by cases h) hI.step
                  refine Rg.cons 18 19 rfl (Rg.plain rfl ?_) ?_
                  · intro vs W n hn hI hG hT hF K hK
                    simp only [Rg.putsD, List.getD_cons_zero, List.getD_cons_succ, Act.put, List.setIfInBounds_toArray, List.set_cons_zero, List.set_cons_succ] at hK ⊢
                    have hn1 : n < 70 := hn
                    clear hn
                    clear hF
                    have t17 : vs 17 = .pointer (some ⟨g, j * 5, none⟩) := hT 17 (by decide)
                    simp only [t17] at hK
                    have H := Lib.hid hK
                    clear hK hT
                    go_simp
                    exact H.out _ _ (Kept2.same _ _ _) rfl (fun h => by cases h) hI.step
                  refine Rg.cons 19 20 rfl (Rg.plain rfl ?_) ?_
                  · intro vs W n hn hI hG hT hF K hK
                    simp only [Rg.putsD, List.getD_cons_zero, List.getD_cons_succ, Act.put, List.setIfInBounds_toArray, List.set_cons_zero, List.set_cons_succ] at hK ⊢
                    have hn1 : n < 70 := hn
                    clear hn
                    clear hF
                    have t18 : vs 18 = .pointer (some ⟨g, j * 5, none⟩) := hT 18 (by decide)
                    simp only [t18] at hK
                    have H := Lib.hid hK
                    clear hK hT
                    go_simp
                    exact H.out _ _ (Kept2.same _ _ _) rfl (fun h => by cases h) hI.step
                  refine Rg.cons 20 21 rfl (Rg.plain rfl ?_) ?_
                  · intro vs W n hn hI hG hT hF K hK
                    simp only [Rg.putsD, List.getD_cons_zero, List.getD_cons_succ, Act.put, List.setIfInBounds_toArray, List.set_cons_zero, List.set_cons_succ] at hK ⊢
                    have hn1 : n < 70 := hn
                    clear hn
                    clear hF
                    have t19 : vs 19 = .pointer (some ⟨g, j * 5 + 1, none⟩) := hT 19 (by decide)
                    obtain ⟨z1, z2, z3, z4, z5, c0, c1, c2, c3, c4⟩ := pl_row hI rfl hj
                    simp only [t19] at hK
                    have H := Lib.hid hK
                    clear hK hT
                    go_simp
                    exact H.out _ _ (Kept2.same _ _ _) ⟨_, rfl⟩ (fun h => by cases h) hI.step
                  refine Rg.cons 21 22 rfl (Rg.plain rfl ?_) ?_
                  · intro vs W n hn hI hG hT hF K hK
                    simp only [Rg.putsD, List.getD_cons_zero, List.getD_cons_succ, Act.put, List.setIfInBounds_toArray, List.set_cons_zero, List.set_cons_succ] at hK ⊢
                    have hn1 : n < 70 := hn
                    clear hn
                    clear hF
                    have H := Lib.hid hK
                    clear hK hT
                    go_simp
                    exact H.out _ _ (Kept2.same _ _ _) rfl (fun h => by cases h) hI.step
                  refine Rg.cons 22 23 rfl (Rg.plain rfl ?_) ?_
                  · intro vs W n hn hI hG hT hF K hK
                    simp only [Rg.putsD, List.getD_cons_zero, List.getD_cons_succ, Act.put, List.setIfInBounds_toArray, List.set_cons_zero, List.set_cons_succ] at hK ⊢
                    have hn1 : n < 70 := hn
                    clear hn
                    clear hF
                    have t21 : vs 21 = .pointer (some ⟨g, j * 5, none⟩) := hT 21 (by decide)
                    simp only [t21] at hK
                    have H := Lib.hid hK
                    clear hK hT
                    go_simp
                    exact H.out _ _ (Kept2.same _ _ _) rfl (fun h => by cases h) hI.step
                  refine Rg.cons 23 24 rfl (Rg.plain rfl ?_) ?_
                  · intro vs W n hn hI hG hT hF K hK
                    simp only [Rg.putsD, List.getD_cons_zero, List.getD_cons_succ, Act.put, List.setIfInBounds_toArray, List.set_cons_zero, List.set_cons_succ] at hK ⊢
                    have hn1 : n < 70 := hn
                    clear hn
                    clear hF
                    have t22 : vs 22 = .pointer (some ⟨g, j * 5, none⟩) := hT 22 (by decide)
                    simp only [t22] at hK
                    have H := Lib.hid hK
                    clear hK hT
                    go_simp
                    exact H.out _ _ (Kept2.same _ _ _) rfl (fun h => by cases h) hI.step
                  refine Rg.cons 24 25 rfl (Rg.plain rfl ?_) ?_
                  · intro vs W n hn hI hG hT hF K hK
                    simp only [Rg.putsD, List.getD_cons_zero, List.getD_cons_succ, Act.put, List.setIfInBounds_toArray, List.set_cons_zero, List.set_cons_succ] at hK ⊢
                    have hn1 : n < 70 := hn
                    clear hn
                    clear hF
                    have t23 : vs 23 = .pointer (some ⟨g, j * 5 + 1, none⟩) := hT 23 (by decide)
                    obtain ⟨z1, z2, z3, z4, z5, c0, c1, c2, c3, c4⟩ := pl_row hI rfl hj
                    simp only [t23] at hK
                    have H := Lib.hid hK
                    clear hK hT
                    go_simp
                    exact H.out _ _ (Kept2.same _ _ _) ⟨_, rfl⟩ (fun h => by cases h) hI.step
                  refine Rg.cons 25 26 rfl (Rg.plain rfl ?_) ?_
                  · intro vs W n hn hI hG hT hF K hK
                    simp only [Rg.putsD, List.getD_cons_zero, List.getD_cons_succ, Act.put, List.setIfInBounds_toArray, List.set_cons_zero, List.set_cons_succ] at hK ⊢
                    have hn1 : n < 70 := hn
                    clear hn
                    clear hF
                    have t20 : ∃ s : ByteArray, vs 20 = .string s := hT 20 (by decide)
                    have t24 : ∃ s : ByteArray, vs 24 = .string s := hT 24 (by decide)
                    obtain ⟨s20, e20⟩ := t20
                    simp only [e20] at hK
                    obtain ⟨s24, e24⟩ := t24
                    simp only [e24] at hK
                    have H := Lib.hid hK
                    clear hK hT
                    go_simp
                    exact H.out _ _ (Kept2.alloc _) (StrSl.new [s20, s24, ⟨#[]⟩] rfl hG.more) (fun h => by cases h) (hI.alloc _)
                  refine Rg.cons 26 27 rfl (Rg.plain rfl ?_) ?_
                  · intro vs W n hn hI hG hT hF K hK
                    simp only [Rg.putsD, List.getD_cons_zero, List.getD_cons_succ, Act.put, List.setIfInBounds_toArray, List.set_cons_zero, List.set_cons_succ] at hK ⊢
                    have hn1 : n < 70 := hn
                    clear hn
                    clear hF
                    have t16 : vs 16 = .pointer (some ⟨sb, 0, none⟩) := hT 16 (by decide)
                    have t25 : StrSl W6.heap.size 3 (vs 25) W := hT 25 (by decide)
                    obtain ⟨b25, xs25, n25, c25, e25, k25⟩ := t25
                    have N25 := Lib.hid (And.intro n25 k25)
                    clear n25 k25
                    simp only [e25] at hK
                    simp only [t16] at hK
                    have H := Lib.hid hK
                    clear hK hT
                    go_simp
                    refine (some_blk N25.out.2 N25.out.1 (by decide) (by decide) (by omega) (by omega) hI.1).mono ?_
                    rintro e w1 ⟨x, _, rfl, ht⟩
                    exact H.out _ _ (.of_took ht) ⟨_, rfl⟩ (fun h => by cases h) (hI.took ht (by omega))
                  refine Rg.cons 27 28 rfl (Rg.plain rfl ?_) ?_
                  · intro vs W n hn hI hG hT hF K hK
                    simp only [Rg.putsD, List.getD_cons_zero, List.getD_cons_succ, Act.put, List.setIfInBounds_toArray, List.set_cons_zero, List.set_cons_succ] at hK ⊢
                    have hn1 : n < 70 := hn
                    clear hn
                    clear hF
                    have H := Lib.hid hK
                    clear hK hT
                    go_simp
                    exact H.out _ _ (Kept2.same _ _ _) rfl (fun h => by cases h) hI.step
                  refine Rg.cons 28 29 rfl (Rg.plain rfl ?_) ?_
                  · intro vs W n hn hI hG hT hF K hK
                    simp only [Rg.putsD, List.getD_cons_zero, List.getD_cons_succ, Act.put, List.setIfInBounds_toArray, List.set_cons_zero, List.set_cons_succ] at hK ⊢
                    have hn1 : n < 70 := hn
                    clear hn
                    clear hF
                    have H := Lib.hid hK
                    clear hK hT
                    go_simp
                    exact H.out _ _ (Kept2.same _ _ _) rfl (fun h => by cases h) hI.step
                  refine Rg.cons 29 30 rfl (Rg.plain rfl ?_) ?_
                  · intro vs W n hn hI hG hT hF K hK
                    simp only [Rg.putsD, List.getD_cons_zero, List.getD_cons_succ, Act.put, List.setIfInBounds_toArray, List.set_cons_zero, List.set_cons_succ] at hK ⊢
                    have hn1 : n < 70 := hn
                    clear hn
                    clear hF
                    have t28 : vs 28 = .pointer (some ⟨g, j * 5, none⟩) := hT 28 (by decide)
                    simp only [t28] at hK
                    have H := Lib.hid hK
                    clear hK hT
                    go_simp
                    exact H.out _ _ (Kept2.same _ _ _) rfl (fun h => by cases h) hI.step
                  refine Rg.cons 30 31 rfl (Rg.plain rfl ?_) ?_
                  · intro vs W n hn hI hG hT hF K hK
                    simp only [Rg.putsD, List.getD_cons_zero, List.getD_cons_succ, Act.put, List.setIfInBounds_toArray, List.set_cons_zero, List.set_cons_succ] at hK ⊢
                    have hn1 : n < 70 := hn
                    clear hn
                    clear hF
                    have t29 : vs 29 = .pointer (some ⟨g, j * 5, none⟩) := hT 29 (by decide)
                    simp only [t29] at hK
                    have H := Lib.hid hK
                    clear hK hT
                    go_simp
                    exact H.out _ _ (Kept2.same _ _ _) rfl (fun h => by cases h) hI.step
                  refine Rg.cons 31 32 rfl (Rg.plain rfl ?_) ?_
                  · intro vs W n hn hI hG hT hF K hK
                    simp only [Rg.putsD, List.getD_cons_zero, List.getD_cons_succ, Act.put, List.setIfInBounds_toArray, List.set_cons_zero, List.set_cons_succ] at hK ⊢
                    have hn1 : n < 70 := hn
                    clear hn
                    clear hF
                    have t30 : vs 30 = .pointer (some ⟨g, j * 5 + 2, none⟩) := hT 30 (by decide)
                    obtain ⟨z1, z2, z3, z4, z5, c0, c1, c2, c3, c4⟩ := pl_row hI rfl hj
                    simp only [t30] at hK
                    have H := Lib.hid hK
                    clear hK hT
                    go_simp
                    exact H.out _ _ (Kept2.same _ _ _) ⟨_, rfl⟩ (fun h => by cases h) hI.step
                  refine Rg.cons 32 33 rfl (Rg.plain rfl ?_) ?_
                  · intro vs W n hn hI hG hT hF K hK
                    simp only [Rg.putsD, List.getD_cons_zero, List.getD_cons_succ, Act.put, List.setIfInBounds_toArray, List.set_cons_zero, List.set_cons_succ] at hK ⊢
                    have hn1 : n < 70 := hn
                    clear hn
                    clear hF
                    have H := Lib.hid hK
                    clear hK hT
                    go_simp
                    exact H.out _ _ (Kept2.same _ _ _) rfl (fun h => by cases h) hI.step
                  refine Rg.cons 33 34 rfl (Rg.plain rfl ?_) ?_
                  · intro vs W n hn hI hG hT hF K hK
                    simp only [Rg.putsD, List.getD_cons_zero, List.getD_cons_succ, Act.put, List.setIfInBounds_toArray, List.set_cons_zero, List.set_cons_succ] at hK ⊢
                    have hn1 : n < 70 := hn
                    clear hn
                    clear hF
                    have t32 : vs 32 = .pointer (some ⟨w2.heap.size, 1, none⟩) := hT 32 (by decide)
                    have hbk := hG.blk HW.out.1 (by omega) (by omega)
                    have cb := cell_of_blk hbk 1
                    simp at cb
                    clear hbk
                    simp only [t32] at hK
                    have H := Lib.hid hK
                    clear hK hT
                    go_simp
                    exact H.out _ _ (Kept2.same _ _ _) rfl (fun h => by cases h) hI.step
                  refine Rg.cons 34 35 rfl (Rg.plain rfl ?_) ?_
                  · intro vs W n hn hI hG hT hF K hK
                    simp only [Rg.putsD, List.getD_cons_zero, List.getD_cons_succ, Act.put, List.setIfInBounds_toArray, List.set_cons_zero, List.set_cons_succ] at hK ⊢
                    have hn1 : n < 70 := hn
                    clear hn
                    clear hF
                    have t33 : vs 33 = .int .i64 W0 := hT 33 (by decide)
                    simp only [t33] at hK
                    have H := Lib.hid hK
                    clear hK hT
                    go_simp
                    exact H.out _ _ (Kept2.same _ _ _) ⟨_, rfl⟩ (fun h => by cases h) hI.step
                  refine Rg.cons 35 36 rfl (Rg.plain rfl ?_) ?_
                  · intro vs W n hn hI hG hT hF K hK
                    simp only [Rg.putsD, List.getD_cons_zero, List.getD_cons_succ, Act.put, List.setIfInBounds_toArray, List.set_cons_zero, List.set_cons_succ] at hK ⊢
                    have hn1 : n < 70 := hn
                    clear hn
                    clear hF
                    have t31 : ∃ x : Int, vs 31 = .int .i64 x := hT 31 (by decide)
                    have t34 : ∃ x : Int, vs 34 = .int .i64 x := hT 34 (by decide)
                    obtain ⟨x31, e31⟩ := t31
                    simp only [e31] at hK
                    obtain ⟨x34, e34⟩ := t34
                    simp only [e34] at hK
                    have H := Lib.hid hK
                    clear hK hT
                    go_simp
                    exact H.out _ _ (Kept2.alloc _) (IntSl.new [x31, (-1), x34] rfl hG.more) (fun h => by cases h) (hI.alloc _)
                  refine Rg.cons 36 37 rfl (Rg.plain rfl ?_) ?_
                  · intro vs W n hn hI hG hT hF K hK
                    simp only [Rg.putsD, List.getD_cons_zero, List.getD_cons_succ, Act.put, List.setIfInBounds_toArray, List.set_cons_zero, List.set_cons_succ] at hK ⊢
                    have hn1 : n < 70 := hn
                    clear hn
                    clear hF
                    have t27 : vs 27 = .pointer (some ⟨sb, 0, none⟩) := hT 27 (by decide)
                    have t35 : IntSl W6.heap.size 3 (vs 35) W := hT 35 (by decide)
                    obtain ⟨b35, xs35, n35, c35, e35, k35⟩ := t35
                    have N35 := Lib.hid (And.intro n35 k35)
                    clear n35 k35
                    simp only [e35] at hK
                    simp only [t27] at hK
                    have H := Lib.hid hK
                    clear hK hT
                    go_simp
                    refine (pick_blk N35.out.2 N35.out.1 (by decide) (by decide) (by omega) (by omega) hI.1).mono ?_
                    rintro e w1 ⟨x, _, rfl, ht⟩
                    exact H.out _ _ (.of_took ht) ⟨_, rfl⟩ (fun h => by cases h) (hI.took ht (by omega))
                  refine Rg.cons 37 38 rfl (Rg.plain rfl ?_) ?_
                  · intro vs W n hn hI hG hT hF K hK
                    simp only [Rg.putsD, List.getD_cons_zero, List.getD_cons_succ, Act.put, List.setIfInBounds_toArray, List.set_cons_zero, List.set_cons_succ] at hK ⊢
                    have hn1 : n < 70 := hn
                    clear hn
                    clear hF
                    have H := Lib.hid hK
                    clear hK hT
                    go_simp
                    exact H.out _ _ (Kept2.same _ _ _) rfl (fun h => by cases h) hI.step
                  refine Rg.cons 38 39 rfl (Rg.plain rfl ?_) ?_
                  · intro vs W n hn hI hG hT hF K hK
                    simp only [Rg.putsD, List.getD_cons_zero, List.getD_cons_succ, Act.put, List.setIfInBounds_toArray, List.set_cons_zero, List.set_cons_succ] at hK ⊢
                    have hn1 : n < 70 := hn
                    clear hn
                    clear hF
                    have H := Lib.hid hK
                    clear hK hT
                    go_simp
                    exact H.out _ _ (Kept2.same _ _ _) rfl (fun h => by cases h) hI.step
                  refine Rg.cons 39 40 rfl (Rg.plain rfl ?_) ?_
                  · intro vs W n hn hI hG hT hF K hK
                    simp only [Rg.putsD, List.getD_cons_zero, List.getD_cons_succ, Act.put, List.setIfInBounds_toArray, List.set_cons_zero, List.set_cons_succ] at hK ⊢
                    have hn1 : n < 70 := hn
                    clear hn
                    clear hF
                    have t38 : vs 38 = .pointer (some ⟨g, j * 5, none⟩) := hT 38 (by decide)
                    simp only [t38] at hK
                    have H := Lib.hid hK
                    clear hK hT
                    go_simp
                    exact H.out _ _ (Kept2.same _ _ _) rfl (fun h => by cases h) hI.step
                  refine Rg.cons 40 41 rfl (Rg.plain rfl ?_) ?_
                  · intro vs W n hn hI hG hT hF K hK
                    simp only [Rg.putsD, List.getD_cons_zero, List.getD_cons_succ, Act.put, List.setIfInBounds_toArray, List.set_cons_zero, List.set_cons_succ] at hK ⊢
                    have hn1 : n < 70 := hn
                    clear hn
                    clear hF
                    have t39 : vs 39 = .pointer (some ⟨g, j * 5, none⟩) := hT 39 (by decide)
                    simp only [t39] at hK
                    have H := Lib.hid hK
                    clear hK hT
                    go_simp
                    exact H.out _ _ (Kept2.same _ _ _) rfl (fun h => by cases h) hI.step
                  refine Rg.cons 41 42 rfl (Rg.plain rfl ?_) ?_
                  · intro vs W n hn hI hG hT hF K hK
                    simp only [Rg.putsD, List.getD_cons_zero, List.getD_cons_succ, Act.put, List.setIfInBounds_toArray, List.set_cons_zero, List.set_cons_succ] at hK ⊢
                    have hn1 : n < 70 := hn
                    clear hn
                    clear hF
                    have t40 : vs 40 = .pointer (some ⟨g, j * 5 + 3, none⟩) := hT 40 (by decide)
                    obtain ⟨z1, z2, z3, z4, z5, c0, c1, c2, c3, c4⟩ := pl_row hI rfl hj
                    simp only [t40] at hK
                    have H := Lib.hid hK
                    clear hK hT
                    go_simp
                    exact H.out _ _ (Kept2.same _ _ _) ⟨_, rfl⟩ (fun h => by cases h) hI.step
                  refine Rg.cons 42 43 rfl (Rg.plain rfl ?_) ?_
                  · intro vs W n hn hI hG hT hF K hK
                    simp only [Rg.putsD, List.getD_cons_zero, List.getD_cons_succ, Act.put, List.setIfInBounds_toArray, List.set_cons_zero, List.set_cons_succ] at hK ⊢
                    have hn1 : n < 70 := hn
                    clear hn
                    clear hF
                    have H := Lib.hid hK
                    clear hK hT
                    go_simp
                    exact H.out _ _ (Kept2.same _ _ _) rfl (fun h => by cases h) hI.step
                  refine Rg.cons 43 44 rfl (Rg.plain rfl ?_) ?_
                  · intro vs W n hn hI hG hT hF K hK
                    simp only [Rg.putsD, List.getD_cons_zero, List.getD_cons_succ, Act.put, List.setIfInBounds_toArray, List.set_cons_zero, List.set_cons_succ] at hK ⊢
                    have hn1 : n < 70 := hn
                    clear hn
                    clear hF
                    have t42 : vs 42 = .pointer (some ⟨g, j * 5, none⟩) := hT 42 (by decide)
                    simp only [t42] at hK
                    have H := Lib.hid hK
                    clear hK hT
                    go_simp
                    exact H.out _ _ (Kept2.same _ _ _) rfl (fun h => by cases h) hI.step
                  refine Rg.cons 44 45 rfl (Rg.plain rfl ?_) ?_
                  · intro vs W n hn hI hG hT hF K hK
                    simp only [Rg.putsD, List.getD_cons_zero, List.getD_cons_succ, Act.put, List.setIfInBounds_toArray, List.set_cons_zero, List.set_cons_succ] at hK ⊢
                    have hn1 : n < 70 := hn
                    clear hn
                    clear hF
                    have t43 : vs 43 = .pointer (some ⟨g, j * 5, none⟩) := hT 43 (by decide)
                    simp only [t43] at hK
                    have H := Lib.hid hK
                    clear hK hT
                    go_simp
                    exact H.out _ _ (Kept2.same _ _ _) rfl (fun h => by cases h) hI.step
                  refine Rg.cons 45 46 rfl (Rg.plain rfl ?_) ?_
                  · intro vs W n hn hI hG hT hF K hK
                    simp only [Rg.putsD, List.getD_cons_zero, List.getD_cons_succ, Act.put, List.setIfInBounds_toArray, List.set_cons_zero, List.set_cons_succ] at hK ⊢
                    have hn1 : n < 70 := hn
                    clear hn
                    clear hF
                    have t44 : vs 44 = .pointer (some ⟨g, j * 5 + 3, none⟩) := hT 44 (by decide)
                    obtain ⟨z1, z2, z3, z4, z5, c0, c1, c2, c3, c4⟩ := pl_row hI rfl hj
                    simp only [t44] at hK
                    have H := Lib.hid hK
                    clear hK hT
                    go_simp
                    exact H.out _ _ (Kept2.same _ _ _) ⟨_, rfl⟩ (fun h => by cases h) hI.step
                  refine Rg.cons 46 47 rfl (Rg.plain rfl ?_) ?_
                  · intro vs W n hn hI hG hT hF K hK
                    simp only [Rg.putsD, List.getD_cons_zero, List.getD_cons_succ, Act.put, List.setIfInBounds_toArray, List.set_cons_zero, List.set_cons_succ] at hK ⊢
                    have hn1 : n < 70 := hn
                    clear hn
                    clear hF
                    have t41 : ∃ x : Int, vs 41 = .int .i64 x := hT 41 (by decide)
                    have t45 : ∃ x : Int, vs 45 = .int .i64 x := hT 45 (by decide)
                    obtain ⟨x41, e41⟩ := t41
                    simp only [e41] at hK
                    obtain ⟨x45, e45⟩ := t45
                    simp only [e45] at hK
                    have H := Lib.hid hK
                    clear hK hT
                    go_simp
                    exact H.out _ _ (Kept2.alloc _) (IntSl.new [x41, x45, (-1), 4611686018427387904] rfl hG.more) (fun h => by cases h) (hI.alloc _)
                  refine Rg.cons 47 48 rfl (Rg.plain rfl ?_) ?_
                  · intro vs W n hn hI hG hT hF K hK
                    simp only [Rg.putsD, List.getD_cons_zero, List.getD_cons_succ, Act.put, List.setIfInBounds_toArray, List.set_cons_zero, List.set_cons_succ] at hK ⊢
                    have hn1 : n < 70 := hn
                    clear hn
                    clear hF
                    have t37 : vs 37 = .pointer (some ⟨sb, 0, none⟩) := hT 37 (by decide)
                    have t46 : IntSl W6.heap.size 4 (vs 46) W := hT 46 (by decide)
                    obtain ⟨b46, xs46, n46, c46, e46, k46⟩ := t46
                    have N46 := Lib.hid (And.intro n46 k46)
                    clear n46 k46
                    simp only [e46] at hK
                    simp only [t37] at hK
                    have H := Lib.hid hK
                    clear hK hT
                    go_simp
                    refine (pick_blk N46.out.2 N46.out.1 (by decide) (by decide) (by omega) (by omega) hI.1).mono ?_
                    rintro e w1 ⟨x, _, rfl, ht⟩
                    exact H.out _ _ (.of_took ht) ⟨_, rfl⟩ (fun h => by cases h) (hI.took ht (by omega))
                  refine Rg.cons 48 49 rfl (Rg.plain rfl ?_) ?_
                  · intro vs W n hn hI hG hT hF K hK
                    simp only [Rg.putsD, List.getD_cons_zero, List.getD_cons_succ, Act.put, List.setIfInBounds_toArray, List.set_cons_zero, List.set_cons_succ] at hK ⊢
                    have hn1 : n < 70 := hn
                    clear hn
                    clear hF
                    have H := Lib.hid hK
                    clear hK hT
                    go_simp
                    exact H.out _ _ (Kept2.same _ _ _) rfl (fun h => by cases h) hI.step
                  refine Rg.cons 49 50 rfl (Rg.plain rfl ?_) ?_
                  · intro vs W n hn hI hG hT hF K hK
                    simp only [Rg.putsD, List.getD_cons_zero, List.getD_cons_succ, Act.put, List.setIfInBounds_toArray, List.set_cons_zero, List.set_cons_succ] at hK ⊢
                    have hn1 : n < 70 := hn
                    clear hn
                    clear hF
                    have H := Lib.hid hK
                    clear hK hT
                    go_simp
                    exact H.out _ _ (Kept2.same _ _ _) rfl (fun h => by cases h) hI.step
                  refine Rg.cons 50 51 rfl (Rg.plain rfl ?_) ?_
                  · intro vs W n hn hI hG hT hF K hK
                    simp only [Rg.putsD, List.getD_cons_zero, List.getD_cons_succ, Act.put, List.setIfInBounds_toArray, List.set_cons_zero, List.set_cons_succ] at hK ⊢
                    have hn1 : n < 70 := hn
                    clear hn
                    clear hF
                    have t49 : vs 49 = .pointer (some ⟨g, j * 5, none⟩) := hT 49 (by decide)
                    simp only [t49] at hK
                    have H := Lib.hid hK
                    clear hK hT
                    go_simp
                    exact H.out _ _ (Kept2.same _ _ _) rfl (fun h => by cases h) hI.step
                  refine Rg.cons 51 52 rfl (Rg.plain rfl ?_) ?_
                  · intro vs W n hn hI hG hT hF K hK
                    simp only [Rg.putsD, List.getD_cons_zero, List.getD_cons_succ, Act.put, List.setIfInBounds_toArray, List.set_cons_zero, List.set_cons_succ] at hK ⊢
                    have hn1 : n < 70 := hn
                    clear hn
                    clear hF
                    have t50 : vs 50 = .pointer (some ⟨g, j * 5, none⟩) := hT 50 (by decide)
                    simp only [t50] at hK
                    have H := Lib.hid hK
                    clear hK hT
                    go_simp
                    exact H.out _ _ (Kept2.same _ _ _) rfl (fun h => by cases h) hI.step
                  refine Rg.cons 52 53 rfl (Rg.plain rfl ?_) ?_
                  · intro vs W n hn hI hG hT hF K hK
                    simp only [Rg.putsD, List.getD_cons_zero, List.getD_cons_succ, Act.put, List.setIfInBounds_toArray, List.set_cons_zero, List.set_cons_succ] at hK ⊢
                    have hn1 : n < 70 := hn
                    clear hn
                    clear hF
                    have t51 : vs 51 = .pointer (some ⟨g, j * 5 + 4, none⟩) := hT 51 (by decide)
                    obtain ⟨z1, z2, z3, z4, z5, c0, c1, c2, c3, c4⟩ := pl_row hI rfl hj
                    simp only [t51] at hK
                    have H := Lib.hid hK
                    clear hK hT
                    go_simp
                    exact H.out _ _ (Kept2.same _ _ _) ⟨_, rfl⟩ (fun h => by cases h) hI.step
                  refine Rg.cons 53 54 rfl (Rg.plain rfl ?_) ?_
                  · intro vs W n hn hI hG hT hF K hK
                    simp only [Rg.putsD, List.getD_cons_zero, List.getD_cons_succ, Act.put, List.setIfInBounds_toArray, List.set_cons_zero, List.set_cons_succ] at hK ⊢
                    have hn1 : n < 70 := hn
                    clear hn
                    clear hF
                    have t52 : ∃ x : Int, vs 52 = .int .i64 x := hT 52 (by decide)
                    obtain ⟨x52, e52⟩ := t52
                    simp only [e52] at hK
                    have H := Lib.hid hK
                    clear hK hT
                    go_simp
                    exact H.out _ _ (Kept2.alloc _) (IntSl.new [x52, 4, (-1)] rfl hG.more) (fun h => by cases h) (hI.alloc _)
                  refine Rg.cons 54 55 rfl (Rg.plain rfl ?_) ?_
                  · intro vs W n hn hI hG hT hF K hK
                    simp only [Rg.putsD, List.getD_cons_zero, List.getD_cons_succ, Act.put, List.setIfInBounds_toArray, List.set_cons_zero, List.set_cons_succ] at hK ⊢
                    have hn1 : n < 70 := hn
                    clear hn
                    clear hF
                    have t48 : vs 48 = .pointer (some ⟨sb, 0, none⟩) := hT 48 (by decide)
                    have t53 : IntSl W6.heap.size 3 (vs 53) W := hT 53 (by decide)
                    obtain ⟨b53, xs53, n53, c53, e53, k53⟩ := t53
                    have N53 := Lib.hid (And.intro n53 k53)
                    clear n53 k53
                    simp only [e53] at hK
                    simp only [t48] at hK
                    have H := Lib.hid hK
                    clear hK hT
                    go_simp
                    refine (pick_blk N53.out.2 N53.out.1 (by decide) (by decide) (by omega) (by omega) hI.1).mono ?_
                    rintro e w1 ⟨x, _, rfl, ht⟩
                    exact H.out _ _ (.of_took ht) ⟨_, rfl⟩ (fun h => by cases h) (hI.took ht (by omega))
                  refine Rg.cons 55 56 rfl (Rg.plain rfl ?_) ?_
                  · intro vs W n hn hI hG hT hF K hK
                    simp only [Rg.putsD, List.getD_cons_zero, List.getD_cons_succ, Act.put, List.setIfInBounds_toArray, List.set_cons_zero, List.set_cons_succ] at hK ⊢
                    have hn1 : n < 70 := hn
                    clear hn
                    clear hF
                    have t0 : vs 0 = .pointer (some ⟨g, j * 5, none⟩) := hT 0 (by decide)
                    simp only [t0] at hK
                    have H := Lib.hid hK
                    clear hK hT
                    go_simp
                    exact H.out _ _ (Kept2.same _ _ _) rfl (fun h => by cases h) hI.step
                  refine Rg.cons 56 57 rfl (Rg.plain rfl ?_) ?_
                  · intro vs W n hn hI hG hT hF K hK
                    simp only [Rg.putsD, List.getD_cons_zero, List.getD_cons_succ, Act.put, List.setIfInBounds_toArray, List.set_cons_zero, List.set_cons_succ] at hK ⊢
                    have hn1 : n < 70 := hn
                    clear hn
                    clear hF
                    have t55 : vs 55 = .pointer (some ⟨g, j * 5, none⟩) := hT 55 (by decide)
                    simp only [t55] at hK
                    have H := Lib.hid hK
                    clear hK hT
                    go_simp
                    exact H.out _ _ (Kept2.same _ _ _) rfl (fun h => by cases h) hI.step
                  refine Rg.cons 57 58 rfl (Rg.plain rfl ?_) ?_
                  · intro vs W n hn hI hG hT hF K hK
                    simp only [Rg.putsD, List.getD_cons_zero, List.getD_cons_succ, Act.put, List.setIfInBounds_toArray, List.set_cons_zero, List.set_cons_succ] at hK ⊢
                    have hn1 : n < 70 := hn
                    clear hn
                    clear hF
                    have t56 : vs 56 = .pointer (some ⟨g, j * 5, none⟩) := hT 56 (by decide)
                    have t15 : ∃ s : ByteArray, vs 15 = .string s := hT 15 (by decide)
                    obtain ⟨s15, e15⟩ := t15
                    simp only [e15] at hK
                    obtain ⟨z1, z2, z3, z4, z5, c0, c1, c2, c3, c4⟩ := pl_row hI rfl hj
                    have fz := hI.frozen (j * 5)
                    simp only [t56] at hK
                    have H := Lib.hid hK
                    clear hK hT
                    go_simp
                    exact H.out (.bool true) _ ((Kept2.same sb g W).store (p := ⟨g, _, none⟩) rfl _) trivial (fun h => by cases h) (hI.store (j := 0) pl_typ hj (by decide) _ (by omega) (pl_str0 _))
                  refine Rg.cons 58 59 rfl (Rg.plain rfl ?_) ?_
                  · intro vs W n hn hI hG hT hF K hK
                    simp only [Rg.putsD, List.getD_cons_zero, List.getD_cons_succ, Act.put, List.setIfInBounds_toArray, List.set_cons_zero, List.set_cons_succ] at hK ⊢
                    have hn1 : n < 70 := hn
                    clear hn
                    clear hF
                    have t1 : vs 1 = .pointer (some ⟨g, j * 5, none⟩) := hT 1 (by decide)
                    simp only [t1] at hK
                    have H := Lib.hid hK
                    clear hK hT
                    go_simp
                    exact H.out _ _ (Kept2.same _ _ _) rfl (fun h => by cases h) hI.step
                  refine Rg.cons 59 60 rfl (Rg.plain rfl ?_) ?_
                  · intro vs W n hn hI hG hT hF K hK
                    simp only [Rg.putsD, List.getD_cons_zero, List.getD_cons_succ, Act.put, List.setIfInBounds_toArray, List.set_cons_zero, List.set_cons_succ] at hK ⊢
                    have hn1 : n < 70 := hn
                    clear hn
                    clear hF
                    have t58 : vs 58 = .pointer (some ⟨g, j * 5, none⟩) := hT 58 (by decide)
                    simp only [t58] at hK
                    have H := Lib.hid hK
                    clear hK hT
                    go_simp
                    exact H.out _ _ (Kept2.same _ _ _) rfl (fun h => by cases h) hI.step
                  refine Rg.cons 60 61 rfl (Rg.plain rfl ?_) ?_
                  · intro vs W n hn hI hG hT hF K hK
                    simp only [Rg.putsD, List.getD_cons_zero, List.getD_cons_succ, Act.put, List.setIfInBounds_toArray, List.set_cons_zero, List.set_cons_succ] at hK ⊢
                    have hn1 : n < 70 := hn
                    clear hn
                    clear hF
                    have t59 : vs 59 = .pointer (some ⟨g, j * 5 + 1, none⟩) := hT 59 (by decide)
                    have t26 : ∃ s : ByteArray, vs 26 = .string s := hT 26 (by decide)
                    obtain ⟨s26, e26⟩ := t26
                    simp only [e26] at hK
                    obtain ⟨z1, z2, z3, z4, z5, c0, c1, c2, c3, c4⟩ := pl_row hI rfl hj
                    have fz := hI.frozen (j * 5 + 1)
                    simp only [t59] at hK
                    have H := Lib.hid hK
                    clear hK hT
                    go_simp
                    exact H.out (.bool true) _ ((Kept2.same sb g W).store (p := ⟨g, _, none⟩) rfl _) trivial (fun h => by cases h) (hI.store (j := 1) pl_typ hj (by decide) _ (by omega) (pl_str1 _))
                  refine Rg.cons 61 62 rfl (Rg.plain rfl ?_) ?_
                  · intro vs W n hn hI hG hT hF K hK
                    simp only [Rg.putsD, List.getD_cons_zero, List.getD_cons_succ, Act.put, List.setIfInBounds_toArray, List.set_cons_zero, List.set_cons_succ] at hK ⊢
                    have hn1 : n < 70 := hn
                    clear hn
                    clear hF
                    have t2 : vs 2 = .pointer (some ⟨g, j * 5, none⟩) := hT 2 (by decide)
                    simp only [t2] at hK
                    have H := Lib.hid hK
                    clear hK hT
                    go_simp
                    exact H.out _ _ (Kept2.same _ _ _) rfl (fun h => by cases h) hI.step
                  refine Rg.cons 62 63 rfl (Rg.plain rfl ?_) ?_
                  · intro vs W n hn hI hG hT hF K hK
                    simp only [Rg.putsD, List.getD_cons_zero, List.getD_cons_succ, Act.put, List.setIfInBounds_toArray, List.set_cons_zero, List.set_cons_succ] at hK ⊢
                    have hn1 : n < 70 := hn
                    clear hn
                    clear hF
                    have t61 : vs 61 = .pointer (some ⟨g, j * 5, none⟩) := hT 61 (by decide)
                    simp only [t61] at hK
                    have H := Lib.hid hK
                    clear hK hT
                    go_simp
                    exact H.out _ _ (Kept2.same _ _ _) rfl (fun h => by cases h) hI.step
                  refine Rg.cons 63 64 rfl (Rg.plain rfl ?_) ?_
                  · intro vs W n hn hI hG hT hF K hK
                    simp only [Rg.putsD, List.getD_cons_zero, List.getD_cons_succ, Act.put, List.setIfInBounds_toArray, List.set_cons_zero, List.set_cons_succ] at hK ⊢
                    have hn1 : n < 70 := hn
                    clear hn
                    clear hF
                    have t62 : vs 62 = .pointer (some ⟨g, j * 5 + 2, none⟩) := hT 62 (by decide)
                    have t36 : ∃ x : Int, vs 36 = .int .i64 x := hT 36 (by decide)
                    obtain ⟨x36, e36⟩ := t36
                    simp only [e36] at hK
                    obtain ⟨z1, z2, z3, z4, z5, c0, c1, c2, c3, c4⟩ := pl_row hI rfl hj
                    have fz := hI.frozen (j * 5 + 2)
                    simp only [t62] at hK
                    have H := Lib.hid hK
                    clear hK hT
                    go_simp
                    exact H.out (.bool true) _ ((Kept2.same sb g W).store (p := ⟨g, _, none⟩) rfl _) trivial (fun h => by cases h) (hI.store (j := 2) pl_typ hj (by decide) _ (by omega) (pl_int2 _))
                  refine Rg.cons 64 65 rfl (Rg.plain rfl ?_) ?_
                  · intro vs W n hn hI hG hT hF K hK
                    simp only [Rg.putsD, List.getD_cons_zero, List.getD_cons_succ, Act.put, List.setIfInBounds_toArray, List.set_cons_zero, List.set_cons_succ] at hK ⊢
                    have hn1 : n < 70 := hn
                    clear hn
                    clear hF
                    have t3 : vs 3 = .pointer (some ⟨g, j * 5, none⟩) := hT 3 (by decide)
                    simp only [t3] at hK
                    have H := Lib.hid hK
                    clear hK hT
                    go_simp
                    exact H.out _ _ (Kept2.same _ _ _) rfl (fun h => by cases h) hI.step
                  refine Rg.cons 65 66 rfl (Rg.plain rfl ?_) ?_
                  · intro vs W n hn hI hG hT hF K hK
                    simp only [Rg.putsD, List.getD_cons_zero, List.getD_cons_succ, Act.put, List.setIfInBounds_toArray, List.set_cons_zero, List.set_cons_succ] at hK ⊢
                    have hn1 : n < 70 := hn
                    clear hn
                    clear hF
                    have t64 : vs 64 = .pointer (some ⟨g, j * 5, none⟩) := hT 64 (by decide)
                    simp only [t64] at hK
                    have H := Lib.hid hK
                    clear hK hT
                    go_simp
                    exact H.out _ _ (Kept2.same _ _ _) rfl (fun h => by cases h) hI.step
                  refine Rg.cons 66 67 rfl (Rg.plain rfl ?_) ?_
                  · intro vs W n hn hI hG hT hF K hK
                    simp only [Rg.putsD, List.getD_cons_zero, List.getD_cons_succ, Act.put, List.setIfInBounds_toArray, List.set_cons_zero, List.set_cons_succ] at hK ⊢
                    have hn1 : n < 70 := hn
                    clear hn
                    clear hF
                    have t65 : vs 65 = .pointer (some ⟨g, j * 5 + 3, none⟩) := hT 65 (by decide)
                    have t47 : ∃ x : Int, vs 47 = .int .i64 x := hT 47 (by decide)
                    obtain ⟨x47, e47⟩ := t47
                    simp only [e47] at hK
                    obtain ⟨z1, z2, z3, z4, z5, c0, c1, c2, c3, c4⟩ := pl_row hI rfl hj
                    have fz := hI.frozen (j * 5 + 3)
                    simp only [t65] at hK
                    have H := Lib.hid hK
                    clear hK hT
                    go_simp
                    exact H.out (.bool true) _ ((Kept2.same sb g W).store (p := ⟨g, _, none⟩) rfl _) trivial (fun h => by cases h) (hI.store (j := 3) pl_typ hj (by decide) _ (by omega) (pl_int3 _))
                  exact Rg.nil
                · intro vs W hG hI hT hF
                  have t0 : vs 0 = .pointer (some ⟨g, j * 5, none⟩) := hT 0 (by decide)
                  have t1 : vs 1 = .pointer (some ⟨g, j * 5, none⟩) := hT 1 (by decide)
                  have t2 : vs 2 = .pointer (some ⟨g, j * 5, none⟩) := hT 2 (by decide)
                  have t3 : vs 3 = .pointer (some ⟨g, j * 5, none⟩) := hT 3 (by decide)
                  have t4 : vs 4 = .pointer (some ⟨g, j * 5, none⟩) := hT 4 (by decide)
                  have t5 : vs 5 = .pointer (some ⟨sb, 0, none⟩) := hT 5 (by decide)
                  have t6 : vs 6 = .pointer (some ⟨g, j * 5, none⟩) := hT 6 (by decide)
                  have t7 : vs 7 = .pointer (some ⟨g, j * 5, none⟩) := hT 7 (by decide)
                  have t8 : vs 8 = .pointer (some ⟨g, j * 5, none⟩) := hT 8 (by decide)
                  have t9 : ∃ s : ByteArray, vs 9 = .string s := hT 9 (by decide)
                  have t10 : vs 10 = .pointer (some ⟨g, j * 5, none⟩) := hT 10 (by decide)
                  have t11 : vs 11 = .pointer (some ⟨g, j * 5, none⟩) := hT 11 (by decide)
                  have t12 : vs 12 = .pointer (some ⟨g, j * 5, none⟩) := hT 12 (by decide)
                  have t13 : ∃ s : ByteArray, vs 13 = .string s := hT 13 (by decide)
                  have t14 : StrSl W6.heap.size 4 (vs 14) W := hT 14 (by decide)
                  have t15 : ∃ s : ByteArray, vs 15 = .string s := hT 15 (by decide)
                  have t16 : vs 16 = .pointer (some ⟨sb, 0, none⟩) := hT 16 (by decide)
                  have t17 : vs 17 = .pointer (some ⟨g, j * 5, none⟩) := hT 17 (by decide)
                  have t18 : vs 18 = .pointer (some ⟨g, j * 5, none⟩) := hT 18 (by decide)
                  have t19 : vs 19 = .pointer (some ⟨g, j * 5 + 1, none⟩) := hT 19 (by decide)
                  have t20 : ∃ s : ByteArray, vs 20 = .string s := hT 20 (by decide)
                  have t21 : vs 21 = .pointer (some ⟨g, j * 5, none⟩) := hT 21 (by decide)
                  have t22 : vs 22 = .pointer (some ⟨g, j * 5, none⟩) := hT 22 (by decide)
                  have t23 : vs 23 = .pointer (some ⟨g, j * 5 + 1, none⟩) := hT 23 (by decide)
                  have t24 : ∃ s : ByteArray, vs 24 = .string s := hT 24 (by decide)
                  have t25 : StrSl W6.heap.size 3 (vs 25) W := hT 25 (by decide)
                  have t26 : ∃ s : ByteArray, vs 26 = .string s := hT 26 (by decide)
                  have t27 : vs 27 = .pointer (some ⟨sb, 0, none⟩) := hT 27 (by decide)
                  have t28 : vs 28 = .pointer (some ⟨g, j * 5, none⟩) := hT 28 (by decide)
                  have t29 : vs 29 = .pointer (some ⟨g, j * 5, none⟩) := hT 29 (by decide)
                  have t30 : vs 30 = .pointer (some ⟨g, j * 5 + 2, none⟩) := hT 30 (by decide)
                  have t31 : ∃ x : Int, vs 31 = .int .i64 x := hT 31 (by decide)
                  have t32 : vs 32 = .pointer (some ⟨w2.heap.size, 1, none⟩) := hT 32 (by decide)
                  have t33 : vs 33 = .int .i64 W0 := hT 33 (by decide)
                  have t34 : ∃ x : Int, vs 34 = .int .i64 x := hT 34 (by decide)
                  have t35 : IntSl W6.heap.size 3 (vs 35) W := hT 35 (by decide)
                  have t36 : ∃ x : Int, vs 36 = .int .i64 x := hT 36 (by decide)
                  have t37 : vs 37 = .pointer (some ⟨sb, 0, none⟩) := hT 37 (by decide)
                  have t38 : vs 38 = .pointer (some ⟨g, j * 5, none⟩) := hT 38 (by decide)
                  have t39 : vs 39 = .pointer (some ⟨g, j * 5, none⟩) := hT 39 (by decide)
                  have t40 : vs 40 = .pointer (some ⟨g, j * 5 + 3, none⟩) := hT 40 (by decide)
                  have t41 : ∃ x : Int, vs 41 = .int .i64 x := hT 41 (by decide)
                  have t42 : vs 42 = .pointer (some ⟨g, j * 5, none⟩) := hT 42 (by decide)
                  have t43 : vs 43 = .pointer (some ⟨g, j * 5, none⟩) := hT 43 (by decide)
                  have t44 : vs 44 = .pointer (some ⟨g, j * 5 + 3, none⟩) := hT 44 (by decide)
                  have t45 : ∃ x : Int, vs 45 = .int .i64 x := hT 45 (by decide)
                  have t46 : IntSl W6.heap.size 4 (vs 46) W := hT 46 (by decide)
                  have t47 : ∃ x : Int, vs 47 = .int .i64 x := hT 47 (by decide)
                  have t48 : vs 48 = .pointer (some ⟨sb, 0, none⟩) := hT 48 (by decide)
                  have t49 : vs 49 = .pointer (some ⟨g, j * 5, none⟩) := hT 49 (by decide)
                  have t50 : vs 50 = .pointer (some ⟨g, j * 5, none⟩) := hT 50 (by decide)
                  have t51 : vs 51 = .pointer (some ⟨g, j * 5 + 4, none⟩) := hT 51 (by decide)
                  have t52 : ∃ x : Int, vs 52 = .int .i64 x := hT 52 (by decide)
                  have t53 : IntSl W6.heap.size 3 (vs 53) W := hT 53 (by decide)
                  have t54 : ∃ x : Int, vs 54 = .int .i64 x := hT 54 (by decide)
                  have t55 : vs 55 = .pointer (some ⟨g, j * 5, none⟩) := hT 55 (by decide)
                  have t56 : vs 56 = .pointer (some ⟨g, j * 5, none⟩) := hT 56 (by decide)
                  have t58 : vs 58 = .pointer (some ⟨g, j * 5, none⟩) := hT 58 (by decide)
                  have t59 : vs 59 = .pointer (some ⟨g, j * 5 + 1, none⟩) := hT 59 (by decide)
                  have t61 : vs 61 = .pointer (some ⟨g, j * 5, none⟩) := hT 61 (by decide)
                  have t62 : vs 62 = .pointer (some ⟨g, j * 5 + 2, none⟩) := hT 62 (by decide)
                  have t64 : vs 64 = .pointer (some ⟨g, j * 5, none⟩) := hT 64 (by decide)
                  have t65 : vs 65 = .pointer (some ⟨g, j * 5 + 3, none⟩) := hT 65 (by decide)
                  simp only [List.length_cons, List.length_nil, Nat.reduceAdd, List.range, List.range.loop, List.drop_succ_cons, List.drop_zero, Rg.putsD, List.getD_cons_zero, List.getD_cons_succ, Act.put, List.setIfInBounds_toArray, List.set_cons_zero, List.set_cons_succ, t0, t1, t2, t3, t4, t5, t6, t7, t8, t10, t11, t12, t16, t17, t18, t19, t21, t22, t23, t27, t28, t29, t30, t32, t33, t37, t38, t39, t40, t42, t43, t44, t48, t49, t50, t51, t55, t56, t58, t59, t61, t62, t64, t65]
                  clear hT t0 t1 t2 t3 t4 t5 t6 t7 t8 t10 t11 t12 t16 t17 t18 t19 t21 t22 t23 t27 t28 t29 t30 t32 t33 t37 t38 t39 t40 t42 t43 t44 t48 t49 t50 t51 t55 t56 t58 t59 t61 t62 t64 t65
                  obtain ⟨x54, e54⟩ := t54
                  have hIv : RowI Pl.cells 50 5 sb (b + 111) g l.length c (w2.heap.size + 2) 67 W := hI
                  obtain ⟨z1, z2, z3, z4, z5, c0, c1, c2, c3, c4⟩ := pl_row hIv rfl hj
                  have fz := hIv.frozen (j * 5 + 4)
                  have hst := hIv.store pl_typ hj (j := 4) (by decide) (.int .i64 x54) (by omega) (pl_int4 x54)
                  have HW2 := Lib.hid (And.intro hst (And.intro (hG.blk HW.out.1 (by omega) (by omega)) (kept_of2 HW.out.2.2.drew.2 hG (by omega))))
                  have hsW2 : w2.heap.size + 1 < W.heap.size := Nat.lt_of_lt_of_le (show w2.heap.size + 1 < W6.heap.size by omega) hG.more
                  have E54 := Lib.hid e54
                  clear hst hI hIv hG hF e54 HW HI0 t9 t13 t14 t15 t20 t24 t25 t26 t31 t34 t35 t36 t41 t45 t46 t47 t52 t53
                  simp only [E54.out]
                  go_wp2_with fail
                  go_meet
                  obtain ⟨hs2, l2, hl2, ho2⟩ := HW2.out.1
                  exact ⟨by simp [World.setCell]; omega, _, _, _, _, l2, by omega, blk_far HW2.out.2.1 (by simp; omega) _, by rw [hl2]; exact ho2, hs2.more (by omega), HW2.out.2.2.store (.inr (by simp; omega)) _⟩
          · go_wp2_with fail
            refine Rg.rgL (Kept sb)
              [(fun vs u => vs 0 = .pointer (some ⟨sb, 0, none⟩)), (fun vs u => StrSl w5.heap.size 3 (vs 1) u), (fun vs u => ∃ s : ByteArray, vs 2 = .string s), (fun vs u => vs 3 = .pointer (some ⟨sb, 0, none⟩)), (fun vs u => vs 4 = .pointer (some ⟨w2.heap.size, 1, none⟩)), (fun vs u => vs 5 = .int .i64 W0), (fun vs u => IntSl w5.heap.size 3 (vs 6) u), (fun vs u => ∃ x : Int, vs 7 = .int .i64 x), (fun vs u => vs 8 = .pointer (some ⟨sb, 0, none⟩)), (fun vs u => vs 9 = .pointer (some ⟨w2.heap.size, 2, none⟩)), (fun vs u => vs 10 = .int .i64 H0), (fun vs u => IntSl w5.heap.size 3 (vs 11) u), (fun vs u => ∃ x : Int, vs 12 = .int .i64 x), (fun vs u => vs 13 = .pointer (some ⟨w2.heap.size, 0, none⟩))]
              [[], [], [0, 1], [], [], [4], [4, 5], [0, 1, 2, 3, 4, 5, 6], [], [], [9], [9, 10], [0, 1, 2, 3, 4, 5, 6, 7, 8, 9, 10, 11], [0, 1, 2, 4, 5, 9, 10]] [some 127, some 128, some 129, some 130, some 131, some 132, some 133, some 134, some 135, some 136, some 137, some 138, some 139, some 140, none, some 141, none, some 142, none] [] (fun n W => IsStream W sb (b+104 + n)) [[], [], [0, 1], [], [], [4], [4, 5], [0, 1, 2, 3, 4, 5, 6], [], [], [9], [9, 10], [0, 1, 2, 3, 4, 5, 6, 7, 8, 9, 10, 11], [0, 1, 2, 4, 5, 9, 10], [0, 1, 2, 3, 4, 5, 6, 7, 8, 9, 10, 11, 12, 13], [0, 1, 2, 3, 4, 5, 6, 7, 8, 9, 10, 11, 12, 13, 14], [0, 1, 2, 3, 4, 5, 6, 7, 8, 9, 10, 11, 12, 13, 14, 15], [0, 1, 2, 3, 4, 5, 6, 7, 8, 9, 10, 11, 12, 13, 14, 15, 16], [0, 1, 2, 3, 4, 5, 6, 7, 8, 9, 10, 11, 12, 13, 14, 15, 16, 17]]
              (by kernel_rfl) (by decide) (by kernel_rfl) (by kernel_rfl) (by kernel_rfl) (by kernel_rfl) (by kernel_rfl) (fun _ => Kept.same _ _) (fun _ _ _ h k => h.then_ k) (fun _ _ h => h.more) ?_ (HQ5.out.2.2.1.drew) ?_ ?_
            · intro t ht vs w w' h hE
              simp only [List.mem_cons, List.not_mem_nil, or_false] at ht
              rcases ht with rfl | rfl | rfl | rfl | rfl | rfl | rfl | rfl | rfl | rfl | rfl | rfl | rfl | rfl
              · exact h
              · exact h.kept hE (by omega)
              · exact h
              · exact h
              · exact h
              · exact h
              · exact h.kept hE (by omega)
              · exact h
              · exact h
              · exact h
              · exact h
              · exact h.kept hE (by omega)
              · exact h
              · exact h
            ·
              refine Rg.cons 0 1 rfl (Rg.plain rfl ?_) ?_
              · intro vs W n hn hI hG hT hF K hK
                simp only [Rg.putsD, List.getD_cons_zero, List.getD_cons_succ, Act.put, List.setIfInBounds_toArray, List.set_cons_zero, List.set_cons_succ] at hK ⊢
                have hn1 : n < 19 := hn
                clear hn
                clear hF
                have H := Lib.hid hK
                clear hK hT
                go_simp
                exact H.out _ _ (Kept.same _ _) rfl (fun h => by cases h) (hI.more (by omega))
              refine Rg.cons 1 2 rfl (Rg.plain rfl ?_) ?_
              · intro vs W n hn hI hG hT hF K hK
                simp only [Rg.putsD, List.getD_cons_zero, List.getD_cons_succ, Act.put, List.setIfInBounds_toArray, List.set_cons_zero, List.set_cons_succ] at hK ⊢
                have hn1 : n < 19 := hn
                clear hn
                clear hF
                have H := Lib.hid hK
                clear hK hT
                go_simp
                exact H.out _ _ (Kept.of_below ((Below.refl _ _).alloc (Nat.le_refl _) _)) (StrSl.new [⟨#[]⟩, ⟨#[65]⟩, ⟨#[112]⟩] rfl hG.more) (fun h => by cases h) ((hI.alloc _).more (by omega))
              refine Rg.cons 2 3 rfl (Rg.plain rfl ?_) ?_
              · intro vs W n hn hI hG hT hF K hK
                simp only [Rg.putsD, List.getD_cons_zero, List.getD_cons_succ, Act.put, List.setIfInBounds_toArray, List.set_cons_zero, List.set_cons_succ] at hK ⊢
                have hn1 : n < 19 := hn
                clear hn
                clear hF
                have t0 : vs 0 = .pointer (some ⟨sb, 0, none⟩) := hT 0 (by decide)
                have t1 : StrSl w5.heap.size 3 (vs 1) W := hT 1 (by decide)
                obtain ⟨b1, xs1, n1, c1, e1, k1⟩ := t1
                have N1 := Lib.hid (And.intro n1 k1)
                clear n1 k1
                simp only [e1] at hK
                simp only [t0] at hK
                have H := Lib.hid hK
                clear hK hT
                go_simp
                refine (some_blk N1.out.2 N1.out.1 (by decide) (by decide) (by omega) (by omega) hI).mono ?_
                rintro e w1 ⟨x, _, rfl, ht⟩
                exact H.out _ _ ht.2 ⟨_, rfl⟩ (fun h => by cases h) (ht.1.more (by omega))
              refine Rg.cons 3 4 rfl (Rg.plain rfl ?_) ?_
              · intro vs W n hn hI hG hT hF K hK
                simp only [Rg.putsD, List.getD_cons_zero, List.getD_cons_succ, Act.put, List.setIfInBounds_toArray, List.set_cons_zero, List.set_cons_succ] at hK ⊢
                have hn1 : n < 19 := hn
                clear hn
                clear hF
                have H := Lib.hid hK
                clear hK hT
                go_simp
                exact H.out _ _ (Kept.same _ _) rfl (fun h => by cases h) (hI.more (by omega))
              refine Rg.cons 4 5 rfl (Rg.plain rfl ?_) ?_
              · intro vs W n hn hI hG hT hF K hK
                simp only [Rg.putsD, List.getD_cons_zero, List.getD_cons_succ, Act.put, List.setIfInBounds_toArray, List.set_cons_zero, List.set_cons_succ] at hK ⊢
                have hn1 : n < 19 := hn
                clear hn
                clear hF
                have H := Lib.hid hK
                clear hK hT
                go_simp
                exact H.out _ _ (Kept.same _ _) rfl (fun h => by cases h) (hI.more (by omega))
              refine Rg.cons 5 6 rfl (Rg.plain rfl ?_) ?_
              · intro vs W n hn hI hG hT hF K hK
                simp only [Rg.putsD, List.getD_cons_zero, List.getD_cons_succ, Act.put, List.setIfInBounds_toArray, List.set_cons_zero, List.set_cons_succ] at hK ⊢
                have hn1 : n < 19 := hn
                clear hn
                clear hF
                have t4 : vs 4 = .pointer (some ⟨w2.heap.size, 1, none⟩) := hT 4 (by decide)
                have hbk := hG.blk HQ5.out.1 (by omega)
                have cb := cell_of_blk hbk 1
                simp at cb
                clear hbk
                simp only [t4] at hK
                have H := Lib.hid hK
                clear hK hT
                go_simp
                exact H.out _ _ (Kept.same _ _) rfl (fun h => by cases h) (hI.more (by omega))
              refine Rg.cons 6 7 rfl (Rg.plain rfl ?_) ?_
              · intro vs W n hn hI hG hT hF K hK
                simp only [Rg.putsD, List.getD_cons_zero, List.getD_cons_succ, Act.put, List.setIfInBounds_toArray, List.set_cons_zero, List.set_cons_succ] at hK ⊢
                have hn1 : n < 19 := hn
                clear hn
                clear hF
                have t5 : vs 5 = .int .i64 W0 := hT 5 (by decide)
                simp only [t5] at hK
                have H := Lib.hid hK
                clear hK hT
                go_simp
                exact H.out _ _ (Kept.of_below ((Below.refl _ _).alloc (Nat.le_refl _) _)) (IntSl.new [W0, 0, 500001] rfl hG.more) (fun h => by cases h) ((hI.alloc _).more (by omega))
              refine Rg.cons 7 8 rfl (Rg.plain rfl ?_) ?_
              · intro vs W n hn hI hG hT hF K hK
                simp only [Rg.putsD, List.getD_cons_zero, List.getD_cons_succ, Act.put, List.setIfInBounds_toArray, List.set_cons_zero, List.set_cons_succ] at hK ⊢
                have hn1 : n < 19 := hn
                clear hn
                clear hF
                have t3 : vs 3 = .pointer (some ⟨sb, 0, none⟩) := hT 3 (by decide)
                have t6 : IntSl w5.heap.size 3 (vs 6) W := hT 6 (by decide)
                obtain ⟨b6, xs6, n6, c6, e6, k6⟩ := t6
                have N6 := Lib.hid (And.intro n6 k6)
                clear n6 k6
                simp only [e6] at hK
                simp only [t3] at hK
                have H := Lib.hid hK
                clear hK hT
                go_simp
                refine (pick_blk N6.out.2 N6.out.1 (by decide) (by decide) (by omega) (by omega) hI).mono ?_
                rintro e w1 ⟨x, _, rfl, ht⟩
                exact H.out _ _ ht.2 ⟨_, rfl⟩ (fun h => by cases h) (ht.1.more (by omega))
              refine Rg.cons 8 9 rfl (Rg.plain rfl ?_) ?_
              · intro vs W n hn hI hG hT hF K hK
                simp only [Rg.putsD, List.getD_cons_zero, List.getD_cons_succ, Act.put, List.setIfInBounds_toArray, List.set_cons_zero, List.set_cons_succ] at hK ⊢
                have hn1 : n < 19 := hn
                clear hn
                clear hF
                have H := Lib.hid hK
                clear hK hT
                go_simp
                exact H.out _ _ (Kept.same _ _) rfl (fun h => by cases h) (hI.more (by omega))
              refine Rg.cons 9 10 rfl (Rg.plain rfl ?_) ?_
              · intro vs W n hn hI hG hT hF K hK
                simp only [Rg.putsD, List.getD_cons_zero, List.getD_cons_succ, Act.put, List.setIfInBounds_toArray, List.set_cons_zero, List.set_cons_succ] at hK ⊢
                have hn1 : n < 19 := hn
                clear hn
                clear hF
                have H := Lib.hid hK
                clear hK hT
                go_simp
                exact H.out _ _ (Kept.same _ _) rfl (fun h => by cases h) (hI.more (by omega))
              refine Rg.cons 10 11 rfl (Rg.plain rfl ?_) ?_
              · intro vs W n hn hI hG hT hF K hK
                simp only [Rg.putsD, List.getD_cons_zero, List.getD_cons_succ, Act.put, List.setIfInBounds_toArray, List.set_cons_zero, List.set_cons_succ] at hK ⊢
                have hn1 : n < 19 := hn
                clear hn
                clear hF
                have t9 : vs 9 = .pointer (some ⟨w2.heap.size, 2, none⟩) := hT 9 (by decide)
                have hbk := hG.blk HQ5.out.1 (by omega)
                have cb := cell_of_blk hbk 2
                simp at cb
                clear hbk
                simp only [t9] at hK
                have H := Lib.hid hK
                clear hK hT
                go_simp
                exact H.out _ _ (Kept.same _ _) rfl (fun h => by cases h) (hI.more (by omega))
              refine Rg.cons 11 12 rfl (Rg.plain rfl ?_) ?_
              · intro vs W n hn hI hG hT hF K hK
                simp only [Rg.putsD, List.getD_cons_zero, List.getD_cons_succ, Act.put, List.setIfInBounds_toArray, List.set_cons_zero, List.set_cons_succ] at hK ⊢
                have hn1 : n < 19 := hn
                clear hn
                clear hF
                have t10 : vs 10 = .int .i64 H0 := hT 10 (by decide)
                simp only [t10] at hK
                have H := Lib.hid hK
                clear hK hT
                go_simp
                exact H.out _ _ (Kept.of_below ((Below.refl _ _).alloc (Nat.le_refl _) _)) (IntSl.new [H0, (-1), 500000] rfl hG.more) (fun h => by cases h) ((hI.alloc _).more (by omega))
              refine Rg.cons 12 13 rfl (Rg.plain rfl ?_) ?_
              · intro vs W n hn hI hG hT hF K hK
                simp only [Rg.putsD, List.getD_cons_zero, List.getD_cons_succ, Act.put, List.setIfInBounds_toArray, List.set_cons_zero, List.set_cons_succ] at hK ⊢
                have hn1 : n < 19 := hn
                clear hn
                clear hF
                have t8 : vs 8 = .pointer (some ⟨sb, 0, none⟩) := hT 8 (by decide)
                have t11 : IntSl w5.heap.size 3 (vs 11) W := hT 11 (by decide)
                obtain ⟨b11, xs11, n11, c11, e11, k11⟩ := t11
                have N11 := Lib.hid (And.intro n11 k11)
                clear n11 k11
                simp only [e11] at hK
                simp only [t8] at hK
                have H := Lib.hid hK
                clear hK hT
                go_simp
                refine (pick_blk N11.out.2 N11.out.1 (by decide) (by decide) (by omega) (by omega) hI).mono ?_
                rintro e w1 ⟨x, _, rfl, ht⟩
                exact H.out _ _ ht.2 ⟨_, rfl⟩ (fun h => by cases h) (ht.1.more (by omega))
              refine Rg.cons 13 14 rfl (Rg.plain rfl ?_) ?_
              · intro vs W n hn hI hG hT hF K hK
                simp only [Rg.putsD, List.getD_cons_zero, List.getD_cons_succ, Act.put, List.setIfInBounds_toArray, List.set_cons_zero, List.set_cons_succ] at hK ⊢
                have hn1 : n < 19 := hn
                clear hn
                clear hF
                have H := Lib.hid hK
                clear hK hT
                go_simp
                exact H.out _ _ (Kept.same _ _) rfl (fun h => by cases h) (hI.more (by omega))
              exact Rg.nil
            · intro vs W hG hI hT hF
              have t0 : vs 0 = .pointer (some ⟨sb, 0, none⟩) := hT 0 (by decide)
              have t1 : StrSl w5.heap.size 3 (vs 1) W := hT 1 (by decide)
              have t2 : ∃ s : ByteArray, vs 2 = .string s := hT 2 (by decide)
              have t3 : vs 3 = .pointer (some ⟨sb, 0, none⟩) := hT 3 (by decide)
              have t4 : vs 4 = .pointer (some ⟨w2.heap.size, 1, none⟩) := hT 4 (by decide)
              have t5 : vs 5 = .int .i64 W0 := hT 5 (by decide)
              have t6 : IntSl w5.heap.size 3 (vs 6) W := hT 6 (by decide)
              have t7 : ∃ x : Int, vs 7 = .int .i64 x := hT 7 (by decide)
              have t8 : vs 8 = .pointer (some ⟨sb, 0, none⟩) := hT 8 (by decide)
              have t9 : vs 9 = .pointer (some ⟨w2.heap.size, 2, none⟩) := hT 9 (by decide)
              have t10 : vs 10 = .int .i64 H0 := hT 10 (by decide)
              have t11 : IntSl w5.heap.size 3 (vs 11) W := hT 11 (by decide)
              have t12 : ∃ x : Int, vs 12 = .int .i64 x := hT 12 (by decide)
              have t13 : vs 13 = .pointer (some ⟨w2.heap.size, 0, none⟩) := hT 13 (by decide)
              simp only [List.length_cons, List.length_nil, Nat.reduceAdd, List.range, List.range.loop, List.drop_succ_cons, List.drop_zero, Rg.putsD, List.getD_cons_zero, List.getD_cons_succ, Act.put, List.setIfInBounds_toArray, List.set_cons_zero, List.set_cons_succ, t0, t3, t4, t5, t8, t9, t10, t13]
              clear hT t0 t3 t4 t5 t8 t9 t10 t13
              have hI14 : IsStream W sb (b + 104 + 14) := hI
              have hkk := hG.blk HQ5.out.1 (by omega)
              obtain ⟨s2, e2⟩ := t2
              obtain ⟨x7, e7⟩ := t7
              obtain ⟨x12, e12⟩ := t12
              have HW : Hid (W.heap[w2.heap.size]? = some (.cells #[.string ⟨#[112]⟩, .int .i64 W0, .int .i64 H0, v] 28 (0, 0)) ∧
                W.ownsRow (w2.heap.size + 2) 50 5 v l.length (flatP l) ∧ Took sb (b + 118) w2 W) :=
                ⟨hkk, kept_own (w := w5.drew) (base := w2.heap.size + 2) HQ5.out.2.1 hG (by omega), hI14, HQ5.out.2.2.drew.2.then_ hG⟩
              have hsW : w2.heap.size + 1 < W.heap.size := Nat.lt_of_lt_of_le (show w2.heap.size + 1 < w5.heap.size by omega) hG.more
              have E1 := Lib.hid (And.intro e2 (And.intro e7 e12))
              obtain ⟨c0, c1, c2, c3⟩ := blk4 hkk
              have f0 := frozen_of_blk hkk 0
              have f1 := frozen_of_blk hkk 1
              have f2 := frozen_of_blk hkk 2
              clear t6 t11 hI hI14 hG hF e2 e7 e12 hkk HQ5 t1
              simp only [E1.out.1, E1.out.2.1, E1.out.2.2]
              go_wp2_with fail
              go_meet
              have hb := blk_set (i := 2) (blk_set (i := 1) (blk_set (i := 0) HW.out.1 (.string s2)) (.int .i64 x7)) (.int .i64 x12)
              exact ⟨by simp [World.setCell]; omega, _, _, _, _, l, by omega, hb, own_far (own_far (own_far HW.out.2.1 (by simp) _) (by simp) _) (by simp) _, (((HW.out.2.2.more (by omega)).setCell (by simp) (by omega) _).setCell (by simp) (by omega) _).setCell (by simp) (by omega) _⟩
      case rest =>
        obtain ⟨hsc, HC⟩ := hcut
        obtain ⟨key, W, H, v, l, hl, hk3, how, tk⟩ := HC.out
        obtain ⟨c0, c1, c2, c3⟩ := blk4 hk3
        have hkr := tk.blk HK2.out (by omega)
        obtain ⟨d0, d1, d2, d3⟩ := blk4 hkr
        have g0 := frozen_of_blk hkr 0
        have g1 := frozen_of_blk hkr 1
        have g2 := frozen_of_blk hkr 2
        have g3 := frozen_of_blk hkr 3
        obtain ⟨A, c, rfl, _⟩ := own_form how
        have HF := Lib.hid (And.intro how tk)
        clear how tk hk3 hkr HC
        go_wp2_with fail
        refine bodyPost_ret (v := .agg #[.string key, .int .i64 W, .int .i64 H, .slice A l.length c]) (by unfold results; simp only [Tryz.results10]; go_simp) rfl ⟨key, W, H, _, l, rfl, hl, ?_, ?_⟩
        · exact own_mono (own_far (own_far (own_far (own_far HF.out.1 (by simp; omega) _) (by simp; omega) _) (by simp; omega) _) (by simp; omega) _) (by omega)
        · exact (((((T12.out.trans HF.out.2).more (by omega)).setCell (by simp) (by omega) _).setCell (by simp) (by omega) _).setCell (by simp) (by omega) _).setCell (by simp) (by omega) _
end Go.Proofs.YtmjonmoagpkdiabGreatDoor
