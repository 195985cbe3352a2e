/-
  The reference writes points: a strings.Builder.
-/
import Derived.Test.YtbkbjljkfhahbaaGreatDoorTpM
import Derived.Test.YtbkbjljkfhahbaaGreatDoorTxN
namespace Go.Proofs.YtbkbjljkfhahbaaGreatDoor
open Go.RowKit
set_option linter.unusedSimpArgs false
set_option linter.unusedVariables false

/-- The bodies of strings.Join's closure hold those of a builder's WriteString. -/
theorem lays166w : Go.Proofs.Lays.n166 Tryz.prog Tryz.lays156_ren := {
  mixed := Tryz.lays156.mixed,
  f166 := Tryz.lays156.f166,
  f240 := Tryz.lays156.f240,
  f276 := Tryz.lays156.f276,
  t0 := Tryz.lays156.t0,
  a0 := Tryz.lays156.a0,
  z0 := Tryz.lays156.z0,
  v0 := Tryz.lays156.v0,
  t3 := Tryz.lays156.t3,
  a3 := Tryz.lays156.a3,
  z3 := Tryz.lays156.z3,
  v3 := Tryz.lays156.v3,
  t4 := Tryz.lays156.t4,
  a4 := Tryz.lays156.a4,
  z4 := Tryz.lays156.z4,
  v4 := Tryz.lays156.v4,
  t9 := Tryz.lays156.t9,
  a9 := Tryz.lays156.a9,
  z9 := Tryz.lays156.z9,
  v9 := Tryz.lays156.v9,
  t20 := Tryz.lays156.t20,
  a20 := Tryz.lays156.a20,
  z20 := Tryz.lays156.z20,
  v20 := Tryz.lays156.v20,
  t37 := Tryz.lays156.t37,
  a37 := Tryz.lays156.a37,
  z37 := Tryz.lays156.z37,
  v37 := Tryz.lays156.v37,
  t70 := Tryz.lays156.t70,
  a70 := Tryz.lays156.a70,
  z70 := Tryz.lays156.z70,
  v70 := Tryz.lays156.v70,
  t72 := Tryz.lays156.t72,
  a72 := Tryz.lays156.a72,
  z72 := Tryz.lays156.z72,
  v72 := Tryz.lays156.v72,
  t75 := Tryz.lays156.t75,
  a75 := Tryz.lays156.a75,
  z75 := Tryz.lays156.z75,
  v75 := Tryz.lays156.v75,
  t164 := Tryz.lays156.t164,
  a164 := Tryz.lays156.a164,
  z164 := Tryz.lays156.z164,
  v164 := Tryz.lays156.v164 }
theorem bw_any (B b : Nat) (bs : List Value) (s : ByteArray) (w : World) (h : Lib.IsBuilder 85 5 B b bs w) (hlen : bs.length + s.size ≤ 140737488355328) (hBw : B ≤ w.heap.size) :
    Calls Tryz.prog 47 #[.pointer (some ⟨b, 0, none⟩), .string s] w fun e w' => e = .returned (.tuple #[.int .i64 s.size, .nilIface]) ∧ (Lib.BuilderAt 85 5 B b (.pointer (some ⟨b, 0, none⟩)) (bs ++ Lib.strCells s) w' ∧ Below B w w') :=
  Any.Builder_WriteString lays166w Tryz.Builder_Extra_156 B b bs s w h hlen hBw
theorem isB_below {T e : TypeId} {B b : Nat} {bs : List Value} {w w' : World} (h : Lib.IsBuilder T e B b bs w) (hb : Below w.heap.size w w') : Lib.IsBuilder T e B b bs w' := by
  rcases h with ⟨hB, v, hk, hown, hne⟩ | ⟨hB, v, hk, hown, hne⟩
  · exact .inl ⟨hB, v, blk_below hb hk, own_below hown hb, hne⟩
  · exact .inr ⟨hB, v, blk_below hb hk, own_below hown hb, hne⟩
theorem isB_new (w : World) : Lib.IsBuilder 85 5 w.heap.size w.heap.size (Lib.strCells dS) (w.alloc (.cells #[.pointer none, .slice none 0 0] 85)) :=
  .inl ⟨Nat.le_refl _, _, blk_new w _ rfl, World.ownsRow_nil _ _ _ _, by simp [Value.ownBlock]⟩
theorem strCells_append (a b : ByteArray) : Lib.strCells (a ++ b) = Lib.strCells a ++ Lib.strCells b := by
  unfold Lib.strCells
  rw [show (a ++ b).data.toList = a.data.toList ++ b.data.toList from bt_append a b, List.map_append]

set_option maxRecDepth 100000 in
set_option maxHeartbeats 8000000 in
theorem pointLines_any (l : List (Int × Int)) (hl : l.length ≤ 500) (hok : ∀ p ∈ l, okPt p = true) {v : Value} (w : World) (h : Reads encP v l w) (hGl : Gl w) (hw : gLow ≤ w.heap.size) :
    Calls Tryz.prog 24 #[v] w fun e w' => e = .returned (.string (ptsB l)) ∧ Below w.heap.size w w' := by
  have HA := Lib.hid h
  have HP := Lib.hid hok
  clear hok
  have CS := Lib.hid (fun (W : World) (hW : Lib.IsBuilder 85 5 w.heap.size w.heap.size (Lib.byteCells (bt (ptsB l))) W) (hz : w.heap.size ≤ W.heap.size) => Tryz.Builder_String_any w.heap.size w.heap.size (bt (ptsB l)) W hW hz)
  rw [show (⟨(bt (ptsB l)).toArray⟩ : ByteArray) = ptsB l from rfl] at CS
  obtain ⟨A, c, rfl, _⟩ := h
  have HS1 : Hid (Below w.heap.size w (w.alloc (.cells #[.pointer none, .slice none 0 0] 85)) ∧ Lib.IsBuilder 85 5 w.heap.size w.heap.size (Lib.strCells (ptsK l 0)) (w.alloc (.cells #[.pointer none, .slice none 0 0] 85))) :=
    ⟨(Below.refl _ _).alloc (Nat.le_refl _) _, by rw [ptsK_zero]; exact isB_new w⟩
  go_enter Tryz.func24, Tryz.ntmps24
  go_upto_region 2 with (fail)
  generalize w.alloc (.cells #[.pointer none, .slice none 0 0] 85) = w1 at *
  have hz1 := HS1.out.1.size
  go_wp2_with fail
  go_loopw [8] (fun kk wr => ∃ k : Nat, k ≤ l.length ∧ kk = .int .i64 k ∧ w.heap.size ≤ wr.heap.size ∧ Hid (Below w.heap.size w wr ∧ Lib.IsBuilder 85 5 w.heap.size w.heap.size (Lib.strCells (ptsK l k)) wr)) (fun kk _ => l.length - (intOf kk).toNat)
  case atStart => exact ⟨0, by omega, rfl, hz1, HS1⟩
  case round =>
    obtain ⟨k, hk, rfl, hwz, HS⟩ := hrel
    by_cases hlt : k < l.length
    · obtain ⟨p, hp⟩ : ∃ p, l[k] = p := ⟨_, rfl⟩
      have HN := Lib.hid (ptsK_succ l hlt)
      rw [hp] at HN
      have hok : okPt p = true := HP.out p (by rw [← hp]; exact List.getElem_mem hlt)
      obtain ⟨A', c', e, hr⟩ := HA.out.below HS.out.1
      cases e
      rcases hr with rfl | ⟨g, rfl, hrow⟩
      · simp at hlt
      obtain ⟨q0, q1⟩ := row_pt hrow hlt
      rw [hp] at q0 q1
      have HOK := Lib.hid (okPt_spec hok)
      obtain ⟨x, y⟩ := p
      dsimp only at q0 q1 HOK
      have hg1 : g < wr.heap.size := hrow.1
      have HP9 := Lib.hid hp
      have CI := Lib.hid (fun (n : Int) (h0 : -500000 ≤ n) (h1 : n ≤ 500000) (u : World) (hu : Below w.heap.size w u) => itoa_any n (by omega) (by omega) u (hGl.below hu hw))
      have zx := itB_size (n := x) (by have := HOK.out.1.1; omega) (by have := HOK.out.1.2; omega)
      have zy := itB_size (n := y) (by have := HOK.out.2.1; omega) (by have := HOK.out.2.2; omega)
      have HZ := Lib.hid (ptsK_size HP.out hl k)
      have HLN : Hid (lineB (ptW (x, y)) = itB x ++ ⟨#[32]⟩ ++ itB y ++ ⟨#[10]⟩) := line2 _ _
      have H6 : Hid (Below w.heap.size w (wr.alloc (.cells #[.int .i64 x, .int .i64 y] 45)) ∧ Lib.IsBuilder 85 5 w.heap.size w.heap.size (Lib.strCells (ptsK l k)) (wr.alloc (.cells #[.int .i64 x, .int .i64 y] 45)) ∧ (wr.alloc (.cells #[.int .i64 x, .int .i64 y] 45)).heap[wr.heap.size]? = some (.cells #[.int .i64 x, .int .i64 y] 45 (0, 0))) :=
        ⟨HS.out.1.alloc hwz _, isB_below HS.out.2 ((Below.refl _ _).alloc (Nat.le_refl _) _), blk_new wr _ rfl⟩
      have i1 : (0 : Int) ≤ (k : Int) := by omega
      have i2 : (k : Int) < (l.length : Int) := by omega
      clear hrow hp HS HS1
      go_upto_region 5 with (fail)
      generalize wr.alloc (.cells #[.int .i64 x, .int .i64 y] 45) = wx at *
      have hxl := lt_of_blk H6.out.2.2
      have hzx := H6.out.1.size
      refine Rg.rgL (fun a b => Below a.heap.size a b)
        [(fun vs u => vs 0 = .pointer (some ⟨wr.heap.size, 0, none⟩)), (fun vs u => vs 1 = .int .i64 x), (fun vs u => vs 2 = .string (itB x)), (fun vs u => vs 3 = .string (itB x ++ ⟨#[32]⟩)), (fun vs u => vs 4 = .pointer (some ⟨wr.heap.size, 1, none⟩)), (fun vs u => vs 5 = .int .i64 y), (fun vs u => vs 6 = .string (itB y))]
        [[], [0], [0, 1], [0, 1, 2], [], [4], [0, 1, 2, 4, 5]] [some 12, some 13, some 14, some 15, some 16, some 17, some 18, some 19, some 20, some 21] [] (fun _ _ => True) [[], [0], [0, 1], [0, 1, 2], [], [4], [0, 1, 2, 4, 5], [0, 1, 2, 3, 4, 5, 6], [0, 1, 2, 3, 4, 5, 6, 7], [0, 1, 2, 3, 4, 5, 6, 7, 8]]
        (by kernel_rfl) (by decide) (by kernel_rfl) (by kernel_rfl) (by kernel_rfl) (by kernel_rfl) (by kernel_rfl) (fun _ => Below.refl _ _) (fun _ _ _ h k => h.ext k) (fun _ _ h => h.size) ?_ trivial ?_ ?_
      · intro t ht vs w w' h hE
        simp only [List.mem_cons, List.not_mem_nil, or_false] at ht
        rcases ht with rfl | rfl | rfl | rfl | rfl | rfl | rfl
        · exact h
        · exact h
        · exact h
        · exact h
        · exact h
        · exact h
        · exact h
      ·
        refine Rg.cons 0 1 rfl (Rg.plain rfl ?_) ?_
        · intro vs W n hn hI hG hT hF K hK
          simp only [Rg.putsD, List.getD_cons_zero, List.getD_cons_succ, Act.put, List.setIfInBounds_toArray, List.set_cons_zero, List.set_cons_succ] at hK ⊢
          clear hn
          clear hF hI
          have H := Lib.hid hK
          clear hK hT
          go_simp
          exact H.out _ _ (Below.refl _ _) rfl (fun h => by cases h) trivial
        refine Rg.cons 1 2 rfl (Rg.plain rfl ?_) ?_
        · intro vs W n hn hI hG hT hF K hK
          simp only [Rg.putsD, List.getD_cons_zero, List.getD_cons_succ, Act.put, List.setIfInBounds_toArray, List.set_cons_zero, List.set_cons_succ] at hK ⊢
          clear hn
          clear hF hI
          have t0 : vs 0 = .pointer (some ⟨wr.heap.size, 0, none⟩) := hT 0 (by decide)
          obtain ⟨c0, c1, _, _⟩ := blk2 (blk_below hG H6.out.2.2)
          simp only [t0] at hK
          have H := Lib.hid hK
          clear hK hT
          go_simp
          exact H.out _ _ (Below.refl _ _) rfl (fun h => by cases h) trivial
        refine Rg.cons 2 3 rfl (Rg.plain rfl ?_) ?_
        · intro vs W n hn hI hG hT hF K hK
          simp only [Rg.putsD, List.getD_cons_zero, List.getD_cons_succ, Act.put, List.setIfInBounds_toArray, List.set_cons_zero, List.set_cons_succ] at hK ⊢
          clear hn
          clear hF hI
          have t0 : vs 0 = .pointer (some ⟨wr.heap.size, 0, none⟩) := hT 0 (by decide)
          have t1 : vs 1 = .int .i64 x := hT 1 (by decide)
          have HG := Lib.hid hG
          clear hG
          simp only [t0, t1] at hK
          have H := Lib.hid hK
          clear hK hT
          go_simp
          refine (CI.out x HOK.out.1.1 HOK.out.1.2 _ (H6.out.1.drew.then_below HG.out hzx)).mono ?_
          rintro e w6 ⟨rfl, b6⟩
          exact H.out _ _ b6 rfl (fun h => by cases h) trivial
        refine Rg.cons 3 4 rfl (Rg.plain rfl ?_) ?_
        · intro vs W n hn hI hG hT hF K hK
          simp only [Rg.putsD, List.getD_cons_zero, List.getD_cons_succ, Act.put, List.setIfInBounds_toArray, List.set_cons_zero, List.set_cons_succ] at hK ⊢
          clear hn
          clear hF hI
          have t0 : vs 0 = .pointer (some ⟨wr.heap.size, 0, none⟩) := hT 0 (by decide)
          have t1 : vs 1 = .int .i64 x := hT 1 (by decide)
          have t2 : vs 2 = .string (itB x) := hT 2 (by decide)
          have hn1 : ¬ 9223372036854775807 < (itB x).size + 1 := by omega
          simp only [t0, t1, t2] at hK
          have H := Lib.hid hK
          clear hK hT
          go_simp
          exact H.out _ _ (Below.refl _ _) rfl (fun h => by cases h) trivial
        refine Rg.cons 4 5 rfl (Rg.plain rfl ?_) ?_
        · intro vs W n hn hI hG hT hF K hK
          simp only [Rg.putsD, List.getD_cons_zero, List.getD_cons_succ, Act.put, List.setIfInBounds_toArray, List.set_cons_zero, List.set_cons_succ] at hK ⊢
          clear hn
          clear hF hI
          have H := Lib.hid hK
          clear hK hT
          go_simp
          exact H.out _ _ (Below.refl _ _) rfl (fun h => by cases h) trivial
        refine Rg.cons 5 6 rfl (Rg.plain rfl ?_) ?_
        · intro vs W n hn hI hG hT hF K hK
          simp only [Rg.putsD, List.getD_cons_zero, List.getD_cons_succ, Act.put, List.setIfInBounds_toArray, List.set_cons_zero, List.set_cons_succ] at hK ⊢
          clear hn
          clear hF hI
          have t4 : vs 4 = .pointer (some ⟨wr.heap.size, 1, none⟩) := hT 4 (by decide)
          obtain ⟨c0, c1, _, _⟩ := blk2 (blk_below hG H6.out.2.2)
          simp only [t4] at hK
          have H := Lib.hid hK
          clear hK hT
          go_simp
          exact H.out _ _ (Below.refl _ _) rfl (fun h => by cases h) trivial
        refine Rg.cons 6 7 rfl (Rg.plain rfl ?_) ?_
        · intro vs W n hn hI hG hT hF K hK
          simp only [Rg.putsD, List.getD_cons_zero, List.getD_cons_succ, Act.put, List.setIfInBounds_toArray, List.set_cons_zero, List.set_cons_succ] at hK ⊢
          clear hn
          clear hF hI
          have t0 : vs 0 = .pointer (some ⟨wr.heap.size, 0, none⟩) := hT 0 (by decide)
          have t1 : vs 1 = .int .i64 x := hT 1 (by decide)
          have t2 : vs 2 = .string (itB x) := hT 2 (by decide)
          have t4 : vs 4 = .pointer (some ⟨wr.heap.size, 1, none⟩) := hT 4 (by decide)
          have t5 : vs 5 = .int .i64 y := hT 5 (by decide)
          have HG := Lib.hid hG
          clear hG
          simp only [t0, t1, t2, t4, t5] at hK
          have H := Lib.hid hK
          clear hK hT
          go_simp
          refine (CI.out y HOK.out.2.1 HOK.out.2.2 _ (H6.out.1.drew.then_below HG.out hzx)).mono ?_
          rintro e w6 ⟨rfl, b6⟩
          exact H.out _ _ b6 rfl (fun h => by cases h) trivial
        exact Rg.nil
      · intro vs W hG hI hT hF
        have t0 : vs 0 = .pointer (some ⟨wr.heap.size, 0, none⟩) := hT 0 (by decide)
        have t1 : vs 1 = .int .i64 x := hT 1 (by decide)
        have t2 : vs 2 = .string (itB x) := hT 2 (by decide)
        have t3 : vs 3 = .string (itB x ++ ⟨#[32]⟩) := hT 3 (by decide)
        have t4 : vs 4 = .pointer (some ⟨wr.heap.size, 1, none⟩) := hT 4 (by decide)
        have t5 : vs 5 = .int .i64 y := hT 5 (by decide)
        have t6 : vs 6 = .string (itB y) := hT 6 (by decide)
        simp only [List.length_cons, List.length_nil, Nat.reduceAdd, List.range, List.range.loop, List.drop_succ_cons, List.drop_zero, Rg.putsD, List.getD_cons_zero, List.getD_cons_succ, Act.put, List.setIfInBounds_toArray, List.set_cons_zero, List.set_cons_succ, t0, t1, t2, t3, t4, t5, t6]
        clear hT t0 t1 t2 t3 t4 t5 t6
        have H7 : Hid (Below w.heap.size w W ∧ Lib.IsBuilder 85 5 w.heap.size w.heap.size (Lib.strCells (ptsK l k)) W) :=
          ⟨H6.out.1.drew.then_below hG hzx, isB_below (w := wx.drew) H6.out.2.1 hG⟩
        have hWs : w.heap.size ≤ W.heap.size := H7.out.1.size
        have CW := Lib.hid (bw_any w.heap.size w.heap.size (Lib.strCells (ptsK l k)) (lineB (ptW (x, y))) W H7.out.2 (by rw [Lib.strCells_length]; have := HZ.out; have h2 := congrArg ByteArray.size HLN.out; simp only [size_append] at h2; have e2 : (⟨#[32]⟩ : ByteArray).size = 1 := rfl; have e3 : (⟨#[10]⟩ : ByteArray).size = 1 := rfl; omega) hWs)
        rw [← strCells_append, ← HN.out, HLN.out] at CW
        clear hF hI hG H6 hxl HN
        go_wp2_with fail
        refine CW.out.mono ?_
        rintro e w8 ⟨rfl, hB8, b8⟩
        have HF8 : Hid (Below w.heap.size w w8 ∧ Lib.IsBuilder 85 5 w.heap.size w.heap.size (Lib.strCells (ptsK l (k + 1))) w8) := ⟨H7.out.1.trans b8, .inr hB8⟩
        have hz8 := HF8.out.1.size
        clear hB8 b8 H7 CW
        go_wp2_with fail
        go_roundw
        case rel => exact ⟨k + 1, by omega, by go_num, hz8, HF8⟩
        case measure => simp [intOf]; omega
    · obtain rfl : k = l.length := by omega
      have CX := Lib.hid (CS.out wr (by have := HS.out.2; rw [ptsK_all] at this; exact this) hwz)
      have HB := Lib.hid HS.out.1
      clear HS HS1 CS
      go_wp2_with fail
      refine CX.out.mono ?_
      rintro e w9 ⟨rfl, b9⟩
      have HB9 := Lib.hid (HB.out.trans b9)
      clear b9
      go_wp2_with fail
      go_ret
      exact ⟨rfl, HB9.out⟩
end Go.Proofs.YtbkbjljkfhahbaaGreatDoor
