/-
  The reference's changed placements.
-/
import Derived.Test.YtalconjnjaffkaaGreatDoorTxV
import Derived.Deep.AppendLies
namespace Go.Proofs.YtalconjnjaffkaaGreatDoor
open Go.RowKit
set_option linter.unusedSimpArgs false
set_option linter.unusedVariables false

/-- Three rows of strings of one's own, in three blocks. -/
structure Rows3 (B : Nat) (u v z : Value) (f s d : List ByteArray) (w : World) : Prop where
  r1 : w.ownsRow B 9 1 u f.length (f.map Value.string)
  r2 : w.ownsRow B 9 1 v s.length (s.map Value.string)
  r3 : w.ownsRow B 9 1 z d.length (d.map Value.string)
  n12 : ∀ j, u.ownBlock = some j → v.ownBlock ≠ some j
  n13 : ∀ j, u.ownBlock = some j → z.ownBlock ≠ some j
  n23 : ∀ j, v.ownBlock = some j → z.ownBlock ≠ some j
theorem Rows3.nil (B : Nat) (w : World) : Rows3 B (.slice none 0 0) (.slice none 0 0) (.slice none 0 0) [] [] [] w :=
  ⟨World.ownsRow_nil _ _ _ _, World.ownsRow_nil _ _ _ _, World.ownsRow_nil _ _ _ _, fun _ h => (nomatch h), fun _ h => (nomatch h), fun _ h => (nomatch h)⟩
theorem Rows3.below {B : Nat} {u v z : Value} {f s d : List ByteArray} {w w' : World} (h : Rows3 B u v z f s d w) (hb : Below w.heap.size w w') : Rows3 B u v z f s d w' :=
  ⟨own_below h.r1 hb, own_below h.r2 hb, own_below h.r3 hb, h.n12, h.n13, h.n23⟩
theorem Rows3.swap {B : Nat} {u v z : Value} {f s d : List ByteArray} {w : World} (h : Rows3 B u v z f s d w) : Rows3 B v u z s f d w :=
  ⟨h.r2, h.r1, h.r3, fun j h1 h2 => h.n12 j h2 h1, h.n23, h.n13⟩
theorem Rows3.turn {B : Nat} {u v z : Value} {f s d : List ByteArray} {w : World} (h : Rows3 B u v z f s d w) : Rows3 B z v u d s f w :=
  ⟨h.r3, h.r2, h.r1, fun j h1 h2 => h.n23 j h2 h1, fun j h1 h2 => h.n13 j h2 h1, fun j h1 h2 => h.n12 j h2 h1⟩
/-- Something is appended to the first row. -/
theorem Rows3.app {B : Nat} {u v z : Value} {f s d : List ByteArray} {W w' : World} {m g cap : Nat} {xs : List ByteArray} (h : Rows3 B u v z f s d W) (hm : m = f.length + xs.length)
    (hown : w'.ownsRow B 9 1 (.slice (some ⟨g, 0, none⟩) m cap) m (f.map Value.string ++ xs.map Value.string)) (hg : W.grownBy w' u.ownBlock) (hat : u.ownBlock = some g ∨ W.heap.size ≤ g) :
    Rows3 B (.slice (some ⟨g, 0, none⟩) m cap) v z (f ++ xs) s d w' := by
  subst hm
  have k2 : ∀ j, v.ownBlock = some j → g ≠ j := fun j hj e => by
    subst e
    rcases hat with h1 | h1
    · exact h.n12 g h1 hj
    · have := own_lt h.r2 g hj; omega
  have k3 : ∀ j, z.ownBlock = some j → g ≠ j := fun j hj e => by
    subst e
    rcases hat with h1 | h1
    · exact h.n13 g h1 hj
    · have := own_lt h.r3 g hj; omega
  refine ⟨?_, ?_, ?_, ?_, ?_, h.n23⟩
  · rw [List.length_append, List.map_append]; exact hown
  · cases hq : v.ownBlock with
    | none => exact h.r2.kept hg (.inl hq)
    | some j => exact h.r2.kept hg (.inr fun e => h.n12 j (e.symm.trans hq) hq)
  · cases hq : z.ownBlock with
    | none => exact h.r3.kept hg (.inl hq)
    | some j => exact h.r3.kept hg (.inr fun e => h.n13 j (e.symm.trans hq) hq)
  · intro j hj h2
    exact k2 j h2 (by simpa [Value.ownBlock] using hj)
  · intro j hj h2
    exact k3 j h2 (by simpa [Value.ownBlock] using hj)
theorem findN_name {y : List Pl} {n : ByteArray} {b : Pl} (h : findN y n = some b) : b.name = n := by
  have := List.find?_some h
  simpa using this

/-- Two products that were boxed, and three rows of one's own behind them. -/
structure ChW (w : World) (bx by' : Array Value) (u v z : Value) (f s d : List ByteArray) (W : World) : Prop where
  below : Below w.heap.size w W
  rows : Rows3 (w.heap.size + 2) u v z f s d W
  kx : W.heap[w.heap.size]? = some (.cells bx 44 (0, 0))
  ky : W.heap[w.heap.size + 1]? = some (.cells by' 44 (0, 0))
theorem ChW.then_ {w : World} {bx by' : Array Value} {u v z : Value} {f s d : List ByteArray} {W W' : World} (h : ChW w bx by' u v z f s d W) (hb : Below W.heap.size W W') : ChW w bx by' u v z f s d W' :=
  ⟨h.below.then_below hb h.below.size, h.rows.below hb, blk_below hb h.kx, blk_below hb h.ky⟩
theorem ChW.alloc {w : World} {bx by' : Array Value} {u v z : Value} {f s d : List ByteArray} {W : World} (h : ChW w bx by' u v z f s d W) (o : Obj) : ChW w bx by' u v z f s d (W.alloc o) :=
  h.then_ ((Below.refl _ _).alloc (Nat.le_refl _) _)
theorem ChW.swap {w : World} {bx by' : Array Value} {u v z : Value} {f s d : List ByteArray} {W : World} (h : ChW w bx by' u v z f s d W) : ChW w bx by' v u z s f d W := ⟨h.below, h.rows.swap, h.kx, h.ky⟩
theorem ChW.turn {w : World} {bx by' : Array Value} {u v z : Value} {f s d : List ByteArray} {W : World} (h : ChW w bx by' u v z f s d W) : ChW w bx by' z v u d s f W := ⟨h.below, h.rows.turn, h.kx, h.ky⟩
theorem ChW.app {w : World} {bx by' : Array Value} {u v z : Value} {f s d : List ByteArray} {W w' : World} {m g cap : Nat} {xs : List ByteArray} (h : ChW w bx by' u v z f s d W) (hm : m = f.length + xs.length)
    (hown : w'.ownsRow (w.heap.size + 2) 9 1 (.slice (some ⟨g, 0, none⟩) m cap) m (f.map Value.string ++ xs.map Value.string)) (hg : W.grownBy w' u.ownBlock) (hat : u.ownBlock = some g ∨ W.heap.size ≤ g) :
    ChW w bx by' (.slice (some ⟨g, 0, none⟩) m cap) v z (f ++ xs) s d w' := by
  have hl := lt_of_blk h.ky
  have hr := own_row h.rows.r1
  refine ⟨h.below.grown hg (by omega) (fun j hj => by have := hr j hj; omega), h.rows.app hm hown hg hat, ?_, ?_⟩
  · exact (hg.block _ (by omega) (fun e => by have := hr _ e.symm; omega)).trans h.kx
  · exact (hg.block _ hl (fun e => by have := hr _ e.symm; omega)).trans h.ky

set_option maxRecDepth 100000 in
set_option maxHeartbeats 8000000 in
theorem changedRef_any (kx : ByteArray) (Wx Hx : Int) (Ax : Option Addr) (cx : Nat) (x : List Pl) (hlx : x.length ≤ 1000000) (ky : ByteArray) (Wy Hy : Int) (Ay : Option Addr) (cy : Nat) (y : List Pl) (hly : y.length ≤ 1000000) (w : World) (hx : PlAt w Ax x) (hy : PlAt w Ay y) :
    Calls Tryz.prog 22 #[prod kx Wx Hx Ax x.length cx, prod ky Wy Hy Ay y.length cy] w fun e w' => ∃ u v z, e = .returned (.tuple #[u, v, z]) ∧ Below w.heap.size w w' ∧ Rows3 w.heap.size u v z (onlyIn x y) (onlyIn y x) (differ x y) w' := by
  have HB0 : Hid (ChW w #[.string kx, .int .i64 Wx, .int .i64 Hx, .slice Ax x.length cx] #[.string ky, .int .i64 Wy, .int .i64 Hy, .slice Ay y.length cy] (.slice none 0 0) (.slice none 0 0) (.slice none 0 0) (onlyIn (x.take 0) y) [] (differ (x.take 0) y) ((w.alloc (.cells #[.string kx, .int .i64 Wx, .int .i64 Hx, .slice Ax x.length cx] 44)).alloc (.cells #[.string ky, .int .i64 Wy, .int .i64 Hy, .slice Ay y.length cy] 44))) :=
    ⟨((Below.refl _ _).alloc (Nat.le_refl _) _).alloc (by simp) _, Rows3.nil _ _, blk_alloc (blk_new w _ rfl) _, blk_new _ _ (by simp)⟩
  go_enter Tryz.func22, Tryz.ntmps22
  go_upto_region 2 with (fail)
  generalize (w.alloc (.cells #[.string kx, .int .i64 Wx, .int .i64 Hx, .slice Ax x.length cx] 44)).alloc (.cells #[.string ky, .int .i64 Wy, .int .i64 Hy, .slice Ay y.length cy] 44) = w0 at *
  obtain ⟨p0, p1, p2, p3⟩ := blk4 HB0.out.kx
  have hpl := lt_of_blk HB0.out.kx
  have hpl2 := lt_of_blk HB0.out.ky
  obtain ⟨i0, hi, hz0, hz1, hz2⟩ := info_parts str_infoT
  have HI := Lib.hid (And.intro hi (And.intro hz0 (And.intro hz1 hz2)))
  clear hi hz0 hz1 hz2
  go_wp2_with fail
  go_loopw [7, 9, 21] (fun v7 v9 kk wr => ∃ k : Nat, k ≤ x.length ∧ kk = .int .i64 k ∧ w.heap.size + 1 < wr.heap.size ∧ Hid (ChW w #[.string kx, .int .i64 Wx, .int .i64 Hx, .slice Ax x.length cx] #[.string ky, .int .i64 Wy, .int .i64 Hy, .slice Ay y.length cy] v7 (.slice none 0 0) v9 (onlyIn (x.take k) y) [] (differ (x.take k) y) wr)) (fun _ _ kk _ => x.length - (intOf kk).toNat)
  case atStart => exact ⟨0, by omega, rfl, hpl2, HB0⟩
  case round =>
    obtain ⟨k, hk, rfl, hwz, HS⟩ := hrel
    clear HB0 hpl2 hpl p0 p1 p2 p3
    obtain ⟨A7, c7, rfl, hc7, _⟩ := own_slice' HS.out.rows.r1
    obtain ⟨A9, c9, rfl, hc9, _⟩ := own_slice' HS.out.rows.r3
    by_cases hlt : k < x.length
    · obtain ⟨a, ha⟩ : ∃ a, x[k] = a := ⟨_, rfl⟩
      have HN1 := Lib.hid (only_snoc x y hlt)
      have HN2 := Lib.hid (differ_snoc x y hlt)
      rw [ha] at HN1 HN2
      rcases hx with rfl | ⟨g, rfl, hrow⟩
      · simp at hlt
      obtain ⟨q0, q1, q2, q3, q4⟩ := row_pl (hrow.below HS.out.below) hlt
      rw [ha] at q0 q1 q2 q3 q4
      have hg1 : g < wr.heap.size := Nat.lt_of_lt_of_le hrow.1 (by omega)
      have HRX := Lib.hid hrow
      obtain ⟨nm, pt, ax, ay, aq⟩ := a
      dsimp only at q0 q1 q2 q3 q4 HN1 HN2
      have H1 := Lib.hid (And.intro (HS.out.alloc (.cells #[.string nm, .string pt, .int .i64 ax, .int .i64 ay, .int .i64 aq] 124)) (blk_new wr (.cells #[.string nm, .string pt, .int .i64 ax, .int .i64 ay, .int .i64 aq] 124) rfl))
      have hlf := only_len (x.take k) y
      have hld := differ_len (x.take k) y
      rw [List.length_take] at hlf hld
      clear hrow HS ha
      go_upto_region 5 with (fail)
      generalize wr.alloc (.cells #[.string nm, .string pt, .int .i64 ax, .int .i64 ay, .int .i64 aq] 124) = w1 at *
      obtain ⟨s0, s1, s2, s3⟩ := blk4 H1.out.1.ky
      have hsl := lt_of_blk H1.out.1.ky
      obtain ⟨t0, t1, t2, t3, t4⟩ := blk5p H1.out.2
      have htl := lt_of_blk H1.out.2
      have CP := Lib.hid (placeAt_any ky Wy Hy Ay cy y hly nm w1 (hy.below H1.out.1.below))
      generalize onlyIn (x.take k) y = F at *
      generalize differ (x.take k) y = D at *
      cases hf : findN y nm with
      | none =>
        rw [hf] at CP HN1 HN2
        clear q0 q1 q2 q3 q4 hf
        go_wp2_with fail
        refine CP.out.mono ?_
        rintro e w2 ⟨rfl, b2⟩
        clear CP s0 s1 s2 s3 hsl t0 t1 t2 t3 t4 htl
        have H2 := Lib.hid (And.intro ((H1.out.1.then_ b2).alloc (.cells #[.string ⟨#[]⟩, .string ⟨#[]⟩, .int .i64 0, .int .i64 0, .int .i64 0] 124)) (blk_alloc (blk_below b2 H1.out.2) (.cells #[.string ⟨#[]⟩, .string ⟨#[]⟩, .int .i64 0, .int .i64 0, .int .i64 0] 124)))
        clear b2 H1
        simp only [atVal]
        go_upto_region 6 with (fail)
        generalize w2.alloc (.cells #[.string ⟨#[]⟩, .string ⟨#[]⟩, .int .i64 0, .int .i64 0, .int .i64 0] 124) = w3 at *
        obtain ⟨t0, t1, t2, t3, t4⟩ := blk5p H2.out.2
        have htl := lt_of_blk H2.out.2
        go_wp2_with (at_builtin; refine hold ?_)
        refine loose ?_
        refine wpList_append_lies _ rfl _ _ 46 rfl (w.heap.size + 2) 9 i0 _ 1 16 Tryz.underlying46 HI.out.1 HI.out.2.1 HI.out.2.2.1 HI.out.2.2.2 rfl (by omega) _ _ _ rfl (World.ownsRow.alloc H2.out.1.rows.r1 _) ⟨w3.heap.size, 0, none⟩ 1 1 [.string nm] rfl rfl (cell_one_new _ _ _) (by intro u hu; simp at hu; subst hu; rfl) (by omega) (by unfold maxLen; omega) (by omega) (by have := H2.out.1.below.size; have := lt_of_blk H2.out.1.ky; simp; omega) _ rfl ?_
        intro gA capA wA hoA hgA hatA _
        have HF := Lib.hid ((H2.out.1.alloc (.cells #[.string nm] 9)).app (xs := [nm]) rfl hoA hgA (hatA.imp_right (fun e => Nat.le_of_eq e.symm)))
        have HF2 : Hid (ChW w #[.string kx, .int .i64 Wx, .int .i64 Hx, .slice (some ⟨g, 0, none⟩) x.length cx] #[.string ky, .int .i64 Wy, .int .i64 Hy, .slice Ay y.length cy] (.slice (some ⟨gA, 0, none⟩) (F.length + 1) capA) (.slice none 0 0) (.slice A9 D.length c9) (onlyIn (x.take (k + 1)) y) [] (differ (x.take (k + 1)) y) wA) := by
          have e1 : onlyIn (x.take (k + 1)) y = F ++ [nm] := HN1.out
          have e2 : differ (x.take (k + 1)) y = D := HN2.out.trans (List.append_nil _)
          rw [e1, e2]
          exact HF.out
        have hzA := lt_of_blk HF2.out.ky
        clear hoA hgA hatA HF H2 t0 t1 t2 t3 t4 htl
        go_wp2_with fail
        go_roundw
        case rel => exact ⟨k + 1, by omega, by go_num, hzA, HF2⟩
        case measure => simp [intOf]; omega
      | some b =>
        have hbn := findN_name hf
        obtain ⟨bn, bp, bx, by', bq⟩ := b
        dsimp only at hbn
        subst hbn
        rw [hf] at CP HN1 HN2
        clear q0 q1 q2 q3 q4 hf
        go_wp2_with fail
        refine CP.out.mono ?_
        rintro e w2 ⟨rfl, b2⟩
        clear CP s0 s1 s2 s3 hsl t0 t1 t2 t3 t4 htl
        have H2 := Lib.hid (And.intro ((H1.out.1.then_ b2).alloc (.cells #[.string bn, .string bp, .int .i64 bx, .int .i64 by', .int .i64 bq] 124)) (And.intro (blk_alloc (blk_below b2 H1.out.2) (.cells #[.string bn, .string bp, .int .i64 bx, .int .i64 by', .int .i64 bq] 124)) (blk_new w2 (.cells #[.string bn, .string bp, .int .i64 bx, .int .i64 by', .int .i64 bq] 124) rfl)))
        clear b2 H1
        simp only [atVal]
        go_upto_region 6 with (fail)
        generalize w2.alloc (.cells #[.string bn, .string bp, .int .i64 bx, .int .i64 by', .int .i64 bq] 124) = w3 at *
        obtain ⟨t0, t1, t2, t3, t4⟩ := blk5p H2.out.2.1
        have htl := lt_of_blk H2.out.2.1
        obtain ⟨u0, u1, u2, u3, u4⟩ := blk5p H2.out.2.2
        have hul := lt_of_blk H2.out.2.2
        by_cases e1 : pt.toList = bp.toList
        rotate_left
        · have HPB : Hid (plB ⟨bn, pt, ax, ay, aq⟩ ⟨bn, bp, bx, by', bq⟩ = false) := by
            show _ = _
            simp [plB, e1]
          go_wp2_with (at_builtin; refine hold ?_)
          refine loose ?_
          refine wpList_append_lies _ rfl _ _ 46 rfl (w.heap.size + 2) 9 i0 _ 1 16 Tryz.underlying46 HI.out.1 HI.out.2.1 HI.out.2.2.1 HI.out.2.2.2 rfl (by omega) _ _ _ rfl (World.ownsRow.alloc H2.out.1.rows.r3 _) ⟨w3.heap.size, 0, none⟩ 1 1 [.string bn] rfl rfl (cell_one_new _ _ _) (by intro u hu; simp at hu; subst hu; rfl) (by omega) (by unfold maxLen; omega) (by omega) (by have := H2.out.1.below.size; have := lt_of_blk H2.out.1.ky; simp; omega) _ rfl ?_
          intro gA capA wA hoA hgA hatA _
          have HF := Lib.hid ((H2.out.1.alloc (.cells #[.string bn] 9)).turn.app (xs := [bn]) rfl hoA hgA (hatA.imp_right (fun e => Nat.le_of_eq e.symm))).turn
          have HF2 : Hid (ChW w #[.string kx, .int .i64 Wx, .int .i64 Hx, .slice (some ⟨g, 0, none⟩) x.length cx] #[.string ky, .int .i64 Wy, .int .i64 Hy, .slice Ay y.length cy] (.slice A7 F.length c7) (.slice none 0 0) (.slice (some ⟨gA, 0, none⟩) (D.length + 1) capA) (onlyIn (x.take (k + 1)) y) [] (differ (x.take (k + 1)) y) wA) := by
            have e1 : onlyIn (x.take (k + 1)) y = F := HN1.out.trans (List.append_nil _)
            have e2 : differ (x.take (k + 1)) y = D ++ [bn] := HN2.out.trans (by rw [if_pos (by show (!plB _ _) = true; rw [HPB.out]; rfl)])
            rw [e1, e2]
            exact HF.out
          have hzA := lt_of_blk HF2.out.ky
          clear hoA hgA hatA HF H2 t0 t1 t2 t3 t4 htl u0 u1 u2 u3 u4 hul HPB
          go_wp2_with fail
          go_roundw
          case rel => exact ⟨k + 1, by omega, by go_num, hzA, HF2⟩
          case measure => simp [intOf]; omega
        by_cases e2 : ax = bx
        rotate_left
        · have HPB : Hid (plB ⟨bn, pt, ax, ay, aq⟩ ⟨bn, bp, bx, by', bq⟩ = false) := by
            show _ = _
            simp [plB, e2]
          go_wp2_with (at_builtin; refine hold ?_)
          refine loose ?_
          refine wpList_append_lies _ rfl _ _ 46 rfl (w.heap.size + 2) 9 i0 _ 1 16 Tryz.underlying46 HI.out.1 HI.out.2.1 HI.out.2.2.1 HI.out.2.2.2 rfl (by omega) _ _ _ rfl (World.ownsRow.alloc H2.out.1.rows.r3 _) ⟨w3.heap.size, 0, none⟩ 1 1 [.string bn] rfl rfl (cell_one_new _ _ _) (by intro u hu; simp at hu; subst hu; rfl) (by omega) (by unfold maxLen; omega) (by omega) (by have := H2.out.1.below.size; have := lt_of_blk H2.out.1.ky; simp; omega) _ rfl ?_
          intro gA capA wA hoA hgA hatA _
          have HF := Lib.hid ((H2.out.1.alloc (.cells #[.string bn] 9)).turn.app (xs := [bn]) rfl hoA hgA (hatA.imp_right (fun e => Nat.le_of_eq e.symm))).turn
          have HF2 : Hid (ChW w #[.string kx, .int .i64 Wx, .int .i64 Hx, .slice (some ⟨g, 0, none⟩) x.length cx] #[.string ky, .int .i64 Wy, .int .i64 Hy, .slice Ay y.length cy] (.slice A7 F.length c7) (.slice none 0 0) (.slice (some ⟨gA, 0, none⟩) (D.length + 1) capA) (onlyIn (x.take (k + 1)) y) [] (differ (x.take (k + 1)) y) wA) := by
            have e1 : onlyIn (x.take (k + 1)) y = F := HN1.out.trans (List.append_nil _)
            have e2 : differ (x.take (k + 1)) y = D ++ [bn] := HN2.out.trans (by rw [if_pos (by show (!plB _ _) = true; rw [HPB.out]; rfl)])
            rw [e1, e2]
            exact HF.out
          have hzA := lt_of_blk HF2.out.ky
          clear hoA hgA hatA HF H2 t0 t1 t2 t3 t4 htl u0 u1 u2 u3 u4 hul HPB
          go_wp2_with fail
          go_roundw
          case rel => exact ⟨k + 1, by omega, by go_num, hzA, HF2⟩
          case measure => simp [intOf]; omega
        by_cases e3 : ay = by'
        rotate_left
        · have HPB : Hid (plB ⟨bn, pt, ax, ay, aq⟩ ⟨bn, bp, bx, by', bq⟩ = false) := by
            show _ = _
            simp [plB, e3]
          go_wp2_with (at_builtin; refine hold ?_)
          refine loose ?_
          refine wpList_append_lies _ rfl _ _ 46 rfl (w.heap.size + 2) 9 i0 _ 1 16 Tryz.underlying46 HI.out.1 HI.out.2.1 HI.out.2.2.1 HI.out.2.2.2 rfl (by omega) _ _ _ rfl (World.ownsRow.alloc H2.out.1.rows.r3 _) ⟨w3.heap.size, 0, none⟩ 1 1 [.string bn] rfl rfl (cell_one_new _ _ _) (by intro u hu; simp at hu; subst hu; rfl) (by omega) (by unfold maxLen; omega) (by omega) (by have := H2.out.1.below.size; have := lt_of_blk H2.out.1.ky; simp; omega) _ rfl ?_
          intro gA capA wA hoA hgA hatA _
          have HF := Lib.hid ((H2.out.1.alloc (.cells #[.string bn] 9)).turn.app (xs := [bn]) rfl hoA hgA (hatA.imp_right (fun e => Nat.le_of_eq e.symm))).turn
          have HF2 : Hid (ChW w #[.string kx, .int .i64 Wx, .int .i64 Hx, .slice (some ⟨g, 0, none⟩) x.length cx] #[.string ky, .int .i64 Wy, .int .i64 Hy, .slice Ay y.length cy] (.slice A7 F.length c7) (.slice none 0 0) (.slice (some ⟨gA, 0, none⟩) (D.length + 1) capA) (onlyIn (x.take (k + 1)) y) [] (differ (x.take (k + 1)) y) wA) := by
            have e1 : onlyIn (x.take (k + 1)) y = F := HN1.out.trans (List.append_nil _)
            have e2 : differ (x.take (k + 1)) y = D ++ [bn] := HN2.out.trans (by rw [if_pos (by show (!plB _ _) = true; rw [HPB.out]; rfl)])
            rw [e1, e2]
            exact HF.out
          have hzA := lt_of_blk HF2.out.ky
          clear hoA hgA hatA HF H2 t0 t1 t2 t3 t4 htl u0 u1 u2 u3 u4 hul HPB
          go_wp2_with fail
          go_roundw
          case rel => exact ⟨k + 1, by omega, by go_num, hzA, HF2⟩
          case measure => simp [intOf]; omega
        by_cases e4 : aq = bq
        rotate_left
        · have HPB : Hid (plB ⟨bn, pt, ax, ay, aq⟩ ⟨bn, bp, bx, by', bq⟩ = false) := by
            show _ = _
            simp [plB, e4]
          go_wp2_with (at_builtin; refine hold ?_)
          refine loose ?_
          refine wpList_append_lies _ rfl _ _ 46 rfl (w.heap.size + 2) 9 i0 _ 1 16 Tryz.underlying46 HI.out.1 HI.out.2.1 HI.out.2.2.1 HI.out.2.2.2 rfl (by omega) _ _ _ rfl (World.ownsRow.alloc H2.out.1.rows.r3 _) ⟨w3.heap.size, 0, none⟩ 1 1 [.string bn] rfl rfl (cell_one_new _ _ _) (by intro u hu; simp at hu; subst hu; rfl) (by omega) (by unfold maxLen; omega) (by omega) (by have := H2.out.1.below.size; have := lt_of_blk H2.out.1.ky; simp; omega) _ rfl ?_
          intro gA capA wA hoA hgA hatA _
          have HF := Lib.hid ((H2.out.1.alloc (.cells #[.string bn] 9)).turn.app (xs := [bn]) rfl hoA hgA (hatA.imp_right (fun e => Nat.le_of_eq e.symm))).turn
          have HF2 : Hid (ChW w #[.string kx, .int .i64 Wx, .int .i64 Hx, .slice (some ⟨g, 0, none⟩) x.length cx] #[.string ky, .int .i64 Wy, .int .i64 Hy, .slice Ay y.length cy] (.slice A7 F.length c7) (.slice none 0 0) (.slice (some ⟨gA, 0, none⟩) (D.length + 1) capA) (onlyIn (x.take (k + 1)) y) [] (differ (x.take (k + 1)) y) wA) := by
            have e1 : onlyIn (x.take (k + 1)) y = F := HN1.out.trans (List.append_nil _)
            have e2 : differ (x.take (k + 1)) y = D ++ [bn] := HN2.out.trans (by rw [if_pos (by show (!plB _ _) = true; rw [HPB.out]; rfl)])
            rw [e1, e2]
            exact HF.out
          have hzA := lt_of_blk HF2.out.ky
          clear hoA hgA hatA HF H2 t0 t1 t2 t3 t4 htl u0 u1 u2 u3 u4 hul HPB
          go_wp2_with fail
          go_roundw
          case rel => exact ⟨k + 1, by omega, by go_num, hzA, HF2⟩
          case measure => simp [intOf]; omega
        subst e2
        subst e3
        subst e4
        have e5 : pt = bp := by
          rw [Lib.toList_data, Lib.toList_data] at e1
          exact bt_inj e1
        subst e5
        clear e1
        have HF2 : Hid (ChW w #[.string kx, .int .i64 Wx, .int .i64 Hx, .slice (some ⟨g, 0, none⟩) x.length cx] #[.string ky, .int .i64 Wy, .int .i64 Hy, .slice Ay y.length cy] (.slice A7 F.length c7) (.slice none 0 0) (.slice A9 D.length c9) (onlyIn (x.take (k + 1)) y) [] (differ (x.take (k + 1)) y) w3) := by
          have e1 : onlyIn (x.take (k + 1)) y = F := HN1.out.trans (List.append_nil _)
          have e2 : differ (x.take (k + 1)) y = D := HN2.out.trans (by rw [if_neg (by show ¬ (!plB _ _) = true; simp [plB])]; exact List.append_nil _)
          rw [e1, e2]
          exact H2.out.1
        have hzA := lt_of_blk HF2.out.ky
        go_wp2_with fail
        go_roundw
        case rel => exact ⟨k + 1, by omega, by go_num, hzA, HF2⟩
        case measure => simp [intOf]; omega
    · obtain rfl : k = x.length := by omega
      have HQ : Hid (ChW w #[.string kx, .int .i64 Wx, .int .i64 Hx, .slice Ax x.length cx] #[.string ky, .int .i64 Wy, .int .i64 Hy, .slice Ay y.length cy] (.slice A7 (onlyIn (x.take x.length) y).length c7) (.slice none 0 0) (.slice A9 (differ (x.take x.length) y).length c9) (onlyIn (x.take x.length) y) (onlyIn (y.take 0) x) (differ (x.take x.length) y) wr) := HS.out
      rw [List.take_of_length_le (Nat.le_refl _)] at HQ
      rw [List.take_of_length_le (Nat.le_refl _)]
      rw [List.take_of_length_le (Nat.le_refl _)] at hc7 hc9
      have HFD : Hid (∃ F D, onlyIn x y = F ∧ differ x y = D) := ⟨_, _, rfl, rfl⟩
      obtain ⟨F, D, hF, hD⟩ := HFD.out
      rw [hF, hD] at HQ
      rw [hF] at hc7
      rw [hD] at hc9
      rw [hF, hD]
      have HFE := Lib.hid (And.intro hF hD)
      clear hF hD HFD HS
      obtain ⟨p0, p1, p2, p3⟩ := blk4 HQ.out.ky
      have hpl := lt_of_blk HQ.out.ky
      obtain ⟨wo, rfl⟩ : ∃ wo : World, wo = wr := ⟨_, rfl⟩
      go_wp2_with fail
      go_loopw [8, 53] (fun v8 kk wr => ∃ k : Nat, k ≤ y.length ∧ kk = .int .i64 k ∧ w.heap.size + 1 < wr.heap.size ∧ Hid (ChW w #[.string kx, .int .i64 Wx, .int .i64 Hx, .slice Ax x.length cx] #[.string ky, .int .i64 Wy, .int .i64 Hy, .slice Ay y.length cy] (.slice A7 F.length c7) v8 (.slice A9 D.length c9) F (onlyIn (y.take k) x) D wr)) (fun _ kk _ => y.length - (intOf kk).toNat)
      case atStart => exact ⟨0, by omega, rfl, hpl, HQ⟩
      case round =>
        obtain ⟨k, hk, rfl, hwz, HS⟩ := hrel
        clear HQ hpl p0 p1 p2 p3
        obtain ⟨A8, c8, rfl, hc8, _⟩ := own_slice' HS.out.rows.r2
        by_cases hlt : k < y.length
        · obtain ⟨a, ha⟩ : ∃ a, y[k] = a := ⟨_, rfl⟩
          have HN1 := Lib.hid (only_snoc y x hlt)
          rw [ha] at HN1
          rcases hy with rfl | ⟨g, rfl, hrow⟩
          · simp at hlt
          obtain ⟨q0, q1, q2, q3, q4⟩ := row_pl (hrow.below HS.out.below) hlt
          rw [ha] at q0 q1 q2 q3 q4
          have hg1 : g < wr.heap.size := Nat.lt_of_lt_of_le hrow.1 (by omega)
          have HRX := Lib.hid hrow
          obtain ⟨nm, pt, ax, ay, aq⟩ := a
          dsimp only at q0 q1 q2 q3 q4 HN1
          have H1 := Lib.hid (And.intro (HS.out.alloc (.cells #[.string nm, .string pt, .int .i64 ax, .int .i64 ay, .int .i64 aq] 124)) (blk_new wr (.cells #[.string nm, .string pt, .int .i64 ax, .int .i64 ay, .int .i64 aq] 124) rfl))
          have hlf := only_len (y.take k) x
          rw [List.length_take] at hlf
          clear hrow HS ha
          go_upto_region 14 with (fail)
          generalize wr.alloc (.cells #[.string nm, .string pt, .int .i64 ax, .int .i64 ay, .int .i64 aq] 124) = w1 at *
          obtain ⟨s0, s1, s2, s3⟩ := blk4 H1.out.1.kx
          have hsl := lt_of_blk H1.out.1.kx
          obtain ⟨t0, t1, t2, t3, t4⟩ := blk5p H1.out.2
          have htl := lt_of_blk H1.out.2
          have CP := Lib.hid (placeAt_any kx Wx Hx Ax cx x hlx nm w1 (hx.below H1.out.1.below))
          generalize onlyIn (y.take k) x = S at *
          cases hf : findN x nm with
          | none =>
            rw [hf] at CP HN1
            clear q0 q1 q2 q3 q4 hf
            go_wp2_with fail
            refine CP.out.mono ?_
            rintro e w2 ⟨rfl, b2⟩
            clear CP s0 s1 s2 s3 hsl t0 t1 t2 t3 t4 htl
            have H2 := Lib.hid (And.intro ((H1.out.1.then_ b2).alloc (.cells #[.string ⟨#[]⟩, .string ⟨#[]⟩, .int .i64 0, .int .i64 0, .int .i64 0] 124)) (blk_alloc (blk_below b2 H1.out.2) (.cells #[.string ⟨#[]⟩, .string ⟨#[]⟩, .int .i64 0, .int .i64 0, .int .i64 0] 124)))
            clear b2 H1
            simp only [atVal]
            go_upto_region 15 with (fail)
            generalize w2.alloc (.cells #[.string ⟨#[]⟩, .string ⟨#[]⟩, .int .i64 0, .int .i64 0, .int .i64 0] 124) = w3 at *
            obtain ⟨t0, t1, t2, t3, t4⟩ := blk5p H2.out.2
            have htl := lt_of_blk H2.out.2
            go_wp2_with (at_builtin; refine hold ?_)
            refine loose ?_
            refine wpList_append_lies _ rfl _ _ 46 rfl (w.heap.size + 2) 9 i0 _ 1 16 Tryz.underlying46 HI.out.1 HI.out.2.1 HI.out.2.2.1 HI.out.2.2.2 rfl (by omega) _ _ _ rfl (World.ownsRow.alloc H2.out.1.rows.r2 _) ⟨w3.heap.size, 0, none⟩ 1 1 [.string nm] rfl rfl (cell_one_new _ _ _) (by intro u hu; simp at hu; subst hu; rfl) (by omega) (by unfold maxLen; omega) (by omega) (by have := H2.out.1.below.size; have := lt_of_blk H2.out.1.ky; simp; omega) _ rfl ?_
            intro gA capA wA hoA hgA hatA _
            have HF := Lib.hid ((H2.out.1.alloc (.cells #[.string nm] 9)).swap.app (xs := [nm]) rfl hoA hgA (hatA.imp_right (fun e => Nat.le_of_eq e.symm))).swap
            have HF2 : Hid (ChW w #[.string kx, .int .i64 Wx, .int .i64 Hx, .slice Ax x.length cx] #[.string ky, .int .i64 Wy, .int .i64 Hy, .slice (some ⟨g, 0, none⟩) y.length cy] (.slice A7 F.length c7) (.slice (some ⟨gA, 0, none⟩) (S.length + 1) capA) (.slice A9 D.length c9) F (onlyIn (y.take (k + 1)) x) D wA) := by
              have e1 : onlyIn (y.take (k + 1)) x = S ++ [nm] := HN1.out
              rw [e1]
              exact HF.out
            have hzA := lt_of_blk HF2.out.ky
            clear hoA hgA hatA HF H2 t0 t1 t2 t3 t4 htl
            go_wp2_with fail
            go_roundw
            case rel => exact ⟨k + 1, by omega, by go_num, hzA, HF2⟩
            case measure => simp [intOf]; omega
          | some b =>
            rw [hf] at CP HN1
            clear q0 q1 q2 q3 q4 hf
            obtain ⟨bn, bp, bx, by', bq⟩ := b
            go_wp2_with fail
            refine CP.out.mono ?_
            rintro e w2 ⟨rfl, b2⟩
            clear CP s0 s1 s2 s3 hsl t0 t1 t2 t3 t4 htl
            have H2 := Lib.hid ((H1.out.1.then_ b2).alloc (.cells #[.string bn, .string bp, .int .i64 bx, .int .i64 by', .int .i64 bq] 124))
            clear b2 H1
            simp only [atVal]
            go_upto_region 15 with (fail)
            generalize w2.alloc (.cells #[.string bn, .string bp, .int .i64 bx, .int .i64 by', .int .i64 bq] 124) = w3 at *
            have HF2 : Hid (ChW w #[.string kx, .int .i64 Wx, .int .i64 Hx, .slice Ax x.length cx] #[.string ky, .int .i64 Wy, .int .i64 Hy, .slice (some ⟨g, 0, none⟩) y.length cy] (.slice A7 F.length c7) (.slice A8 S.length c8) (.slice A9 D.length c9) F (onlyIn (y.take (k + 1)) x) D w3) := by
              have e1 : onlyIn (y.take (k + 1)) x = S := HN1.out.trans (List.append_nil _)
              rw [e1]
              exact H2.out
            have hzA := lt_of_blk HF2.out.ky
            clear H2
            go_wp2_with fail
            go_roundw
            case rel => exact ⟨k + 1, by omega, by go_num, hzA, HF2⟩
            case measure => simp [intOf]; omega
        · obtain rfl : k = y.length := by omega
          have HQ2 := HS.out
          rw [List.take_of_length_le (Nat.le_refl _)] at HQ2
          rw [List.take_of_length_le (Nat.le_refl _)]
          have HQ3 := Lib.hid HQ2
          clear HQ2 HS
          go_wp2_with fail
          refine bodyPost_ret (v := .tuple #[.slice A7 F.length c7, .slice A8 (onlyIn y x).length c8, .slice A9 D.length c9]) (by unfold results; simp only [Tryz.results22]; go_simp) rfl ⟨_, _, _, rfl, HQ3.out.below, ?_⟩
          rw [HFE.out.1, HFE.out.2]
          exact ⟨own_mono HQ3.out.rows.r1 (by omega), own_mono HQ3.out.rows.r2 (by omega), own_mono HQ3.out.rows.r3 (by omega), HQ3.out.rows.n12, HQ3.out.rows.n13, HQ3.out.rows.n23⟩
end Go.Proofs.YtalconjnjaffkaaGreatDoor
