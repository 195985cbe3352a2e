/-
  The program's changed placements.
-/
import Derived.Test.YtalconjnjaffkaaGreatDoorTxYa
namespace Go.Proofs.YtalconjnjaffkaaGreatDoor
open Go.RowKit
set_option linter.unusedSimpArgs false
set_option linter.unusedVariables false

theorem prodErr_ris {key : ByteArray} {W H : Int} {l : List Pl} (h : prodErr key W H l = 0) : Ris l := by
  unfold prodErr at h
  split at h
  · cases h
  split at h
  · cases h
  split at h
  · cases h
  exact (plErr_ok W H l none h).2.2
def lenOf : Value → Nat
  | .slice _ n _ => n
  | _ => 0
/-- What is found, and what is still to come. -/
structure MgS (x y xs ys : List Pl) (F S D : List ByteArray) : Prop where
  e1 : onlyIn x y = F ++ onlyIn xs ys
  e2 : onlyIn y x = S ++ onlyIn ys xs
  e3 : differ x y = D ++ differ xs ys
  rx : Ris xs
  ry : Ris ys
  l1 : F.length + xs.length ≤ x.length
  l2 : S.length + ys.length ≤ y.length
  l3 : D.length + xs.length ≤ x.length
theorem MgS.lt {x y xs ys : List Pl} {a b : Pl} {F S D : List ByteArray} (h : MgS x y (a :: xs) (b :: ys) F S D) (hl : bt a.name < bt b.name) : MgS x y xs (b :: ys) (F ++ [a.name]) S D := by
  obtain ⟨s1, s2, s3⟩ := step_lt hl h.rx h.ry
  obtain ⟨e1, e2, e3, rx, ry, l1, l2, l3⟩ := h
  refine ⟨?_, ?_, ?_, (List.pairwise_cons.mp rx).2, ry, ?_, l2, ?_⟩
  · rw [e1, s1]; simp
  · rw [e2, s2]
  · rw [e3, s3]
  · simp only [List.length_append, List.length_cons, List.length_nil] at l1 ⊢; omega
  · simp only [List.length_cons] at l3; omega
theorem MgS.gt {x y xs ys : List Pl} {a b : Pl} {F S D : List ByteArray} (h : MgS x y (a :: xs) (b :: ys) F S D) (hl : bt b.name < bt a.name) : MgS x y (a :: xs) ys F (S ++ [b.name]) D := by
  obtain ⟨s1, s2, s3⟩ := step_gt hl h.rx h.ry
  obtain ⟨e1, e2, e3, rx, ry, l1, l2, l3⟩ := h
  refine ⟨?_, ?_, ?_, rx, (List.pairwise_cons.mp ry).2, l1, ?_, l3⟩
  · rw [e1, s1]
  · rw [e2, s2]; simp
  · rw [e3, s3]
  · simp only [List.length_append, List.length_cons, List.length_nil] at l2 ⊢; omega
theorem MgS.same {x y xs ys : List Pl} {a b : Pl} {F S D : List ByteArray} (h : MgS x y (a :: xs) (b :: ys) F S D) (hl : b.name = a.name) (hb : plB a b = true) : MgS x y xs ys F S D := by
  obtain ⟨s1, s2, s3⟩ := step_eq hl h.rx h.ry
  obtain ⟨e1, e2, e3, rx, ry, l1, l2, l3⟩ := h
  refine ⟨?_, ?_, ?_, (List.pairwise_cons.mp rx).2, (List.pairwise_cons.mp ry).2, ?_, ?_, ?_⟩
  · rw [e1, s1]
  · rw [e2, s2]
  · rw [e3, s3, if_pos hb]
  · simp only [List.length_cons] at l1; omega
  · simp only [List.length_cons] at l2; omega
  · simp only [List.length_cons] at l3; omega
theorem MgS.other {x y xs ys : List Pl} {a b : Pl} {F S D : List ByteArray} (h : MgS x y (a :: xs) (b :: ys) F S D) (hl : b.name = a.name) (hb : plB a b = false) : MgS x y xs ys F S (D ++ [a.name]) := by
  obtain ⟨s1, s2, s3⟩ := step_eq hl h.rx h.ry
  obtain ⟨e1, e2, e3, rx, ry, l1, l2, l3⟩ := h
  refine ⟨?_, ?_, ?_, (List.pairwise_cons.mp rx).2, (List.pairwise_cons.mp ry).2, ?_, ?_, ?_⟩
  · rw [e1, s1]
  · rw [e2, s2]
  · rw [e3, s3, if_neg (by rw [hb]; simp)]; simp
  · simp only [List.length_cons] at l1; omega
  · simp only [List.length_cons] at l2; omega
  · simp only [List.length_append, List.length_cons, List.length_nil] at l3 ⊢; omega

/-- One product is left over, in a slice. -/
structure Rest (w0 : World) (v : Value) (l : List Pl) (w : World) : Prop where
  form : ∃ A c, v = .slice A l.length c ∧ l.length ≤ c ∧ SubAt w A l ∧ ∀ g o : Nat, A = some ⟨g, o, none⟩ → l ≠ [] → g < w0.heap.size
theorem Rest.then_ {w0 w w' : World} {v : Value} {l : List Pl} (h : Rest w0 v l w) (hb : Below w0.heap.size w w') : Rest w0 v l w' := by
  obtain ⟨A, c, e, hc, hs, hg⟩ := h.form
  exact ⟨A, c, e, hc, hs.below hb hg, hg⟩

theorem Rest.grown {w0 w w' : World} {v : Value} {l : List Pl} {row : Option Nat} (h : Rest w0 v l w) (hb : w.drew.grownBy w' row) (hr : ∀ j, row = some j → w0.heap.size + 2 ≤ j) : Rest w0 v l w' := by
  obtain ⟨A, c, e, hc, hs, hg⟩ := h.form
  refine ⟨A, c, e, hc, ?_, hg⟩
  rcases hs with hs | ⟨g, o, e2, hgl, hs⟩
  · exact .inl hs
  · by_cases hn : l = []
    · exact .inl hn
    · have hgb := hg g o e2 hn
      have hne : some g ≠ row := fun e => by have := hr g e.symm; omega
      refine .inr ⟨g, o, e2, Nat.lt_of_lt_of_le hgl hb.size, fun i hi => ?_⟩
      obtain ⟨a, b, c, d, f⟩ := hs i hi
      exact ⟨World.grownBy.cell hb (a := ⟨g, _, none⟩) a hne, World.grownBy.cell hb (a := ⟨g, _, none⟩) b hne, World.grownBy.cell hb (a := ⟨g, _, none⟩) c hne, World.grownBy.cell hb (a := ⟨g, _, none⟩) d hne, World.grownBy.cell hb (a := ⟨g, _, none⟩) f hne⟩
theorem Rest.grown0 {w0 w w' : World} {v : Value} {l : List Pl} {row : Option Nat} (h : Rest w0 v l w) (hb : w.grownBy w' row) (hr : ∀ j, row = some j → w0.heap.size + 2 ≤ j) : Rest w0 v l w' := by
  obtain ⟨A, c, e, hc, hs, hg⟩ := h.form
  refine ⟨A, c, e, hc, ?_, hg⟩
  rcases hs with hs | ⟨g, o, e2, hgl, hs⟩
  · exact .inl hs
  · by_cases hn : l = []
    · exact .inl hn
    · have hgb := hg g o e2 hn
      have hne : some g ≠ row := fun e => by have := hr g e.symm; omega
      refine .inr ⟨g, o, e2, Nat.lt_of_lt_of_le hgl hb.size, fun i hi => ?_⟩
      obtain ⟨a, b, c, d, f⟩ := hs i hi
      exact ⟨World.grownBy.cell hb (a := ⟨g, _, none⟩) a hne, World.grownBy.cell hb (a := ⟨g, _, none⟩) b hne, World.grownBy.cell hb (a := ⟨g, _, none⟩) c hne, World.grownBy.cell hb (a := ⟨g, _, none⟩) d hne, World.grownBy.cell hb (a := ⟨g, _, none⟩) f hne⟩
theorem Rest.tail {w0 w : World} {g o n c : Nat} {p : Pl} {l : List Pl} (h : Rest w0 (.slice (some ⟨g, o, none⟩) n c) (p :: l) w) : Rest w0 (.slice (if c = 1 then some ⟨g, o, none⟩ else some ⟨g, o + 5, none⟩) l.length (c - 1)) l w := by
  obtain ⟨A, c', e, hc, hs, hg⟩ := h.form
  injection e with e1 _ e3
  subst e1 e3
  have hg0 := hg g o rfl (by simp)
  simp only [List.length_cons] at hc
  by_cases h1 : c = 1
  · rw [if_pos h1]
    have : l = [] := List.length_eq_zero_iff.mp (by omega)
    subst this
    exact ⟨_, _, rfl, by simp, .inl rfl, fun _ _ _ h => absurd rfl h⟩
  · rw [if_neg h1]
    exact ⟨_, _, rfl, by omega, hs.tail, fun g' o' e _ => by injection e with e; injection e with e _; omega⟩
theorem Rest.next {w0 w w' : World} {g o n c c8 : Nat} {A8 : Option Addr} {p : Pl} {l : List Pl} {row : Option Nat} (h : Rest w0 (.slice (some ⟨g, o, none⟩) n c) (p :: l) w) (hb : w.drew.grownBy w' row) (hr : ∀ j, row = some j → w0.heap.size + 2 ≤ j) (hc : l.length ≤ c8) (ha : l = [] ∨ A8 = some ⟨g, o + 5, none⟩) : Rest w0 (.slice A8 l.length c8) l w' := by
  obtain ⟨A, c, e, _, hs, hg⟩ := (h.grown hb hr).form
  injection e with e1 _ _
  subst e1
  have hg0 := hg g o rfl (by simp)
  rcases ha with ha | ha
  · subst ha
    exact ⟨A8, c8, rfl, hc, .inl rfl, fun _ _ _ h => absurd rfl h⟩
  · subst ha
    exact ⟨_, c8, rfl, hc, hs.tail, fun g' o' e _ => by injection e with e; injection e with e _; omega⟩

set_option maxRecDepth 100000 in
set_option maxHeartbeats 8000000 in
theorem pchanged_any (kx : ByteArray) (Wx Hx : Int) (Ax : Option Addr) (cx : Nat) (x : List Pl) (hcx : x.length ≤ cx) (hlx : x.length ≤ 1000000) (ky : ByteArray) (Wy Hy : Int) (Ay : Option Addr) (cy : Nat) (y : List Pl) (hcy : y.length ≤ cy) (hly : y.length ≤ 1000000) (w : World) (hx : PlAt w Ax x) (hy : PlAt w Ay y) :
    Calls Tryz.prog 18 #[prod kx Wx Hx Ax x.length cx, prod ky Wy Hy Ay y.length cy] w fun e w' => ∃ u v z, e = .returned (.tuple #[u, v, z, .int .i64 (errsL [prodErr kx Wx Hx x, prodErr ky Wy Hy y])]) ∧ Below w.heap.size w w' ∧
      Rows3 w.heap.size u v z (if errsL [prodErr kx Wx Hx x, prodErr ky Wy Hy y] = 0 then onlyIn x y else []) (if errsL [prodErr kx Wx Hx x, prodErr ky Wy Hy y] = 0 then onlyIn y x else []) (if errsL [prodErr kx Wx Hx x, prodErr ky Wy Hy y] = 0 then differ x y else []) w' := by
  have HB0 : Hid (ChW w #[.string kx, .int .i64 Wx, .int .i64 Hx, .slice Ax x.length cx] #[.string ky, .int .i64 Wy, .int .i64 Hy, .slice Ay y.length cy] (.slice none 0 0) (.slice none 0 0) (.slice none 0 0) [] [] [] ((w.alloc (.cells #[.string kx, .int .i64 Wx, .int .i64 Hx, .slice Ax x.length cx] 44)).alloc (.cells #[.string ky, .int .i64 Wy, .int .i64 Hy, .slice Ay y.length cy] 44))) :=
    ⟨((Below.refl _ _).alloc (Nat.le_refl _) _).alloc (by simp) _, Rows3.nil _ _, blk_alloc (blk_new w _ rfl) _, blk_new _ _ (by simp)⟩
  have CX := Lib.hid (fun (u : World) (hu : Below w.heap.size w u) => checkProduct_any kx Wx Hx Ax cx x (by omega) u (hx.below hu))
  have CY := Lib.hid (fun (u : World) (hu : Below w.heap.size w u) => checkProduct_any ky Wy Hy Ay cy y (by omega) u (hy.below hu))
  have HRX := Lib.hid (fun (h : prodErr kx Wx Hx x = 0) => prodErr_ris h)
  have HRY := Lib.hid (fun (h : prodErr ky Wy Hy y = 0) => prodErr_ris h)
  generalize prodErr kx Wx Hx x = E1 at *
  generalize prodErr ky Wy Hy y = E2 at *
  by_cases h1 : E1 = 0
  rotate_left
  · have he : errsL [E1, E2] = E1 := if_neg h1
    rw [he, if_neg h1, if_neg h1, if_neg h1]
    have hne1 : (E1 == 0) = false := by simpa using h1
    have hne2 : (E1 != 0) = true := by simpa using h1
    clear he
    go_enter Tryz.func18, Tryz.ntmps18
    go_upto_region 1 with (fail)
    generalize (w.alloc (.cells #[.string kx, .int .i64 Wx, .int .i64 Hx, .slice Ax x.length cx] 44)).alloc (.cells #[.string ky, .int .i64 Wy, .int .i64 Hy, .slice Ay y.length cy] 44) = w0 at *
    obtain ⟨p0, p1, p2, p3⟩ := blk4 HB0.out.kx
    have hpl := lt_of_blk HB0.out.kx
    go_wp2_with fail
    refine (CX.out w0 HB0.out.below).mono ?_
    rintro e w1 ⟨rfl, b1⟩
    have HB := Lib.hid (HB0.out.below.then_below b1 HB0.out.below.size)
    clear b1
    go_wp2_with fail
    refine bodyPost_ret (v := .tuple #[.slice none 0 0, .slice none 0 0, .slice none 0 0, .int .i64 E1]) (by unfold results; simp only [Tryz.results18]; go_simp) rfl ⟨_, _, _, rfl, HB.out, Rows3.nil _ _⟩
  subst h1
  by_cases h2 : E2 = 0
  rotate_left
  · have he : errsL [0, E2] = E2 := (if_pos rfl).trans (if_neg h2)
    rw [he, if_neg h2, if_neg h2, if_neg h2]
    have hne1 : (E2 == 0) = false := by simpa using h2
    have hne2 : (E2 != 0) = true := by simpa using h2
    clear he
    go_enter Tryz.func18, Tryz.ntmps18
    go_upto_region 1 with (fail)
    generalize (w.alloc (.cells #[.string kx, .int .i64 Wx, .int .i64 Hx, .slice Ax x.length cx] 44)).alloc (.cells #[.string ky, .int .i64 Wy, .int .i64 Hy, .slice Ay y.length cy] 44) = w0 at *
    obtain ⟨p0, p1, p2, p3⟩ := blk4 HB0.out.kx
    have hpl := lt_of_blk HB0.out.kx
    go_wp2_with fail
    refine (CX.out w0 HB0.out.below).mono ?_
    rintro e w1 ⟨rfl, b1⟩
    have H1 := Lib.hid (HB0.out.then_ b1)
    clear b1 p0 p1 p2 p3 hpl
    obtain ⟨p0, p1, p2, p3⟩ := blk4 H1.out.ky
    have hpl := lt_of_blk H1.out.ky
    go_wp2_with fail
    refine (CY.out w1 H1.out.below).mono ?_
    rintro e w2 ⟨rfl, b2⟩
    have HB := Lib.hid (H1.out.below.then_below b2 H1.out.below.size)
    clear b2
    go_wp2_with fail
    refine bodyPost_ret (v := .tuple #[.slice none 0 0, .slice none 0 0, .slice none 0 0, .int .i64 E2]) (by unfold results; simp only [Tryz.results18]; go_simp) rfl ⟨_, _, _, rfl, HB.out, Rows3.nil _ _⟩
  subst h2
  have he : errsL [0, 0] = 0 := rfl
  rw [he, if_pos rfl, if_pos rfl, if_pos rfl]
  have HM0 : Hid (MgS x y x y [] [] []) := ⟨rfl, rfl, rfl, HRX.out rfl, HRY.out rfl, by simp, by simp, by simp⟩
  clear he HRX HRY
  go_enter Tryz.func18, Tryz.ntmps18
  go_upto_region 1 with (fail)
  generalize (w.alloc (.cells #[.string kx, .int .i64 Wx, .int .i64 Hx, .slice Ax x.length cx] 44)).alloc (.cells #[.string ky, .int .i64 Wy, .int .i64 Hy, .slice Ay y.length cy] 44) = w0 at *
  obtain ⟨p0, p1, p2, p3⟩ := blk4 HB0.out.kx
  have hpl := lt_of_blk HB0.out.kx
  go_wp2_with fail
  refine (CX.out w0 HB0.out.below).mono ?_
  rintro e w1 ⟨rfl, b1⟩
  have H1 := Lib.hid (HB0.out.then_ b1)
  clear b1 p0 p1 p2 p3 hpl HB0
  obtain ⟨p0, p1, p2, p3⟩ := blk4 H1.out.ky
  have hpl := lt_of_blk H1.out.ky
  go_wp2_with fail
  refine (CY.out w1 H1.out.below).mono ?_
  rintro e w2 ⟨rfl, b2⟩
  have H2 := Lib.hid (H1.out.then_ b2)
  clear b2 p0 p1 p2 p3 hpl H1 CX CY
  obtain ⟨p0, p1, p2, p3⟩ := blk4 H2.out.kx
  have hpl := lt_of_blk H2.out.kx
  obtain ⟨r0, r1, r2, r3⟩ := blk4 H2.out.ky
  have hrl := lt_of_blk H2.out.ky
  go_wp2_with fail
  go_quiet (fail)
  have HS0 : Hid (ChW w #[.string kx, .int .i64 Wx, .int .i64 Hx, .slice Ax x.length cx] #[.string ky, .int .i64 Wy, .int .i64 Hy, .slice Ay y.length cy] (.slice none 0 0) (.slice none 0 0) (.slice none 0 0) [] [] [] (w2.drewN nq)) := H2.out.then_ ((Below.refl _ _).drawN _)
  have HR0 : Hid (Rest w (.slice Ax x.length cx) x (w2.drewN nq) ∧ Rest w (.slice Ay y.length cy) y (w2.drewN nq)) :=
    ⟨⟨Ax, cx, rfl, hcx, .of (hx.below HS0.out.below), fun g o e hn => by
      rcases hx with h | ⟨g', e', h⟩
      · exact absurd h hn
      · rw [e'] at e; cases e; exact h.1⟩, ⟨Ay, cy, rfl, hcy, .of (hy.below HS0.out.below), fun g o e hn => by
      rcases hy with h | ⟨g', e', h⟩
      · exact absurd h hn
      · rw [e'] at e; cases e; exact h.1⟩⟩
  have hz0 := lt_of_blk HS0.out.ky
  clear H2 p0 p1 p2 p3 hpl r0 r1 r2 r3 hrl
  generalize w2.drewN nq = w3 at *
  obtain ⟨i0, hi, hzz0, hzz1, hzz2⟩ := info_parts str_infoT
  have HI := Lib.hid (And.intro hi (And.intro hzz0 (And.intro hzz1 hzz2)))
  clear hi hzz0 hzz1 hzz2 hx hy
  go_wp2_with fail
  go_loopw [10, 11, 12, 13, 14] (fun v10 v11 v12 v13 v14 wr => ∃ (xs ys : List Pl) (F S D : List ByteArray), Hid (MgS x y xs ys F S D) ∧ w.heap.size + 1 < wr.heap.size ∧ Hid (ChW w #[.string kx, .int .i64 Wx, .int .i64 Hx, .slice Ax x.length cx] #[.string ky, .int .i64 Wy, .int .i64 Hy, .slice Ay y.length cy] v10 v11 v12 F S D wr) ∧ Hid (Rest w v13 xs wr ∧ Rest w v14 ys wr)) (fun _ _ _ v13 v14 _ => lenOf v13 + lenOf v14)
  case atStart => exact ⟨x, y, [], [], [], HM0, hz0, HS0, HR0⟩
  case round =>
    obtain ⟨xs, ys, F, S, D, HM, hwz, HS, HR⟩ := hrel
    clear HM0 HS0 HR0 hz0
    obtain ⟨A10, c10, rfl, hc10, _⟩ := own_slice' HS.out.rows.r1
    obtain ⟨A11, c11, rfl, hc11, _⟩ := own_slice' HS.out.rows.r2
    obtain ⟨A12, c12, rfl, hc12, _⟩ := own_slice' HS.out.rows.r3
    obtain ⟨A13, c13, rfl, hc13, sx, gx⟩ := HR.out.1.form
    obtain ⟨A14, c14, rfl, hc14, sy, gy⟩ := HR.out.2.form
    have hb1 := HM.out.l1
    have hb2 := HM.out.l2
    have hb3 := HM.out.l3
    cases xs with
    | nil =>
      cases ys with
      | nil =>
        have e1 : onlyIn x y = F := HM.out.e1.trans (List.append_nil _)
        have e2 : onlyIn y x = S := HM.out.e2.trans (List.append_nil _)
        have e3 : differ x y = D := HM.out.e3.trans (List.append_nil _)
        have HE := Lib.hid (And.intro e1 (And.intro e2 e3))
        have CN1 := Lib.hid (names_any [] (by simp) A13 c13 wr (.inl rfl))
        have CN2 := Lib.hid (fun (u : World) => names_any [] (by simp) A14 c14 u (.inl rfl))
        simp only [List.length_nil] at CN1 CN2 ⊢
        clear e1 e2 e3 HM HR sx sy gx gy
        go_wp2_with fail
        refine CN1.out.mono ?_
        rintro e w1 ⟨v1, rfl, b1, _, hv1⟩
        obtain rfl := hv1 trivial
        have H1 := Lib.hid (HS.out.then_ b1)
        clear b1
        go_wp2_with (at_builtin; refine hold ?_)
        refine loose ?_
        refine wpList_append_nil _ rfl _ _ rfl i0 HI.out.1 HI.out.2.2.1 A10 F.length c10 (by omega) rfl rfl ?_
        go_wp2_with fail
        refine (CN2.out w1).mono ?_
        rintro e w2 ⟨v2, rfl, b2, _, hv2⟩
        obtain rfl := hv2 trivial
        have H2 := Lib.hid (H1.out.then_ b2)
        clear b2
        go_wp2_with (at_builtin; refine hold ?_)
        refine loose ?_
        refine wpList_append_nil _ rfl _ _ rfl i0 HI.out.1 HI.out.2.2.1 A11 S.length c11 (by omega) rfl rfl ?_
        go_wp2_with fail
        refine bodyPost_ret (v := .tuple #[.slice A10 F.length c10, .slice A11 S.length c11, .slice A12 D.length c12, .int .i64 0]) (by unfold results; simp only [Tryz.results18]; go_simp) rfl ⟨_, _, _, rfl, H2.out.below, ?_⟩
        rw [HE.out.1, HE.out.2.1, HE.out.2.2]
        exact ⟨own_mono H2.out.rows.r1 (by omega), own_mono H2.out.rows.r2 (by omega), own_mono H2.out.rows.r3 (by omega), H2.out.rows.n12, H2.out.rows.n13, H2.out.rows.n23⟩
      | cons b ys =>
        have e1 : onlyIn x y = F := HM.out.e1.trans (List.append_nil _)
        have e2 : onlyIn y x = S ++ (b :: ys).map Pl.name := HM.out.e2.trans (by rw [only_nil])
        have e3 : differ x y = D := HM.out.e3.trans (List.append_nil _)
        have HE := Lib.hid (And.intro e1 (And.intro e2 e3))
        have CN1 := Lib.hid (names_any [] (by simp) A13 c13 wr (.inl rfl))
        have CN2 := Lib.hid (fun (u : World) (hu : Below w.heap.size wr u) => names_any (b :: ys) (by omega) A14 c14 u (sy.below hu gy))
        simp only [List.length_nil, List.length_cons] at CN1 CN2 hb2 ⊢
        clear e1 e2 e3 HM HR sx gx
        go_wp2_with fail
        refine CN1.out.mono ?_
        rintro e w1 ⟨v1, rfl, b1, _, hv1⟩
        obtain rfl := hv1 trivial
        have H1 := Lib.hid (HS.out.then_ b1)
        have HB1 : Hid (Below w.heap.size wr w1) := b1.mono (by omega)
        clear b1
        go_wp2_with (at_builtin; refine hold ?_)
        refine loose ?_
        refine wpList_append_nil _ rfl _ _ rfl i0 HI.out.1 HI.out.2.2.1 A10 F.length c10 (by omega) rfl rfl ?_
        go_wp2_with fail
        refine (CN2.out w1 HB1.out).mono ?_
        rintro e w2 ⟨v2, rfl, b2, ho9, _⟩
        have H2 := Lib.hid (H1.out.then_ b2)
        clear b2 CN1 CN2 sy gy
        obtain ⟨gv, cv, rfl, hgv, hgvl, hcv, _, hcells⟩ := own_read ho9 (by simp)
        go_wp2_with (at_builtin; refine hold ?_)
        refine loose ?_
        refine wpList_append_lies _ rfl _ _ 46 rfl (w.heap.size + 2) 9 i0 _ 1 16 Tryz.underlying46 HI.out.1 HI.out.2.1 HI.out.2.2.1 HI.out.2.2.2 rfl (by omega) _ _ _ rfl H2.out.rows.r2 ⟨gv, 0, none⟩ (ys.length + 1) _ (((b :: ys).map Pl.name).map Value.string) rfl (by simp) (fun j u hu => by rw [addr_new]; exact hcells j u hu) (by intro u hu; obtain ⟨_, _, rfl⟩ := List.mem_map.mp hu; rfl) (by omega) (by unfold maxLen; omega) (by omega) (by have := lt_of_blk H2.out.ky; omega) _ rfl ?_
        intro gA capA wA hoA hgA hatA _
        have H3 := Lib.hid (H2.out.swap.app (xs := (b :: ys).map Pl.name) (by simp) hoA hgA (hatA.imp_right (fun e => Nat.le_of_eq e.symm))).swap
        clear hoA hgA hatA ho9 hcells
        go_wp2_with fail
        refine bodyPost_ret (v := .tuple #[.slice A10 F.length c10, .slice (some ⟨gA, 0, none⟩) (S.length + (ys.length + 1)) capA, .slice A12 D.length c12, .int .i64 0]) (by unfold results; simp only [Tryz.results18]; go_simp) rfl ⟨_, _, _, rfl, H3.out.below, ?_⟩
        rw [HE.out.1, HE.out.2.1, HE.out.2.2]
        exact ⟨own_mono H3.out.rows.r1 (by omega), own_mono H3.out.rows.r2 (by omega), own_mono H3.out.rows.r3 (by omega), H3.out.rows.n12, H3.out.rows.n13, H3.out.rows.n23⟩
    | cons a xs =>
      cases ys with
      | nil =>
        have e1 : onlyIn x y = F ++ (a :: xs).map Pl.name := HM.out.e1.trans (by rw [only_nil])
        have e2 : onlyIn y x = S := HM.out.e2.trans (List.append_nil _)
        have e3 : differ x y = D := HM.out.e3.trans (by rw [differ_nil, List.append_nil])
        have HE := Lib.hid (And.intro e1 (And.intro e2 e3))
        have CN1 := Lib.hid (names_any (a :: xs) (by omega) A13 c13 wr sx)
        have CN2 := Lib.hid (fun (u : World) => names_any [] (by simp) A14 c14 u (.inl rfl))
        simp only [List.length_nil, List.length_cons] at CN1 CN2 hb1 ⊢
        clear e1 e2 e3 HM HR sx sy gx gy
        go_wp2_with fail
        refine CN1.out.mono ?_
        rintro e w1 ⟨v1, rfl, b1, ho9, _⟩
        have H1 := Lib.hid (HS.out.then_ b1)
        clear b1 CN1
        obtain ⟨gv, cv, rfl, hgv, hgvl, hcv, _, hcells⟩ := own_read ho9 (by simp)
        go_wp2_with (at_builtin; refine hold ?_)
        refine loose ?_
        refine wpList_append_lies _ rfl _ _ 46 rfl (w.heap.size + 2) 9 i0 _ 1 16 Tryz.underlying46 HI.out.1 HI.out.2.1 HI.out.2.2.1 HI.out.2.2.2 rfl (by omega) _ _ _ rfl H1.out.rows.r1 ⟨gv, 0, none⟩ (xs.length + 1) _ (((a :: xs).map Pl.name).map Value.string) rfl (by simp) (fun j u hu => by rw [addr_new]; exact hcells j u hu) (by intro u hu; obtain ⟨_, _, rfl⟩ := List.mem_map.mp hu; rfl) (by omega) (by unfold maxLen; omega) (by omega) (by have := lt_of_blk H1.out.ky; omega) _ rfl ?_
        intro gA capA wA hoA hgA hatA _
        have H3 := Lib.hid (H1.out.app (xs := (a :: xs).map Pl.name) (by simp) hoA hgA (hatA.imp_right (fun e => Nat.le_of_eq e.symm)))
        clear hoA hgA hatA ho9 hcells
        go_wp2_with fail
        refine (CN2.out wA).mono ?_
        rintro e w2 ⟨v2, rfl, b2, _, hv2⟩
        obtain rfl := hv2 trivial
        have H4 := Lib.hid (H3.out.then_ b2)
        clear b2
        go_wp2_with (at_builtin; refine hold ?_)
        refine loose ?_
        refine wpList_append_nil _ rfl _ _ rfl i0 HI.out.1 HI.out.2.2.1 A11 S.length c11 (by omega) rfl rfl ?_
        go_wp2_with fail
        refine bodyPost_ret (v := .tuple #[.slice (some ⟨gA, 0, none⟩) (F.length + (xs.length + 1)) capA, .slice A11 S.length c11, .slice A12 D.length c12, .int .i64 0]) (by unfold results; simp only [Tryz.results18]; go_simp) rfl ⟨_, _, _, rfl, H4.out.below, ?_⟩
        rw [HE.out.1, HE.out.2.1, HE.out.2.2]
        exact ⟨own_mono H4.out.rows.r1 (by omega), own_mono H4.out.rows.r2 (by omega), own_mono H4.out.rows.r3 (by omega), H4.out.rows.n12, H4.out.rows.n13, H4.out.rows.n23⟩
      | cons b ys =>
        rcases sx with h | ⟨g1, o1, rfl, hg1, hx1⟩
        · cases h
        rcases sy with h | ⟨g2, o2, rfl, hg2, hy2⟩
        · cases h
        have hgx := gx g1 o1 rfl (by simp)
        have hgy := gy g2 o2 rfl (by simp)
        obtain ⟨q0, q1, q2, q3, q4⟩ := hx1 0 (by simp)
        obtain ⟨s0, s1, s2, s3, s4⟩ := hy2 0 (by simp)
        simp only [Nat.zero_mul, Nat.add_zero, List.getElem_cons_zero] at q0 q1 q2 q3 q4 s0 s1 s2 s3 s4
        clear hx1 hy2 gx gy
        obtain ⟨an, ap, ax, ay, aq⟩ := a
        obtain ⟨bn, bp, bx, by', bq⟩ := b
        dsimp only at q0 q1 q2 q3 q4 s0 s1 s2 s3 s4
        simp only [List.length_cons] at hb1 hb2 hb3 hc13 hc14
        simp only [List.length_cons]
        go_wp2_with fail
        refine Rg.rgL (fun a b => Below a.heap.size a b)
          [(fun vs u => vs 0 = .slice (some ⟨g1, o1, none⟩) (xs.length + 1) c13), (fun vs u => vs 1 = .pointer (some ⟨g1, o1, none⟩)), (fun vs u => vs 2 = .pointer (some ⟨g1, o1, none⟩)), (fun vs u => vs 3 = .string an), (fun vs u => vs 4 = .slice (some ⟨g2, o2, none⟩) (ys.length + 1) c14), (fun vs u => vs 5 = .pointer (some ⟨g2, o2, none⟩)), (fun vs u => vs 6 = .pointer (some ⟨g2, o2, none⟩)), (fun vs u => vs 7 = .string bn)]
          [[], [0], [0, 1], [0, 1, 2], [], [4], [4, 5], [4, 5, 6]] [some 37, some 38, some 39, some 40, some 41, some 42, some 43, some 44, some 45] [] (fun _ _ => True) [[], [0], [0, 1], [0, 1, 2], [], [4], [4, 5], [4, 5, 6], [0, 1, 2, 3, 4, 5, 6, 7]]
          (by kernel_rfl) (by decide) (by kernel_rfl) (by kernel_rfl) (by kernel_rfl) (by kernel_rfl) (by kernel_rfl) (fun _ => Below.refl _ _) (fun _ _ _ h k => h.ext k) (fun _ _ h => h.size) ?_ trivial ?_ ?_
        · intro t ht vs w w' h hE
          simp only [List.mem_cons, List.not_mem_nil, or_false] at ht
          rcases ht with rfl | rfl | rfl | rfl | rfl | rfl | rfl | rfl
          · exact h
          · exact h
          · exact h
          · exact h
          · exact h
          · exact h
          · exact h
          · exact h
        ·
          refine Rg.cons 0 1 rfl (Rg.plain rfl ?_) ?_
          · intro vs W n hn hI hG hT hF K hK
            simp only [Rg.putsD, List.getD_cons_zero, List.getD_cons_succ, Act.put, List.setIfInBounds_toArray, List.set_cons_zero, List.set_cons_succ] at hK ⊢
            clear hn
            clear hF hI
            have H := Lib.hid hK
            clear hK hT
            go_simp
            exact H.out _ _ (Below.refl _ _) rfl (fun h => by cases h) trivial
          refine Rg.cons 1 2 rfl (Rg.plain rfl ?_) ?_
          · intro vs W n hn hI hG hT hF K hK
            simp only [Rg.putsD, List.getD_cons_zero, List.getD_cons_succ, Act.put, List.setIfInBounds_toArray, List.set_cons_zero, List.set_cons_succ] at hK ⊢
            clear hn
            clear hF hI
            have t0 : vs 0 = .slice (some ⟨g1, o1, none⟩) (xs.length + 1) c13 := hT 0 (by decide)
            simp only [t0] at hK
            have H := Lib.hid hK
            clear hK hT
            go_simp
            exact H.out _ _ (Below.refl _ _) rfl (fun h => by cases h) trivial
          refine Rg.cons 2 3 rfl (Rg.plain rfl ?_) ?_
          · intro vs W n hn hI hG hT hF K hK
            simp only [Rg.putsD, List.getD_cons_zero, List.getD_cons_succ, Act.put, List.setIfInBounds_toArray, List.set_cons_zero, List.set_cons_succ] at hK ⊢
            clear hn
            clear hF hI
            have t0 : vs 0 = .slice (some ⟨g1, o1, none⟩) (xs.length + 1) c13 := hT 0 (by decide)
            have t1 : vs 1 = .pointer (some ⟨g1, o1, none⟩) := hT 1 (by decide)
            simp only [t0, t1] at hK
            have H := Lib.hid hK
            clear hK hT
            go_simp
            exact H.out _ _ (Below.refl _ _) rfl (fun h => by cases h) trivial
          refine Rg.cons 3 4 rfl (Rg.plain rfl ?_) ?_
          · intro vs W n hn hI hG hT hF K hK
            simp only [Rg.putsD, List.getD_cons_zero, List.getD_cons_succ, Act.put, List.setIfInBounds_toArray, List.set_cons_zero, List.set_cons_succ] at hK ⊢
            clear hn
            clear hF hI
            have t0 : vs 0 = .slice (some ⟨g1, o1, none⟩) (xs.length + 1) c13 := hT 0 (by decide)
            have t1 : vs 1 = .pointer (some ⟨g1, o1, none⟩) := hT 1 (by decide)
            have t2 : vs 2 = .pointer (some ⟨g1, o1, none⟩) := hT 2 (by decide)
            have c0 := (hG.cell (p := ⟨g1, o1, none⟩) hg1).trans q0
            simp only [t0, t1, t2] at hK
            have H := Lib.hid hK
            clear hK hT
            go_simp
            exact H.out _ _ (Below.refl _ _) rfl (fun h => by cases h) trivial
          refine Rg.cons 4 5 rfl (Rg.plain rfl ?_) ?_
          · intro vs W n hn hI hG hT hF K hK
            simp only [Rg.putsD, List.getD_cons_zero, List.getD_cons_succ, Act.put, List.setIfInBounds_toArray, List.set_cons_zero, List.set_cons_succ] at hK ⊢
            clear hn
            clear hF hI
            have H := Lib.hid hK
            clear hK hT
            go_simp
            exact H.out _ _ (Below.refl _ _) rfl (fun h => by cases h) trivial
          refine Rg.cons 5 6 rfl (Rg.plain rfl ?_) ?_
          · intro vs W n hn hI hG hT hF K hK
            simp only [Rg.putsD, List.getD_cons_zero, List.getD_cons_succ, Act.put, List.setIfInBounds_toArray, List.set_cons_zero, List.set_cons_succ] at hK ⊢
            clear hn
            clear hF hI
            have t4 : vs 4 = .slice (some ⟨g2, o2, none⟩) (ys.length + 1) c14 := hT 4 (by decide)
            simp only [t4] at hK
            have H := Lib.hid hK
            clear hK hT
            go_simp
            exact H.out _ _ (Below.refl _ _) rfl (fun h => by cases h) trivial
          refine Rg.cons 6 7 rfl (Rg.plain rfl ?_) ?_
          · intro vs W n hn hI hG hT hF K hK
            simp only [Rg.putsD, List.getD_cons_zero, List.getD_cons_succ, Act.put, List.setIfInBounds_toArray, List.set_cons_zero, List.set_cons_succ] at hK ⊢
            clear hn
            clear hF hI
            have t4 : vs 4 = .slice (some ⟨g2, o2, none⟩) (ys.length + 1) c14 := hT 4 (by decide)
            have t5 : vs 5 = .pointer (some ⟨g2, o2, none⟩) := hT 5 (by decide)
            simp only [t4, t5] at hK
            have H := Lib.hid hK
            clear hK hT
            go_simp
            exact H.out _ _ (Below.refl _ _) rfl (fun h => by cases h) trivial
          refine Rg.cons 7 8 rfl (Rg.plain rfl ?_) ?_
          · intro vs W n hn hI hG hT hF K hK
            simp only [Rg.putsD, List.getD_cons_zero, List.getD_cons_succ, Act.put, List.setIfInBounds_toArray, List.set_cons_zero, List.set_cons_succ] at hK ⊢
            clear hn
            clear hF hI
            have t4 : vs 4 = .slice (some ⟨g2, o2, none⟩) (ys.length + 1) c14 := hT 4 (by decide)
            have t5 : vs 5 = .pointer (some ⟨g2, o2, none⟩) := hT 5 (by decide)
            have t6 : vs 6 = .pointer (some ⟨g2, o2, none⟩) := hT 6 (by decide)
            have c0 := (hG.cell (p := ⟨g2, o2, none⟩) hg2).trans s0
            simp only [t4, t5, t6] at hK
            have H := Lib.hid hK
            clear hK hT
            go_simp
            exact H.out _ _ (Below.refl _ _) rfl (fun h => by cases h) trivial
          exact Rg.nil
        · intro vs W hG hI hT hF
          have t0 : vs 0 = .slice (some ⟨g1, o1, none⟩) (xs.length + 1) c13 := hT 0 (by decide)
          have t1 : vs 1 = .pointer (some ⟨g1, o1, none⟩) := hT 1 (by decide)
          have t2 : vs 2 = .pointer (some ⟨g1, o1, none⟩) := hT 2 (by decide)
          have t3 : vs 3 = .string an := hT 3 (by decide)
          have t4 : vs 4 = .slice (some ⟨g2, o2, none⟩) (ys.length + 1) c14 := hT 4 (by decide)
          have t5 : vs 5 = .pointer (some ⟨g2, o2, none⟩) := hT 5 (by decide)
          have t6 : vs 6 = .pointer (some ⟨g2, o2, none⟩) := hT 6 (by decide)
          have t7 : vs 7 = .string bn := hT 7 (by decide)
          simp only [List.length_cons, List.length_nil, Nat.reduceAdd, List.range, List.range.loop, List.drop_succ_cons, List.drop_zero, Rg.putsD, List.getD_cons_zero, List.getD_cons_succ, Act.put, List.setIfInBounds_toArray, List.set_cons_zero, List.set_cons_succ, t0, t1, t2, t3, t4, t5, t6, t7]
          clear hT t0 t1 t2 t3 t4 t5 t6 t7
          have HQ := Lib.hid ((HS.out.then_ (Below.refl _ _).drew).then_ hG)
          have HRQ : Hid (Rest w _ _ W ∧ Rest w _ _ W) := ⟨HR.out.1.then_ ((Below.refl w.heap.size wr).drew.then_below hG (by show w.heap.size ≤ wr.heap.size; omega)), HR.out.2.then_ ((Below.refl w.heap.size wr).drew.then_below hG (by show w.heap.size ≤ wr.heap.size; omega))⟩
          have q0' := (hG.cell (p := ⟨g1, o1, none⟩) hg1).trans q0
          have q1' := (hG.cell (p := ⟨g1, o1 + 1, none⟩) hg1).trans q1
          have q2' := (hG.cell (p := ⟨g1, o1 + 2, none⟩) hg1).trans q2
          have q3' := (hG.cell (p := ⟨g1, o1 + 3, none⟩) hg1).trans q3
          have q4' := (hG.cell (p := ⟨g1, o1 + 4, none⟩) hg1).trans q4
          have s0' := (hG.cell (p := ⟨g2, o2, none⟩) hg2).trans s0
          have s1' := (hG.cell (p := ⟨g2, o2 + 1, none⟩) hg2).trans s1
          have s2' := (hG.cell (p := ⟨g2, o2 + 2, none⟩) hg2).trans s2
          have s3' := (hG.cell (p := ⟨g2, o2 + 3, none⟩) hg2).trans s3
          have s4' := (hG.cell (p := ⟨g2, o2 + 4, none⟩) hg2).trans s4
          have hzW : wr.heap.size ≤ W.heap.size := hG.size
          have hg1' : g1 < W.heap.size := by omega
          have hg2' : g2 < W.heap.size := by omega
          clear q0 q1 q2 q3 q4 s0 s1 s2 s3 s4 hF hI hG HS HR hg1 hg2
          go_wp2_with fail
          refine (Tryz.strings_Compare an bn W).mono ?_
          obtain ⟨hlo, hhi⟩ := cmpB_bd (bt an) (bt bn)
          have HLT := Lib.hid (cmpB_lt (bt an) (bt bn))
          have HEQ := Lib.hid (cmpB_eq (bt an) (bt bn))
          rintro e wq ⟨rfl, rfl⟩
          generalize Lib.compareBytes an.data.toList bn.data.toList = r at *
          have hr : r = -1 ∨ r = 1 ∨ r = 0 := by omega
          clear hlo hhi
          rcases hr with rfl | rfl | rfl
          · have hlt9 := HLT.out.mp (by omega)
            have HM2 := Lib.hid (HM.out.lt hlt9)
            clear HLT HEQ hlt9
            go_wp2_with fail
            obtain ⟨row, hrow⟩ : ∃ row, (.slice A10 F.length c10 : Value).ownBlock = row := ⟨_, rfl⟩
            have HRow : Hid (∀ j, row = some j → w.heap.size + 2 ≤ j) := fun j hj => own_row HQ.out.rows.r1 j (hrow.trans hj)
            have HRW : Hid (∀ j, row = some j → j < wq.heap.size) := fun j hj => own_lt HQ.out.rows.r1 j (hrow.trans hj)
            have HKS : Hid (∀ W, wq.drew.grownBy W row → W.cell? ⟨g1, o1, none⟩ = some (.string an)) := fun W h =>
              World.grownBy.cell h (a := ⟨g1, o1, none⟩) q0' (fun e => by have := HRow.out g1 e.symm; omega)
            have HO : Hid (wq.ownsRow (w.heap.size + 2) 9 1 (.slice A10 F.length c10) F.length (F.map Value.string)) := HQ.out.rows.r1
            have HROW := Lib.hid hrow
            have hzq : w.heap.size + 2 ≤ wq.heap.size := lt_of_blk HQ.out.ky
            clear hrow
            refine Rg.rgS 6 [7, 8, 9] (fun a b => a.grownBy b row) (fun a b => Below a.heap.size a b) (fun a b => a.grownBy b row)
              [(fun vs u => vs 0 = .slice A10 F.length c10), (fun vs u => vs 1 = .slice (some ⟨g1, o1, none⟩) (xs.length + 1) c13), (fun vs u => vs 2 = .pointer (some ⟨g1, o1, none⟩)), (fun vs u => vs 3 = .pointer (some ⟨g1, o1, none⟩)), (fun vs u => vs 4 = .string an), (fun vs u => ∃ q : Nat, vs 5 = .slice (some ⟨q, 0, none⟩) 1 1 ∧ wq.heap.size ≤ q ∧ u.heap[q]? = some (.cells #[.string an] 9 (0, 0))), (fun vs u => ∃ g9 c9 : Nat, vs 6 = .slice (some ⟨g9, 0, none⟩) (F.length + 1) c9 ∧ u.ownsRow (w.heap.size + 2) 9 1 (.slice (some ⟨g9, 0, none⟩) (F.length + 1) c9) (F.length + 1) (F.map Value.string ++ [.string an]) ∧ (row = some g9 ∨ wq.heap.size ≤ g9)), (fun vs u => vs 7 = .slice (some ⟨g1, o1, none⟩) (xs.length + 1) c13), (fun vs u => ∃ A8 c8, vs 8 = .slice A8 xs.length c8 ∧ xs.length ≤ c8 ∧ (xs = [] ∨ A8 = some ⟨g1, o1 + 5, none⟩)), (fun vs u => vs 9 = vs 6)]
              [[], [], [1], [1, 2], [1, 2, 3], [1, 2, 3, 4], [0, 1, 2, 3, 4, 5], [], [7], [0, 1, 2, 3, 4, 5, 6]] [some 66, some 67, some 68, some 69, some 70, some 71, some 72, some 73, some 74, some 10, some 13] [] (fun _ W => W.ownsRow (w.heap.size + 2) 9 1 (.slice A10 F.length c10) F.length (F.map Value.string)) [[], [], [1], [1, 2], [1, 2, 3], [1, 2, 3, 4], [0, 1, 2, 3, 4, 5], [], [7], [0, 1, 2, 3, 4, 5, 6], [0, 1, 2, 3, 4, 5, 6, 7, 8, 9]]
              (by kernel_rfl) (by decide) (by kernel_rfl) (by kernel_rfl) (by kernel_rfl) (by kernel_rfl) (by kernel_rfl) (fun _ => World.grownBy.refl _ _) (fun _ _ _ h k => World.grownBy.trans h k) (fun _ _ h => h.size) (fun _ _ h => ⟨h.os, h.tape, h.output, h.size, fun k hk _ => h.block k hk⟩) (fun _ _ h => h) (by decide) ?_ ?_ HO.out.drew ?_ ?_
            · intro j hj vs w w' h hE
              match j, hj, h with
              | 0, _, h => exact h
              | 1, _, h => exact h
              | 2, _, h => exact h
              | 3, _, h => exact h
              | 4, _, h => exact h
              | 5, _, h =>
                have h : ∃ q : Nat, vs 5 = .slice (some ⟨q, 0, none⟩) 1 1 ∧ wq.heap.size ≤ q ∧ w.heap[q]? = some (.cells #[.string an] 9 (0, 0)) := h
                show ∃ q : Nat, vs 5 = .slice (some ⟨q, 0, none⟩) 1 1 ∧ wq.heap.size ≤ q ∧ w'.heap[q]? = some (.cells #[.string an] 9 (0, 0))
                obtain ⟨q, e, hq, k⟩ := h
                exact ⟨q, e, hq, blk_below hE k⟩
              | 6, hj, _ => exact absurd rfl hj
              | 7, _, h => exact h
              | 8, _, h => exact h
              | 9, _, h => exact h
              | (j + 10), _, h => exact h
            · intro j hj hc vs w w' h hE
              match j, hj, hc, h with
              | 0, _, _, h => exact h
              | 1, _, _, h => exact h
              | 2, _, _, h => exact h
              | 3, _, _, h => exact h
              | 4, _, _, h => exact h
              | 5, _, _, h =>
                have h : ∃ q : Nat, vs 5 = .slice (some ⟨q, 0, none⟩) 1 1 ∧ wq.heap.size ≤ q ∧ w.heap[q]? = some (.cells #[.string an] 9 (0, 0)) := h
                show ∃ q : Nat, vs 5 = .slice (some ⟨q, 0, none⟩) 1 1 ∧ wq.heap.size ≤ q ∧ w'.heap[q]? = some (.cells #[.string an] 9 (0, 0))
                obtain ⟨q, e, hq, k⟩ := h
                exact ⟨q, e, hq, (hE.block q (lt_of_blk k) (fun e => by have := HRW.out q e.symm; omega)).trans k⟩
              | 6, hj, _, _ => exact absurd rfl hj
              | 7, _, _, h => exact h
              | 8, _, _, h => exact h
              | 9, _, hc, _ => exact absurd hc (by decide)
              | (j + 10), _, _, h => exact h
            ·
              refine Rg.cons 0 1 rfl (Rg.plain rfl ?_) ?_
              · intro vs W n hn hI hG hT hF K hK
                simp only [Rg.putsD, List.getD_cons_zero, List.getD_cons_succ, Act.put, List.setIfInBounds_toArray, List.set_cons_zero, List.set_cons_succ] at hK ⊢
                clear hn
                clear hF
                have H := Lib.hid hK
                clear hK hT
                go_simp
                exact H.out _ _ (Below.refl _ _) rfl (fun h => by cases h) hI
              refine Rg.cons 1 2 rfl (Rg.plain rfl ?_) ?_
              · intro vs W n hn hI hG hT hF K hK
                simp only [Rg.putsD, List.getD_cons_zero, List.getD_cons_succ, Act.put, List.setIfInBounds_toArray, List.set_cons_zero, List.set_cons_succ] at hK ⊢
                clear hn
                clear hF
                have H := Lib.hid hK
                clear hK hT
                go_simp
                exact H.out _ _ (Below.refl _ _) rfl (fun h => by cases h) hI
              refine Rg.cons 2 3 rfl (Rg.plain rfl ?_) ?_
              · intro vs W n hn hI hG hT hF K hK
                simp only [Rg.putsD, List.getD_cons_zero, List.getD_cons_succ, Act.put, List.setIfInBounds_toArray, List.set_cons_zero, List.set_cons_succ] at hK ⊢
                clear hn
                clear hF
                have t1 : vs 1 = .slice (some ⟨g1, o1, none⟩) (xs.length + 1) c13 := hT 1 (by decide)
                simp only [t1] at hK
                have H := Lib.hid hK
                clear hK hT
                go_simp
                exact H.out _ _ (Below.refl _ _) rfl (fun h => by cases h) hI
              refine Rg.cons 3 4 rfl (Rg.plain rfl ?_) ?_
              · intro vs W n hn hI hG hT hF K hK
                simp only [Rg.putsD, List.getD_cons_zero, List.getD_cons_succ, Act.put, List.setIfInBounds_toArray, List.set_cons_zero, List.set_cons_succ] at hK ⊢
                clear hn
                clear hF
                have t1 : vs 1 = .slice (some ⟨g1, o1, none⟩) (xs.length + 1) c13 := hT 1 (by decide)
                have t2 : vs 2 = .pointer (some ⟨g1, o1, none⟩) := hT 2 (by decide)
                simp only [t1, t2] at hK
                have H := Lib.hid hK
                clear hK hT
                go_simp
                exact H.out _ _ (Below.refl _ _) rfl (fun h => by cases h) hI
              refine Rg.cons 4 5 rfl (Rg.plain rfl ?_) ?_
              · intro vs W n hn hI hG hT hF K hK
                simp only [Rg.putsD, List.getD_cons_zero, List.getD_cons_succ, Act.put, List.setIfInBounds_toArray, List.set_cons_zero, List.set_cons_succ] at hK ⊢
                clear hn
                clear hF
                have t1 : vs 1 = .slice (some ⟨g1, o1, none⟩) (xs.length + 1) c13 := hT 1 (by decide)
                have t2 : vs 2 = .pointer (some ⟨g1, o1, none⟩) := hT 2 (by decide)
                have t3 : vs 3 = .pointer (some ⟨g1, o1, none⟩) := hT 3 (by decide)
                have c0 := HKS.out W hG
                simp only [t1, t2, t3] at hK
                have H := Lib.hid hK
                clear hK hT
                go_simp
                exact H.out _ _ (Below.refl _ _) rfl (fun h => by cases h) hI
              refine Rg.cons 5 6 rfl (Rg.plain rfl ?_) ?_
              · intro vs W n hn hI hG hT hF K hK
                simp only [Rg.putsD, List.getD_cons_zero, List.getD_cons_succ, Act.put, List.setIfInBounds_toArray, List.set_cons_zero, List.set_cons_succ] at hK ⊢
                clear hn
                clear hF
                have t1 : vs 1 = .slice (some ⟨g1, o1, none⟩) (xs.length + 1) c13 := hT 1 (by decide)
                have t2 : vs 2 = .pointer (some ⟨g1, o1, none⟩) := hT 2 (by decide)
                have t3 : vs 3 = .pointer (some ⟨g1, o1, none⟩) := hT 3 (by decide)
                have t4 : vs 4 = .string an := hT 4 (by decide)
                have hsz := hG.size
                simp only [t1, t2, t3, t4] at hK
                have H := Lib.hid hK
                clear hK hT
                go_simp
                exact H.out _ _ ((Below.refl _ _).alloc (Nat.le_refl _) _) (show ∃ q : Nat, _ = _ ∧ _ ∧ _ = _ from ⟨_, rfl, hsz, blk_new W _ rfl⟩) (fun h => by cases h) (World.ownsRow.alloc hI _)
              refine Rg.cons 6 7 rfl (Rg.plain rfl ?_) ?_
              · intro vs W n hn hI hG hT hF K hK
                simp only [Rg.putsD, List.getD_cons_zero, List.getD_cons_succ, Act.put, List.setIfInBounds_toArray, List.set_cons_zero, List.set_cons_succ] at hK ⊢
                clear hn
                clear hF
                have t0 : vs 0 = .slice A10 F.length c10 := hT 0 (by decide)
                have t1 : vs 1 = .slice (some ⟨g1, o1, none⟩) (xs.length + 1) c13 := hT 1 (by decide)
                have t2 : vs 2 = .pointer (some ⟨g1, o1, none⟩) := hT 2 (by decide)
                have t3 : vs 3 = .pointer (some ⟨g1, o1, none⟩) := hT 3 (by decide)
                have t4 : vs 4 = .string an := hT 4 (by decide)
                have t5 : ∃ q : Nat, vs 5 = .slice (some ⟨q, 0, none⟩) 1 1 ∧ wq.heap.size ≤ q ∧ W.heap[q]? = some (.cells #[.string an] 9 (0, 0)) := hT 5 (by decide)
                obtain ⟨bq, e5, hbq, k5⟩ := t5
                simp only [e5] at hK
                have hsz := hG.size
                have hszd : wq.heap.size ≤ W.heap.size := hsz
                simp only [t0, t1, t2, t3, t4] at hK
                have H := Lib.hid hK
                clear hK hT
                simp only [t0, t1, t2, t3, t4, e5]
                refine wp_append_both _ _ _ 46 rfl (w.heap.size + 2) 9 i0 _ 1 16 Tryz.underlying46 HI.out.1 HI.out.2.1 HI.out.2.2.1 HI.out.2.2.2 rfl (by omega) (.slice A10 F.length c10) F.length (F.map Value.string) rfl hI ⟨bq, 0, none⟩ 1 1 [.string an] rfl rfl (fun j u hu => by rw [addr_new, cell_of_blk k5]; simpa using hu) (by intro u hu; simp at hu; subst hu; rfl) (by omega) (by unfold maxLen; omega) (by omega) (by omega) ?_
                intro g9 c9 w2 hown' hg' hat hk'
                have hat2 : row = some g9 ∨ wq.heap.size ≤ g9 := hat.elim (fun h => .inl (by rw [← HROW.out]; exact h)) (fun h => .inr (by rw [h]; exact hszd))
                have hg2 : W.grownBy w2 row := by rw [← HROW.out]; exact hg'
                exact H.out _ _ hg2 ⟨_, _, rfl, hown', hat2⟩ (fun h => by cases h) hk'
              refine Rg.cons 7 8 rfl (Rg.plain rfl ?_) ?_
              · intro vs W n hn hI hG hT hF K hK
                simp only [Rg.putsD, List.getD_cons_zero, List.getD_cons_succ, Act.put, List.setIfInBounds_toArray, List.set_cons_zero, List.set_cons_succ] at hK ⊢
                clear hn
                clear hF
                have H := Lib.hid hK
                clear hK hT
                go_simp
                exact H.out _ _ (rfl) rfl (fun h => by cases h) hI
              refine Rg.cons 8 9 rfl (Rg.plain rfl ?_) ?_
              · intro vs W n hn hI hG hT hF K hK
                simp only [Rg.putsD, List.getD_cons_zero, List.getD_cons_succ, Act.put, List.setIfInBounds_toArray, List.set_cons_zero, List.set_cons_succ] at hK ⊢
                clear hn
                clear hF
                have t7 : vs 7 = .slice (some ⟨g1, o1, none⟩) (xs.length + 1) c13 := hT 7 (by decide)
                have hin : (1 : Int) ≤ (xs.length : Int) + 1 := by omega
                simp only [t7] at hK
                have H := Lib.hid hK
                clear hK hT
                go_simp
                exact H.out _ _ rfl ⟨_, _, rfl, by show xs.length ≤ c13 - 1; omega, if h : c13 = 1 then .inl (List.length_eq_zero_iff.mp (by omega)) else .inr (if_neg h)⟩ (fun h => by cases h) hI
              refine Rg.cons 9 10 rfl (Rg.plain rfl ?_) ?_
              · intro vs W n hn hI hG hT hF K hK
                simp only [Rg.putsD, List.getD_cons_zero, List.getD_cons_succ, Act.put, List.setIfInBounds_toArray, List.set_cons_zero, List.set_cons_succ] at hK ⊢
                clear hn
                clear hF
                have t0 : vs 0 = .slice A10 F.length c10 := hT 0 (by decide)
                have t1 : vs 1 = .slice (some ⟨g1, o1, none⟩) (xs.length + 1) c13 := hT 1 (by decide)
                have t2 : vs 2 = .pointer (some ⟨g1, o1, none⟩) := hT 2 (by decide)
                have t3 : vs 3 = .pointer (some ⟨g1, o1, none⟩) := hT 3 (by decide)
                have t4 : vs 4 = .string an := hT 4 (by decide)
                have t5 : ∃ q : Nat, vs 5 = .slice (some ⟨q, 0, none⟩) 1 1 ∧ wq.heap.size ≤ q ∧ W.heap[q]? = some (.cells #[.string an] 9 (0, 0)) := hT 5 (by decide)
                have t6 : ∃ g9 c9 : Nat, vs 6 = .slice (some ⟨g9, 0, none⟩) (F.length + 1) c9 ∧ W.ownsRow (w.heap.size + 2) 9 1 (.slice (some ⟨g9, 0, none⟩) (F.length + 1) c9) (F.length + 1) (F.map Value.string ++ [.string an]) ∧ (row = some g9 ∨ wq.heap.size ≤ g9) := hT 6 (by decide)
                simp only [t0, t1, t2, t3, t4] at hK
                have H := Lib.hid hK
                clear hK hT
                go_simp
                exact H.out _ _ (rfl) rfl (fun h => by cases h) hI
              exact Rg.nil
            · intro vs W hG hI hT hF
              have t0 : vs 0 = .slice A10 F.length c10 := hT 0 (by decide)
              have t1 : vs 1 = .slice (some ⟨g1, o1, none⟩) (xs.length + 1) c13 := hT 1 (by decide)
              have t2 : vs 2 = .pointer (some ⟨g1, o1, none⟩) := hT 2 (by decide)
              have t3 : vs 3 = .pointer (some ⟨g1, o1, none⟩) := hT 3 (by decide)
              have t4 : vs 4 = .string an := hT 4 (by decide)
              have t5 : ∃ q : Nat, vs 5 = .slice (some ⟨q, 0, none⟩) 1 1 ∧ wq.heap.size ≤ q ∧ W.heap[q]? = some (.cells #[.string an] 9 (0, 0)) := hT 5 (by decide)
              have t6 : ∃ g9 c9 : Nat, vs 6 = .slice (some ⟨g9, 0, none⟩) (F.length + 1) c9 ∧ W.ownsRow (w.heap.size + 2) 9 1 (.slice (some ⟨g9, 0, none⟩) (F.length + 1) c9) (F.length + 1) (F.map Value.string ++ [.string an]) ∧ (row = some g9 ∨ wq.heap.size ≤ g9) := hT 6 (by decide)
              have t7 : vs 7 = .slice (some ⟨g1, o1, none⟩) (xs.length + 1) c13 := hT 7 (by decide)
              have t8 : ∃ A8 c8, vs 8 = .slice A8 xs.length c8 ∧ xs.length ≤ c8 ∧ (xs = [] ∨ A8 = some ⟨g1, o1 + 5, none⟩) := hT 8 (by decide)
              have t9 : vs 9 = vs 6 := hT 9 (by decide)
              simp only [List.length_cons, List.length_nil, Nat.reduceAdd, List.range, List.range.loop, List.drop_succ_cons, List.drop_zero, Rg.putsD, List.getD_cons_zero, List.getD_cons_succ, Act.put, List.setIfInBounds_toArray, List.set_cons_zero, List.set_cons_succ, t0, t1, t2, t3, t4, t7, t9]
              clear hT t0 t1 t2 t3 t4 t7 t9
              obtain ⟨g9, c9, e6, own6, at6⟩ := t6
              obtain ⟨A8, c8, e8, hc8, ha8⟩ := t8
              have hgr : wq.drew.grownBy W (.slice A10 F.length c10 : Value).ownBlock := by rw [HROW.out]; exact hG
              have hat9 : (.slice A10 F.length c10 : Value).ownBlock = some g9 ∨ wq.drew.heap.size ≤ g9 := by rw [HROW.out]; exact at6
              have HN := Lib.hid ((HQ.out.then_ (Below.refl _ _).drew).app (xs := [an]) rfl own6 hgr hat9)
              have HRN : Hid (Rest w (.slice A8 xs.length c8) xs W ∧ Rest w (.slice (some ⟨g2, o2, none⟩) (ys.length + 1) c14) (⟨bn, bp, bx, by', bq⟩ :: ys) W) := ⟨Rest.next HRQ.out.1 hgr (fun j hj => HRow.out j (HROW.out.symm.trans hj)) hc8 ha8, Rest.grown HRQ.out.2 hgr (fun j hj => HRow.out j (HROW.out.symm.trans hj))⟩
              have hzN := lt_of_blk HN.out.ky
              simp only [e6, e8]
              clear hF hI hG own6 at6 e6 e8 hgr hat9 t5
              go_wp2_with fail
              go_roundw
              case rel => exact ⟨xs, (⟨bn, bp, bx, by', bq⟩ :: ys), (F ++ [an]), S, D, HM2, hzN, HN, HRN⟩
              case measure => simp [lenOf]
          · have hgt9 : bt bn < bt an := by
              rcases List.le_iff_lt_or_eq.mp (List.not_lt.mp (fun h => absurd (HLT.out.mpr h) (by omega))) with h | h
              · exact h
              · exact absurd (HEQ.out.mpr h.symm) (by omega)
            have HM2 := Lib.hid (HM.out.gt hgt9)
            clear HLT HEQ hgt9
            go_wp2_with fail
            obtain ⟨row, hrow⟩ : ∃ row, (.slice A11 S.length c11 : Value).ownBlock = row := ⟨_, rfl⟩
            have HRow : Hid (∀ j, row = some j → w.heap.size + 2 ≤ j) := fun j hj => own_row HQ.out.rows.r2 j (hrow.trans hj)
            have HRW : Hid (∀ j, row = some j → j < wq.heap.size) := fun j hj => own_lt HQ.out.rows.r2 j (hrow.trans hj)
            have HKS : Hid (∀ W, wq.drew.grownBy W row → W.cell? ⟨g2, o2, none⟩ = some (.string bn)) := fun W h =>
              World.grownBy.cell h (a := ⟨g2, o2, none⟩) s0' (fun e => by have := HRow.out g2 e.symm; omega)
            have HO : Hid (wq.ownsRow (w.heap.size + 2) 9 1 (.slice A11 S.length c11) S.length (S.map Value.string)) := HQ.out.rows.r2
            have HROW := Lib.hid hrow
            have hzq : w.heap.size + 2 ≤ wq.heap.size := lt_of_blk HQ.out.ky
            clear hrow
            refine Rg.rgS 6 [7, 8, 9] (fun a b => a.grownBy b row) (fun a b => Below a.heap.size a b) (fun a b => a.grownBy b row)
              [(fun vs u => vs 0 = .slice A11 S.length c11), (fun vs u => vs 1 = .slice (some ⟨g2, o2, none⟩) (ys.length + 1) c14), (fun vs u => vs 2 = .pointer (some ⟨g2, o2, none⟩)), (fun vs u => vs 3 = .pointer (some ⟨g2, o2, none⟩)), (fun vs u => vs 4 = .string bn), (fun vs u => ∃ q : Nat, vs 5 = .slice (some ⟨q, 0, none⟩) 1 1 ∧ wq.heap.size ≤ q ∧ u.heap[q]? = some (.cells #[.string bn] 9 (0, 0))), (fun vs u => ∃ g9 c9 : Nat, vs 6 = .slice (some ⟨g9, 0, none⟩) (S.length + 1) c9 ∧ u.ownsRow (w.heap.size + 2) 9 1 (.slice (some ⟨g9, 0, none⟩) (S.length + 1) c9) (S.length + 1) (S.map Value.string ++ [.string bn]) ∧ (row = some g9 ∨ wq.heap.size ≤ g9)), (fun vs u => vs 7 = .slice (some ⟨g2, o2, none⟩) (ys.length + 1) c14), (fun vs u => ∃ A8 c8, vs 8 = .slice A8 ys.length c8 ∧ ys.length ≤ c8 ∧ (ys = [] ∨ A8 = some ⟨g2, o2 + 5, none⟩)), (fun vs u => vs 9 = vs 6)]
              [[], [], [1], [1, 2], [1, 2, 3], [1, 2, 3, 4], [0, 1, 2, 3, 4, 5], [], [7], [0, 1, 2, 3, 4, 5, 6]] [some 77, some 78, some 79, some 80, some 81, some 82, some 83, some 84, some 85, some 11, some 14] [] (fun _ W => W.ownsRow (w.heap.size + 2) 9 1 (.slice A11 S.length c11) S.length (S.map Value.string)) [[], [], [1], [1, 2], [1, 2, 3], [1, 2, 3, 4], [0, 1, 2, 3, 4, 5], [], [7], [0, 1, 2, 3, 4, 5, 6], [0, 1, 2, 3, 4, 5, 6, 7, 8, 9]]
              (by kernel_rfl) (by decide) (by kernel_rfl) (by kernel_rfl) (by kernel_rfl) (by kernel_rfl) (by kernel_rfl) (fun _ => World.grownBy.refl _ _) (fun _ _ _ h k => World.grownBy.trans h k) (fun _ _ h => h.size) (fun _ _ h => ⟨h.os, h.tape, h.output, h.size, fun k hk _ => h.block k hk⟩) (fun _ _ h => h) (by decide) ?_ ?_ HO.out.drew ?_ ?_
            · intro j hj vs w w' h hE
              match j, hj, h with
              | 0, _, h => exact h
              | 1, _, h => exact h
              | 2, _, h => exact h
              | 3, _, h => exact h
              | 4, _, h => exact h
              | 5, _, h =>
                have h : ∃ q : Nat, vs 5 = .slice (some ⟨q, 0, none⟩) 1 1 ∧ wq.heap.size ≤ q ∧ w.heap[q]? = some (.cells #[.string bn] 9 (0, 0)) := h
                show ∃ q : Nat, vs 5 = .slice (some ⟨q, 0, none⟩) 1 1 ∧ wq.heap.size ≤ q ∧ w'.heap[q]? = some (.cells #[.string bn] 9 (0, 0))
                obtain ⟨q, e, hq, k⟩ := h
                exact ⟨q, e, hq, blk_below hE k⟩
              | 6, hj, _ => exact absurd rfl hj
              | 7, _, h => exact h
              | 8, _, h => exact h
              | 9, _, h => exact h
              | (j + 10), _, h => exact h
            · intro j hj hc vs w w' h hE
              match j, hj, hc, h with
              | 0, _, _, h => exact h
              | 1, _, _, h => exact h
              | 2, _, _, h => exact h
              | 3, _, _, h => exact h
              | 4, _, _, h => exact h
              | 5, _, _, h =>
                have h : ∃ q : Nat, vs 5 = .slice (some ⟨q, 0, none⟩) 1 1 ∧ wq.heap.size ≤ q ∧ w.heap[q]? = some (.cells #[.string bn] 9 (0, 0)) := h
                show ∃ q : Nat, vs 5 = .slice (some ⟨q, 0, none⟩) 1 1 ∧ wq.heap.size ≤ q ∧ w'.heap[q]? = some (.cells #[.string bn] 9 (0, 0))
                obtain ⟨q, e, hq, k⟩ := h
                exact ⟨q, e, hq, (hE.block q (lt_of_blk k) (fun e => by have := HRW.out q e.symm; omega)).trans k⟩
              | 6, hj, _, _ => exact absurd rfl hj
              | 7, _, _, h => exact h
              | 8, _, _, h => exact h
              | 9, _, hc, _ => exact absurd hc (by decide)
              | (j + 10), _, _, h => exact h
            ·
              refine Rg.cons 0 1 rfl (Rg.plain rfl ?_) ?_
              · intro vs W n hn hI hG hT hF K hK
                simp only [Rg.putsD, List.getD_cons_zero, List.getD_cons_succ, Act.put, List.setIfInBounds_toArray, List.set_cons_zero, List.set_cons_succ] at hK ⊢
                clear hn
                clear hF
                have H := Lib.hid hK
                clear hK hT
                go_simp
                exact H.out _ _ (Below.refl _ _) rfl (fun h => by cases h) hI
              refine Rg.cons 1 2 rfl (Rg.plain rfl ?_) ?_
              · intro vs W n hn hI hG hT hF K hK
                simp only [Rg.putsD, List.getD_cons_zero, List.getD_cons_succ, Act.put, List.setIfInBounds_toArray, List.set_cons_zero, List.set_cons_succ] at hK ⊢
                clear hn
                clear hF
                have H := Lib.hid hK
                clear hK hT
                go_simp
                exact H.out _ _ (Below.refl _ _) rfl (fun h => by cases h) hI
              refine Rg.cons 2 3 rfl (Rg.plain rfl ?_) ?_
              · intro vs W n hn hI hG hT hF K hK
                simp only [Rg.putsD, List.getD_cons_zero, List.getD_cons_succ, Act.put, List.setIfInBounds_toArray, List.set_cons_zero, List.set_cons_succ] at hK ⊢
                clear hn
                clear hF
                have t1 : vs 1 = .slice (some ⟨g2, o2, none⟩) (ys.length + 1) c14 := hT 1 (by decide)
                simp only [t1] at hK
                have H := Lib.hid hK
                clear hK hT
                go_simp
                exact H.out _ _ (Below.refl _ _) rfl (fun h => by cases h) hI
              refine Rg.cons 3 4 rfl (Rg.plain rfl ?_) ?_
              · intro vs W n hn hI hG hT hF K hK
                simp only [Rg.putsD, List.getD_cons_zero, List.getD_cons_succ, Act.put, List.setIfInBounds_toArray, List.set_cons_zero, List.set_cons_succ] at hK ⊢
                clear hn
                clear hF
                have t1 : vs 1 = .slice (some ⟨g2, o2, none⟩) (ys.length + 1) c14 := hT 1 (by decide)
                have t2 : vs 2 = .pointer (some ⟨g2, o2, none⟩) := hT 2 (by decide)
                simp only [t1, t2] at hK
                have H := Lib.hid hK
                clear hK hT
                go_simp
                exact H.out _ _ (Below.refl _ _) rfl (fun h => by cases h) hI
              refine Rg.cons 4 5 rfl (Rg.plain rfl ?_) ?_
              · intro vs W n hn hI hG hT hF K hK
                simp only [Rg.putsD, List.getD_cons_zero, List.getD_cons_succ, Act.put, List.setIfInBounds_toArray, List.set_cons_zero, List.set_cons_succ] at hK ⊢
                clear hn
                clear hF
                have t1 : vs 1 = .slice (some ⟨g2, o2, none⟩) (ys.length + 1) c14 := hT 1 (by decide)
                have t2 : vs 2 = .pointer (some ⟨g2, o2, none⟩) := hT 2 (by decide)
                have t3 : vs 3 = .pointer (some ⟨g2, o2, none⟩) := hT 3 (by decide)
                have c0 := HKS.out W hG
                simp only [t1, t2, t3] at hK
                have H := Lib.hid hK
                clear hK hT
                go_simp
                exact H.out _ _ (Below.refl _ _) rfl (fun h => by cases h) hI
              refine Rg.cons 5 6 rfl (Rg.plain rfl ?_) ?_
              · intro vs W n hn hI hG hT hF K hK
                simp only [Rg.putsD, List.getD_cons_zero, List.getD_cons_succ, Act.put, List.setIfInBounds_toArray, List.set_cons_zero, List.set_cons_succ] at hK ⊢
                clear hn
                clear hF
                have t1 : vs 1 = .slice (some ⟨g2, o2, none⟩) (ys.length + 1) c14 := hT 1 (by decide)
                have t2 : vs 2 = .pointer (some ⟨g2, o2, none⟩) := hT 2 (by decide)
                have t3 : vs 3 = .pointer (some ⟨g2, o2, none⟩) := hT 3 (by decide)
                have t4 : vs 4 = .string bn := hT 4 (by decide)
                have hsz := hG.size
                simp only [t1, t2, t3, t4] at hK
                have H := Lib.hid hK
                clear hK hT
                go_simp
                exact H.out _ _ ((Below.refl _ _).alloc (Nat.le_refl _) _) (show ∃ q : Nat, _ = _ ∧ _ ∧ _ = _ from ⟨_, rfl, hsz, blk_new W _ rfl⟩) (fun h => by cases h) (World.ownsRow.alloc hI _)
              refine Rg.cons 6 7 rfl (Rg.plain rfl ?_) ?_
              · intro vs W n hn hI hG hT hF K hK
                simp only [Rg.putsD, List.getD_cons_zero, List.getD_cons_succ, Act.put, List.setIfInBounds_toArray, List.set_cons_zero, List.set_cons_succ] at hK ⊢
                clear hn
                clear hF
                have t0 : vs 0 = .slice A11 S.length c11 := hT 0 (by decide)
                have t1 : vs 1 = .slice (some ⟨g2, o2, none⟩) (ys.length + 1) c14 := hT 1 (by decide)
                have t2 : vs 2 = .pointer (some ⟨g2, o2, none⟩) := hT 2 (by decide)
                have t3 : vs 3 = .pointer (some ⟨g2, o2, none⟩) := hT 3 (by decide)
                have t4 : vs 4 = .string bn := hT 4 (by decide)
                have t5 : ∃ q : Nat, vs 5 = .slice (some ⟨q, 0, none⟩) 1 1 ∧ wq.heap.size ≤ q ∧ W.heap[q]? = some (.cells #[.string bn] 9 (0, 0)) := hT 5 (by decide)
                obtain ⟨bq, e5, hbq, k5⟩ := t5
                simp only [e5] at hK
                have hsz := hG.size
                have hszd : wq.heap.size ≤ W.heap.size := hsz
                simp only [t0, t1, t2, t3, t4] at hK
                have H := Lib.hid hK
                clear hK hT
                simp only [t0, t1, t2, t3, t4, e5]
                refine wp_append_both _ _ _ 46 rfl (w.heap.size + 2) 9 i0 _ 1 16 Tryz.underlying46 HI.out.1 HI.out.2.1 HI.out.2.2.1 HI.out.2.2.2 rfl (by omega) (.slice A11 S.length c11) S.length (S.map Value.string) rfl hI ⟨bq, 0, none⟩ 1 1 [.string bn] rfl rfl (fun j u hu => by rw [addr_new, cell_of_blk k5]; simpa using hu) (by intro u hu; simp at hu; subst hu; rfl) (by omega) (by unfold maxLen; omega) (by omega) (by omega) ?_
                intro g9 c9 w2 hown' hg' hat hk'
                have hat2 : row = some g9 ∨ wq.heap.size ≤ g9 := hat.elim (fun h => .inl (by rw [← HROW.out]; exact h)) (fun h => .inr (by rw [h]; exact hszd))
                have hg2 : W.grownBy w2 row := by rw [← HROW.out]; exact hg'
                exact H.out _ _ hg2 ⟨_, _, rfl, hown', hat2⟩ (fun h => by cases h) hk'
              refine Rg.cons 7 8 rfl (Rg.plain rfl ?_) ?_
              · intro vs W n hn hI hG hT hF K hK
                simp only [Rg.putsD, List.getD_cons_zero, List.getD_cons_succ, Act.put, List.setIfInBounds_toArray, List.set_cons_zero, List.set_cons_succ] at hK ⊢
                clear hn
                clear hF
                have H := Lib.hid hK
                clear hK hT
                go_simp
                exact H.out _ _ (rfl) rfl (fun h => by cases h) hI
              refine Rg.cons 8 9 rfl (Rg.plain rfl ?_) ?_
              · intro vs W n hn hI hG hT hF K hK
                simp only [Rg.putsD, List.getD_cons_zero, List.getD_cons_succ, Act.put, List.setIfInBounds_toArray, List.set_cons_zero, List.set_cons_succ] at hK ⊢
                clear hn
                clear hF
                have t7 : vs 7 = .slice (some ⟨g2, o2, none⟩) (ys.length + 1) c14 := hT 7 (by decide)
                have hin : (1 : Int) ≤ (ys.length : Int) + 1 := by omega
                simp only [t7] at hK
                have H := Lib.hid hK
                clear hK hT
                go_simp
                exact H.out _ _ rfl ⟨_, _, rfl, by show ys.length ≤ c14 - 1; omega, if h : c14 = 1 then .inl (List.length_eq_zero_iff.mp (by omega)) else .inr (if_neg h)⟩ (fun h => by cases h) hI
              refine Rg.cons 9 10 rfl (Rg.plain rfl ?_) ?_
              · intro vs W n hn hI hG hT hF K hK
                simp only [Rg.putsD, List.getD_cons_zero, List.getD_cons_succ, Act.put, List.setIfInBounds_toArray, List.set_cons_zero, List.set_cons_succ] at hK ⊢
                clear hn
                clear hF
                have t0 : vs 0 = .slice A11 S.length c11 := hT 0 (by decide)
                have t1 : vs 1 = .slice (some ⟨g2, o2, none⟩) (ys.length + 1) c14 := hT 1 (by decide)
                have t2 : vs 2 = .pointer (some ⟨g2, o2, none⟩) := hT 2 (by decide)
                have t3 : vs 3 = .pointer (some ⟨g2, o2, none⟩) := hT 3 (by decide)
                have t4 : vs 4 = .string bn := hT 4 (by decide)
                have t5 : ∃ q : Nat, vs 5 = .slice (some ⟨q, 0, none⟩) 1 1 ∧ wq.heap.size ≤ q ∧ W.heap[q]? = some (.cells #[.string bn] 9 (0, 0)) := hT 5 (by decide)
                have t6 : ∃ g9 c9 : Nat, vs 6 = .slice (some ⟨g9, 0, none⟩) (S.length + 1) c9 ∧ W.ownsRow (w.heap.size + 2) 9 1 (.slice (some ⟨g9, 0, none⟩) (S.length + 1) c9) (S.length + 1) (S.map Value.string ++ [.string bn]) ∧ (row = some g9 ∨ wq.heap.size ≤ g9) := hT 6 (by decide)
                simp only [t0, t1, t2, t3, t4] at hK
                have H := Lib.hid hK
                clear hK hT
                go_simp
                exact H.out _ _ (rfl) rfl (fun h => by cases h) hI
              exact Rg.nil
            · intro vs W hG hI hT hF
              have t0 : vs 0 = .slice A11 S.length c11 := hT 0 (by decide)
              have t1 : vs 1 = .slice (some ⟨g2, o2, none⟩) (ys.length + 1) c14 := hT 1 (by decide)
              have t2 : vs 2 = .pointer (some ⟨g2, o2, none⟩) := hT 2 (by decide)
              have t3 : vs 3 = .pointer (some ⟨g2, o2, none⟩) := hT 3 (by decide)
              have t4 : vs 4 = .string bn := hT 4 (by decide)
              have t5 : ∃ q : Nat, vs 5 = .slice (some ⟨q, 0, none⟩) 1 1 ∧ wq.heap.size ≤ q ∧ W.heap[q]? = some (.cells #[.string bn] 9 (0, 0)) := hT 5 (by decide)
              have t6 : ∃ g9 c9 : Nat, vs 6 = .slice (some ⟨g9, 0, none⟩) (S.length + 1) c9 ∧ W.ownsRow (w.heap.size + 2) 9 1 (.slice (some ⟨g9, 0, none⟩) (S.length + 1) c9) (S.length + 1) (S.map Value.string ++ [.string bn]) ∧ (row = some g9 ∨ wq.heap.size ≤ g9) := hT 6 (by decide)
              have t7 : vs 7 = .slice (some ⟨g2, o2, none⟩) (ys.length + 1) c14 := hT 7 (by decide)
              have t8 : ∃ A8 c8, vs 8 = .slice A8 ys.length c8 ∧ ys.length ≤ c8 ∧ (ys = [] ∨ A8 = some ⟨g2, o2 + 5, none⟩) := hT 8 (by decide)
              have t9 : vs 9 = vs 6 := hT 9 (by decide)
              simp only [List.length_cons, List.length_nil, Nat.reduceAdd, List.range, List.range.loop, List.drop_succ_cons, List.drop_zero, Rg.putsD, List.getD_cons_zero, List.getD_cons_succ, Act.put, List.setIfInBounds_toArray, List.set_cons_zero, List.set_cons_succ, t0, t1, t2, t3, t4, t7, t9]
              clear hT t0 t1 t2 t3 t4 t7 t9
              obtain ⟨g9, c9, e6, own6, at6⟩ := t6
              obtain ⟨A8, c8, e8, hc8, ha8⟩ := t8
              have hgr : wq.drew.grownBy W (.slice A11 S.length c11 : Value).ownBlock := by rw [HROW.out]; exact hG
              have hat9 : (.slice A11 S.length c11 : Value).ownBlock = some g9 ∨ wq.drew.heap.size ≤ g9 := by rw [HROW.out]; exact at6
              have HN := Lib.hid (((HQ.out.then_ (Below.refl _ _).drew).swap.app (xs := [bn]) rfl own6 hgr hat9).swap)
              have HRN : Hid (Rest w (.slice (some ⟨g1, o1, none⟩) (xs.length + 1) c13) (⟨an, ap, ax, ay, aq⟩ :: xs) W ∧ Rest w (.slice A8 ys.length c8) ys W) := ⟨Rest.grown HRQ.out.1 hgr (fun j hj => HRow.out j (HROW.out.symm.trans hj)), Rest.next HRQ.out.2 hgr (fun j hj => HRow.out j (HROW.out.symm.trans hj)) hc8 ha8⟩
              have hzN := lt_of_blk HN.out.ky
              simp only [e6, e8]
              clear hF hI hG own6 at6 e6 e8 hgr hat9 t5
              go_wp2_with fail
              go_roundw
              case rel => exact ⟨(⟨an, ap, ax, ay, aq⟩ :: xs), ys, F, (S ++ [bn]), D, HM2, hzN, HN, HRN⟩
              case measure => simp [lenOf]
          · have heq9 : an = bn := bt_inj (HEQ.out.mp rfl)
            clear HLT HEQ
            subst heq9
            by_cases e1 : ap.toList = bp.toList
            rotate_left
            · have HPB : Hid (plB ⟨an, ap, ax, ay, aq⟩ ⟨an, bp, bx, by', bq⟩ = false) := by
                show _ = _
                simp [plB, e1]
              have HM2 := Lib.hid (HM.out.other rfl HPB.out)
              clear HPB
              go_wp2_with fail
              go_quiet (fail)
              have HQ2 := Lib.hid (HQ.out.then_ ((Below.refl _ _).drawN nq))
              have HRQ2 : Hid (Rest w (.slice (some ⟨g1, o1, none⟩) (xs.length + 1) c13) (⟨an, ap, ax, ay, aq⟩ :: xs) ((wq.drewN nq).alloc (.cells #[.string an] 9)) ∧ Rest w (.slice (some ⟨g2, o2, none⟩) (ys.length + 1) c14) (⟨an, bp, bx, by', bq⟩ :: ys) ((wq.drewN nq).alloc (.cells #[.string an] 9))) :=
                ⟨HRQ.out.1.then_ (((Below.refl w.heap.size wq).drawN nq).alloc (by show w.heap.size ≤ wq.heap.size; omega) _), HRQ.out.2.then_ (((Below.refl w.heap.size wq).drawN nq).alloc (by show w.heap.size ≤ wq.heap.size; omega) _)⟩
              go_wp2_with (at_builtin; refine hold ?_)
              refine loose ?_
              refine wpList_append_lies _ rfl _ _ 46 rfl (w.heap.size + 2) 9 i0 _ 1 16 Tryz.underlying46 HI.out.1 HI.out.2.1 HI.out.2.2.1 HI.out.2.2.2 rfl (by omega) _ _ _ rfl (World.ownsRow.alloc HQ2.out.rows.r3 _) ⟨wq.heap.size, 0, none⟩ 1 1 [.string an] rfl rfl (cell_one_new _ _ _) (by intro u hu; simp at hu; subst hu; rfl) (by omega) (by unfold maxLen; omega) (by omega) (by have := HQ2.out.below.size; have := lt_of_blk HQ2.out.ky; simp at *; omega) _ rfl ?_
              intro gA capA wA hoA hgA hatA _
              have HF2 := Lib.hid ((HQ2.out.alloc (.cells #[.string an] 9)).turn.app (xs := [an]) rfl hoA hgA (hatA.imp_right (fun e => Nat.le_of_eq e.symm))).turn
              have hro := fun j hj => own_row HQ2.out.rows.r3 j hj
              have HRN := Lib.hid (And.intro (HRQ2.out.1.grown0 hgA hro).tail (HRQ2.out.2.grown0 hgA hro).tail)
              have hzA := lt_of_blk HF2.out.ky
              clear hoA hgA hatA hro HQ HRQ HQ2 HRQ2 q0' q1' q2' q3' q4' s0' s1' s2' s3' s4' hg1' hg2' hzW
              have hin1 : (1 : Int) ≤ (xs.length : Int) + 1 := by omega
              have hin2 : (1 : Int) ≤ (ys.length : Int) + 1 := by omega
              go_wp2_with fail
              go_quiet (fail)
              have HF3 := Lib.hid (HF2.out.then_ ((Below.refl _ _).drawN nq))
              go_wp2_with fail
              go_roundw
              case rel => exact ⟨xs, ys, F, S, D ++ [an], HM2, hzA, HF3, HRN.out.1.then_ ((Below.refl _ _).drawN _), HRN.out.2.then_ ((Below.refl _ _).drawN _)⟩
              case measure => simp [lenOf]; omega
            by_cases e2 : ax = bx
            rotate_left
            · have HPB : Hid (plB ⟨an, ap, ax, ay, aq⟩ ⟨an, bp, bx, by', bq⟩ = false) := by
                show _ = _
                simp [plB, e2]
              have HM2 := Lib.hid (HM.out.other rfl HPB.out)
              clear HPB
              go_wp2_with fail
              go_quiet (fail)
              have HQ2 := Lib.hid (HQ.out.then_ ((Below.refl _ _).drawN nq))
              have HRQ2 : Hid (Rest w (.slice (some ⟨g1, o1, none⟩) (xs.length + 1) c13) (⟨an, ap, ax, ay, aq⟩ :: xs) ((wq.drewN nq).alloc (.cells #[.string an] 9)) ∧ Rest w (.slice (some ⟨g2, o2, none⟩) (ys.length + 1) c14) (⟨an, bp, bx, by', bq⟩ :: ys) ((wq.drewN nq).alloc (.cells #[.string an] 9))) :=
                ⟨HRQ.out.1.then_ (((Below.refl w.heap.size wq).drawN nq).alloc (by show w.heap.size ≤ wq.heap.size; omega) _), HRQ.out.2.then_ (((Below.refl w.heap.size wq).drawN nq).alloc (by show w.heap.size ≤ wq.heap.size; omega) _)⟩
              go_wp2_with (at_builtin; refine hold ?_)
              refine loose ?_
              refine wpList_append_lies _ rfl _ _ 46 rfl (w.heap.size + 2) 9 i0 _ 1 16 Tryz.underlying46 HI.out.1 HI.out.2.1 HI.out.2.2.1 HI.out.2.2.2 rfl (by omega) _ _ _ rfl (World.ownsRow.alloc HQ2.out.rows.r3 _) ⟨wq.heap.size, 0, none⟩ 1 1 [.string an] rfl rfl (cell_one_new _ _ _) (by intro u hu; simp at hu; subst hu; rfl) (by omega) (by unfold maxLen; omega) (by omega) (by have := HQ2.out.below.size; have := lt_of_blk HQ2.out.ky; simp at *; omega) _ rfl ?_
              intro gA capA wA hoA hgA hatA _
              have HF2 := Lib.hid ((HQ2.out.alloc (.cells #[.string an] 9)).turn.app (xs := [an]) rfl hoA hgA (hatA.imp_right (fun e => Nat.le_of_eq e.symm))).turn
              have hro := fun j hj => own_row HQ2.out.rows.r3 j hj
              have HRN := Lib.hid (And.intro (HRQ2.out.1.grown0 hgA hro).tail (HRQ2.out.2.grown0 hgA hro).tail)
              have hzA := lt_of_blk HF2.out.ky
              clear hoA hgA hatA hro HQ HRQ HQ2 HRQ2 q0' q1' q2' q3' q4' s0' s1' s2' s3' s4' hg1' hg2' hzW
              have hin1 : (1 : Int) ≤ (xs.length : Int) + 1 := by omega
              have hin2 : (1 : Int) ≤ (ys.length : Int) + 1 := by omega
              go_wp2_with fail
              go_quiet (fail)
              have HF3 := Lib.hid (HF2.out.then_ ((Below.refl _ _).drawN nq))
              go_wp2_with fail
              go_roundw
              case rel => exact ⟨xs, ys, F, S, D ++ [an], HM2, hzA, HF3, HRN.out.1.then_ ((Below.refl _ _).drawN _), HRN.out.2.then_ ((Below.refl _ _).drawN _)⟩
              case measure => simp [lenOf]; omega
            by_cases e3 : ay = by'
            rotate_left
            · have HPB : Hid (plB ⟨an, ap, ax, ay, aq⟩ ⟨an, bp, bx, by', bq⟩ = false) := by
                show _ = _
                simp [plB, e3]
              have HM2 := Lib.hid (HM.out.other rfl HPB.out)
              clear HPB
              go_wp2_with fail
              go_quiet (fail)
              have HQ2 := Lib.hid (HQ.out.then_ ((Below.refl _ _).drawN nq))
              have HRQ2 : Hid (Rest w (.slice (some ⟨g1, o1, none⟩) (xs.length + 1) c13) (⟨an, ap, ax, ay, aq⟩ :: xs) ((wq.drewN nq).alloc (.cells #[.string an] 9)) ∧ Rest w (.slice (some ⟨g2, o2, none⟩) (ys.length + 1) c14) (⟨an, bp, bx, by', bq⟩ :: ys) ((wq.drewN nq).alloc (.cells #[.string an] 9))) :=
                ⟨HRQ.out.1.then_ (((Below.refl w.heap.size wq).drawN nq).alloc (by show w.heap.size ≤ wq.heap.size; omega) _), HRQ.out.2.then_ (((Below.refl w.heap.size wq).drawN nq).alloc (by show w.heap.size ≤ wq.heap.size; omega) _)⟩
              go_wp2_with (at_builtin; refine hold ?_)
              refine loose ?_
              refine wpList_append_lies _ rfl _ _ 46 rfl (w.heap.size + 2) 9 i0 _ 1 16 Tryz.underlying46 HI.out.1 HI.out.2.1 HI.out.2.2.1 HI.out.2.2.2 rfl (by omega) _ _ _ rfl (World.ownsRow.alloc HQ2.out.rows.r3 _) ⟨wq.heap.size, 0, none⟩ 1 1 [.string an] rfl rfl (cell_one_new _ _ _) (by intro u hu; simp at hu; subst hu; rfl) (by omega) (by unfold maxLen; omega) (by omega) (by have := HQ2.out.below.size; have := lt_of_blk HQ2.out.ky; simp at *; omega) _ rfl ?_
              intro gA capA wA hoA hgA hatA _
              have HF2 := Lib.hid ((HQ2.out.alloc (.cells #[.string an] 9)).turn.app (xs := [an]) rfl hoA hgA (hatA.imp_right (fun e => Nat.le_of_eq e.symm))).turn
              have hro := fun j hj => own_row HQ2.out.rows.r3 j hj
              have HRN := Lib.hid (And.intro (HRQ2.out.1.grown0 hgA hro).tail (HRQ2.out.2.grown0 hgA hro).tail)
              have hzA := lt_of_blk HF2.out.ky
              clear hoA hgA hatA hro HQ HRQ HQ2 HRQ2 q0' q1' q2' q3' q4' s0' s1' s2' s3' s4' hg1' hg2' hzW
              have hin1 : (1 : Int) ≤ (xs.length : Int) + 1 := by omega
              have hin2 : (1 : Int) ≤ (ys.length : Int) + 1 := by omega
              go_wp2_with fail
              go_quiet (fail)
              have HF3 := Lib.hid (HF2.out.then_ ((Below.refl _ _).drawN nq))
              go_wp2_with fail
              go_roundw
              case rel => exact ⟨xs, ys, F, S, D ++ [an], HM2, hzA, HF3, HRN.out.1.then_ ((Below.refl _ _).drawN _), HRN.out.2.then_ ((Below.refl _ _).drawN _)⟩
              case measure => simp [lenOf]; omega
            by_cases e4 : aq = bq
            rotate_left
            · have HPB : Hid (plB ⟨an, ap, ax, ay, aq⟩ ⟨an, bp, bx, by', bq⟩ = false) := by
                show _ = _
                simp [plB, e4]
              have HM2 := Lib.hid (HM.out.other rfl HPB.out)
              clear HPB
              go_wp2_with fail
              go_quiet (fail)
              have HQ2 := Lib.hid (HQ.out.then_ ((Below.refl _ _).drawN nq))
              have HRQ2 : Hid (Rest w (.slice (some ⟨g1, o1, none⟩) (xs.length + 1) c13) (⟨an, ap, ax, ay, aq⟩ :: xs) ((wq.drewN nq).alloc (.cells #[.string an] 9)) ∧ Rest w (.slice (some ⟨g2, o2, none⟩) (ys.length + 1) c14) (⟨an, bp, bx, by', bq⟩ :: ys) ((wq.drewN nq).alloc (.cells #[.string an] 9))) :=
                ⟨HRQ.out.1.then_ (((Below.refl w.heap.size wq).drawN nq).alloc (by show w.heap.size ≤ wq.heap.size; omega) _), HRQ.out.2.then_ (((Below.refl w.heap.size wq).drawN nq).alloc (by show w.heap.size ≤ wq.heap.size; omega) _)⟩
              go_wp2_with (at_builtin; refine hold ?_)
              refine loose ?_
              refine wpList_append_lies _ rfl _ _ 46 rfl (w.heap.size + 2) 9 i0 _ 1 16 Tryz.underlying46 HI.out.1 HI.out.2.1 HI.out.2.2.1 HI.out.2.2.2 rfl (by omega) _ _ _ rfl (World.ownsRow.alloc HQ2.out.rows.r3 _) ⟨wq.heap.size, 0, none⟩ 1 1 [.string an] rfl rfl (cell_one_new _ _ _) (by intro u hu; simp at hu; subst hu; rfl) (by omega) (by unfold maxLen; omega) (by omega) (by have := HQ2.out.below.size; have := lt_of_blk HQ2.out.ky; simp at *; omega) _ rfl ?_
              intro gA capA wA hoA hgA hatA _
              have HF2 := Lib.hid ((HQ2.out.alloc (.cells #[.string an] 9)).turn.app (xs := [an]) rfl hoA hgA (hatA.imp_right (fun e => Nat.le_of_eq e.symm))).turn
              have hro := fun j hj => own_row HQ2.out.rows.r3 j hj
              have HRN := Lib.hid (And.intro (HRQ2.out.1.grown0 hgA hro).tail (HRQ2.out.2.grown0 hgA hro).tail)
              have hzA := lt_of_blk HF2.out.ky
              clear hoA hgA hatA hro HQ HRQ HQ2 HRQ2 q0' q1' q2' q3' q4' s0' s1' s2' s3' s4' hg1' hg2' hzW
              have hin1 : (1 : Int) ≤ (xs.length : Int) + 1 := by omega
              have hin2 : (1 : Int) ≤ (ys.length : Int) + 1 := by omega
              go_wp2_with fail
              go_quiet (fail)
              have HF3 := Lib.hid (HF2.out.then_ ((Below.refl _ _).drawN nq))
              go_wp2_with fail
              go_roundw
              case rel => exact ⟨xs, ys, F, S, D ++ [an], HM2, hzA, HF3, HRN.out.1.then_ ((Below.refl _ _).drawN _), HRN.out.2.then_ ((Below.refl _ _).drawN _)⟩
              case measure => simp [lenOf]; omega
            subst e2
            subst e3
            subst e4
            have e5 : ap = bp := by
              rw [Lib.toList_data, Lib.toList_data] at e1
              exact bt_inj e1
            subst e5
            clear e1
            have HM2 := Lib.hid (HM.out.same rfl (by simp [plB]))
            go_wp2_with fail
            go_quiet (fail)
            have HQ2 := Lib.hid (HQ.out.then_ ((Below.refl _ _).drawN nq))
            have HRN2 := Lib.hid (And.intro (HRQ.out.1.tail.then_ ((Below.refl w.heap.size wq).drawN nq)) (HRQ.out.2.tail.then_ ((Below.refl w.heap.size wq).drawN nq)))
            have hzA := lt_of_blk HQ2.out.ky
            clear HQ HRQ q0' q1' q2' q3' q4' s0' s1' s2' s3' s4' hg1' hg2' hzW HM
            have hin1 : (1 : Int) ≤ (xs.length : Int) + 1 := by omega
            have hin2 : (1 : Int) ≤ (ys.length : Int) + 1 := by omega
            go_wp2_with fail
            go_quiet (fail)
            have HF3 := Lib.hid (HQ2.out.then_ ((Below.refl _ _).drawN nq))
            go_wp2_with fail
            go_roundw
            case rel => exact ⟨xs, ys, F, S, D, HM2, hzA, HF3, HRN2.out.1.then_ ((Below.refl _ _).drawN _), HRN2.out.2.then_ ((Below.refl _ _).drawN _)⟩
            case measure => simp [lenOf]; omega
end Go.Proofs.YtalconjnjaffkaaGreatDoor
