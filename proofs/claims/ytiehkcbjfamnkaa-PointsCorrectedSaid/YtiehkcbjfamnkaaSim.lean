/-
  The walks of the similarity.
-/
import Derived.Test.YtiehkcbjfamnkaaFid
import Derived.Test.YtiehkcbjfamnkaaRg
import Derived.Deep.DrawnRows
namespace Go.Proofs.Ytiehkcbjfamnkaa
open Go.RowKit

def PtC (p : Int × Int) : Prop := (-500000 ≤ p.1 ∧ p.1 ≤ 500000) ∧ (-500000 ≤ p.2 ∧ p.2 ≤ 500000)

theorem blk_cells2 {w : World} {g : Nat} {a b : Value} {t : TypeId} (h : w.heap[g]? = some (.cells #[a, b] t (0, 0))) : w.cell? ⟨g, 0, none⟩ = some a ∧ w.cell? ⟨g, 1, none⟩ = some b := ⟨(blk2 h).1, (blk2 h).2.1⟩

theorem sq_bd {x : Int} (h1 : -1000000 ≤ x) (h2 : x ≤ 1000000) : 0 ≤ x * x ∧ x * x ≤ 1000000000000 := by
  constructor
  · rcases Int.le_total 0 x with h | h
    · exact Int.mul_nonneg h h
    · exact Int.mul_nonneg_of_nonpos_of_nonpos h h
  · have h3 : 0 ≤ (1000000 - x) * (1000000 + x) := Int.mul_nonneg (by omega) (by omega)
    have e : (1000000 - x) * (1000000 + x) = 1000000 * 1000000 - x * x := by
      rw [Int.sub_mul, Int.mul_add, Int.mul_add, Int.mul_comm x 1000000]; omega
    omega
theorem mul_bd {x y A B : Int} (h1 : -A ≤ x) (h2 : x ≤ A) (h3 : -B ≤ y) (h4 : y ≤ B) : -(A * B) ≤ x * y ∧ x * y ≤ A * B := by
  have a1 : 0 ≤ (A - x) * (B + y) := Int.mul_nonneg (by omega) (by omega)
  have a2 : 0 ≤ (A + x) * (B - y) := Int.mul_nonneg (by omega) (by omega)
  have a3 : 0 ≤ (A - x) * (B - y) := Int.mul_nonneg (by omega) (by omega)
  have a4 : 0 ≤ (A + x) * (B + y) := Int.mul_nonneg (by omega) (by omega)
  rw [Int.sub_mul, Int.mul_add, Int.mul_add] at a1
  rw [Int.add_mul, Int.mul_sub, Int.mul_sub] at a2
  rw [Int.sub_mul, Int.mul_sub, Int.mul_sub] at a3
  rw [Int.add_mul, Int.mul_add, Int.mul_add] at a4
  omega

theorem sq_pos {x y : Int × Int} (h : x ≠ y) : 1 ≤ (y.1 - x.1) * (y.1 - x.1) + (y.2 - x.2) * (y.2 - x.2) := by
  have nn : ∀ z : Int, 0 ≤ z * z := fun z => by
    rcases Int.le_total 0 z with h | h
    · exact Int.mul_nonneg h h
    · exact Int.mul_nonneg_of_nonpos_of_nonpos h h
  have pp : ∀ z : Int, z ≠ 0 → 1 ≤ z * z := fun z hz => by
    have h1 := nn z
    have h2 : z * z ≠ 0 := Int.mul_ne_zero hz hz
    omega
  have a := nn (y.1 - x.1)
  have b := nn (y.2 - x.2)
  by_cases h1 : y.1 - x.1 = 0
  · by_cases h2 : y.2 - x.2 = 0
    · exact absurd (Prod.ext (by omega) (by omega)) h
    · have := pp _ h2; omega
  · have := pp _ h1; omega

set_option maxHeartbeats 4000000 in
theorem stretchOf1_any (n0 n1 : Int × Int) (h0 : PtC n0) (h1 : PtC n1) (w : World) :
    Calls Try.prog 90 #[two n0 n1] w fun e w' => e = .returned (.int .i64 ((n1.1 - n0.1) * (n1.1 - n0.1) + (n1.2 - n0.2) * (n1.2 - n0.2))) ∧ Below w.heap.size w w' := by
  obtain ⟨n0x, n0y⟩ := n0; obtain ⟨n1x, n1y⟩ := n1
  obtain ⟨⟨_, _⟩, _, _⟩ := h0; obtain ⟨⟨_, _⟩, _, _⟩ := h1
  simp only at *
  unfold two
  have hs : 0 ≤ (n1x - n0x) * (n1x - n0x) ∧ (n1x - n0x) * (n1x - n0x) ≤ 1000000000000 := sq_bd (by omega) (by omega)
  have ht : 0 ≤ (n1y - n0y) * (n1y - n0y) ∧ (n1y - n0y) * (n1y - n0y) ≤ 1000000000000 := sq_bd (by omega) (by omega)
  obtain ⟨_, _⟩ := hs; obtain ⟨_, _⟩ := ht
  go_enter Try.func90, Try.ntmps90
  go_wp2_with fail
  go_quiet (fail)
  go_wp2_with fail
  go_ret
  exact ⟨rfl, ((Below.refl _ _).alloc (Nat.le_refl _) _).drawN _⟩

attribute [local go_sem ↓] Go.wp_at_zero Go.wp_at_succ

set_option maxRecDepth 100000 in
set_option maxHeartbeats 4000000 in
theorem stretchOf_any (n0 n1 m0 m1 : Int × Int) (h0 : PtC n0) (h1 : PtC n1) (h2 : PtC m0) (h3 : PtC m1) (hne : n0 ≠ n1) (w : World) :
    Calls Try.prog 51 #[two n0 n1, two m0 m1] w fun e w' =>
      e = .returned (low ((m1.1 - m0.1) * (m1.1 - m0.1) + (m1.2 - m0.2) * (m1.2 - m0.2)) ((n1.1 - n0.1) * (n1.1 - n0.1) + (n1.2 - n0.2) * (n1.2 - n0.2))) ∧ Below w.heap.size w w' := by
  have cn := fun W => stretchOf1_any n0 n1 h0 h1 W
  have cm := fun W => stretchOf1_any m0 m1 h2 h3 W
  have hs : ∀ x y : Int × Int, PtC x → PtC y → 0 ≤ (y.1 - x.1) * (y.1 - x.1) + (y.2 - x.2) * (y.2 - x.2) ∧ (y.1 - x.1) * (y.1 - x.1) + (y.2 - x.2) * (y.2 - x.2) ≤ 4000000000000000000 := by
    intro x y hx hy
    obtain ⟨⟨_, _⟩, _, _⟩ := hx; obtain ⟨⟨_, _⟩, _, _⟩ := hy
    have a := sq_bd (x := y.1 - x.1) (by omega) (by omega)
    have b := sq_bd (x := y.2 - x.2) (by omega) (by omega)
    omega
  have hm := hs m0 m1 h2 h3
  have hn := hs n0 n1 h0 h1
  have hn1 : 1 ≤ (n1.1 - n0.1) * (n1.1 - n0.1) + (n1.2 - n0.2) * (n1.2 - n0.2) := sq_pos hne
  generalize (m1.1 - m0.1) * (m1.1 - m0.1) + (m1.2 - m0.2) * (m1.2 - m0.2) = M at *
  generalize (n1.1 - n0.1) * (n1.1 - n0.1) + (n1.2 - n0.2) * (n1.2 - n0.2) = N at *
  obtain ⟨n0x, n0y⟩ := n0; obtain ⟨n1x, n1y⟩ := n1; obtain ⟨m0x, m0y⟩ := m0; obtain ⟨m1x, m1y⟩ := m1
  unfold two at *
  simp only at *
  have CN := Lib.hid cn
  have CM := Lib.hid cm
  have CL := Lib.hid (fun W => qlowest_any M N W hm.1 hm.2 hn1 hn.2)
  clear cn cm hs hm hn hn1 hne h0 h1 h2 h3
  go_enter Try.func51, Try.ntmps51
  go_wp2_with fail
  have k2 : (((w.alloc (Obj.cells #[.int .i64 n0x, .int .i64 n0y, .int .i64 n1x, .int .i64 n1y] 97)).alloc (Obj.cells #[.int .i64 m0x, .int .i64 m0y, .int .i64 m1x, .int .i64 m1y] 97)).alloc (Obj.cells #[.int .i64 0, .int .i64 0] 101)).heap[w.heap.size]? = some (.cells #[.int .i64 n0x, .int .i64 n0y, .int .i64 n1x, .int .i64 n1y] 97 (0, 0)) := blk_alloc (blk_alloc (blk_new _ _ rfl) _) _
  have k3 : (((w.alloc (Obj.cells #[.int .i64 n0x, .int .i64 n0y, .int .i64 n1x, .int .i64 n1y] 97)).alloc (Obj.cells #[.int .i64 m0x, .int .i64 m0y, .int .i64 m1x, .int .i64 m1y] 97)).alloc (Obj.cells #[.int .i64 0, .int .i64 0] 101)).heap[w.heap.size + 1]? = some (.cells #[.int .i64 m0x, .int .i64 m0y, .int .i64 m1x, .int .i64 m1y] 97 (0, 0)) := blk_alloc (blk_new _ _ (by simp)) _
  have k4 : (((w.alloc (Obj.cells #[.int .i64 n0x, .int .i64 n0y, .int .i64 n1x, .int .i64 n1y] 97)).alloc (Obj.cells #[.int .i64 m0x, .int .i64 m0y, .int .i64 m1x, .int .i64 m1y] 97)).alloc (Obj.cells #[.int .i64 0, .int .i64 0] 101)).heap[w.heap.size + 1 + 1]? = some (.cells #[.int .i64 0, .int .i64 0] 101 (0, 0)) := blk_new _ _ (by simp)
  have hb := ((((Below.refl w.heap.size w).alloc (Nat.le_refl _) (Obj.cells #[.int .i64 n0x, .int .i64 n0y, .int .i64 n1x, .int .i64 n1y] 97)).alloc (by simp) (Obj.cells #[.int .i64 m0x, .int .i64 m0y, .int .i64 m1x, .int .i64 m1y] 97)).alloc (by simp; omega) (Obj.cells #[.int .i64 0, .int .i64 0] 101))
  generalize ((w.alloc (Obj.cells #[.int .i64 n0x, .int .i64 n0y, .int .i64 n1x, .int .i64 n1y] 97)).alloc (Obj.cells #[.int .i64 m0x, .int .i64 m0y, .int .i64 m1x, .int .i64 m1y] 97)).alloc (Obj.cells #[.int .i64 0, .int .i64 0] 101) = W0 at *
  have K2 := Lib.hid k2
  have K3 := Lib.hid k3
  have K4 := Lib.hid k4
  clear k2 k3 k4
  refine Rg.rgL (fun a b => Below a.heap.size a b)
    [(fun vs u => vs 0 = .func (.func 90) #[] #[]), (fun vs u => vs 1 = .agg #[.int .i64 m0x, .int .i64 m0y, .int .i64 m1x, .int .i64 m1y]), (fun vs u => vs 2 = .int .i64 M), (fun vs u => vs 3 = .func (.func 90) #[] #[]), (fun vs u => vs 4 = .agg #[.int .i64 n0x, .int .i64 n0y, .int .i64 n1x, .int .i64 n1y])]
    [[], [], [0, 1], [], []] [some 6, some 7, some 8, some 9, some 10, some 11, some 12, none] [] (fun _ _ => True) [[], [], [0, 1], [], [], [0, 1, 2, 3, 4], [0, 1, 2, 3, 4, 5], [0, 1, 2, 3, 4, 5, 6]]
    (by kernel_rfl) (by decide) (by kernel_rfl) (by kernel_rfl) (by kernel_rfl) (by kernel_rfl) (by kernel_rfl) (fun _ => Below.refl _ _) (fun _ _ _ h k => h.ext k) (fun _ _ h => h.size) ?_ trivial ?_ ?_
  · intro t ht vs w w' h hE
    simp only [List.mem_cons, List.not_mem_nil, or_false] at ht
    rcases ht with rfl | rfl | rfl | rfl | rfl
    · exact h
    · exact h
    · exact h
    · exact h
    · exact h
  ·
    refine Rg.cons 0 1 rfl (Rg.plain rfl ?_) ?_
    · intro vs W n hn hI hG hT hF K hK
      simp only [Rg.putsD, List.getD_cons_zero, List.getD_cons_succ, Act.put, List.setIfInBounds_toArray, List.set_cons_zero, List.set_cons_succ] at hK ⊢
      clear hn
      clear hF hI
      have H := Lib.hid hK
      clear hK hT
      go_simp
      exact H.out _ _ (Below.refl _ _) rfl (fun h => by cases h) trivial
    refine Rg.cons 1 2 rfl (Rg.plain rfl ?_) ?_
    · intro vs W n hn hI hG hT hF K hK
      simp only [Rg.putsD, List.getD_cons_zero, List.getD_cons_succ, Act.put, List.setIfInBounds_toArray, List.set_cons_zero, List.set_cons_succ] at hK ⊢
      clear hn
      clear hF hI
      have k := blk_below hG K3.out
      obtain ⟨c0, c1, c2, c3⟩ := blk4 k
      clear k
      have H := Lib.hid hK
      clear hK hT
      go_simp
      exact H.out _ _ (Below.refl _ _) rfl (fun h => by cases h) trivial
    refine Rg.cons 2 3 rfl (Rg.plain rfl ?_) ?_
    · intro vs W n hn hI hG hT hF K hK
      simp only [Rg.putsD, List.getD_cons_zero, List.getD_cons_succ, Act.put, List.setIfInBounds_toArray, List.set_cons_zero, List.set_cons_succ] at hK ⊢
      clear hn
      clear hF hI
      have t0 : vs 0 = .func (.func 90) #[] #[] := hT 0 (by decide)
      have t1 : vs 1 = .agg #[.int .i64 m0x, .int .i64 m0y, .int .i64 m1x, .int .i64 m1y] := hT 1 (by decide)
      simp only [t0, t1] at hK
      have H := Lib.hid hK
      clear hK hT
      go_simp
      refine (CM.out _).mono ?_
      rintro e w1 ⟨rfl, b1⟩
      exact H.out _ _ b1 rfl (fun h => by cases h) trivial
    refine Rg.cons 3 4 rfl (Rg.plain rfl ?_) ?_
    · intro vs W n hn hI hG hT hF K hK
      simp only [Rg.putsD, List.getD_cons_zero, List.getD_cons_succ, Act.put, List.setIfInBounds_toArray, List.set_cons_zero, List.set_cons_succ] at hK ⊢
      clear hn
      clear hF hI
      have H := Lib.hid hK
      clear hK hT
      go_simp
      exact H.out _ _ (Below.refl _ _) rfl (fun h => by cases h) trivial
    refine Rg.cons 4 5 rfl (Rg.plain rfl ?_) ?_
    · intro vs W n hn hI hG hT hF K hK
      simp only [Rg.putsD, List.getD_cons_zero, List.getD_cons_succ, Act.put, List.setIfInBounds_toArray, List.set_cons_zero, List.set_cons_succ] at hK ⊢
      clear hn
      clear hF hI
      have k := blk_below hG K2.out
      obtain ⟨c0, c1, c2, c3⟩ := blk4 k
      clear k
      have H := Lib.hid hK
      clear hK hT
      go_simp
      exact H.out _ _ (Below.refl _ _) rfl (fun h => by cases h) trivial
    exact Rg.nil
  · intro vs W hG hI hT hF
    have t0 : vs 0 = .func (.func 90) #[] #[] := hT 0 (by decide)
    have t1 : vs 1 = .agg #[.int .i64 m0x, .int .i64 m0y, .int .i64 m1x, .int .i64 m1y] := hT 1 (by decide)
    have t2 : vs 2 = .int .i64 M := hT 2 (by decide)
    have t3 : vs 3 = .func (.func 90) #[] #[] := hT 3 (by decide)
    have t4 : vs 4 = .agg #[.int .i64 n0x, .int .i64 n0y, .int .i64 n1x, .int .i64 n1y] := hT 4 (by decide)
    simp only [List.length_cons, List.length_nil, Nat.reduceAdd, List.range, List.range.loop, List.drop_succ_cons, List.drop_zero, Rg.putsD, List.getD_cons_zero, List.getD_cons_succ, Act.put, List.setIfInBounds_toArray, List.set_cons_zero, List.set_cons_succ, t0, t1, t2, t3, t4]
    clear hT t0 t1 t2 t3 t4
    clear hI hF
    go_wp2_with fail
    refine (CN.out _).mono ?_
    rintro e w1 ⟨rfl, b1⟩
    go_wp2_with fail
    refine (CL.out _).mono ?_
    rintro e w2 ⟨rfl, b2⟩
    have k4 := blk_below b2 (blk_below b1 (blk_below hG K4.out))
    obtain ⟨c0, c1, f0, f1⟩ := blk2 k4
    unfold low
    go_wp2_with fail
    refine bodyPost_ret (v := low M N) (by unfold results low; simp only [Try.results51]; go_simp) rfl ⟨rfl, ?_⟩
    exact ((((hb.drew.ext hG).ext b1).ext b2).setCell (by simp; omega) _).setCell (by simp; omega) _

/-- The block of a point. -/
def PtB (w : World) (b : Nat) (x y : Int) : Prop := w.heap[b]? = some (.cells #[.int .i64 x, .int .i64 y] 95 (0, 0))
def TwoB (w : World) (b : Nat) (p q : Int × Int) : Prop := w.heap[b]? = some (.cells #[.int .i64 p.1, .int .i64 p.2, .int .i64 q.1, .int .i64 q.2] 97 (0, 0))
def IntB (w : World) (b : Nat) (x : Int) : Prop := w.heap[b]? = some (.cells #[.int .i64 x] 3 (0, 0))

/-- What a similarity is in memory: its turn, both lists of points, and what it is divided by. -/
def SimAt (w : World) (n0 n1 m0 m1 : Int × Int) (v : Value) : Prop := ∃ b7 b2 b3 b8 : Nat, v = .func (.func 113) #[] #[.pointer (some ⟨b7, 0, none⟩), .pointer (some ⟨b2, 0, none⟩), .pointer (some ⟨b3, 0, none⟩), .pointer (some ⟨b8, 0, none⟩)] ∧
  PtB w b7 ((m1.1 - m0.1) * (n1.1 - n0.1) - (m1.2 - m0.2) * -(n1.2 - n0.2)) ((m1.1 - m0.1) * -(n1.2 - n0.2) + (m1.2 - m0.2) * (n1.1 - n0.1)) ∧ TwoB w b2 n0 n1 ∧ TwoB w b3 m0 m1 ∧
  IntB w b8 ((n1.1 - n0.1) * (n1.1 - n0.1) + (n1.2 - n0.2) * (n1.2 - n0.2))

set_option maxRecDepth 100000 in
set_option maxHeartbeats 4000000 in
theorem similarity_any (n0 n1 m0 m1 : Int × Int) (h0 : PtC n0) (h1 : PtC n1) (h2 : PtC m0) (h3 : PtC m1) (w : World) :
    Calls Try.prog 84 #[two n0 n1, two m0 m1] w fun e w' => ∃ v, e = .returned v ∧ SimAt w' n0 n1 m0 m1 v ∧ Below w.heap.size w w' := by
  have cb := fun W => minus_any n1.1 n1.2 n0.1 n0.2 W h1.1 h1.2 h0.1 h0.2
  have ca := fun W => minus_any m1.1 m1.2 m0.1 m0.2 W h3.1 h3.2 h2.1 h2.2
  have hbx : -1000000 ≤ n1.1 - n0.1 ∧ n1.1 - n0.1 ≤ 1000000 := by have := h0.1; have := h1.1; omega
  have hby : -1000000 ≤ n1.2 - n0.2 ∧ n1.2 - n0.2 ≤ 1000000 := by have := h0.2; have := h1.2; omega
  have hax : -1000000 ≤ m1.1 - m0.1 ∧ m1.1 - m0.1 ≤ 1000000 := by have := h2.1; have := h3.1; omega
  have hay : -1000000 ≤ m1.2 - m0.2 ∧ m1.2 - m0.2 ≤ 1000000 := by have := h2.2; have := h3.2; omega
  unfold SimAt
  generalize n1.1 - n0.1 = bx at *
  generalize n1.2 - n0.2 = by_ at *
  generalize m1.1 - m0.1 = ax at *
  generalize m1.2 - m0.2 = ay at *
  have hyn : -1000000 ≤ -by_ ∧ -by_ ≤ 1000000 := by omega
  have cm := fun W => mirrored_any bx by_ W hby
  have p1 := mul_bd hax.1 hax.2 hbx.1 hbx.2
  have p2 := mul_bd hay.1 hay.2 hyn.1 hyn.2
  have p3 := mul_bd hax.1 hax.2 hyn.1 hyn.2
  have p4 := mul_bd hay.1 hay.2 hbx.1 hbx.2
  have ct := fun W => times_any ax ay bx (-by_) W (by omega) (by omega) (by omega) (by omega)
  have cs := fun W => square_any bx by_ W (sq_bd hbx.1 hbx.2) (sq_bd hby.1 hby.2)
  have CB := Lib.hid cb
  have CA := Lib.hid ca
  have CM := Lib.hid cm
  have CT := Lib.hid ct
  have CS := Lib.hid cs
  clear cb ca cm ct cs p1 p2 p3 p4 hbx hby hax hay hyn h0 h1 h2 h3
  generalize ax * bx - ay * -by_ = re at *
  generalize ax * -by_ + ay * bx = im at *
  generalize bx * bx + by_ * by_ = sq at *
  obtain ⟨n0x, n0y⟩ := n0; obtain ⟨n1x, n1y⟩ := n1; obtain ⟨m0x, m0y⟩ := m0; obtain ⟨m1x, m1y⟩ := m1
  unfold two at *
  simp only at *
  go_enter Try.func84, Try.ntmps84
  go_upto_region 1 with (fail)
  go_cut [5, 6] (fun s5 s6 wc => ∃ b5 b6 : Nat, s5 = .pointer (some ⟨b5, 0, none⟩) ∧ s6 = .pointer (some ⟨b6, 0, none⟩) ∧ Hid (PtB wc b5 bx by_ ∧ PtB wc b6 ax ay ∧ TwoB wc w.heap.size (n0x, n0y) (n1x, n1y) ∧ TwoB wc (w.heap.size + 1) (m0x, m0y) (m1x, m1y) ∧ Below w.heap.size w wc))
  case first =>
    refine Rg.rgL (fun a b => Below a.heap.size a b)
      [(fun vs u => vs 0 = .pointer (some ⟨w.heap.size, 2, none⟩)), (fun vs u => vs 1 = .agg #[.int .i64 n1x, .int .i64 n1y]), (fun vs u => vs 2 = .pointer (some ⟨w.heap.size, 0, none⟩)), (fun vs u => vs 3 = .agg #[.int .i64 n0x, .int .i64 n0y]), (fun vs u => vs 4 = .agg #[.int .i64 bx, .int .i64 by_]), (fun vs u => vs 5 = .pointer (some ⟨w.heap.size + 1, 2, none⟩)), (fun vs u => vs 6 = .agg #[.int .i64 m1x, .int .i64 m1y]), (fun vs u => vs 7 = .pointer (some ⟨w.heap.size + 1, 0, none⟩)), (fun vs u => vs 8 = .agg #[.int .i64 m0x, .int .i64 m0y]), (fun vs u => vs 9 = .agg #[.int .i64 ax, .int .i64 ay]), (fun vs u => ∃ b : Nat, vs 10 = .pointer (some ⟨b, 0, none⟩) ∧ u.heap[b]? = some (.cells #[.int .i64 0, .int .i64 0] 95 (0, 0))), (fun vs u => ∃ b : Nat, vs 11 = .pointer (some ⟨b, 0, none⟩) ∧ u.heap[b]? = some (.cells #[.int .i64 0, .int .i64 0] 95 (0, 0)))]
      [[], [0], [], [2], [0, 1, 2, 3], [], [5], [], [7], [0, 1, 2, 3, 4, 5, 6, 7, 8], [], []] [some 9, some 10, some 11, some 12, some 13, some 14, some 15, some 16, some 17, some 18, some 5, some 6, none, none] [10, 11] (fun _ _ => True) [[], [0], [], [2], [0, 1, 2, 3], [], [5], [], [7], [0, 1, 2, 3, 4, 5, 6, 7, 8], [], [], [0, 1, 2, 3, 4, 5, 6, 7, 8, 9, 10, 11], [0, 1, 2, 3, 4, 5, 6, 7, 8, 9, 10, 11, 12]]
      (by kernel_rfl) (by decide) (by kernel_rfl) (by kernel_rfl) (by kernel_rfl) (by kernel_rfl) (by kernel_rfl) (fun _ => Below.refl _ _) (fun _ _ _ h k => h.ext k) (fun _ _ h => h.size) ?_ trivial ?_ ?_
    · intro t ht vs w w' h hE
      simp only [List.mem_cons, List.not_mem_nil, or_false] at ht
      rcases ht with rfl | rfl | rfl | rfl | rfl | rfl | rfl | rfl | rfl | rfl | rfl | rfl
      · exact h
      · exact h
      · exact h
      · exact h
      · exact h
      · exact h
      · exact h
      · exact h
      · exact h
      · exact h
      · obtain ⟨b, e, k⟩ := h
        exact ⟨b, e, blk_below hE k⟩
      · obtain ⟨b, e, k⟩ := h
        exact ⟨b, e, blk_below hE k⟩
    ·
      refine Rg.cons 0 1 rfl (Rg.plain rfl ?_) ?_
      · intro vs W n hn hI hG hT hF K hK
        simp only [Rg.putsD, List.getD_cons_zero, List.getD_cons_succ, Act.put, List.setIfInBounds_toArray, List.set_cons_zero, List.set_cons_succ] at hK ⊢
        clear hn
        clear hF hI
        have H := Lib.hid hK
        clear hK hT
        go_simp
        exact H.out _ _ (Below.refl _ _) rfl (fun h => by cases h) trivial
      refine Rg.cons 1 2 rfl (Rg.plain rfl ?_) ?_
      · intro vs W n hn hI hG hT hF K hK
        simp only [Rg.putsD, List.getD_cons_zero, List.getD_cons_succ, Act.put, List.setIfInBounds_toArray, List.set_cons_zero, List.set_cons_succ] at hK ⊢
        clear hn
        clear hF hI
        have t0 : vs 0 = .pointer (some ⟨w.heap.size, 2, none⟩) := hT 0 (by decide)
        have k := blk_below hG (blk_alloc (blk_new w _ rfl) _)
        obtain ⟨c0, c1, c2, c3⟩ := blk4 k
        clear k
        simp only [t0] at hK
        have H := Lib.hid hK
        clear hK hT
        go_simp
        exact H.out _ _ (Below.refl _ _) rfl (fun h => by cases h) trivial
      refine Rg.cons 2 3 rfl (Rg.plain rfl ?_) ?_
      · intro vs W n hn hI hG hT hF K hK
        simp only [Rg.putsD, List.getD_cons_zero, List.getD_cons_succ, Act.put, List.setIfInBounds_toArray, List.set_cons_zero, List.set_cons_succ] at hK ⊢
        clear hn
        clear hF hI
        have H := Lib.hid hK
        clear hK hT
        go_simp
        exact H.out _ _ (Below.refl _ _) rfl (fun h => by cases h) trivial
      refine Rg.cons 3 4 rfl (Rg.plain rfl ?_) ?_
      · intro vs W n hn hI hG hT hF K hK
        simp only [Rg.putsD, List.getD_cons_zero, List.getD_cons_succ, Act.put, List.setIfInBounds_toArray, List.set_cons_zero, List.set_cons_succ] at hK ⊢
        clear hn
        clear hF hI
        have t2 : vs 2 = .pointer (some ⟨w.heap.size, 0, none⟩) := hT 2 (by decide)
        have k := blk_below hG (blk_alloc (blk_new w _ rfl) _)
        obtain ⟨c0, c1, c2, c3⟩ := blk4 k
        clear k
        simp only [t2] at hK
        have H := Lib.hid hK
        clear hK hT
        go_simp
        exact H.out _ _ (Below.refl _ _) rfl (fun h => by cases h) trivial
      refine Rg.cons 4 5 rfl (Rg.plain rfl ?_) ?_
      · intro vs W n hn hI hG hT hF K hK
        simp only [Rg.putsD, List.getD_cons_zero, List.getD_cons_succ, Act.put, List.setIfInBounds_toArray, List.set_cons_zero, List.set_cons_succ] at hK ⊢
        clear hn
        clear hF hI
        have t0 : vs 0 = .pointer (some ⟨w.heap.size, 2, none⟩) := hT 0 (by decide)
        have t1 : vs 1 = .agg #[.int .i64 n1x, .int .i64 n1y] := hT 1 (by decide)
        have t2 : vs 2 = .pointer (some ⟨w.heap.size, 0, none⟩) := hT 2 (by decide)
        have t3 : vs 3 = .agg #[.int .i64 n0x, .int .i64 n0y] := hT 3 (by decide)
        simp only [t0, t1, t2, t3] at hK
        have H := Lib.hid hK
        clear hK hT
        go_simp
        refine (CB.out _).mono ?_
        rintro e w1 ⟨rfl, b1⟩
        exact H.out _ _ b1 rfl (fun h => by cases h) trivial
      refine Rg.cons 5 6 rfl (Rg.plain rfl ?_) ?_
      · intro vs W n hn hI hG hT hF K hK
        simp only [Rg.putsD, List.getD_cons_zero, List.getD_cons_succ, Act.put, List.setIfInBounds_toArray, List.set_cons_zero, List.set_cons_succ] at hK ⊢
        clear hn
        clear hF hI
        have H := Lib.hid hK
        clear hK hT
        go_simp
        exact H.out _ _ (Below.refl _ _) rfl (fun h => by cases h) trivial
      refine Rg.cons 6 7 rfl (Rg.plain rfl ?_) ?_
      · intro vs W n hn hI hG hT hF K hK
        simp only [Rg.putsD, List.getD_cons_zero, List.getD_cons_succ, Act.put, List.setIfInBounds_toArray, List.set_cons_zero, List.set_cons_succ] at hK ⊢
        clear hn
        clear hF hI
        have t5 : vs 5 = .pointer (some ⟨w.heap.size + 1, 2, none⟩) := hT 5 (by decide)
        have k := blk_below hG (blk_new (g := w.heap.size + 1) (w.alloc _) _ (by simp))
        obtain ⟨c0, c1, c2, c3⟩ := blk4 k
        clear k
        simp only [t5] at hK
        have H := Lib.hid hK
        clear hK hT
        go_simp
        exact H.out _ _ (Below.refl _ _) rfl (fun h => by cases h) trivial
      refine Rg.cons 7 8 rfl (Rg.plain rfl ?_) ?_
      · intro vs W n hn hI hG hT hF K hK
        simp only [Rg.putsD, List.getD_cons_zero, List.getD_cons_succ, Act.put, List.setIfInBounds_toArray, List.set_cons_zero, List.set_cons_succ] at hK ⊢
        clear hn
        clear hF hI
        have H := Lib.hid hK
        clear hK hT
        go_simp
        exact H.out _ _ (Below.refl _ _) rfl (fun h => by cases h) trivial
      refine Rg.cons 8 9 rfl (Rg.plain rfl ?_) ?_
      · intro vs W n hn hI hG hT hF K hK
        simp only [Rg.putsD, List.getD_cons_zero, List.getD_cons_succ, Act.put, List.setIfInBounds_toArray, List.set_cons_zero, List.set_cons_succ] at hK ⊢
        clear hn
        clear hF hI
        have t7 : vs 7 = .pointer (some ⟨w.heap.size + 1, 0, none⟩) := hT 7 (by decide)
        have k := blk_below hG (blk_new (g := w.heap.size + 1) (w.alloc _) _ (by simp))
        obtain ⟨c0, c1, c2, c3⟩ := blk4 k
        clear k
        simp only [t7] at hK
        have H := Lib.hid hK
        clear hK hT
        go_simp
        exact H.out _ _ (Below.refl _ _) rfl (fun h => by cases h) trivial
      refine Rg.cons 9 10 rfl (Rg.plain rfl ?_) ?_
      · intro vs W n hn hI hG hT hF K hK
        simp only [Rg.putsD, List.getD_cons_zero, List.getD_cons_succ, Act.put, List.setIfInBounds_toArray, List.set_cons_zero, List.set_cons_succ] at hK ⊢
        clear hn
        clear hF hI
        have t0 : vs 0 = .pointer (some ⟨w.heap.size, 2, none⟩) := hT 0 (by decide)
        have t1 : vs 1 = .agg #[.int .i64 n1x, .int .i64 n1y] := hT 1 (by decide)
        have t2 : vs 2 = .pointer (some ⟨w.heap.size, 0, none⟩) := hT 2 (by decide)
        have t3 : vs 3 = .agg #[.int .i64 n0x, .int .i64 n0y] := hT 3 (by decide)
        have t4 : vs 4 = .agg #[.int .i64 bx, .int .i64 by_] := hT 4 (by decide)
        have t5 : vs 5 = .pointer (some ⟨w.heap.size + 1, 2, none⟩) := hT 5 (by decide)
        have t6 : vs 6 = .agg #[.int .i64 m1x, .int .i64 m1y] := hT 6 (by decide)
        have t7 : vs 7 = .pointer (some ⟨w.heap.size + 1, 0, none⟩) := hT 7 (by decide)
        have t8 : vs 8 = .agg #[.int .i64 m0x, .int .i64 m0y] := hT 8 (by decide)
        simp only [t0, t1, t2, t3, t4, t5, t6, t7, t8] at hK
        have H := Lib.hid hK
        clear hK hT
        go_simp
        refine (CA.out _).mono ?_
        rintro e w1 ⟨rfl, b1⟩
        exact H.out _ _ b1 rfl (fun h => by cases h) trivial
      refine Rg.cons 10 11 rfl (Rg.plain rfl ?_) ?_
      · intro vs W n hn hI hG hT hF K hK
        simp only [Rg.putsD, List.getD_cons_zero, List.getD_cons_succ, Act.put, List.setIfInBounds_toArray, List.set_cons_zero, List.set_cons_succ] at hK ⊢
        clear hn
        clear hF hI
        have H := Lib.hid hK
        clear hK hT
        go_simp
        exact H.out _ _ ((Below.refl _ _).alloc (Nat.le_refl _) _) (show ∃ b : Nat, _ = _ ∧ _ = _ from ⟨_, rfl, blk_new W _ rfl⟩) (fun _ => ⟨W.heap.size, rfl, Nat.le_refl _, by simp⟩) trivial
      refine Rg.cons 11 12 rfl (Rg.plain rfl ?_) ?_
      · intro vs W n hn hI hG hT hF K hK
        simp only [Rg.putsD, List.getD_cons_zero, List.getD_cons_succ, Act.put, List.setIfInBounds_toArray, List.set_cons_zero, List.set_cons_succ] at hK ⊢
        clear hn
        clear hF hI
        have H := Lib.hid hK
        clear hK hT
        go_simp
        exact H.out _ _ ((Below.refl _ _).alloc (Nat.le_refl _) _) (show ∃ b : Nat, _ = _ ∧ _ = _ from ⟨_, rfl, blk_new W _ rfl⟩) (fun _ => ⟨W.heap.size, rfl, Nat.le_refl _, by simp⟩) trivial
      exact Rg.nil
    · intro vs W hG hI hT hF
      have t0 : vs 0 = .pointer (some ⟨w.heap.size, 2, none⟩) := hT 0 (by decide)
      have t1 : vs 1 = .agg #[.int .i64 n1x, .int .i64 n1y] := hT 1 (by decide)
      have t2 : vs 2 = .pointer (some ⟨w.heap.size, 0, none⟩) := hT 2 (by decide)
      have t3 : vs 3 = .agg #[.int .i64 n0x, .int .i64 n0y] := hT 3 (by decide)
      have t4 : vs 4 = .agg #[.int .i64 bx, .int .i64 by_] := hT 4 (by decide)
      have t5 : vs 5 = .pointer (some ⟨w.heap.size + 1, 2, none⟩) := hT 5 (by decide)
      have t6 : vs 6 = .agg #[.int .i64 m1x, .int .i64 m1y] := hT 6 (by decide)
      have t7 : vs 7 = .pointer (some ⟨w.heap.size + 1, 0, none⟩) := hT 7 (by decide)
      have t8 : vs 8 = .agg #[.int .i64 m0x, .int .i64 m0y] := hT 8 (by decide)
      have t9 : vs 9 = .agg #[.int .i64 ax, .int .i64 ay] := hT 9 (by decide)
      have t10 : ∃ b : Nat, vs 10 = .pointer (some ⟨b, 0, none⟩) ∧ W.heap[b]? = some (.cells #[.int .i64 0, .int .i64 0] 95 (0, 0)) := hT 10 (by decide)
      have t11 : ∃ b : Nat, vs 11 = .pointer (some ⟨b, 0, none⟩) ∧ W.heap[b]? = some (.cells #[.int .i64 0, .int .i64 0] 95 (0, 0)) := hT 11 (by decide)
      simp only [List.length_cons, List.length_nil, Nat.reduceAdd, List.range, List.range.loop, List.drop_succ_cons, List.drop_zero, Rg.putsD, List.getD_cons_zero, List.getD_cons_succ, Act.put, List.setIfInBounds_toArray, List.set_cons_zero, List.set_cons_succ, t0, t1, t2, t3, t4, t5, t6, t7, t8, t9]
      clear hT t0 t1 t2 t3 t4 t5 t6 t7 t8 t9
      have k2 := blk_below hG (blk_alloc (blk_new w _ rfl) _)
      have k3 := blk_below hG (blk_new (g := w.heap.size + 1) (w.alloc _) _ (by simp))
      have hb := (((Below.refl w.heap.size w).alloc (Nat.le_refl _) _).alloc (by simp) _).drew.ext hG
      obtain ⟨b5, e5, k5⟩ := t10
      obtain ⟨b6, e6, k6⟩ := t11
      have hne := hF.2 10 (by decide) 11 (by decide) (by decide) (by decide) (by decide)
      obtain ⟨_, q5, l5, _⟩ := hF.1 10 (by decide) (by decide)
      obtain ⟨_, q6, l6, _⟩ := hF.1 11 (by decide) (by decide)
      simp only [e5, e6, Rg.blockOf, ne_eq, Option.some.injEq] at hne q5 q6
      subst q5 q6
      simp only [World.size_alloc] at l5 l6
      simp only [e5, e6]
      obtain ⟨c0, c1, f0, f1⟩ := blk2 k5
      obtain ⟨d0, d1, g0, g1⟩ := blk2 k6
      have K5 := Lib.hid k5
      have K6 := Lib.hid k6
      have K2 := Lib.hid k2
      have K3 := Lib.hid k3
      clear e5 e6 k5 k6 k2 k3 hF hG hI
      go_wp2_with fail
      go_meet
      refine ⟨b5, b6, rfl, rfl, blk_far (blk_far (blk_set (blk_set K5.out _) _) ?_ _) ?_ _, blk_set (blk_set (blk_far (blk_far K6.out ?_ _) ?_ _) _) _,
        blk_far (blk_far (blk_far (blk_far K2.out ?_ _) ?_ _) ?_ _) ?_ _, blk_far (blk_far (blk_far (blk_far K3.out ?_ _) ?_ _) ?_ _) ?_ _, (((hb.setCell ?_ _).setCell ?_ _).setCell ?_ _).setCell ?_ _⟩ <;> simp only <;> omega
  case rest =>
    obtain ⟨b5, b6, rfl, rfl, HC⟩ := hcut
    have hlt5 := lt_of_blk HC.out.1
    have hlt6 := lt_of_blk HC.out.2.1
    go_upto_region 2 with (fail)
    go_cut [7, 8] (fun s7 s8 wd => ∃ b7 b8 : Nat, s7 = .pointer (some ⟨b7, 0, none⟩) ∧ s8 = .pointer (some ⟨b8, 0, none⟩) ∧ Hid (PtB wd b7 re im ∧ IntB wd b8 sq ∧ TwoB wd w.heap.size (n0x, n0y) (n1x, n1y) ∧ TwoB wd (w.heap.size + 1) (m0x, m0y) (m1x, m1y) ∧ Below w.heap.size w wd))
    case first =>
      refine Rg.rgL (fun a b => Below a.heap.size a b)
        [(fun vs u => vs 0 = .agg #[.int .i64 ax, .int .i64 ay]), (fun vs u => vs 1 = .agg #[.int .i64 bx, .int .i64 by_]), (fun vs u => vs 2 = .agg #[.int .i64 bx, .int .i64 (-by_)]), (fun vs u => vs 3 = .agg #[.int .i64 re, .int .i64 im]), (fun vs u => vs 4 = .agg #[.int .i64 bx, .int .i64 by_]), (fun vs u => vs 5 = .int .i64 sq), (fun vs u => ∃ b : Nat, vs 6 = .pointer (some ⟨b, 0, none⟩) ∧ u.heap[b]? = some (.cells #[.int .i64 0, .int .i64 0] 95 (0, 0))), (fun vs u => ∃ b : Nat, vs 7 = .pointer (some ⟨b, 0, none⟩) ∧ u.heap[b]? = some (.cells #[.int .i64 0] 3 (0, 0)))]
        [[], [], [1], [0, 1, 2], [], [0, 1, 2, 3, 4], [], []] [some 19, some 20, some 21, some 22, some 23, some 24, some 7, some 8, none, none] [6, 7] (fun _ _ => True) [[], [], [1], [0, 1, 2], [], [0, 1, 2, 3, 4], [], [], [0, 1, 2, 3, 4, 5, 6, 7], [0, 1, 2, 3, 4, 5, 6, 7, 8]]
        (by kernel_rfl) (by decide) (by kernel_rfl) (by kernel_rfl) (by kernel_rfl) (by kernel_rfl) (by kernel_rfl) (fun _ => Below.refl _ _) (fun _ _ _ h k => h.ext k) (fun _ _ h => h.size) ?_ trivial ?_ ?_
      · intro t ht vs w w' h hE
        simp only [List.mem_cons, List.not_mem_nil, or_false] at ht
        rcases ht with rfl | rfl | rfl | rfl | rfl | rfl | rfl | rfl
        · exact h
        · exact h
        · exact h
        · exact h
        · exact h
        · exact h
        · obtain ⟨b, e, k⟩ := h
          exact ⟨b, e, blk_below hE k⟩
        · obtain ⟨b, e, k⟩ := h
          exact ⟨b, e, blk_below hE k⟩
      ·
        refine Rg.cons 0 1 rfl (Rg.plain rfl ?_) ?_
        · intro vs W n hn hI hG hT hF K hK
          simp only [Rg.putsD, List.getD_cons_zero, List.getD_cons_succ, Act.put, List.setIfInBounds_toArray, List.set_cons_zero, List.set_cons_succ] at hK ⊢
          clear hn
          clear hF hI
          obtain ⟨c0, c1, _, _⟩ := blk2 (blk_below hG HC.out.2.1)
          have H := Lib.hid hK
          clear hK hT
          go_simp
          exact H.out _ _ (Below.refl _ _) rfl (fun h => by cases h) trivial
        refine Rg.cons 1 2 rfl (Rg.plain rfl ?_) ?_
        · intro vs W n hn hI hG hT hF K hK
          simp only [Rg.putsD, List.getD_cons_zero, List.getD_cons_succ, Act.put, List.setIfInBounds_toArray, List.set_cons_zero, List.set_cons_succ] at hK ⊢
          clear hn
          clear hF hI
          obtain ⟨c0, c1, _, _⟩ := blk2 (blk_below hG HC.out.1)
          have H := Lib.hid hK
          clear hK hT
          go_simp
          exact H.out _ _ (Below.refl _ _) rfl (fun h => by cases h) trivial
        refine Rg.cons 2 3 rfl (Rg.plain rfl ?_) ?_
        · intro vs W n hn hI hG hT hF K hK
          simp only [Rg.putsD, List.getD_cons_zero, List.getD_cons_succ, Act.put, List.setIfInBounds_toArray, List.set_cons_zero, List.set_cons_succ] at hK ⊢
          clear hn
          clear hF hI
          have t1 : vs 1 = .agg #[.int .i64 bx, .int .i64 by_] := hT 1 (by decide)
          simp only [t1] at hK
          have H := Lib.hid hK
          clear hK hT
          go_simp
          refine (CM.out _).mono ?_
          rintro e w1 ⟨rfl, b1⟩
          exact H.out _ _ b1 rfl (fun h => by cases h) trivial
        refine Rg.cons 3 4 rfl (Rg.plain rfl ?_) ?_
        · intro vs W n hn hI hG hT hF K hK
          simp only [Rg.putsD, List.getD_cons_zero, List.getD_cons_succ, Act.put, List.setIfInBounds_toArray, List.set_cons_zero, List.set_cons_succ] at hK ⊢
          clear hn
          clear hF hI
          have t0 : vs 0 = .agg #[.int .i64 ax, .int .i64 ay] := hT 0 (by decide)
          have t1 : vs 1 = .agg #[.int .i64 bx, .int .i64 by_] := hT 1 (by decide)
          have t2 : vs 2 = .agg #[.int .i64 bx, .int .i64 (-by_)] := hT 2 (by decide)
          simp only [t0, t1, t2] at hK
          have H := Lib.hid hK
          clear hK hT
          go_simp
          refine (CT.out _).mono ?_
          rintro e w1 ⟨rfl, b1⟩
          exact H.out _ _ b1 rfl (fun h => by cases h) trivial
        refine Rg.cons 4 5 rfl (Rg.plain rfl ?_) ?_
        · intro vs W n hn hI hG hT hF K hK
          simp only [Rg.putsD, List.getD_cons_zero, List.getD_cons_succ, Act.put, List.setIfInBounds_toArray, List.set_cons_zero, List.set_cons_succ] at hK ⊢
          clear hn
          clear hF hI
          obtain ⟨c0, c1, _, _⟩ := blk2 (blk_below hG HC.out.1)
          have H := Lib.hid hK
          clear hK hT
          go_simp
          exact H.out _ _ (Below.refl _ _) rfl (fun h => by cases h) trivial
        refine Rg.cons 5 6 rfl (Rg.plain rfl ?_) ?_
        · intro vs W n hn hI hG hT hF K hK
          simp only [Rg.putsD, List.getD_cons_zero, List.getD_cons_succ, Act.put, List.setIfInBounds_toArray, List.set_cons_zero, List.set_cons_succ] at hK ⊢
          clear hn
          clear hF hI
          have t0 : vs 0 = .agg #[.int .i64 ax, .int .i64 ay] := hT 0 (by decide)
          have t1 : vs 1 = .agg #[.int .i64 bx, .int .i64 by_] := hT 1 (by decide)
          have t2 : vs 2 = .agg #[.int .i64 bx, .int .i64 (-by_)] := hT 2 (by decide)
          have t3 : vs 3 = .agg #[.int .i64 re, .int .i64 im] := hT 3 (by decide)
          have t4 : vs 4 = .agg #[.int .i64 bx, .int .i64 by_] := hT 4 (by decide)
          simp only [t0, t1, t2, t3, t4] at hK
          have H := Lib.hid hK
          clear hK hT
          go_simp
          refine (CS.out _).mono ?_
          rintro e w1 ⟨rfl, b1⟩
          exact H.out _ _ b1 rfl (fun h => by cases h) trivial
        refine Rg.cons 6 7 rfl (Rg.plain rfl ?_) ?_
        · intro vs W n hn hI hG hT hF K hK
          simp only [Rg.putsD, List.getD_cons_zero, List.getD_cons_succ, Act.put, List.setIfInBounds_toArray, List.set_cons_zero, List.set_cons_succ] at hK ⊢
          clear hn
          clear hF hI
          have H := Lib.hid hK
          clear hK hT
          go_simp
          exact H.out _ _ ((Below.refl _ _).alloc (Nat.le_refl _) _) (show ∃ b : Nat, _ = _ ∧ _ = _ from ⟨_, rfl, blk_new W _ rfl⟩) (fun _ => ⟨W.heap.size, rfl, Nat.le_refl _, by simp⟩) trivial
        refine Rg.cons 7 8 rfl (Rg.plain rfl ?_) ?_
        · intro vs W n hn hI hG hT hF K hK
          simp only [Rg.putsD, List.getD_cons_zero, List.getD_cons_succ, Act.put, List.setIfInBounds_toArray, List.set_cons_zero, List.set_cons_succ] at hK ⊢
          clear hn
          clear hF hI
          have H := Lib.hid hK
          clear hK hT
          go_simp
          exact H.out _ _ ((Below.refl _ _).alloc (Nat.le_refl _) _) (show ∃ b : Nat, _ = _ ∧ _ = _ from ⟨_, rfl, blk_new W _ rfl⟩) (fun _ => ⟨W.heap.size, rfl, Nat.le_refl _, by simp⟩) trivial
        exact Rg.nil
      · intro vs W hG hI hT hF
        have t0 : vs 0 = .agg #[.int .i64 ax, .int .i64 ay] := hT 0 (by decide)
        have t1 : vs 1 = .agg #[.int .i64 bx, .int .i64 by_] := hT 1 (by decide)
        have t2 : vs 2 = .agg #[.int .i64 bx, .int .i64 (-by_)] := hT 2 (by decide)
        have t3 : vs 3 = .agg #[.int .i64 re, .int .i64 im] := hT 3 (by decide)
        have t4 : vs 4 = .agg #[.int .i64 bx, .int .i64 by_] := hT 4 (by decide)
        have t5 : vs 5 = .int .i64 sq := hT 5 (by decide)
        have t6 : ∃ b : Nat, vs 6 = .pointer (some ⟨b, 0, none⟩) ∧ W.heap[b]? = some (.cells #[.int .i64 0, .int .i64 0] 95 (0, 0)) := hT 6 (by decide)
        have t7 : ∃ b : Nat, vs 7 = .pointer (some ⟨b, 0, none⟩) ∧ W.heap[b]? = some (.cells #[.int .i64 0] 3 (0, 0)) := hT 7 (by decide)
        simp only [List.length_cons, List.length_nil, Nat.reduceAdd, List.range, List.range.loop, List.drop_succ_cons, List.drop_zero, Rg.putsD, List.getD_cons_zero, List.getD_cons_succ, Act.put, List.setIfInBounds_toArray, List.set_cons_zero, List.set_cons_succ, t0, t1, t2, t3, t4, t5]
        clear hT t0 t1 t2 t3 t4 t5
        have k2 := blk_below hG HC.out.2.2.1
        have k3 := blk_below hG HC.out.2.2.2.1
        have hb := (HC.out.2.2.2.2.drew).ext hG
        obtain ⟨b7, e7, k7⟩ := t6
        obtain ⟨b8, e8, k8⟩ := t7
        obtain ⟨_, q7, l7, _⟩ := hF.1 6 (by decide) (by decide)
        obtain ⟨_, q8, l8, _⟩ := hF.1 7 (by decide) (by decide)
        have hne := hF.2 6 (by decide) 7 (by decide) (by decide) (by decide) (by decide)
        simp only [e7, e8, Rg.blockOf, ne_eq, Option.some.injEq] at hne q7 q8
        subst q7 q8
        have hsz2 := lt_of_blk HC.out.2.2.1
        have hsz3 := lt_of_blk HC.out.2.2.2.1
        simp only [e7, e8]
        obtain ⟨c0, c1, f0, f1⟩ := blk2 k7
        have d0 := cell_of_blk k8 0
        have g0 := frozen_of_blk k8 0
        simp only [List.getElem?_toArray, List.getElem?_cons_zero] at d0
        have K7 := Lib.hid k7
        have K8 := Lib.hid k8
        have K2 := Lib.hid k2
        have K3 := Lib.hid k3
        clear e7 e8 k7 k8 k2 k3 hF hG hI
        go_wp2_with fail
        go_meet
        refine ⟨b7, b8, rfl, rfl, blk_far (blk_set (blk_set K7.out _) _) ?_ _, blk_set (blk_far (blk_far K8.out ?_ _) ?_ _) _,
          blk_far (blk_far (blk_far K2.out ?_ _) ?_ _) ?_ _, blk_far (blk_far (blk_far K3.out ?_ _) ?_ _) ?_ _, ((hb.setCell ?_ _).setCell ?_ _).setCell ?_ _⟩ <;> simp only <;> omega
    case rest =>
      obtain ⟨b7, b8, rfl, rfl, HD⟩ := hcut
      go_wp2_with fail
      go_ret
      exact ⟨_, rfl, ⟨b7, _, _, b8, rfl, HD.out.1, HD.out.2.2.1, HD.out.2.2.2.1, HD.out.2.1⟩, HD.out.2.2.2.2⟩

theorem near_bd {n b : Int} (hb : 1 ≤ b) (h1 : -4000000000000000000 ≤ n) (h2 : n ≤ 4000000000000000000) : -4000000000000000001 ≤ near n b ∧ near n b ≤ 4000000000000000001 := by
  by_cases h : n % b ≥ b - n % b
  · have := near_up hb h
    have := div_bd hb h1 h2 (by omega)
    omega
  · have := near_dn hb h
    have := div_bd hb h1 h2 (by omega)
    omega

set_option maxRecDepth 100000 in
set_option maxHeartbeats 4000000 in
theorem sim1_any (p n0 n1 m0 m1 : Int × Int) (re im sq : Int) (hp : PtC p) (h0 : PtC n0) (h2 : PtC m0) (hre : -2000000000000 ≤ re ∧ re ≤ 2000000000000) (him : -2000000000000 ≤ im ∧ im ≤ 2000000000000)
    (hsq : 1 ≤ sq ∧ sq ≤ 2000000000000) (b7 b2 b3 b8 : Nat) (w : World) (k7 : PtB w b7 re im) (k2 : TwoB w b2 n0 n1) (k3 : TwoB w b3 m0 m1) (k8 : IntB w b8 sq) :
    Calls Try.prog 113 #[.agg #[.int .i64 p.1, .int .i64 p.2], .pointer (some ⟨b7, 0, none⟩), .pointer (some ⟨b2, 0, none⟩), .pointer (some ⟨b3, 0, none⟩), .pointer (some ⟨b8, 0, none⟩)] w fun e w' =>
      e = .returned (.agg #[.int .i64 (m0.1 + near (re * (p.1 - n0.1) - im * (p.2 - n0.2)) sq), .int .i64 (m0.2 + near (re * (p.2 - n0.2) + im * (p.1 - n0.1)) sq)]) ∧ Below w.heap.size w w' := by
  have cd := fun W => minus_any p.1 p.2 n0.1 n0.2 W hp.1 hp.2 h0.1 h0.2
  have hdx : -1000000 ≤ p.1 - n0.1 ∧ p.1 - n0.1 ≤ 1000000 := by have := hp.1; have := h0.1; omega
  have hdy : -1000000 ≤ p.2 - n0.2 ∧ p.2 - n0.2 ≤ 1000000 := by have := hp.2; have := h0.2; omega
  generalize p.1 - n0.1 = dx at *
  generalize p.2 - n0.2 = dy at *
  have p1 := mul_bd hre.1 hre.2 hdx.1 hdx.2
  have p2 := mul_bd him.1 him.2 hdy.1 hdy.2
  have p3 := mul_bd hre.1 hre.2 hdy.1 hdy.2
  have p4 := mul_bd him.1 him.2 hdx.1 hdx.2
  have ct := fun W => times_any re im dx dy W (by omega) (by omega) (by omega) (by omega)
  have hfx : -4000000000000000000 ≤ re * dx - im * dy ∧ re * dx - im * dy ≤ 4000000000000000000 := by omega
  have hfy : -4000000000000000000 ≤ re * dy + im * dx ∧ re * dy + im * dx ≤ 4000000000000000000 := by omega
  generalize re * dx - im * dy = fx at *
  generalize re * dy + im * dx = fy at *
  have cx := fun W => nearest_any fx sq W hsq.1 (by omega) hfx.1 hfx.2
  have cy := fun W => nearest_any fy sq W hsq.1 (by omega) hfy.1 hfy.2
  have qx := near_bd hsq.1 hfx.1 hfx.2
  have qy := near_bd hsq.1 hfy.1 hfy.2
  generalize near fx sq = nx at *
  generalize near fy sq = ny at *
  obtain ⟨⟨_, _⟩, _, _⟩ := h2
  obtain ⟨_, _⟩ := qx; obtain ⟨_, _⟩ := qy
  have CD := Lib.hid cd
  have CT := Lib.hid ct
  have CX := Lib.hid cx
  have CY := Lib.hid cy
  have K7 := Lib.hid k7
  have K2 := Lib.hid k2
  have K3 := Lib.hid k3
  have K8 := Lib.hid k8
  have L7 := lt_of_blk k7
  have L2 := lt_of_blk k2
  have L3 := lt_of_blk k3
  have L8 := lt_of_blk k8
  clear cd ct cx cy p1 p2 p3 p4 hdx hdy hfx hfy hre him hsq h0 hp k7 k2 k3 k8
  obtain ⟨px, py⟩ := p; obtain ⟨n0x, n0y⟩ := n0; obtain ⟨n1x, n1y⟩ := n1; obtain ⟨m0x, m0y⟩ := m0; obtain ⟨m1x, m1y⟩ := m1
  simp only at *
  go_enter Try.func113, Try.ntmps113
  go_upto_region 1 with (fail)
  go_cut [7] (fun s7 wc => ∃ b : Nat, s7 = .pointer (some ⟨b, 0, none⟩) ∧ w.heap.size + 1 < b ∧ Hid (PtB wc b fx fy ∧ PtB wc (w.heap.size + 1) 0 0 ∧ Below w.heap.size w wc))
  case first =>
    refine Rg.rgL (fun a b => Below a.heap.size a b)
      [(fun vs u => vs 0 = .agg #[.int .i64 re, .int .i64 im]), (fun vs u => vs 1 = .agg #[.int .i64 px, .int .i64 py]), (fun vs u => vs 2 = .pointer (some ⟨b2, 0, none⟩)), (fun vs u => vs 3 = .agg #[.int .i64 n0x, .int .i64 n0y]), (fun vs u => vs 4 = .agg #[.int .i64 dx, .int .i64 dy]), (fun vs u => vs 5 = .agg #[.int .i64 fx, .int .i64 fy]), (fun vs u => ∃ b : Nat, vs 6 = .pointer (some ⟨b, 0, none⟩) ∧ u.heap[b]? = some (.cells #[.int .i64 0, .int .i64 0] 95 (0, 0)))]
      [[], [], [], [2], [1, 2, 3], [0, 1, 2, 3, 4], []] [some 8, some 9, some 10, some 11, some 12, some 13, some 7, none] [6] (fun _ _ => True) [[], [], [], [2], [1, 2, 3], [0, 1, 2, 3, 4], [], [0, 1, 2, 3, 4, 5, 6]]
      (by kernel_rfl) (by decide) (by kernel_rfl) (by kernel_rfl) (by kernel_rfl) (by kernel_rfl) (by kernel_rfl) (fun _ => Below.refl _ _) (fun _ _ _ h k => h.ext k) (fun _ _ h => h.size) ?_ trivial ?_ ?_
    · intro t ht vs w w' h hE
      simp only [List.mem_cons, List.not_mem_nil, or_false] at ht
      rcases ht with rfl | rfl | rfl | rfl | rfl | rfl | rfl
      · exact h
      · exact h
      · exact h
      · exact h
      · exact h
      · exact h
      · obtain ⟨b, e, k⟩ := h
        exact ⟨b, e, blk_below hE k⟩
    ·
      refine Rg.cons 0 1 rfl (Rg.plain rfl ?_) ?_
      · intro vs W n hn hI hG hT hF K hK
        simp only [Rg.putsD, List.getD_cons_zero, List.getD_cons_succ, Act.put, List.setIfInBounds_toArray, List.set_cons_zero, List.set_cons_succ] at hK ⊢
        clear hn
        clear hF hI
        obtain ⟨c0, c1, _, _⟩ := blk2 (blk_below hG (blk_alloc (blk_alloc K7.out _) _))
        have H := Lib.hid hK
        clear hK hT
        go_simp
        exact H.out _ _ (Below.refl _ _) rfl (fun h => by cases h) trivial
      refine Rg.cons 1 2 rfl (Rg.plain rfl ?_) ?_
      · intro vs W n hn hI hG hT hF K hK
        simp only [Rg.putsD, List.getD_cons_zero, List.getD_cons_succ, Act.put, List.setIfInBounds_toArray, List.set_cons_zero, List.set_cons_succ] at hK ⊢
        clear hn
        clear hF hI
        obtain ⟨c0, c1, _, _⟩ := blk2 (blk_below hG (blk_alloc (blk_new w _ rfl) _))
        have H := Lib.hid hK
        clear hK hT
        go_simp
        exact H.out _ _ (Below.refl _ _) rfl (fun h => by cases h) trivial
      refine Rg.cons 2 3 rfl (Rg.plain rfl ?_) ?_
      · intro vs W n hn hI hG hT hF K hK
        simp only [Rg.putsD, List.getD_cons_zero, List.getD_cons_succ, Act.put, List.setIfInBounds_toArray, List.set_cons_zero, List.set_cons_succ] at hK ⊢
        clear hn
        clear hF hI
        have H := Lib.hid hK
        clear hK hT
        go_simp
        exact H.out _ _ (Below.refl _ _) rfl (fun h => by cases h) trivial
      refine Rg.cons 3 4 rfl (Rg.plain rfl ?_) ?_
      · intro vs W n hn hI hG hT hF K hK
        simp only [Rg.putsD, List.getD_cons_zero, List.getD_cons_succ, Act.put, List.setIfInBounds_toArray, List.set_cons_zero, List.set_cons_succ] at hK ⊢
        clear hn
        clear hF hI
        have t2 : vs 2 = .pointer (some ⟨b2, 0, none⟩) := hT 2 (by decide)
        obtain ⟨c0, c1, _, _⟩ := blk4 (blk_below hG (blk_alloc (blk_alloc K2.out _) _))
        simp only [t2] at hK
        have H := Lib.hid hK
        clear hK hT
        go_simp
        exact H.out _ _ (Below.refl _ _) rfl (fun h => by cases h) trivial
      refine Rg.cons 4 5 rfl (Rg.plain rfl ?_) ?_
      · intro vs W n hn hI hG hT hF K hK
        simp only [Rg.putsD, List.getD_cons_zero, List.getD_cons_succ, Act.put, List.setIfInBounds_toArray, List.set_cons_zero, List.set_cons_succ] at hK ⊢
        clear hn
        clear hF hI
        have t1 : vs 1 = .agg #[.int .i64 px, .int .i64 py] := hT 1 (by decide)
        have t2 : vs 2 = .pointer (some ⟨b2, 0, none⟩) := hT 2 (by decide)
        have t3 : vs 3 = .agg #[.int .i64 n0x, .int .i64 n0y] := hT 3 (by decide)
        simp only [t1, t2, t3] at hK
        have H := Lib.hid hK
        clear hK hT
        go_simp
        refine (CD.out _).mono ?_
        rintro e w1 ⟨rfl, b1⟩
        exact H.out _ _ b1 rfl (fun h => by cases h) trivial
      refine Rg.cons 5 6 rfl (Rg.plain rfl ?_) ?_
      · intro vs W n hn hI hG hT hF K hK
        simp only [Rg.putsD, List.getD_cons_zero, List.getD_cons_succ, Act.put, List.setIfInBounds_toArray, List.set_cons_zero, List.set_cons_succ] at hK ⊢
        clear hn
        clear hF hI
        have t0 : vs 0 = .agg #[.int .i64 re, .int .i64 im] := hT 0 (by decide)
        have t1 : vs 1 = .agg #[.int .i64 px, .int .i64 py] := hT 1 (by decide)
        have t2 : vs 2 = .pointer (some ⟨b2, 0, none⟩) := hT 2 (by decide)
        have t3 : vs 3 = .agg #[.int .i64 n0x, .int .i64 n0y] := hT 3 (by decide)
        have t4 : vs 4 = .agg #[.int .i64 dx, .int .i64 dy] := hT 4 (by decide)
        simp only [t0, t1, t2, t3, t4] at hK
        have H := Lib.hid hK
        clear hK hT
        go_simp
        refine (CT.out _).mono ?_
        rintro e w1 ⟨rfl, b1⟩
        exact H.out _ _ b1 rfl (fun h => by cases h) trivial
      refine Rg.cons 6 7 rfl (Rg.plain rfl ?_) ?_
      · intro vs W n hn hI hG hT hF K hK
        simp only [Rg.putsD, List.getD_cons_zero, List.getD_cons_succ, Act.put, List.setIfInBounds_toArray, List.set_cons_zero, List.set_cons_succ] at hK ⊢
        clear hn
        clear hF hI
        have H := Lib.hid hK
        clear hK hT
        go_simp
        exact H.out _ _ ((Below.refl _ _).alloc (Nat.le_refl _) _) (show ∃ b : Nat, _ = _ ∧ _ = _ from ⟨_, rfl, blk_new W _ rfl⟩) (fun _ => ⟨W.heap.size, rfl, Nat.le_refl _, by simp⟩) trivial
      exact Rg.nil
    · intro vs W hG hI hT hF
      have t0 : vs 0 = .agg #[.int .i64 re, .int .i64 im] := hT 0 (by decide)
      have t1 : vs 1 = .agg #[.int .i64 px, .int .i64 py] := hT 1 (by decide)
      have t2 : vs 2 = .pointer (some ⟨b2, 0, none⟩) := hT 2 (by decide)
      have t3 : vs 3 = .agg #[.int .i64 n0x, .int .i64 n0y] := hT 3 (by decide)
      have t4 : vs 4 = .agg #[.int .i64 dx, .int .i64 dy] := hT 4 (by decide)
      have t5 : vs 5 = .agg #[.int .i64 fx, .int .i64 fy] := hT 5 (by decide)
      have t6 : ∃ b : Nat, vs 6 = .pointer (some ⟨b, 0, none⟩) ∧ W.heap[b]? = some (.cells #[.int .i64 0, .int .i64 0] 95 (0, 0)) := hT 6 (by decide)
      simp only [List.length_cons, List.length_nil, Nat.reduceAdd, List.range, List.range.loop, List.drop_succ_cons, List.drop_zero, Rg.putsD, List.getD_cons_zero, List.getD_cons_succ, Act.put, List.setIfInBounds_toArray, List.set_cons_zero, List.set_cons_succ, t0, t1, t2, t3, t4, t5]
      clear hT t0 t1 t2 t3 t4 t5
      have k6 := blk_below hG (blk_new (g := w.heap.size + 1) (w.alloc _) _ (by simp))
      have hb := (((Below.refl w.heap.size w).alloc (Nat.le_refl _) _).alloc (by simp) _).drew.ext hG
      obtain ⟨b, e7, k⟩ := t6
      obtain ⟨_, q7, l7, _⟩ := hF.1 6 (by decide) (by decide)
      simp only [e7, Rg.blockOf, Option.some.injEq] at q7
      subst q7
      simp only [World.size_alloc] at l7
      simp only [e7]
      obtain ⟨c0, c1, f0, f1⟩ := blk2 k
      have K := Lib.hid k
      have K6 := Lib.hid k6
      clear e7 k k6 hF hG hI
      go_wp2_with fail
      go_meet
      refine ⟨b, rfl, by omega, blk_set (blk_set K.out _) _, blk_far (blk_far K6.out ?_ _) ?_ _, (hb.setCell ?_ _).setCell ?_ _⟩ <;> simp only <;> omega
  case rest =>
    obtain ⟨b, rfl, hlb, HC⟩ := hcut
    go_wp2_with fail
    refine Rg.rgL (fun a b => Below a.heap.size a b)
      [(fun vs u => vs 0 = .pointer (some ⟨b3, 0, none⟩)), (fun vs u => vs 1 = .pointer (some ⟨b3, 0, none⟩)), (fun vs u => vs 2 = .int .i64 m0x), (fun vs u => vs 3 = .pointer (some ⟨b, 0, none⟩)), (fun vs u => vs 4 = .int .i64 fx), (fun vs u => vs 5 = .int .i64 sq), (fun vs u => vs 6 = .int .i64 nx), (fun vs u => vs 7 = .int .i64 (m0x + nx)), (fun vs u => vs 8 = .pointer (some ⟨b3, 0, none⟩)), (fun vs u => vs 9 = .pointer (some ⟨b3, 1, none⟩)), (fun vs u => vs 10 = .int .i64 m0y), (fun vs u => vs 11 = .pointer (some ⟨b, 1, none⟩)), (fun vs u => vs 12 = .int .i64 fy), (fun vs u => vs 13 = .int .i64 sq), (fun vs u => vs 14 = .int .i64 ny), (fun vs u => vs 15 = .int .i64 (m0y + ny))]
      [[], [0], [0, 1], [], [3], [], [3, 4, 5], [0, 1, 2, 3, 4, 5, 6], [], [8], [8, 9], [], [11], [], [3, 4, 5, 6, 11, 12, 13], [3, 4, 5, 6, 8, 9, 10, 11, 12, 13, 14]] [some 14, some 15, some 16, some 17, some 18, some 19, some 20, some 21, some 22, some 23, some 24, some 25, some 26, some 27, some 28, some 29, some 30, none] [] (fun _ _ => True) [[], [0], [0, 1], [], [3], [], [3, 4, 5], [0, 1, 2, 3, 4, 5, 6], [], [8], [8, 9], [], [11], [], [3, 4, 5, 6, 11, 12, 13], [3, 4, 5, 6, 8, 9, 10, 11, 12, 13, 14], [0, 1, 2, 3, 4, 5, 6, 7, 8, 9, 10, 11, 12, 13, 14, 15], [0, 1, 2, 3, 4, 5, 6, 7, 8, 9, 10, 11, 12, 13, 14, 15, 16]]
      (by kernel_rfl) (by decide) (by kernel_rfl) (by kernel_rfl) (by kernel_rfl) (by kernel_rfl) (by kernel_rfl) (fun _ => Below.refl _ _) (fun _ _ _ h k => h.ext k) (fun _ _ h => h.size) ?_ trivial ?_ ?_
    · intro t ht vs w w' h hE
      simp only [List.mem_cons, List.not_mem_nil, or_false] at ht
      rcases ht with rfl | rfl | rfl | rfl | rfl | rfl | rfl | rfl | rfl | rfl | rfl | rfl | rfl | rfl | rfl | rfl
      · exact h
      · exact h
      · exact h
      · exact h
      · exact h
      · exact h
      · exact h
      · exact h
      · exact h
      · exact h
      · exact h
      · exact h
      · exact h
      · exact h
      · exact h
      · exact h
    ·
      refine Rg.cons 0 1 rfl (Rg.plain rfl ?_) ?_
      · intro vs W n hn hI hG hT hF K hK
        simp only [Rg.putsD, List.getD_cons_zero, List.getD_cons_succ, Act.put, List.setIfInBounds_toArray, List.set_cons_zero, List.set_cons_succ] at hK ⊢
        clear hn
        clear hF hI
        have H := Lib.hid hK
        clear hK hT
        go_simp
        exact H.out _ _ (Below.refl _ _) rfl (fun h => by cases h) trivial
      refine Rg.cons 1 2 rfl (Rg.plain rfl ?_) ?_
      · intro vs W n hn hI hG hT hF K hK
        simp only [Rg.putsD, List.getD_cons_zero, List.getD_cons_succ, Act.put, List.setIfInBounds_toArray, List.set_cons_zero, List.set_cons_succ] at hK ⊢
        clear hn
        clear hF hI
        have t0 : vs 0 = .pointer (some ⟨b3, 0, none⟩) := hT 0 (by decide)
        simp only [t0] at hK
        have H := Lib.hid hK
        clear hK hT
        go_simp
        exact H.out _ _ (Below.refl _ _) rfl (fun h => by cases h) trivial
      refine Rg.cons 2 3 rfl (Rg.plain rfl ?_) ?_
      · intro vs W n hn hI hG hT hF K hK
        simp only [Rg.putsD, List.getD_cons_zero, List.getD_cons_succ, Act.put, List.setIfInBounds_toArray, List.set_cons_zero, List.set_cons_succ] at hK ⊢
        clear hn
        clear hF hI
        have t0 : vs 0 = .pointer (some ⟨b3, 0, none⟩) := hT 0 (by decide)
        have t1 : vs 1 = .pointer (some ⟨b3, 0, none⟩) := hT 1 (by decide)
        obtain ⟨c0, c1, _, _⟩ := blk4 (blk_below hG (HC.out.2.2.block b3 L3 |>.trans K3.out))
        simp only [t0, t1] at hK
        have H := Lib.hid hK
        clear hK hT
        go_simp
        exact H.out _ _ (Below.refl _ _) rfl (fun h => by cases h) trivial
      refine Rg.cons 3 4 rfl (Rg.plain rfl ?_) ?_
      · intro vs W n hn hI hG hT hF K hK
        simp only [Rg.putsD, List.getD_cons_zero, List.getD_cons_succ, Act.put, List.setIfInBounds_toArray, List.set_cons_zero, List.set_cons_succ] at hK ⊢
        clear hn
        clear hF hI
        have H := Lib.hid hK
        clear hK hT
        go_simp
        exact H.out _ _ (Below.refl _ _) rfl (fun h => by cases h) trivial
      refine Rg.cons 4 5 rfl (Rg.plain rfl ?_) ?_
      · intro vs W n hn hI hG hT hF K hK
        simp only [Rg.putsD, List.getD_cons_zero, List.getD_cons_succ, Act.put, List.setIfInBounds_toArray, List.set_cons_zero, List.set_cons_succ] at hK ⊢
        clear hn
        clear hF hI
        have t3 : vs 3 = .pointer (some ⟨b, 0, none⟩) := hT 3 (by decide)
        obtain ⟨c0, c1, _, _⟩ := blk2 (blk_below hG HC.out.1)
        simp only [t3] at hK
        have H := Lib.hid hK
        clear hK hT
        go_simp
        exact H.out _ _ (Below.refl _ _) rfl (fun h => by cases h) trivial
      refine Rg.cons 5 6 rfl (Rg.plain rfl ?_) ?_
      · intro vs W n hn hI hG hT hF K hK
        simp only [Rg.putsD, List.getD_cons_zero, List.getD_cons_succ, Act.put, List.setIfInBounds_toArray, List.set_cons_zero, List.set_cons_succ] at hK ⊢
        clear hn
        clear hF hI
        have c0 := cell_of_blk (blk_below hG (HC.out.2.2.block b8 L8 |>.trans K8.out)) 0
        simp only [List.getElem?_toArray, List.getElem?_cons_zero] at c0
        have H := Lib.hid hK
        clear hK hT
        go_simp
        exact H.out _ _ (Below.refl _ _) rfl (fun h => by cases h) trivial
      refine Rg.cons 6 7 rfl (Rg.plain rfl ?_) ?_
      · intro vs W n hn hI hG hT hF K hK
        simp only [Rg.putsD, List.getD_cons_zero, List.getD_cons_succ, Act.put, List.setIfInBounds_toArray, List.set_cons_zero, List.set_cons_succ] at hK ⊢
        clear hn
        clear hF hI
        have t3 : vs 3 = .pointer (some ⟨b, 0, none⟩) := hT 3 (by decide)
        have t4 : vs 4 = .int .i64 fx := hT 4 (by decide)
        have t5 : vs 5 = .int .i64 sq := hT 5 (by decide)
        simp only [t3, t4, t5] at hK
        have H := Lib.hid hK
        clear hK hT
        go_simp
        refine (CX.out _).mono ?_
        rintro e w1 ⟨rfl, b1⟩
        exact H.out _ _ b1 rfl (fun h => by cases h) trivial
      refine Rg.cons 7 8 rfl (Rg.plain rfl ?_) ?_
      · intro vs W n hn hI hG hT hF K hK
        simp only [Rg.putsD, List.getD_cons_zero, List.getD_cons_succ, Act.put, List.setIfInBounds_toArray, List.set_cons_zero, List.set_cons_succ] at hK ⊢
        clear hn
        clear hF hI
        have t0 : vs 0 = .pointer (some ⟨b3, 0, none⟩) := hT 0 (by decide)
        have t1 : vs 1 = .pointer (some ⟨b3, 0, none⟩) := hT 1 (by decide)
        have t2 : vs 2 = .int .i64 m0x := hT 2 (by decide)
        have t3 : vs 3 = .pointer (some ⟨b, 0, none⟩) := hT 3 (by decide)
        have t4 : vs 4 = .int .i64 fx := hT 4 (by decide)
        have t5 : vs 5 = .int .i64 sq := hT 5 (by decide)
        have t6 : vs 6 = .int .i64 nx := hT 6 (by decide)
        have e := IntWalk.i64_in (m0x + nx) (by omega)
        simp only [t0, t1, t2, t3, t4, t5, t6] at hK
        have H := Lib.hid hK
        clear hK hT
        go_simp
        exact H.out _ _ (Below.refl _ _) rfl (fun h => by cases h) trivial
      refine Rg.cons 8 9 rfl (Rg.plain rfl ?_) ?_
      · intro vs W n hn hI hG hT hF K hK
        simp only [Rg.putsD, List.getD_cons_zero, List.getD_cons_succ, Act.put, List.setIfInBounds_toArray, List.set_cons_zero, List.set_cons_succ] at hK ⊢
        clear hn
        clear hF hI
        have H := Lib.hid hK
        clear hK hT
        go_simp
        exact H.out _ _ (Below.refl _ _) rfl (fun h => by cases h) trivial
      refine Rg.cons 9 10 rfl (Rg.plain rfl ?_) ?_
      · intro vs W n hn hI hG hT hF K hK
        simp only [Rg.putsD, List.getD_cons_zero, List.getD_cons_succ, Act.put, List.setIfInBounds_toArray, List.set_cons_zero, List.set_cons_succ] at hK ⊢
        clear hn
        clear hF hI
        have t8 : vs 8 = .pointer (some ⟨b3, 0, none⟩) := hT 8 (by decide)
        simp only [t8] at hK
        have H := Lib.hid hK
        clear hK hT
        go_simp
        exact H.out _ _ (Below.refl _ _) rfl (fun h => by cases h) trivial
      refine Rg.cons 10 11 rfl (Rg.plain rfl ?_) ?_
      · intro vs W n hn hI hG hT hF K hK
        simp only [Rg.putsD, List.getD_cons_zero, List.getD_cons_succ, Act.put, List.setIfInBounds_toArray, List.set_cons_zero, List.set_cons_succ] at hK ⊢
        clear hn
        clear hF hI
        have t8 : vs 8 = .pointer (some ⟨b3, 0, none⟩) := hT 8 (by decide)
        have t9 : vs 9 = .pointer (some ⟨b3, 1, none⟩) := hT 9 (by decide)
        obtain ⟨c0, c1, _, _⟩ := blk4 (blk_below hG (HC.out.2.2.block b3 L3 |>.trans K3.out))
        simp only [t8, t9] at hK
        have H := Lib.hid hK
        clear hK hT
        go_simp
        exact H.out _ _ (Below.refl _ _) rfl (fun h => by cases h) trivial
      refine Rg.cons 11 12 rfl (Rg.plain rfl ?_) ?_
      · intro vs W n hn hI hG hT hF K hK
        simp only [Rg.putsD, List.getD_cons_zero, List.getD_cons_succ, Act.put, List.setIfInBounds_toArray, List.set_cons_zero, List.set_cons_succ] at hK ⊢
        clear hn
        clear hF hI
        have H := Lib.hid hK
        clear hK hT
        go_simp
        exact H.out _ _ (Below.refl _ _) rfl (fun h => by cases h) trivial
      refine Rg.cons 12 13 rfl (Rg.plain rfl ?_) ?_
      · intro vs W n hn hI hG hT hF K hK
        simp only [Rg.putsD, List.getD_cons_zero, List.getD_cons_succ, Act.put, List.setIfInBounds_toArray, List.set_cons_zero, List.set_cons_succ] at hK ⊢
        clear hn
        clear hF hI
        have t11 : vs 11 = .pointer (some ⟨b, 1, none⟩) := hT 11 (by decide)
        obtain ⟨c0, c1, _, _⟩ := blk2 (blk_below hG HC.out.1)
        simp only [t11] at hK
        have H := Lib.hid hK
        clear hK hT
        go_simp
        exact H.out _ _ (Below.refl _ _) rfl (fun h => by cases h) trivial
      refine Rg.cons 13 14 rfl (Rg.plain rfl ?_) ?_
      · intro vs W n hn hI hG hT hF K hK
        simp only [Rg.putsD, List.getD_cons_zero, List.getD_cons_succ, Act.put, List.setIfInBounds_toArray, List.set_cons_zero, List.set_cons_succ] at hK ⊢
        clear hn
        clear hF hI
        have c0 := cell_of_blk (blk_below hG (HC.out.2.2.block b8 L8 |>.trans K8.out)) 0
        simp only [List.getElem?_toArray, List.getElem?_cons_zero] at c0
        have H := Lib.hid hK
        clear hK hT
        go_simp
        exact H.out _ _ (Below.refl _ _) rfl (fun h => by cases h) trivial
      refine Rg.cons 14 15 rfl (Rg.plain rfl ?_) ?_
      · intro vs W n hn hI hG hT hF K hK
        simp only [Rg.putsD, List.getD_cons_zero, List.getD_cons_succ, Act.put, List.setIfInBounds_toArray, List.set_cons_zero, List.set_cons_succ] at hK ⊢
        clear hn
        clear hF hI
        have t3 : vs 3 = .pointer (some ⟨b, 0, none⟩) := hT 3 (by decide)
        have t4 : vs 4 = .int .i64 fx := hT 4 (by decide)
        have t5 : vs 5 = .int .i64 sq := hT 5 (by decide)
        have t6 : vs 6 = .int .i64 nx := hT 6 (by decide)
        have t11 : vs 11 = .pointer (some ⟨b, 1, none⟩) := hT 11 (by decide)
        have t12 : vs 12 = .int .i64 fy := hT 12 (by decide)
        have t13 : vs 13 = .int .i64 sq := hT 13 (by decide)
        simp only [t3, t4, t5, t6, t11, t12, t13] at hK
        have H := Lib.hid hK
        clear hK hT
        go_simp
        refine (CY.out _).mono ?_
        rintro e w1 ⟨rfl, b1⟩
        exact H.out _ _ b1 rfl (fun h => by cases h) trivial
      refine Rg.cons 15 16 rfl (Rg.plain rfl ?_) ?_
      · intro vs W n hn hI hG hT hF K hK
        simp only [Rg.putsD, List.getD_cons_zero, List.getD_cons_succ, Act.put, List.setIfInBounds_toArray, List.set_cons_zero, List.set_cons_succ] at hK ⊢
        clear hn
        clear hF hI
        have t3 : vs 3 = .pointer (some ⟨b, 0, none⟩) := hT 3 (by decide)
        have t4 : vs 4 = .int .i64 fx := hT 4 (by decide)
        have t5 : vs 5 = .int .i64 sq := hT 5 (by decide)
        have t6 : vs 6 = .int .i64 nx := hT 6 (by decide)
        have t8 : vs 8 = .pointer (some ⟨b3, 0, none⟩) := hT 8 (by decide)
        have t9 : vs 9 = .pointer (some ⟨b3, 1, none⟩) := hT 9 (by decide)
        have t10 : vs 10 = .int .i64 m0y := hT 10 (by decide)
        have t11 : vs 11 = .pointer (some ⟨b, 1, none⟩) := hT 11 (by decide)
        have t12 : vs 12 = .int .i64 fy := hT 12 (by decide)
        have t13 : vs 13 = .int .i64 sq := hT 13 (by decide)
        have t14 : vs 14 = .int .i64 ny := hT 14 (by decide)
        have e := IntWalk.i64_in (m0y + ny) (by omega)
        simp only [t3, t4, t5, t6, t8, t9, t10, t11, t12, t13, t14] at hK
        have H := Lib.hid hK
        clear hK hT
        go_simp
        exact H.out _ _ (Below.refl _ _) rfl (fun h => by cases h) trivial
      exact Rg.nil
    · intro vs W hG hI hT hF
      have t0 : vs 0 = .pointer (some ⟨b3, 0, none⟩) := hT 0 (by decide)
      have t1 : vs 1 = .pointer (some ⟨b3, 0, none⟩) := hT 1 (by decide)
      have t2 : vs 2 = .int .i64 m0x := hT 2 (by decide)
      have t3 : vs 3 = .pointer (some ⟨b, 0, none⟩) := hT 3 (by decide)
      have t4 : vs 4 = .int .i64 fx := hT 4 (by decide)
      have t5 : vs 5 = .int .i64 sq := hT 5 (by decide)
      have t6 : vs 6 = .int .i64 nx := hT 6 (by decide)
      have t7 : vs 7 = .int .i64 (m0x + nx) := hT 7 (by decide)
      have t8 : vs 8 = .pointer (some ⟨b3, 0, none⟩) := hT 8 (by decide)
      have t9 : vs 9 = .pointer (some ⟨b3, 1, none⟩) := hT 9 (by decide)
      have t10 : vs 10 = .int .i64 m0y := hT 10 (by decide)
      have t11 : vs 11 = .pointer (some ⟨b, 1, none⟩) := hT 11 (by decide)
      have t12 : vs 12 = .int .i64 fy := hT 12 (by decide)
      have t13 : vs 13 = .int .i64 sq := hT 13 (by decide)
      have t14 : vs 14 = .int .i64 ny := hT 14 (by decide)
      have t15 : vs 15 = .int .i64 (m0y + ny) := hT 15 (by decide)
      simp only [List.length_cons, List.length_nil, Nat.reduceAdd, List.range, List.range.loop, List.drop_succ_cons, List.drop_zero, Rg.putsD, List.getD_cons_zero, List.getD_cons_succ, Act.put, List.setIfInBounds_toArray, List.set_cons_zero, List.set_cons_succ, t0, t1, t2, t3, t4, t5, t6, t7, t8, t9, t10, t11, t12, t13, t14, t15]
      clear hT t0 t1 t2 t3 t4 t5 t6 t7 t8 t9 t10 t11 t12 t13 t14 t15
      have k6 := blk_below hG HC.out.2.1
      have hb := (HC.out.2.2.drew).ext hG
      obtain ⟨c0, c1, f0, f1⟩ := blk2 k6
      clear hG hF hI k6
      go_wp2_with fail
      refine bodyPost_ret (v := .agg #[.int .i64 (m0x + nx), .int .i64 (m0y + ny)]) (by unfold results; simp only [Try.results113]; go_simp) rfl ⟨rfl, ?_⟩
      exact (hb.setCell (by simp) _).setCell (by simp) _
end Go.Proofs.Ytiehkcbjfamnkaa
