/-
  The walks of the checks of fiducials.
-/
import Derived.Test.YtiehkcbjfamnkaaPt
namespace Go.Proofs.Ytiehkcbjfamnkaa
open Go.RowKit

/-- Points, as cells. -/
def flat (l : List (Int × Int)) : List Value := l.flatMap fun p => [.int .i64 p.1, .int .i64 p.2]
theorem flat_len (l : List (Int × Int)) : (flat l).length = l.length * 2 := by
  induction l with
  | nil => rfl
  | cons p l ih => simp only [flat, List.flatMap_cons, List.length_append] at ih ⊢; simp [ih]; omega
theorem flat_append (a b : List (Int × Int)) : flat (a ++ b) = flat a ++ flat b := List.flatMap_append
theorem flat_at (l : List (Int × Int)) : ∀ (k : Nat) (h : k < l.length), (flat l)[k * 2]? = some (.int .i64 l[k].1) ∧ (flat l)[k * 2 + 1]? = some (.int .i64 l[k].2) := by
  induction l with
  | nil => intro k h; simp at h
  | cons p l ih =>
    intro k h
    cases k with
    | zero => simp [flat]
    | succ k =>
      have := ih k (by simpa using h)
      have e : flat (p :: l) = [.int .i64 p.1, .int .i64 p.2] ++ flat l := rfl
      rw [e, List.getElem?_append_right (by simp; omega), List.getElem?_append_right (by simp; omega)]
      simpa [show (k + 1) * 2 - 2 = k * 2 by omega, show (k + 1) * 2 + 1 - 2 = k * 2 + 1 by omega] using this
theorem flat_one (l : List (Int × Int)) : ∀ u ∈ flat l, u.oneCell' = true := by
  intro u hu
  simp only [flat, List.mem_flatMap] at hu
  obtain ⟨p, _, hp⟩ := hu
  simp at hp
  rcases hp with rfl | rfl <;> rfl

def ok (p : Int × Int) : Bool := crd p.1 && crd p.2
/-- The error of fiducials. -/
def fidErr (n0 n1 m0 m1 : Int × Int) (more : List (Int × Int)) : Int :=
  if ([n0, n1, m0, m1] ++ more).all ok then (if n0 = n1 ∨ m0 = m1 then 16 else 0) else 1

def two (p q : Int × Int) : Value := .agg #[.int .i64 p.1, .int .i64 p.2, .int .i64 q.1, .int .i64 q.2]

/-- A slice of points that comes in: none, or some. -/
def PtsAt (w : World) (A : Option Addr) (c : Nat) (l : List (Int × Int)) : Prop :=
  (A = none ∧ c = 0 ∧ l = []) ∨ ∃ ad, A = some ad ∧ ad.block < w.heap.size ∧ ∀ j u, (flat l)[j]? = some u → w.cell? (ad.add j) = some u

theorem pt_info : (Try.prog.info? 95).map (fun i => (i.zero, i.size, i.bytes)) = some (some (.agg #[.int .i64 0, .int .i64 0]), 2, 16) := by kernel_rfl

/-- The points that are looked at lie in a row. -/
def LieAt (w : World) (g : Nat) (l : List (Int × Int)) : Prop := g < w.heap.size ∧ ∀ j u, (flat l)[j]? = some u → w.cell? ⟨g, j, none⟩ = some u
theorem LieAt.below {w w' : World} {g : Nat} {l : List (Int × Int)} (h : LieAt w g l) (hb : Below w.heap.size w w') : LieAt w' g l :=
  ⟨Nat.lt_of_lt_of_le h.1 hb.size, fun j u hu => (hb.cell (p := ⟨g, j, none⟩) h.1).trans (h.2 j u hu)⟩
theorem LieAt.at_ {w : World} {g : Nat} {l : List (Int × Int)} (h : LieAt w g l) {k : Nat} (hk : k < l.length) :
    w.cell? ⟨g, k * 2, none⟩ = some (.int .i64 l[k].1) ∧ w.cell? ⟨g, k * 2 + 1, none⟩ = some (.int .i64 l[k].2) :=
  ⟨h.2 _ _ (flat_at l k hk).1, h.2 _ _ (flat_at l k hk).2⟩

theorem blk_new (W : World) (o : Obj) {g : Nat} (hg : W.heap.size = g) : (W.alloc o).heap[g]? = some o := by subst hg; exact heap_alloc_new W o
theorem lie_new (W : World) (l : List (Int × Int)) {g : Nat} (hg : W.heap.size = g) : LieAt (W.alloc (.cells (flat l).toArray 95)) g l := by
  subst hg
  refine ⟨by simp, fun j u hu => ?_⟩
  rw [cell_of_blk (heap_alloc_new W _)]
  simpa using hu
theorem all_bad (al : List (Int × Int)) (k : Nat) (hk : k < al.length) (h : ok al[k] = false) : al.all ok = false := by
  rw [List.all_eq_false]
  exact ⟨al[k], List.getElem_mem hk, by rw [h]; simp⟩
theorem blk4 {w : World} {g : Nat} {a b c d : Value} {t : TypeId} (h : w.heap[g]? = some (.cells #[a, b, c, d] t (0, 0))) :
    w.cell? ⟨g, 0, none⟩ = some a ∧ w.cell? ⟨g, 1, none⟩ = some b ∧ w.cell? ⟨g, 2, none⟩ = some c ∧ w.cell? ⟨g, 3, none⟩ = some d :=
  ⟨by rw [cell_of_blk h]; rfl, by rw [cell_of_blk h]; rfl, by rw [cell_of_blk h]; rfl, by rw [cell_of_blk h]; rfl⟩

set_option maxHeartbeats 1000000 in
theorem checkFid_any (n0 n1 m0 m1 : Int × Int) (A : Option Addr) (c : Nat) (l : List (Int × Int)) (hl : l.length ≤ 1000) (w : World) (hA : PtsAt w A c l) :
    Calls Try.prog 83 #[two n0 n1, two m0 m1, .slice A l.length c] w fun e w' => e = .returned (.int .i64 (fidErr n0 n1 m0 m1 l)) ∧ Below w.heap.size w w' := by
  obtain ⟨n0x, n0y⟩ := n0; obtain ⟨n1x, n1y⟩ := n1; obtain ⟨m0x, m0y⟩ := m0; obtain ⟨m1x, m1y⟩ := m1
  unfold two
  go_enter Try.func83, Try.ntmps83
  go_upto_region 1 with (fail)
  go_cut [7] (fun s7 wc => ∃ g cap : Nat, s7 = .slice (some ⟨g, 0, none⟩) (4 + l.length) cap ∧ 4 + l.length ≤ cap ∧ LieAt wc g ([(n0x, n0y), (n1x, n1y), (m0x, m0y), (m1x, m1y)] ++ l) ∧ Below w.heap.size w wc ∧
    wc.heap[w.heap.size]? = some (.cells #[.int .i64 n0x, .int .i64 n0y, .int .i64 n1x, .int .i64 n1y] 97 (0, 0)) ∧
    wc.heap[w.heap.size + 1]? = some (.cells #[.int .i64 m0x, .int .i64 m0y, .int .i64 m1x, .int .i64 m1y] 97 (0, 0)))
  case first =>
    obtain ⟨i0, hi, hz0, hz1, hz2⟩ := info_parts pt_info
    rcases hA with ⟨rfl, rfl, rfl⟩ | ⟨ad, rfl, hab, hcell⟩
    · clear hi hz0 hz1 hz2
      go_wp2_with fail
      go_meet
      exact ⟨w.heap.size + 2, 4, rfl, by simp, lie_new (((w.alloc _).alloc _)) [(n0x, n0y), (n1x, n1y), (m0x, m0y), (m1x, m1y)] (by simp),
        (((Below.refl _ _).alloc (Nat.le_refl _) _).alloc (by simp) _).alloc (by simp; omega) _, blk_alloc (blk_alloc (blk_new w _ rfl) _) _, blk_alloc (blk_new (w.alloc _) _ (by simp)) _⟩
    · have HC := Lib.hid hcell
      clear hcell
      have hown : (((w.alloc (Obj.cells #[.int .i64 n0x, .int .i64 n0y, .int .i64 n1x, .int .i64 n1y] 97)).alloc (Obj.cells #[.int .i64 m0x, .int .i64 m0y, .int .i64 m1x, .int .i64 m1y] 97)).alloc
          (Obj.cells (flat [(n0x, n0y), (n1x, n1y), (m0x, m0y), (m1x, m1y)]).toArray 95)).ownsRow (w.heap.size + 2) 95 2 (.slice (some ⟨w.heap.size + 2, 0, none⟩) 4 4) 4 (flat [(n0x, n0y), (n1x, n1y), (m0x, m0y), (m1x, m1y)]) :=
        ⟨rfl, .inr ⟨_, 4, _, rfl, Nat.le_refl _, blk_new _ _ (by simp), Nat.le_refl _, by unfold maxLen; omega, rfl, rfl⟩⟩
      have HOWN := Lib.hid hown
      clear hown
      go_wp2_with (at_builtin; refine hold ?_)
      refine loose ?_
      refine wpList_append_own _ rfl _ _ 159 rfl (w.heap.size + 2) 95 i0 _ 2 16 Try.underlying159 hi hz0 hz1 hz2 rfl (by omega) (.slice (some ⟨w.heap.size + 2, 0, none⟩) 4 4) 4 (flat [(n0x, n0y), (n1x, n1y), (m0x, m0y), (m1x, m1y)]) rfl HOWN.out ad l.length c (flat l) rfl (flat_len l) ?c1 (flat_one l) ?c2 ?c3 ?c4 ?_
      case c1 =>
        intro j u hu
        have h0 : ∀ o1 o2 o3 : Obj, (((w.alloc o1).alloc o2).alloc o3).cell? (ad.add j) = w.cell? (ad.add j) := fun o1 o2 o3 =>
          (((Below.refl w.heap.size w).alloc (Nat.le_refl _) o1).alloc (by simp) o2 |>.alloc (by simp; omega) o3).cell (by rw [addr_block]; exact hab)
        rw [h0]
        exact HC.out j u hu
      case c2 => unfold maxLen; omega
      case c3 => omega
      case c4 => simp
      intro v1 w1 hown1 hg1 _
      obtain ⟨g, cap, rfl, hbase, hlt, hcap, _, hrd⟩ := own_read hown1 (by omega)
      have hb1 : Below w.heap.size w w1 := ((((Below.refl w.heap.size w).alloc (Nat.le_refl _) _).alloc (by simp) _).alloc (by simp; omega) _).grown hg1 (by simp; omega) (by intro k e; simp [Value.ownBlock] at e; omega)
      have k3 := (hg1.block w.heap.size (by simp; omega) (by simp [Value.ownBlock])).trans (blk_alloc (blk_alloc (blk_new w _ rfl) _) _)
      have k4 := (hg1.block (w.heap.size + 1) (by simp) (by simp [Value.ownBlock])).trans (blk_alloc (blk_new (w.alloc _) _ (by simp)) _)
      have hl : LieAt w1 g ([(n0x, n0y), (n1x, n1y), (m0x, m0y), (m1x, m1y)] ++ l) := ⟨hlt, fun j u hu => hrd j u (by rw [← flat_append]; exact hu)⟩
      have HF : Hid (4 + l.length ≤ cap ∧ LieAt w1 g ([(n0x, n0y), (n1x, n1y), (m0x, m0y), (m1x, m1y)] ++ l) ∧ Below w.heap.size w w1 ∧ _ ∧ _) := ⟨hcap, hl, hb1, k3, k4⟩
      clear hown1 hg1 hcap hl hb1 k3 k4 hi hz0 hz1 hz2 hrd
      go_wp2_with fail
      go_meet
      exact ⟨g, cap, rfl, HF.out⟩
  case rest =>
    obtain ⟨g, cap, rfl, hcap, hlie, hbl, k3, k4⟩ := hcut
    clear hA
    have hlen : ([(n0x, n0y), (n1x, n1y), (m0x, m0y), (m1x, m1y)] ++ l).length = 4 + l.length := by simp; omega
    have hE : fidErr (n0x, n0y) (n1x, n1y) (m0x, m0y) (m1x, m1y) l = if ([(n0x, n0y), (n1x, n1y), (m0x, m0y), (m1x, m1y)] ++ l).all ok then (if (n0x, n0y) = (n1x, n1y) ∨ (m0x, m0y) = (m1x, m1y) then 16 else 0) else 1 := rfl
    generalize ([(n0x, n0y), (n1x, n1y), (m0x, m0y), (m1x, m1y)] ++ l) = al at *
    have HE := Lib.hid hE
    have HL := Lib.hid hlen
    have HK3 := Lib.hid k3
    have HK4 := Lib.hid k4
    have HLI := Lib.hid hlie
    clear hE hlen k3 k4 hlie
    go_wp2_with fail
    go_loopw [23] (fun kk wr => ∃ k : Nat, k ≤ 4 + l.length ∧ kk = .int .i64 k ∧ Below wc.heap.size wc wr ∧ Hid (∀ j (h : j < al.length), j < k → ok al[j] = true)) (fun kk _ => 4 + l.length - (intOf kk).toNat)
    case atStart => exact ⟨0, by omega, rfl, Below.refl _ _, fun j _ h => by omega⟩
    case round =>
      obtain ⟨k, hk, rfl, hb, HO⟩ := hrel
      by_cases hlt : k < 4 + l.length
      · have hk' : k < al.length := by rw [HL.out]; exact hlt
        obtain ⟨c0, c1⟩ := (HLI.out.below hb).at_ hk'
        generalize hx : al[k] = pk at *
        obtain ⟨px, py⟩ := pk
        have HX := Lib.hid hx
        clear hx
        cases hcx : crd px
        · have HBAD := Lib.hid (all_bad al k hk' (by rw [HX.out]; simp [ok, hcx]))
          go_wp2_with fail
          refine (vcoord_any _ _).mono ?_
          rintro e w1 ⟨rfl, rfl⟩
          go_wp2_with fail
          go_ret
          exact ⟨ret_int (by rw [HE.out, if_neg (by rw [HBAD.out]; simp)]), hbl.then_below (hb.alloc hb.size _) hbl.size⟩
        · cases hcy : crd py
          · have HBAD := Lib.hid (all_bad al k hk' (by rw [HX.out]; simp [ok, hcy]))
            go_wp2_with fail
            refine (vcoord_any _ _).mono ?_
            rintro e w1 ⟨rfl, rfl⟩
            go_wp2_with fail
            refine (vcoord_any _ _).mono ?_
            rintro e w1 ⟨rfl, rfl⟩
            go_wp2_with fail
            go_ret
            exact ⟨ret_int (by rw [HE.out, if_neg (by rw [HBAD.out]; simp)]), hbl.then_below (hb.alloc hb.size _) hbl.size⟩
          · have HOK : Hid (ok al[k] = true) := by show ok al[k] = true; rw [HX.out]; simp [ok, hcx, hcy]
            go_wp2_with fail
            refine (vcoord_any _ _).mono ?_
            rintro e w1 ⟨rfl, rfl⟩
            go_wp2_with fail
            refine (vcoord_any _ _).mono ?_
            rintro e w1 ⟨rfl, rfl⟩
            go_wp2_with fail
            go_roundw
            case rel => exact ⟨k + 1, by omega, by go_num, hb.alloc hb.size _, fun j h hj => by
              by_cases e : j = k
              · subst e; exact HOK.out
              · exact HO.out j h (by omega)⟩
            case measure => simp [intOf]; omega
      · have hk2 : k = 4 + l.length := by omega
        have HALL : Hid (al.all ok = true) := by
          show al.all ok = true
          rw [List.all_eq_true]
          intro x hx
          obtain ⟨j, hj, rfl⟩ := List.getElem_of_mem hx
          exact HO.out j hj (by rw [hk2, ← HL.out]; exact hj)
        have k3 := blk_below hb HK3.out
        have k4 := blk_below hb HK4.out
        obtain ⟨c30, c31, c32, c33⟩ := blk4 k3
        obtain ⟨c40, c41, c42, c43⟩ := blk4 k4
        clear k3 k4 hk2
        cases e1 : (n0x == n1x) <;> cases e2 : (n0y == n1y) <;> cases e3 : (m0x == m1x) <;> cases e4 : (m0y == m1y)
        all_goals
          go_wp2_with fail
          go_ret
          refine ⟨ret_int ?_, hbl.then_below hb hbl.size⟩
          rw [HE.out, if_pos HALL.out]
          simp only [beq_iff_eq, beq_eq_false_iff_ne] at e1 e2 e3 e4
          simp [e1, e2, e3, e4]
theorem incrd_any (n : Int) (w : World) : Calls Try.prog 61 #[.int .i64 n, .int .i64 (-500000), .int .i64 500000] w fun e w' => e = .returned (.bool (crd n)) ∧ w = w' := in_any n _ _ w

set_option maxHeartbeats 1000000 in
theorem pointsFault_any (n0 n1 m0 m1 : Int × Int) (A : Option Addr) (c : Nat) (l : List (Int × Int)) (hl : l.length ≤ 1000) (w : World) (hA : PtsAt w A c l) :
    Calls Try.prog 49 #[two n0 n1, two m0 m1, .slice A l.length c] w fun e w' => e = .returned (.int .i64 (fidErr n0 n1 m0 m1 l)) ∧ Below w.heap.size w w' := by
  obtain ⟨n0x, n0y⟩ := n0; obtain ⟨n1x, n1y⟩ := n1; obtain ⟨m0x, m0y⟩ := m0; obtain ⟨m1x, m1y⟩ := m1
  unfold two
  go_enter Try.func49, Try.ntmps49
  go_upto_region 1 with (fail)
  go_cut [19, 20, 21] (fun s7 s20 s21 wc => ∃ g cap : Nat, s7 = .slice (some ⟨g, 0, none⟩) (4 + l.length) cap ∧ s20 = .int .i64 (4 + (l.length : Int)) ∧ s21 = .int .i64 0 ∧ 4 + l.length ≤ cap ∧ LieAt wc g ([(n0x, n0y), (n1x, n1y), (m0x, m0y), (m1x, m1y)] ++ l) ∧ Below w.heap.size w wc ∧
    wc.heap[w.heap.size]? = some (.cells #[.int .i64 n0x, .int .i64 n0y, .int .i64 n1x, .int .i64 n1y] 97 (0, 0)) ∧
    wc.heap[w.heap.size + 1]? = some (.cells #[.int .i64 m0x, .int .i64 m0y, .int .i64 m1x, .int .i64 m1y] 97 (0, 0)))
  case first =>
    obtain ⟨i0, hi, hz0, hz1, hz2⟩ := info_parts pt_info
    rcases hA with ⟨rfl, rfl, rfl⟩ | ⟨ad, rfl, hab, hcell⟩
    · clear hi hz0 hz1 hz2
      go_wp2_with fail
      go_meet
      exact ⟨w.heap.size + 2, 4, rfl, rfl, rfl, by simp, lie_new (((w.alloc _).alloc _)) [(n0x, n0y), (n1x, n1y), (m0x, m0y), (m1x, m1y)] (by simp),
        (((Below.refl _ _).alloc (Nat.le_refl _) _).alloc (by simp) _).alloc (by simp; omega) _, blk_alloc (blk_alloc (blk_new w _ rfl) _) _, blk_alloc (blk_new (w.alloc _) _ (by simp)) _⟩
    · have HC := Lib.hid hcell
      clear hcell
      have hown : (((w.alloc (Obj.cells #[.int .i64 n0x, .int .i64 n0y, .int .i64 n1x, .int .i64 n1y] 97)).alloc (Obj.cells #[.int .i64 m0x, .int .i64 m0y, .int .i64 m1x, .int .i64 m1y] 97)).alloc
          (Obj.cells (flat [(n0x, n0y), (n1x, n1y), (m0x, m0y), (m1x, m1y)]).toArray 95)).ownsRow (w.heap.size + 2) 95 2 (.slice (some ⟨w.heap.size + 2, 0, none⟩) 4 4) 4 (flat [(n0x, n0y), (n1x, n1y), (m0x, m0y), (m1x, m1y)]) :=
        ⟨rfl, .inr ⟨_, 4, _, rfl, Nat.le_refl _, blk_new _ _ (by simp), Nat.le_refl _, by unfold maxLen; omega, rfl, rfl⟩⟩
      have HOWN := Lib.hid hown
      clear hown
      go_wp2_with (at_builtin; refine hold ?_)
      refine loose ?_
      refine wpList_append_own _ rfl _ _ 159 rfl (w.heap.size + 2) 95 i0 _ 2 16 Try.underlying159 hi hz0 hz1 hz2 rfl (by omega) (.slice (some ⟨w.heap.size + 2, 0, none⟩) 4 4) 4 (flat [(n0x, n0y), (n1x, n1y), (m0x, m0y), (m1x, m1y)]) rfl HOWN.out ad l.length c (flat l) rfl (flat_len l) ?c1 (flat_one l) ?c2 ?c3 ?c4 ?_
      case c1 =>
        intro j u hu
        have h0 : ∀ o1 o2 o3 : Obj, (((w.alloc o1).alloc o2).alloc o3).cell? (ad.add j) = w.cell? (ad.add j) := fun o1 o2 o3 =>
          (((Below.refl w.heap.size w).alloc (Nat.le_refl _) o1).alloc (by simp) o2 |>.alloc (by simp; omega) o3).cell (by rw [addr_block]; exact hab)
        rw [h0]
        exact HC.out j u hu
      case c2 => unfold maxLen; omega
      case c3 => omega
      case c4 => simp
      intro v1 w1 hown1 hg1 _
      obtain ⟨g, cap, rfl, hbase, hlt, hcap, _, hrd⟩ := own_read hown1 (by omega)
      have hb1 : Below w.heap.size w w1 := ((((Below.refl w.heap.size w).alloc (Nat.le_refl _) _).alloc (by simp) _).alloc (by simp; omega) _).grown hg1 (by simp; omega) (by intro k e; simp [Value.ownBlock] at e; omega)
      have k3 := (hg1.block w.heap.size (by simp; omega) (by simp [Value.ownBlock])).trans (blk_alloc (blk_alloc (blk_new w _ rfl) _) _)
      have k4 := (hg1.block (w.heap.size + 1) (by simp) (by simp [Value.ownBlock])).trans (blk_alloc (blk_new (w.alloc _) _ (by simp)) _)
      have hl : LieAt w1 g ([(n0x, n0y), (n1x, n1y), (m0x, m0y), (m1x, m1y)] ++ l) := ⟨hlt, fun j u hu => hrd j u (by rw [← flat_append]; exact hu)⟩
      have HF : Hid (4 + l.length ≤ cap ∧ LieAt w1 g ([(n0x, n0y), (n1x, n1y), (m0x, m0y), (m1x, m1y)] ++ l) ∧ Below w.heap.size w w1 ∧ _ ∧ _) := ⟨hcap, hl, hb1, k3, k4⟩
      clear hown1 hg1 hcap hl hb1 k3 k4 hi hz0 hz1 hz2 hrd
      go_wp2_with fail
      go_meet
      exact ⟨g, cap, rfl, by go_num, rfl, HF.out⟩
  case rest =>
    obtain ⟨g, cap, rfl, rfl, rfl, hcap, hlie, hbl, k3, k4⟩ := hcut
    clear hA
    have hlen : ([(n0x, n0y), (n1x, n1y), (m0x, m0y), (m1x, m1y)] ++ l).length = 4 + l.length := by simp; omega
    have hE : fidErr (n0x, n0y) (n1x, n1y) (m0x, m0y) (m1x, m1y) l = if ([(n0x, n0y), (n1x, n1y), (m0x, m0y), (m1x, m1y)] ++ l).all ok then (if (n0x, n0y) = (n1x, n1y) ∨ (m0x, m0y) = (m1x, m1y) then 16 else 0) else 1 := rfl
    generalize ([(n0x, n0y), (n1x, n1y), (m0x, m0y), (m1x, m1y)] ++ l) = al at *
    have HE := Lib.hid hE
    have HL := Lib.hid hlen
    have HK3 := Lib.hid k3
    have HK4 := Lib.hid k4
    have HLI := Lib.hid hlie
    clear hE hlen k3 k4 hlie
    go_wp2_with fail
    go_loopw [21] (fun kk wr => ∃ k : Nat, k ≤ 4 + l.length ∧ kk = .int .i64 k ∧ Below wc.heap.size wc wr ∧ Hid (∀ j (h : j < al.length), j < k → ok al[j] = true)) (fun kk _ => 4 + l.length - (intOf kk).toNat)
    case atStart => exact ⟨0, by omega, rfl, Below.refl _ _, fun j _ h => by omega⟩
    case round =>
      obtain ⟨k, hk, rfl, hb, HO⟩ := hrel
      by_cases hlt : k < 4 + l.length
      · have hk' : k < al.length := by rw [HL.out]; exact hlt
        obtain ⟨c0, c1⟩ := (HLI.out.below hb).at_ hk'
        generalize hx : al[k] = pk at *
        obtain ⟨px, py⟩ := pk
        have HX := Lib.hid hx
        clear hx
        cases hcx : crd px
        · have HBAD := Lib.hid (all_bad al k hk' (by rw [HX.out]; simp [ok, hcx]))
          go_wp2_with fail
          refine (incrd_any _ _).mono ?_
          rintro e w1 ⟨rfl, rfl⟩
          go_wp2_with fail
          go_ret
          exact ⟨ret_int (by rw [HE.out, if_neg (by rw [HBAD.out]; simp)]), hbl.then_below (hb.alloc hb.size _) hbl.size⟩
        · cases hcy : crd py
          · have HBAD := Lib.hid (all_bad al k hk' (by rw [HX.out]; simp [ok, hcy]))
            go_wp2_with fail
            refine (incrd_any _ _).mono ?_
            rintro e w1 ⟨rfl, rfl⟩
            go_wp2_with fail
            refine (incrd_any _ _).mono ?_
            rintro e w1 ⟨rfl, rfl⟩
            go_wp2_with fail
            go_ret
            exact ⟨ret_int (by rw [HE.out, if_neg (by rw [HBAD.out]; simp)]), hbl.then_below (hb.alloc hb.size _) hbl.size⟩
          · have HOK : Hid (ok al[k] = true) := by show ok al[k] = true; rw [HX.out]; simp [ok, hcx, hcy]
            go_wp2_with fail
            refine (incrd_any _ _).mono ?_
            rintro e w1 ⟨rfl, rfl⟩
            go_wp2_with fail
            refine (incrd_any _ _).mono ?_
            rintro e w1 ⟨rfl, rfl⟩
            go_wp2_with fail
            go_roundw
            case rel => exact ⟨k + 1, by omega, by go_num, hb.alloc hb.size _, fun j h hj => by
              by_cases e : j = k
              · subst e; exact HOK.out
              · exact HO.out j h (by omega)⟩
            case measure => simp [intOf]; omega
      · have hk2 : k = 4 + l.length := by omega
        have HALL : Hid (al.all ok = true) := by
          show al.all ok = true
          rw [List.all_eq_true]
          intro x hx
          obtain ⟨j, hj, rfl⟩ := List.getElem_of_mem hx
          exact HO.out j hj (by rw [hk2, ← HL.out]; exact hj)
        have k3 := blk_below hb HK3.out
        have k4 := blk_below hb HK4.out
        obtain ⟨c30, c31, c32, c33⟩ := blk4 k3
        obtain ⟨c40, c41, c42, c43⟩ := blk4 k4
        clear k3 k4 hk2
        cases e1 : (n0x == n1x) <;> cases e2 : (n0y == n1y) <;> cases e3 : (m0x == m1x) <;> cases e4 : (m0y == m1y)
        all_goals
          go_wp2_with fail
          go_ret
          refine ⟨ret_int ?_, hbl.then_below hb hbl.size⟩
          rw [HE.out, if_pos HALL.out]
          simp only [beq_iff_eq, beq_eq_false_iff_ne] at e1 e2 e3 e4
          simp [e1, e2, e3, e4]
end Go.Proofs.Ytiehkcbjfamnkaa
