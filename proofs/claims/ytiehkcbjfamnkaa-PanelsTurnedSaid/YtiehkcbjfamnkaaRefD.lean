/-
  The walk of the reference's Beyond.
-/
import Derived.Test.YtiehkcbjfamnkaaRefC
namespace Go.Proofs.Ytiehkcbjfamnkaa
open Go.RowKit
attribute [local go_sem] run_min_int4

def beyR (b : List Bo) (W H e : Int) (l : List Pl) (k : Nat) : List ByteArray := ((((l.take k).filterMap (nameBox b)).filter fun p => beyOf W H e p.2).map fun p => p.1)
theorem beyR_len (b : List Bo) (W H e : Int) (l : List Pl) (k : Nat) : (beyR b W H e l k).length ≤ k := by
  unfold beyR
  rw [List.length_map]
  exact Nat.le_trans (List.length_filter_le _ _) (Nat.le_trans (List.length_filterMap_le _ _) (by rw [List.length_take]; omega))
theorem beyR_none (b : List Bo) (W H e : Int) (l : List Pl) {k : Nat} (h : k < l.length) (hn : boxOf b l[k] = none) : beyR b W H e l (k + 1) = beyR b W H e l k := by
  unfold beyR
  rw [List.take_succ_eq_append_getElem h, List.filterMap_append, List.filterMap_cons_none (by simp [nameBox, hn])]
  simp
theorem beyR_some (b : List Bo) (W H e : Int) (l : List Pl) {k : Nat} (h : k < l.length) {a : Ar} (hn : boxOf b l[k] = some a) : beyR b W H e l (k + 1) = beyR b W H e l k ++ (if beyOf W H e a then [l[k].name] else []) := by
  unfold beyR
  rw [List.take_succ_eq_append_getElem h, List.filterMap_append, List.filterMap_cons_some (b := (l[k].name, a)) (by simp [nameBox, hn]), List.filter_append, List.map_append]
  cases h2 : beyOf W H e a <;> simp [List.filter_cons, h2]

set_option maxRecDepth 100000 in
set_option maxHeartbeats 4000000 in
theorem beyondOf_any (key : ByteArray) (W H : Int) (A : Option Addr) (c : Nat) (l : List Pl) (B : Option Addr) (d : Nat) (b : List Bo) (gap : Int) (w : World) (hA : PlAt w A l) (hB : BoAt w B b) (hE : distErr key W H l b gap = 0) :
    Calls Try.prog 43 #[prod key W H A l.length c, .slice B b.length d, .int .i64 gap] w fun e w' => ∃ v, e = .returned v ∧ Below w.heap.size w w' ∧
      w'.ownsRow w.heap.size 9 1 v (beyond b W H gap l).length (flatS (beyond b W H gap l)) := by
  have hd := dist_ok hE
  have hlen := hd.len
  have hblen := hd.blen
  obtain ⟨hg0, hg1⟩ := hd.gap
  obtain ⟨hw0, hw1⟩ := hd.w
  obtain ⟨hh0, hh1⟩ := hd.h
  have HD := Lib.hid hd
  have HBY : Hid (beyond b W H gap l = beyR b W H gap l l.length) := by show _ = _; unfold beyR; rw [List.take_length]; rfl
  clear hd hE
  go_enter Try.func43, Try.ntmps43
  go_wp2_with fail
  have kP : (w.alloc (Obj.cells #[.string key, .int .i64 W, .int .i64 H, .slice A l.length c] 28)).heap[w.heap.size]? = some (.cells #[.string key, .int .i64 W, .int .i64 H, .slice A l.length c] 28 (0, 0)) := blk_new w _ rfl
  have bP : Below w.heap.size w (w.alloc (Obj.cells #[.string key, .int .i64 W, .int .i64 H, .slice A l.length c] 28)) := (Below.refl _ _).alloc (Nat.le_refl _) _
  have sP : (w.alloc (Obj.cells #[.string key, .int .i64 W, .int .i64 H, .slice A l.length c] 28)).heap.size = w.heap.size + 1 := by simp
  generalize w.alloc (Obj.cells #[.string key, .int .i64 W, .int .i64 H, .slice A l.length c] 28) = wP at *
  have HWP := Lib.hid (And.intro kP (And.intro bP sP))
  clear kP bP sP
  go_loopw [7, 15] (fun v kk wr => ∃ i : Nat, i ≤ l.length ∧ kk = .int .i64 i ∧ Hid (Below wP.heap.size wP wr ∧ wr.ownsRow wP.heap.size 9 1 v (beyR b W H gap l i).length (flatS (beyR b W H gap l i)))) (fun _ kk _ => l.length - (intOf kk).toNat)
  case atStart => exact ⟨0, by omega, rfl, Below.refl _ _, World.ownsRow_nil _ _ _ _⟩
  case round =>
    obtain ⟨i, hi, rfl, HS⟩ := hrel
    have hac := beyR_len b W H gap l i
    by_cases hlt : i < l.length
    · obtain ⟨p, hp⟩ : ∃ p, l[i] = p := ⟨_, rfl⟩
      have hpm0 : p ∈ l := by rw [← hp]; exact List.getElem_mem hlt
      have hpb := HD.out.pl p hpm0
      rcases hA with rfl | ⟨g, rfl, hrow⟩
      · simp at hlt
      have hrP := (hrow.below HWP.out.2.1).below HS.out.1
      obtain ⟨p0, p1, p2, p3, p4⟩ := row_pl hrP hlt
      rw [hp] at p0 p1 p2 p3 p4
      have hg1 : g < wr.heap.size := hrP.1
      have hwP : w.heap.size < wr.heap.size := by have := HS.out.1.size; have := HWP.out.2.2; omega
      have HPB := Lib.hid hpb
      have HPM0 := Lib.hid hpm0
      have HP := Lib.hid hp
      have HBw : Hid (Below w.heap.size w wr) := HWP.out.2.1.then_below HS.out.1 HWP.out.2.1.size
      have CX0 := Lib.hid (fun (W' : World) (h : BoAt W' B b) hn => bodyBox_none B d b (by omega) p W' h hn)
      have CX1 := Lib.hid (fun (W' : World) (h : BoAt W' B b) a hn => bodyBox_some B d b (by omega) HD.out.bo p ⟨HPB.out.1, HPB.out.2.1, HPB.out.2.2.1⟩ a W' h hn)
      clear hp hpb hrow hrP hpm0
      obtain ⟨nm, pt, x, y, q⟩ := p
      dsimp only at p0 p1 p2 p3 p4
      dsimp only [boxC] at CX0 CX1
      cases ha : boxOf b ⟨nm, pt, x, y, q⟩ with
      | none =>
        have HT : Hid (beyR b W H gap l (i + 1) = beyR b W H gap l i) := beyR_none b W H gap l hlt (by rw [HP.out]; exact ha)
        have HA := Lib.hid ha
        clear ha
        go_wp2_with fail
        refine (CX0.out _ (hB.below (HBw.out.alloc HBw.out.size _)) HA.out).mono ?_
        rintro e w1 ⟨rfl, hb1⟩
        have hal1 : Below wr.heap.size wr w1 := ((Below.refl _ _).alloc (Nat.le_refl _) _).then_below hb1
        have hs1 : wr.heap.size < w1.heap.size := by have := hb1.size; simp at this; omega
        have HFS : Hid (Below wP.heap.size wP (w1.alloc (.cells #[.int .i64 0, .int .i64 0, .int .i64 0, .int .i64 0] 141)) ∧ (w1.alloc (.cells #[.int .i64 0, .int .i64 0, .int .i64 0, .int .i64 0] 141)).ownsRow wP.heap.size 9 1 u7 (beyR b W H gap l (i + 1)).length (flatS (beyR b W H gap l (i + 1)))) := by
          rw [HT.out]
          exact ⟨(HS.out.1.ext hal1).alloc (Nat.le_trans HS.out.1.size (by omega)) _, (own_below HS.out.2 hal1).alloc _⟩
        clear hal1 hb1 HS
        go_wp2_with fail
        go_roundw
        case rel => exact ⟨i + 1, by omega, by go_num, HFS⟩
        case measure => simp [intOf]; omega
      | some a =>
        have HT0 := Lib.hid (beyR_some b W H gap l hlt (a := a) (by rw [HP.out]; exact ha))
        obtain ⟨⟨ax0, ax1⟩, ⟨ax2, ax3⟩, ⟨ay0, ay1⟩, ay2, ay3⟩ := arB_areas HD.out _ (box_mem HPM0.out ha)
        obtain ⟨axf, axt, ayf, ayt⟩ := a
        dsimp only at ax0 ax1 ax2 ax3 ay0 ay1 ay2 ay3
        have HA := Lib.hid ha
        clear ha
        go_wp2_with fail
        refine (CX1.out _ (hB.below (HBw.out.alloc HBw.out.size _)) ⟨axf, axt, ayf, ayt⟩ HA.out).mono ?_
        rintro e w1 ⟨rfl, hb1⟩
        have hal1 : Below wr.heap.size wr w1 := ((Below.refl _ _).alloc (Nat.le_refl _) _).then_below hb1
        have hs1 : wr.heap.size < w1.heap.size := by have := hb1.size; simp at this; omega
        have hw1s : w.heap.size < w1.heap.size := by omega
        obtain ⟨d0, _, _, _, _⟩ := blk5 (blk_below hb1 (blk_new wr _ rfl))
        obtain ⟨c0, c1, c2, c3⟩ := blk4 (blk_below hal1 (blk_below HS.out.1 HWP.out.1))
        have HS1 : Hid (Below wP.heap.size wP w1 ∧ w1.ownsRow wP.heap.size 9 1 u7 (beyR b W H gap l i).length (flatS (beyR b W H gap l i))) := ⟨HS.out.1.ext hal1, own_below HS.out.2 hal1⟩
        have HNB : Hid (beyOf W H gap ⟨axf, axt, ayf, ayt⟩ = decide (mn4 axf ayf (2 * W - axt) (2 * H - ayt) < 2 * gap)) := rfl
        have hsP := HS.out.1.size
        clear hal1 hb1 HS
        by_cases hbe : mn4 axf ayf (2 * W - axt) (2 * H - ayt) < 2 * gap
        · have HT : Hid (beyR b W H gap l (i + 1) = beyR b W H gap l i ++ [nm]) := HT0.out.trans (by rw [HNB.out, HP.out]; simp only [hbe, decide_true, if_true])
          obtain ⟨A7, k7, rfl, _⟩ := own_form HS1.out.2
          go_wp2_with (at_builtin; refine hold ?_)
          refine loose ?_
          obtain ⟨i0, hi0, hz0, hz1, hz2⟩ := info_parts str_info9
          refine wpList_append_own _ rfl _ _ 83 rfl wP.heap.size 9 i0 _ 1 16 Try.underlying83 hi0 hz0 hz1 hz2 rfl (by omega) _ (beyR b W H gap l i).length (flatS (beyR b W H gap l i)) rfl ((HS1.out.2.alloc _).alloc _) ⟨w1.heap.size + 1, 0, none⟩ 1 1 (encS nm) rfl rfl ?c1 (by intro u hu; simp [encS] at hu; subst hu; rfl) ?c2 ?c3 (by simp; omega) ?_
          case c1 =>
            intro j u hu
            rw [addr_new, cell_of_blk (blk_new (g := w1.heap.size + 1) _ _ (by simp))]
            simpa [encS] using hu
          case c2 => unfold maxLen; omega
          case c3 => omega
          intro v' w' hown' hg' _
          have HFS : Hid (Below wP.heap.size wP w' ∧ w'.ownsRow wP.heap.size 9 1 v' (beyR b W H gap l (i + 1)).length (flatS (beyR b W H gap l (i + 1)))) := by
            refine ⟨((HS1.out.1.alloc HS1.out.1.size _).alloc (by simp; omega) _).grown hg' (by simp; omega) (fun j e => own_row HS1.out.2 j e), ?_⟩
            rw [HT.out, List.length_append]
            have e1 : flatS (beyR b W H gap l i ++ [nm]) = flatS (beyR b W H gap l i) ++ encS nm := by simp [flatS]
            rw [e1]
            exact hown'
          clear hown' hg' hi0 hz0 hz1 hz2
          go_wp2_with fail
          go_roundw
          case rel => exact ⟨i + 1, by omega, by go_num, HFS⟩
          case measure => simp [intOf]; omega
        · have HT : Hid (beyR b W H gap l (i + 1) = beyR b W H gap l i) := HT0.out.trans (by rw [HNB.out]; simp only [hbe, decide_false, Bool.false_eq_true, if_false, List.append_nil])
          have HFS : Hid (Below wP.heap.size wP (w1.alloc (.cells #[.int .i64 axf, .int .i64 ayf, .int .i64 axt, .int .i64 ayt] 141)) ∧ (w1.alloc (.cells #[.int .i64 axf, .int .i64 ayf, .int .i64 axt, .int .i64 ayt] 141)).ownsRow wP.heap.size 9 1 u7 (beyR b W H gap l (i + 1)).length (flatS (beyR b W H gap l (i + 1)))) := by
            rw [HT.out]
            exact ⟨HS1.out.1.alloc HS1.out.1.size _, HS1.out.2.alloc _⟩
          go_wp2_with fail
          go_roundw
          case rel => exact ⟨i + 1, by omega, by go_num, HFS⟩
          case measure => simp [intOf]; omega
    · obtain rfl : i = l.length := by omega
      obtain ⟨A3, k3, rfl, _⟩ := own_form HS.out.2
      have hs := HWP.out.2.1.size
      go_wp2_with fail
      go_ret
      rw [HBY.out]
      exact ⟨_, rfl, HWP.out.2.1.then_below HS.out.1 hs, own_mono HS.out.2 hs⟩
end Go.Proofs.Ytiehkcbjfamnkaa
