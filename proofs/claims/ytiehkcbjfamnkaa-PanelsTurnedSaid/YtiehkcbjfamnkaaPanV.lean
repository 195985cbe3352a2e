/-
  The walk of Overlaps.
-/
import Derived.Test.YtiehkcbjfamnkaaPanO
import Derived.Test.YtiehkcbjfamnkaaCrowd2
namespace Go.Proofs.Ytiehkcbjfamnkaa
open Go.RowKit

theorem two_info : (Try.prog.info? 75).map (fun i => (i.zero, i.size, i.bytes)) = some (some (.agg #[.int .i64 0, .int .i64 0]), 2, 16) := by kernel_rfl

set_option maxRecDepth 100000 in
set_option maxHeartbeats 4000000 in
theorem overlap1_any (w0 : World) (vb : Nat) (d : List (Nat × Nat)) (v : Value) (i j : Nat) (W : World) (hij : i < j) (hj : j < 1000000) (hd : d.length ≤ 1001000) (hk : Kept vb w0 W) (hc : ClI 75 66 vb w0.heap.size natP d v W) :
    Calls Try.prog 74 (#[.int .i64 i, .int .i64 j] ++ #[.pointer (some ⟨vb, 0, none⟩)]) W (ClPost 75 66 vb w0.heap.size natP d v i j W) := by
  obtain ⟨A, c, rfl, _⟩ := own_form hc.row
  have c0 := blk_cell0 hc.var
  have hvlt := lt_of_blk hc.var
  have HQ := Lib.hid hc
  have HK := Lib.hid hk
  clear hc hk
  go_enter Try.func74, Try.ntmps74
  go_wp2_with (at_builtin; refine hold ?_)
  refine loose ?_
  obtain ⟨i0, hi, hz0, hz1, hz2⟩ := info_parts two_info
  refine wpList_append_lies _ rfl _ _ 66 rfl w0.heap.size 75 i0 _ 2 16 Try.underlying66 hi hz0 hz1 hz2 rfl (by omega) _ d.length (d.flatMap natP) rfl (HQ.out.row.alloc _) ⟨W.heap.size, 0, none⟩ 1 1 [.int .i64 i, .int .i64 j] rfl rfl ?c1 (by intro u hu; simp at hu; rcases hu with rfl | rfl <;> rfl) (by omega) ?c2 ?c3 ?c4 (W.heap.size + 1) ?c5 ?_
  case c1 =>
    intro q u hu
    rw [addr_new, cell_of_blk (blk_new (g := W.heap.size) _ _ rfl)]
    simpa using hu
  case c2 => unfold maxLen; omega
  case c3 => omega
  case c4 => have := HK.out.more; simp; omega
  case c5 => simp
  intro g cap w' hown hgr hat hlt
  have hsr := hgr.size
  simp at hsr
  have hcv : w'.heap[vb]? = some (.cells #[.slice A d.length c] 66 (0, 0)) := (hgr.block vb (by simp; omega) (fun e => by have := own_row HQ.out.row vb e.symm; have := HQ.out.lt; omega)).trans (blk_alloc HQ.out.var _)
  have d0 := blk_cell0 hcv
  have f0 := frozen_of_blk hcv 0
  have HFIN : Hid (ClPost 75 66 vb w0.heap.size natP d (.slice A d.length c) i j W (.returned (.tuple #[])) (w'.setCell ⟨vb, 0, none⟩ (.slice (some ⟨g, 0, none⟩) (d.length + 1) cap))) := by
    have hat' : (Value.slice A d.length c).ownBlock = some g ∨ g = W.heap.size + 1 := hat
    have hgr' : World.grownBy _ w' (Value.slice A d.length c).ownBlock := hgr
    refine ⟨rfl, _, ⟨blk_set (i := 0) hcv _, ?_, HQ.out.lt⟩, ?_, ?_, ?_, ?_⟩
    · have e1 : (d ++ [(i, j)]).flatMap natP = d.flatMap natP ++ [.int .i64 i, .int .i64 j] := by rw [List.flatMap_append]; simp [natP]
      rw [e1, List.length_append]
      exact own_far hown HQ.out.lt _
    · simp [World.setCell]; omega
    · exact ⟨hgr.os, hgr.tape, hgr.output⟩
    · intro k hk hne hno
      rw [show (w'.setCell ⟨vb, 0, none⟩ (.slice (some ⟨g, 0, none⟩) (d.length + 1) cap)).heap[k]? = w'.heap[k]? from Below.heap_setCell _ _ _ _ (by simpa using hne)]
      exact (hgr'.block k (by simp; omega) (fun e => hno e.symm)).trans (Below.heap_alloc _ _ _ hk)
    · rcases hat' with h | h
      · exact .inl (by rw [h]; rfl)
      · exact .inr ⟨g, by omega, rfl⟩
  clear hown hgr hat hlt hcv c0
  go_wp2_with fail
  go_end0
  exact HFIN.out

def arsOf (W H : Int) (s : List Sl) (k : Nat) : List Ar := (s.take k).map (slAr W H)

set_option maxRecDepth 100000 in
set_option maxHeartbeats 4000000 in
theorem overlaps_any (key : ByteArray) (W H : Int) (A : Option Addr) (c : Nat) (l : List Pl) (hl : l.length ≤ 4611686018427387904) (PW PH : Int) (B : Option Addr) (d : Nat) (s : List Sl) (hsl : s.length ≤ 4611686018427387904) (w : World) (hA : PlAt w A l) (hB : SlAt w B s) :
    Calls Try.prog 28 #[prod key W H A l.length c, pan PW PH B s.length d] w fun e w' => ∃ v, e = .returned (.tuple #[v, .int .i64 (panErr key W H l PW PH s)]) ∧ Below w.heap.size w w' ∧
      Reads natP v (if panErr key W H l PW PH s = 0 then nearIdx 0 (s.map (slAr W H)) s.length else []) w' := by
  have CP := Lib.hid (fun (W' : World) (h : PlAt W' A l) (h2 : SlAt W' B s) => checkPanel_any key W H A c l hl PW PH B d s hsl W' h h2)
  by_cases h1 : panErr key W H l PW PH s = 0
  rotate_left
  · rw [if_neg h1]
    generalize panErr key W H l PW PH s = E at *
    have h2 : (E != 0) = true := by simpa using h1
    clear h1
    go_enter Try.func28, Try.ntmps28
    go_wp2_with fail
    refine (CP.out _ (hA.below (((Below.refl _ _).alloc (Nat.le_refl _) _).alloc (by simp) _)) (hB.below (((Below.refl _ _).alloc (Nat.le_refl _) _).alloc (by simp) _))).mono ?_
    rintro e w1 ⟨rfl, b1⟩
    have HB1 := Lib.hid ((((Below.refl w.heap.size w).alloc (Nat.le_refl _) _).alloc (by simp) _).then_below b1 (by simp; omega))
    clear b1
    go_wp2_with fail
    go_ret2
    exact ⟨_, rfl, HB1.out, none, 0, rfl, .inl rfl⟩
  · rw [if_pos h1]
    obtain ⟨_, _, ho⟩ := pan_ok h1
    rw [h1] at CP ⊢
    have hsl2 := ho.slen
    have HO := Lib.hid ho
    clear h1 ho
    go_enter Try.func28, Try.ntmps28
    go_wp2_with fail
    have kP : PanB w ((w.alloc (Obj.cells #[.string key, .int .i64 W, .int .i64 H, .slice A l.length c] 28)).alloc (Obj.cells #[.int .i64 PW, .int .i64 PH, .slice B s.length d] 32)) key W H A l.length c PW PH B s.length d := ⟨blk_alloc (blk_new w _ rfl) _, blk_new _ _ (by simp), ((Below.refl _ _).alloc (Nat.le_refl _) _).alloc (by simp) _, by simp⟩
    generalize ((w.alloc (Obj.cells #[.string key, .int .i64 W, .int .i64 H, .slice A l.length c] 28)).alloc (Obj.cells #[.int .i64 PW, .int .i64 PH, .slice B s.length d] 32)) = wP at *
    have KP := Lib.hid kP
    clear kP
    refine (CP.out _ (hA.below KP.out.2.2.1) (hB.below KP.out.2.2.1)).mono ?_
    rintro e w1 ⟨rfl, b1⟩
    have KQ : Hid (PanB w w1 key W H A l.length c PW PH B s.length d) := ⟨blk_below b1 KP.out.1, blk_below b1 KP.out.2.1, KP.out.2.2.1.then_below b1 KP.out.2.2.1.size, Nat.lt_of_lt_of_le KP.out.2.2.2 b1.size⟩
    clear b1 KP
    obtain ⟨e0, e1, e2, hPl⟩ := blk3 KQ.out.2.1
    go_wp2_with fail
    clear e0 e1 e2 hPl
    go_loopw [7, 20] (fun v kk wr => ∃ i : Nat, i ≤ s.length ∧ kk = .int .i64 i ∧ Hid (Below w1.heap.size w1 wr ∧ wr.ownsRow w1.heap.size 135 4 v i (flatA (arsOf W H s i)))) (fun _ kk _ => s.length - (intOf kk).toNat)
    case atStart => exact ⟨0, by omega, rfl, Below.refl _ _, World.ownsRow_nil _ _ _ _⟩
    case round =>
      obtain ⟨i, hi, rfl, HS⟩ := hrel
      obtain ⟨A7, k7, rfl, hA7⟩ := own_form HS.out.2
      have HA7 := Lib.hid hA7
      clear hA7
      by_cases hlt : i < s.length
      · obtain ⟨p, hp⟩ : ∃ p, s[i] = p := ⟨_, rfl⟩
        obtain ⟨hx, hy, hq0, hq1⟩ := HO.out.sl p (by rw [← hp]; exact List.getElem_mem hlt)
        have hnx : arsOf W H s (i + 1) = arsOf W H s i ++ [slAr W H p] := by unfold arsOf; rw [List.take_succ_eq_append_getElem hlt, hp, List.map_append]; rfl
        rcases hB with rfl | ⟨g, rfl, hrow⟩
        · simp at hlt
        have hr2 := (hrow.below KQ.out.2.2.1).below HS.out.1
        obtain ⟨p0, p1, p2, p3⟩ := row_sl hr2 hlt
        rw [hp] at p0 p1 p2 p3
        have hg := hr2.1
        obtain ⟨b0, b1, b2, b3⟩ := blk4 (blk_below HS.out.1 KQ.out.1)
        have hwP : w.heap.size + 1 < wr.heap.size := Nat.lt_of_lt_of_le KQ.out.2.2.2 HS.out.1.size
        have hwP0 : w.heap.size < wr.heap.size := by omega
        have CA := Lib.hid (fun W' => boardArea_any key W H A l.length c p W' HO.out.w HO.out.h hx hy hq0)
        have HNX := Lib.hid hnx
        have HROW := Lib.hid hrow
        clear hp hnx hrow hr2 hx hy hq0 hq1
        generalize slAr W H p = a at *
        obtain ⟨x, y, q, sk⟩ := p
        obtain ⟨axf, axt, ayf, ayt⟩ := a
        dsimp only at *
        go_wp2_with fail
        refine (CA.out _).mono ?_
        rintro e w2 ⟨rfl, b2⟩
        have hal : Below wr.heap.size wr w2 := ((Below.refl _ _).alloc (Nat.le_refl _) _).then_below b2
        have HS2 : Hid (Below w1.heap.size w1 w2 ∧ w2.ownsRow w1.heap.size 135 4 (.slice A7 i k7) i (flatA (arsOf W H s i))) := ⟨HS.out.1.ext hal, own_below HS.out.2 hal⟩
        clear hal b2 HS p0 p1 p2 p3 b0 b1 b3
        go_wp2_with (at_builtin; refine hold ?_)
        refine loose ?_
        obtain ⟨i0, hi0, hz0, hz1, hz2⟩ := info_parts area_info
        refine wpList_append_own _ rfl _ _ 137 rfl w1.heap.size 135 i0 _ 4 32 Try.underlying137 hi0 hz0 hz1 hz2 rfl (by omega) _ i (flatA (arsOf W H s i)) rfl (HS2.out.2.alloc _) ⟨w2.heap.size, 0, none⟩ 1 1 (Ar.cells ⟨axf, axt, ayf, ayt⟩) rfl rfl ?_ (by intro u hu; simp [Ar.cells] at hu; rcases hu with rfl | rfl | rfl | rfl <;> rfl) (by unfold maxLen; omega) (by omega) (by have := HS2.out.1.size; simp; omega) ?_
        · intro j u hu
          rw [addr_new, cell_of_blk (blk_new (g := w2.heap.size) _ _ rfl)]
          simpa [Ar.cells] using hu
        intro v' w' hown' hg' _
        have HF : Hid (Below w1.heap.size w1 w' ∧ w'.ownsRow w1.heap.size 135 4 v' (i + 1) (flatA (arsOf W H s (i + 1)))) := by
          refine ⟨(HS2.out.1.alloc HS2.out.1.size _).grown hg' (by have := HS2.out.1.size; simp; omega) (fun j e => own_row HS2.out.2 j e), ?_⟩
          rw [HNX.out]
          have e1 : flatA (arsOf W H s i ++ [⟨axf, axt, ayf, ayt⟩]) = flatA (arsOf W H s i) ++ Ar.cells ⟨axf, axt, ayf, ayt⟩ := by simp [flatA]
          rw [e1]
          exact hown'
        clear hown' hg' hi0 hz0 hz1 hz2
        go_wp2_with fail
        go_roundw
        case rel => exact ⟨i + 1, by omega, by go_num, HF⟩
        case measure => simp [intOf]; omega
      · obtain rfl : i = s.length := by omega
        have hars : arsOf W H s s.length = s.map (slAr W H) := by unfold arsOf; rw [List.take_length]
        have HARS := Lib.hid hars
        have hlen : (s.map (slAr W H)).length = s.length := by simp
        have HLEN := Lib.hid hlen
        obtain ⟨wA, hwA⟩ : ∃ wA, wr.alloc (.cells #[.slice none 0 0] 66) = wA := ⟨_, rfl⟩
        have HWA : Hid (wA.heap[wr.heap.size]? = some (.cells #[.slice none 0 0] 66 (0, 0)) ∧ Below wr.heap.size wr wA ∧ wA.heap.size = wr.heap.size + 1) := by
          subst hwA
          exact ⟨blk_new wr _ rfl, (Below.refl _ _).alloc (Nat.le_refl _) _, by simp⟩
        have hNP := nearPairs_any A7 k7 (s.map (slAr W H)) (by rw [hlen]; omega) (slAr_arB HO.out) 0 74 #[.pointer (some ⟨wr.heap.size, 0, none⟩)] 75 66 wr.heap.size natP wA
          (enters_of Try.func74 (by kernel_rfl) rfl)
          (by
            intro W' hk
            by_cases h0 : s.length = 0
            · exact .inl (List.length_eq_zero_iff.mp (by rw [HLEN.out]; exact h0))
            · obtain ⟨ga, rfl, hga, _⟩ := HA7.out (by omega)
              refine .inr ⟨ga, rfl, ?_, fun j u hu => ?_⟩
              · have := hk.more; have := HWA.out.2.1.size; omega
              · obtain ⟨g', _, hv, _, _, _, _, hrd⟩ := own_read HS.out.2 (by omega)
                simp only [Value.slice.injEq, Option.some.injEq, Addr.mk.injEq, and_true, true_and] at hv
                obtain ⟨rfl, rfl⟩ := hv
                have h1 := hrd j u (by rw [HARS.out]; exact hu)
                have h2 := (HWA.out.2.1.cell (p := ⟨ga, j, none⟩) hga).trans h1
                exact (hk.cell (p := ⟨ga, j, none⟩) (by have := HWA.out.2.2; simp only; omega) (by simp only; omega)).trans h2)
          (fun dd v i j W' hij hj hdl hk hc => overlap1_any wA wr.heap.size dd v i j W' hij (by rw [HLEN.out] at hj; omega) hdl hk hc)
          (.slice none 0 0) ⟨HWA.out.1, World.ownsRow_nil _ _ _ _, by have := HWA.out.2.2; omega⟩
        rw [hlen, ← hwA] at hNP
        have HNP := Lib.hid hNP
        have HWE := Lib.hid hwA
        clear hNP hwA hars hlen
        go_wp2_with fail
        refine HNP.out.mono ?_
        rw [HWE.out]
        rintro e w3 ⟨rfl, v, hcl, hk⟩
        obtain ⟨A3, k3, rfl, _⟩ := own_form hcl.row
        have c0 := blk_cell0 hcl.var
        have HR := Lib.hid hcl
        have HB3 : Hid (Below w.heap.size w w3) := by
          have hz1 := KQ.out.2.2.1.size
          have hz2 := HS.out.1.size
          exact below_kept ((KQ.out.2.2.1.then_below HS.out.1 hz1).then_below HWA.out.2.1 (by omega)) (by omega) (by have := HWA.out.2.2; omega) hk
        clear hcl hk
        go_wp2_with fail
        go_ret2
        exact ⟨_, rfl, HB3.out, reads_own HR.out.row⟩
end Go.Proofs.Ytiehkcbjfamnkaa
