/-
  The walks of Crowded and Beyond, whole.
-/
import Derived.Test.YtiehkcbjfamnkaaCrowd
import Derived.Test.YtiehkcbjfamnkaaCrowdM
namespace Go.Proofs.Ytiehkcbjfamnkaa
open Go.RowKit

theorem below_kept {B vb : Nat} {w w0 w' : World} (hb : Below B w w0) (hv : B ≤ vb) (hB : B ≤ w0.heap.size) (hk : Kept vb w0 w') : Below B w w' := by
  obtain ⟨x, y, z⟩ := hk.outer
  exact ⟨x.trans hb.os, y.trans hb.tape, z.trans hb.output, Nat.le_trans hb.size hk.more, fun k hk' => (hk.old k (by omega) (by omega)).trans (hb.block k hk')⟩

/-- What is known where there is no error. -/
structure DistOk (key : ByteArray) (W H : Int) (l : List Pl) (b : List Bo) (gap : Int) : Prop where
  w : 1 ≤ W ∧ W ≤ 500000
  h : 1 ≤ H ∧ H ≤ 500000
  len : l.length ≤ 1000
  pl : ∀ p ∈ l, (0 ≤ p.x ∧ p.x ≤ 500000) ∧ (0 ≤ p.y ∧ p.y ≤ 500000) ∧ 0 ≤ p.q ∧ p.q ≤ 3
  blen : b.length ≤ 500
  bo : ∀ o ∈ b, (1 ≤ o.w ∧ o.w ≤ 500000) ∧ (1 ≤ o.h ∧ o.h ≤ 500000)
  rise : Rising Bo.part b
  gap : 0 ≤ gap ∧ gap ≤ 500000
theorem dist_ok {key : ByteArray} {W H : Int} {l : List Pl} {b : List Bo} {gap : Int} (h : distErr key W H l b gap = 0) : DistOk key W H l b gap := by
  unfold distErr at h
  by_cases h1 : prodErr key W H l = 0
  · rw [if_pos h1] at h
    by_cases h2 : bodiesErr b = 0
    · rw [if_pos h2] at h
      obtain ⟨_, a1, a2, a3, a4, _⟩ := prodErr_ok h1
      obtain ⟨b1, b2, b3⟩ := bodiesErr_ok h2
      refine ⟨a1, a2, a3, fun p hp => ?_, b1, fun o ho => ?_, b3, ?_⟩
      · have := a4 p hp
        simp [plOk, inR] at this
        omega
      · have := b2 o ho
        simp [boOk, inR] at this
        omega
      · unfold gapErr at h
        split at h
        · rename_i h3; simp [inR] at h3; exact h3
        · cases h
    · rw [if_neg h2] at h; exact absurd h h2
  · rw [if_neg h1] at h; exact absurd h h1

theorem arB_areas {key : ByteArray} {W H : Int} {l : List Pl} {b : List Bo} {gap : Int} (hd : DistOk key W H l b gap) : ∀ a ∈ areasOf b l, arB a := by
  intro a ha
  unfold areasOf at ha
  rw [List.mem_map] at ha
  obtain ⟨⟨n, a'⟩, hm, rfl⟩ := ha
  rw [List.mem_filterMap] at hm
  obtain ⟨p, hp, he⟩ := hm
  unfold nameBox boxOf at he
  cases ho : boOf b p.part with
  | none => simp [ho] at he
  | some o =>
    simp [ho] at he
    obtain ⟨_, rfl⟩ := he
    have hom : o ∈ b := List.mem_of_find?_eq_some ho
    obtain ⟨⟨w0, w1⟩, h0, h1⟩ := hd.bo o hom
    obtain ⟨⟨x0, x1⟩, ⟨y0, y1⟩, q0, q1⟩ := hd.pl p hp
    have e1 : turnW o.w o.h p.q = o.w ∨ turnW o.w o.h p.q = o.h := by unfold turnW; split <;> simp
    have e2 : turnH o.w o.h p.q = o.w ∨ turnH o.w o.h p.q = o.h := by unfold turnH; split <;> simp
    unfold arB arOf
    simp only
    omega

theorem names_len (b : List Bo) (l : List Pl) : (namesOf b l).length = (areasOf b l).length := by unfold namesOf areasOf; simp
theorem areas_len (b : List Bo) (l : List Pl) : (areasOf b l).length ≤ l.length := by unfold areasOf; rw [List.length_map]; exact List.length_filterMap_le _ _

set_option maxRecDepth 100000 in
set_option maxHeartbeats 4000000 in
theorem crowded_ok (key : ByteArray) (W H : Int) (A : Option Addr) (c : Nat) (l : List Pl) (B : Option Addr) (d : Nat) (b : List Bo) (gap : Int) (w : World) (hA : PlAt w A l) (hB : BoAt w B b) (hE : distErr key W H l b gap = 0) :
    Calls Try.prog 38 #[prod key W H A l.length c, .slice B b.length d, .int .i64 gap] w fun e w' => ∃ v, e = .returned (.tuple #[v, .int .i64 0]) ∧ Below w.heap.size w w' ∧
      w'.ownsRow w.heap.size 92 2 v (crowdP b (2 * gap) l).length ((crowdP b (2 * gap) l).flatMap pairOf) := by
  have hd := dist_ok hE
  have hlen := hd.len
  have hblen := hd.blen
  obtain ⟨hg0, hg1⟩ := hd.gap
  have CD := Lib.hid (fun W' (h1 : PlAt W' A l) (h2 : BoAt W' B b) => checkDistance_any key W H A c l (by omega) B d b (by omega) gap W' h1 h2)
  have CA := Lib.hid (fun W' (h1 : PlAt W' A l) (h2 : BoAt W' B b) => bodyAreas_any key W H A c l hlen (fun p hp => ⟨(hd.pl p hp).1, (hd.pl p hp).2.1, (hd.pl p hp).2.2.1⟩) B d b (by omega) hd.bo hd.rise W' h1 h2)
  have HD := Lib.hid hd
  rw [hE] at CD
  clear hE hd
  go_enter Try.func38, Try.ntmps38
  go_wp2_with fail
  refine (CD.out _ (hA.below ((Below.refl _ _).alloc (Nat.le_refl _) _)) (hB.below ((Below.refl _ _).alloc (Nat.le_refl _) _))).mono ?_
  rintro e w1 ⟨rfl, hb1⟩
  have hB1 : Below w.heap.size w w1 := ((Below.refl _ _).alloc (Nat.le_refl _) _).then_below hb1
  obtain ⟨c0, c1, c2, c3⟩ := blk4 (blk_below hb1 (blk_new w _ rfl))
  have hs1 := hb1.size
  have hlt1 : w.heap.size < w1.heap.size := by simp at hs1; omega
  have HB1 := Lib.hid hB1
  clear hb1 hB1 hs1
  go_wp2_with fail
  refine (CA.out _ (hA.below HB1.out) (hB.below HB1.out)).mono ?_
  rintro e w2 ⟨v1, v2, rfl, hb2, o1, o2⟩
  have hs2 := hb2.size
  have hBW : Below w.heap.size w w2 := HB1.out.then_below hb2 HB1.out.size
  obtain ⟨A1, k1, rfl, hA1⟩ := own_form o1
  obtain ⟨A2, k2, rfl, hA2⟩ := own_form o2
  have HO := Lib.hid (And.intro o1 (And.intro o2 (And.intro hBW (And.intro hA1 hA2))))
  have hnl := names_len b l
  have hal : (areasOf b l).length ≤ 1000 := Nat.le_trans (areas_len b l) hlen
  have HNL := Lib.hid hnl
  clear o1 o2 hb2 hBW hA1 hA2 c0 c1 c2 c3 hnl
  obtain ⟨wA, hwA⟩ : ∃ wA, (w2.alloc (.cells #[.slice A1 (namesOf b l).length k1] 83)).alloc (.cells #[.slice none 0 0] 80) = wA := ⟨_, rfl⟩
  have HWA : Hid (wA.heap[w2.heap.size]? = some (.cells #[.slice A1 (namesOf b l).length k1] 83 (0, 0)) ∧ wA.heap[w2.heap.size + 1]? = some (.cells #[.slice none 0 0] 80 (0, 0)) ∧ Below w2.heap.size w2 wA ∧ wA.heap.size = w2.heap.size + 2) := by
    subst hwA
    exact ⟨blk_alloc (blk_new w2 _ rfl) _, blk_new _ _ (by simp), ((Below.refl _ _).alloc (Nat.le_refl _) _).alloc (by simp) _, by simp⟩
  have hNP := nearPairs_any A2 k2 (areasOf b l) hal (arB_areas HD.out) (2 * gap) 80 #[.pointer (some ⟨w2.heap.size + 1, 0, none⟩), .pointer (some ⟨w2.heap.size, 0, none⟩)] 92 80 (w2.heap.size + 1) (encN (namesOf b l)) wA
    (enters_of Try.func80 (by kernel_rfl) rfl)
    (by
      intro W' hk
      by_cases h0 : (areasOf b l).length = 0
      · exact .inl (List.length_eq_zero_iff.mp h0)
      · obtain ⟨ga, rfl, hga, _⟩ := HO.out.2.2.2.2 (by omega)
        refine .inr ⟨ga, rfl, ?_, fun j u hu => ?_⟩
        · have := hk.more; have := HWA.out.2.2.1.size; omega
        · obtain ⟨g', _, hv, _, _, _, _, hrd⟩ := own_read HO.out.2.1 (by omega)
          simp only [Value.slice.injEq, Option.some.injEq, Addr.mk.injEq, and_true, true_and] at hv
          obtain ⟨rfl, rfl⟩ := hv
          have h1 := hrd j u hu
          have h2 := (HWA.out.2.2.1.cell (p := ⟨ga, j, none⟩) hga).trans h1
          exact (hk.cell (p := ⟨ga, j, none⟩) (by have := HWA.out.2.2.2; simp only; omega) (by simp only; omega)).trans h2)
    (by
      intro dd v i j W' hij hj hdl hk hc
      have hnp : 0 < (namesOf b l).length := by rw [HNL.out]; omega
      obtain ⟨gn, rfl, hgn, _⟩ := HO.out.2.2.2.1 hnp
      refine crowd1_any (namesOf b l) (by rw [HNL.out]; exact hal) wA w2.heap.size (w2.heap.size + 1) gn k1 (by omega) (by omega) HWA.out.1 ⟨?_, fun j u hu => ?_⟩ dd v i j W' hij (by rw [HNL.out]; exact hj) hdl hk hc
      · have := HWA.out.2.2.1.size; omega
      · obtain ⟨g', _, hv, _, _, _, _, hrd⟩ := own_read HO.out.1 hnp
        simp only [Value.slice.injEq, Option.some.injEq, Addr.mk.injEq, and_true, true_and] at hv
        obtain ⟨rfl, rfl⟩ := hv
        exact (HWA.out.2.2.1.cell (p := ⟨gn, j, none⟩) hgn).trans (hrd j u hu))
    (.slice none 0 0) ⟨HWA.out.2.1, World.ownsRow_nil _ _ _ _, by have := HWA.out.2.2.2; omega⟩
  rw [← hwA] at hNP
  have HNP := Lib.hid hNP
  have HWE := Lib.hid hwA
  clear hNP hwA
  go_wp2_with fail
  refine HNP.out.mono ?_
  rw [HWE.out]
  rintro e w3 ⟨rfl, v, hcl, hk⟩
  obtain ⟨A3, k3, rfl, _⟩ := own_form hcl.row
  have c0 := blk_cell0 hcl.var
  have HR := Lib.hid (And.intro hcl hk)
  have HLEN : Hid ((crowdP b (2 * gap) l).length = (nearIdx (2 * gap) (areasOf b l) (areasOf b l).length).length ∧ (crowdP b (2 * gap) l).flatMap pairOf = (nearIdx (2 * gap) (areasOf b l) (areasOf b l).length).flatMap (encN (namesOf b l))) := by
    rw [crowdP_idx b (2 * gap) l dS]
    exact ⟨by simp, by rw [List.flatMap_map]; rfl⟩
  have HB3 : Hid (Below w.heap.size w w3) := below_kept (HO.out.2.2.1.then_below HWA.out.2.2.1 HO.out.2.2.1.size) (by have := HO.out.2.2.1.size; omega) (by have := HO.out.2.2.1.size; have := HWA.out.2.2.2; omega) hk
  clear hcl hk
  go_wp2_with fail
  go_ret2
  refine ⟨_, rfl, HB3.out, ?_⟩
  rw [HLEN.out.1, HLEN.out.2]
  exact own_mono HR.out.1.row (by have := HO.out.2.2.1.size; have := HWA.out.2.2.2; omega)
end Go.Proofs.Ytiehkcbjfamnkaa
