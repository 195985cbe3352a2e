/-
  The walks of Crowded and Beyond, whole.
-/
import Derived.Test.YtopnadilfjakiaaCrowd
import Derived.Test.YtopnadilfjakiaaCrowdM
namespace Go.Proofs.Ytopnadilfjakiaa
open Go.RowKit

theorem below_kept {B vb : Nat} {w w0 w' : World} (hb : Below B w w0) (hv : B ≤ vb) (hB : B ≤ w0.heap.size) (hk : Kept vb w0 w') : Below B w w' := by
  obtain ⟨x, y, z⟩ := hk.outer
  exact ⟨x.trans hb.os, y.trans hb.tape, z.trans hb.output, Nat.le_trans hb.size hk.more, fun k hk' => (hk.old k (by omega) (by omega)).trans (hb.block k hk')⟩

/-- What is known where there is no error. -/
structure DistOk (key : ByteArray) (W H : Int) (l : List Pl) (b : List Bo) (gap : Int) : Prop where
  w : 1 ≤ W ∧ W ≤ 500000
  h : 1 ≤ H ∧ H ≤ 500000
  len : l.length ≤ 1000
  pl : ∀ p ∈ l, (0 ≤ p.x ∧ p.x ≤ 500000) ∧ (0 ≤ p.y ∧ p.y ≤ 500000) ∧ 0 ≤ p.q ∧ p.q ≤ 3
  blen : b.length ≤ 500
  bo : ∀ o ∈ b, (1 ≤ o.w ∧ o.w ≤ 500000) ∧ (1 ≤ o.h ∧ o.h ≤ 500000)
  rise : Rising Bo.part b
  gap : 0 ≤ gap ∧ gap ≤ 500000
theorem dist_ok {key : ByteArray} {W H : Int} {l : List Pl} {b : List Bo} {gap : Int} (h : distErr key W H l b gap = 0) : DistOk key W H l b gap := by
  unfold distErr at h
  by_cases h1 : prodErr key W H l = 0
  · rw [if_pos h1] at h
    by_cases h2 : bodiesErr b = 0
    · rw [if_pos h2] at h
      obtain ⟨_, a1, a2, a3, a4, _⟩ := prodErr_ok h1
      obtain ⟨b1, b2, b3⟩ := bodiesErr_ok h2
      refine ⟨a1, a2, a3, fun p hp => ?_, b1, fun o ho => ?_, b3, ?_⟩
      · have := a4 p hp
        simp [plOk, inR] at this
        omega
      · have := b2 o ho
        simp [boOk, inR] at this
        omega
      · unfold gapErr at h
        split at h
        · rename_i h3; simp [inR] at h3; exact h3
        · cases h
    · rw [if_neg h2] at h; exact absurd h h2
  · rw [if_neg h1] at h; exact absurd h h1

theorem arB_areas {key : ByteArray} {W H : Int} {l : List Pl} {b : List Bo} {gap : Int} (hd : DistOk key W H l b gap) : ∀ a ∈ areasOf b l, arB a := by
  intro a ha
  unfold areasOf at ha
  rw [List.mem_map] at ha
  obtain ⟨⟨n, a'⟩, hm, rfl⟩ := ha
  rw [List.mem_filterMap] at hm
  obtain ⟨p, hp, he⟩ := hm
  unfold nameBox boxOf at he
  cases ho : boOf b p.part with
  | none => simp [ho] at he
  | some o =>
    simp [ho] at he
    obtain ⟨_, rfl⟩ := he
    have hom : o ∈ b := List.mem_of_find?_eq_some ho
    obtain ⟨⟨w0, w1⟩, h0, h1⟩ := hd.bo o hom
    obtain ⟨⟨x0, x1⟩, ⟨y0, y1⟩, q0, q1⟩ := hd.pl p hp
    have e1 : turnW o.w o.h p.q = o.w ∨ turnW o.w o.h p.q = o.h := by unfold turnW; split <;> simp
    have e2 : turnH o.w o.h p.q = o.w ∨ turnH o.w o.h p.q = o.h := by unfold turnH; split <;> simp
    unfold arB arOf
    simp only
    omega

theorem names_len (b : List Bo) (l : List Pl) : (namesOf b l).length = (areasOf b l).length := by unfold namesOf areasOf; simp
theorem areas_len (b : List Bo) (l : List Pl) : (areasOf b l).length ≤ l.length := by unfold areasOf; rw [List.length_map]; exact List.length_filterMap_le _ _

end Go.Proofs.Ytopnadilfjakiaa
