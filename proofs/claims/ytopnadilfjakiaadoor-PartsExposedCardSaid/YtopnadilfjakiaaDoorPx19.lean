/-
  Plain words for the law PartsExposed: what the program tells and what the reference tells is one.
-/
import Derived.Test.YtopnadilfjakiaaDoorPx9
import Derived.Test.YtopnadilfjakiaaDoorPx11
import Derived.Test.YtopnadilfjakiaaDoorPx13
import Derived.Test.YtopnadilfjakiaaDoorPx15
import Derived.Test.YtopnadilfjakiaaDoorPx18
namespace Go.Proofs.YtopnadilfjakiaaDoor
open Go.RowKit

theorem one_eq (key pk : ByteArray) (lv bk : Int) (l : List Sy) (t : Int) : errsL [lyE key pk lv bk l, spanE t 0 345686399999] = exE key pk lv bk l t := by
  unfold exE
  simp only [errsL]
  by_cases h : lyE key pk lv bk l = 0
  · rw [if_pos h, if_pos h]
    split
    · rename_i h2; exact h2.symm
    · rfl
  · rw [if_neg h, if_neg h]
theorem two_eq (key pk : ByteArray) (lv bk : Int) (l : List Sy) (a b : Int) : errsL [lyE key pk lv bk l, spanE a 0 b, spanE b 0 345686399999] = usE key pk lv bk l a b := by
  unfold usE
  simp only [errsL]
  by_cases h : lyE key pk lv bk l = 0
  · rw [if_pos h, if_pos h]
    unfold spanE
    cases inR a 0 b <;> cases inR b 0 345686399999 <;> rfl
  · rw [if_neg h, if_neg h]
theorem exV_ok {key pk : ByteArray} {lv bk : Int} {l : List Sy} {t : Int} (h : exE key pk lv bk l t = 0) : exV key pk lv bk l t = expo lv bk t 0 l := by
  obtain ⟨h0, h1⟩ := exE_ok h
  obtain ⟨_, _, hb0, _, hg, _⟩ := lyE_ok h0
  unfold exV
  rw [if_pos h]
  exact exposed_eq hb0 (by simp [inR] at h1; unfold finT; omega) l hg
theorem lfV_ok {key pk : ByteArray} {lv bk : Int} {l : List Sy} {t : Int} (h : exE key pk lv bk l t = 0) : lfV key pk lv bk l t = (if limB lv = true then max (lifeV lv - expo lv bk t 0 l) 0 else 0) ∧ lfB key pk lv bk l t = limB lv := by
  unfold lfV lfB
  rw [exV_ok h]
  simp [h]
theorem exN {key pk : ByteArray} {lv bk : Int} {l : List Sy} {t : Int} (h : ¬ exE key pk lv bk l t = 0) : exV key pk lv bk l t = 0 ∧ lfV key pk lv bk l t = 0 ∧ lfB key pk lv bk l t = false := by
  unfold exV lfV lfB
  simp [h]
theorem usE_ok {key pk : ByteArray} {lv bk : Int} {l : List Sy} {a b : Int} (h : usE key pk lv bk l a b = 0) : lyE key pk lv bk l = 0 ∧ 0 ≤ a ∧ a ≤ b ∧ b ≤ 345686399999 := by
  unfold usE at h
  by_cases h0 : lyE key pk lv bk l = 0
  · rw [if_pos h0] at h
    refine ⟨h0, ?_⟩
    split at h
    · rename_i h1
      simp [inR] at h1
      omega
    · omega
  · rw [if_neg h0] at h; exact absurd h h0
theorem usV_ok {key pk : ByteArray} {lv bk : Int} {l : List Sy} {a b : Int} (h : usE key pk lv bk l a b = 0) : usV key pk lv bk l a b = (if limB lv = true then !((a :: b :: looks a b l).any fun t => decide (lifeV lv < expo lv bk t 0 l)) else true) := by
  obtain ⟨h0, h1, h2, h3⟩ := usE_ok h
  obtain ⟨_, _, hb0, _, hg, _⟩ := lyE_ok h0
  unfold usV
  rw [if_pos h, usable_eq hb0 (lifeV_nn lv).1 h2 (by unfold finT; omega) l hg]
theorem usN {key pk : ByteArray} {lv bk : Int} {l : List Sy} {a b : Int} (h : ¬ usE key pk lv bk l a b = 0) : usV key pk lv bk l a b = false := by
  unfold usV
  rw [if_neg h]
theorem epO_ok {key pk : ByteArray} {lv bk : Int} {l : List Sy} (h : lyE key pk lv bk l = 0) : epO key pk lv bk l = exO lv bk l := by
  obtain ⟨_, _, hb0, _, hg, _⟩ := lyE_ok h
  unfold epO exO
  rw [expires_eq hb0 (lifeV_nn lv).1 l hg]
  simp [h]
theorem epN {key pk : ByteArray} {lv bk : Int} {l : List Sy} (h : ¬ lyE key pk lv bk l = 0) : epO key pk lv bk l = none := by
  unfold epO
  rw [if_neg fun q => h q.1]

def lifE (lv : Int) : Int := if inR lv 1 6 = true then lifeV lv else 0
def limE (lv : Int) : Bool := inR lv 1 6 && limB lv
theorem life_any (lv : Int) (w : World) : Calls Tryd.prog 11 #[.int .i64 lv] w fun e w' => e = .returned (.tuple #[.int .i64 (lifE lv), .bool (limE lv), .int .i64 (spanE lv 1 6)]) ∧ w = w' := by
  unfold lifE limE spanE
  cases h : inR lv 1 6
  · exact life_bad lv h w
  · exact life_ok lv h w

theorem kept_below {w w' : World} {o : Obj} (hk : Kept w.heap.size (w.alloc o) w') : Below w.heap.size w w' := by
  have h0 : Below w.heap.size w (w.alloc o) := (Below.refl _ _).alloc (Nat.le_refl _) _
  exact {
    size := Nat.le_trans h0.size hk.more
    block := fun i hi => (hk.old i (by simp; omega) (by omega)).trans (h0.block i hi)
    os := hk.outer.1.trans h0.os
    tape := hk.outer.2.1.trans h0.tape
    output := hk.outer.2.2.trans h0.output }

/-- What stands behind the makers. -/
def LwM (w : World) (g4 gW : Nat) (key pk : ByteArray) (lv bk : Int) (A : Option Addr) (l : List Sy) (a b : Int) (W : World) : Prop :=
  Below w.heap.size w W ∧ PartB W g4 key pk lv bk ∧ W.heap[gW]? = some (.cells #[.int .i64 a, .int .i64 b] 34 (0, 0)) ∧ SyAt W A l
theorem LwM.below {w : World} {g4 gW : Nat} {key pk : ByteArray} {lv bk : Int} {A : Option Addr} {l : List Sy} {a b : Int} {W W' : World} (h : LwM w g4 gW key pk lv bk A l a b W) (hb : Below W.heap.size W W') : LwM w g4 gW key pk lv bk A l a b W' :=
  ⟨h.1.then_below hb h.1.size, blk_below hb h.2.1, blk_below hb h.2.2.1, h.2.2.2.below hb⟩
end Go.Proofs.YtopnadilfjakiaaDoor
