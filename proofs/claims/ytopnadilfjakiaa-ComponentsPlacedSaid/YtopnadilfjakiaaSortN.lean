/-
  The sort of needs.
-/
import Derived.Test.YtopnadilfjakiaaSortK
import Derived.Test.YtopnadilfjakiaaShelf2
import Derived.Test.YtopnadilfjakiaaEq3
import Derived.Test.YtopnadilfjakiaaNeeds
namespace Go.Proofs.Ytopnadilfjakiaa
open Go.RowKit Go.Sort Go.Lib

set_option maxHeartbeats 1000000 in
theorem cmpNeed_any (x y : List UInt8 × Int) (W : World) : Calls Try.prog 52 #[.agg (encNd x).toArray, .agg (encNd y).toArray] W fun e w' => e = .returned (.int .i64 (Lib.compareBytes x.1 y.1)) ∧ ∃ q os', w' = grow (W.drewN q) os' := by
  obtain ⟨x, m⟩ := x
  obtain ⟨y, n⟩ := y
  have HC := Lib.hid (fun W' => Try.strings_Compare ⟨x.toArray⟩ ⟨y.toArray⟩ W')
  dsimp only at HC ⊢
  generalize hr : Lib.compareBytes x y = r at *
  show Calls Try.prog 52 #[.agg #[.string ⟨x.toArray⟩, .int .i64 m], .agg #[.string ⟨y.toArray⟩, .int .i64 n]] W _
  go_enter Try.func52, Try.ntmps52
  go_wp2_with fail
  refine (HC.out _).mono ?_
  rintro e w' ⟨he, rfl⟩
  subst he
  go_wp2_with fail
  go_ret
  exact ⟨rfl, 0, _, by rw [alloc_eq_grow, alloc_eq_grow, grow_grow]; rfl⟩

theorem ltNeed (x y : List UInt8 × Int) : ltOf (fun x y : List UInt8 × Int => Lib.compareBytes x.1 y.1) x y = decide (x.1 < y.1) := by
  unfold ltOf
  rw [decide_eq_decide]
  exact cmpB_lt _ _
theorem swoNeed : SWO (ltOf fun x y : List UInt8 × Int => Lib.compareBytes x.1 y.1) := by
  refine ⟨fun x => ?_, fun x y z h1 h2 => ?_, fun x y z h1 h2 => ?_⟩
  · rw [ltNeed]; simp
  · rw [ltNeed] at *; simp only [decide_eq_true_eq] at *; exact List.lt_trans h1 h2
  · rw [ltNeed] at *; simp only [decide_eq_false_iff_not] at *; simpa using List.le_trans (show z.1 ≤ y.1 by simpa using h2) (show y.1 ≤ x.1 by simpa using h1)

theorem sortNeed_any (v : Value) (out : List (List UInt8 × Int)) (B : Nat) (w : World) (hown : w.ownsRow B 60 2 v out.length (out.flatMap encNd)) (hB : B ≤ w.heap.size) (h12 : out.length ≤ 12) (h0 : 0 < out.length) :
    Calls Try.prog 51 #[v, .func (.func 52) #[] #[]] w fun e w' => e = .returned (.tuple #[]) ∧ Below B w w' ∧ ∃ out' : List (List UInt8 × Int), out'.Perm out ∧ (out'.Pairwise fun x y => ¬ y.1 < x.1) ∧ w'.ownsRow B 60 2 v out.length (out'.flatMap encNd) := by
  rcases hown.2 with ⟨rfl, he⟩ | ⟨g, cap, cur, rfl, hb, hc, h1, h2, h3, h4⟩
  · omega
  · have eg : ∀ args w, (callFunc 52 args).run Try.prog w = .ok (.enter 52 args) w := enters_of Try.func52 (by kernel_rfl) rfl
    have hcon := AnyQ.slices_SortFunc_small_sorted Try.sortNeed 2 Try.isAgg60 Try.sizeOf60 encNd (fun _ => rfl) (fun x v hv => by simp [encNd, encStr] at hv; rcases hv with rfl | rfl <;> rfl) (fun x y => Lib.compareBytes x.1 y.1) 52 #[] swoNeed g 0 cap out.toArray w eg
      (fun _ _ _ _ x y => cmpNeed_any x y _) (holdsK_of_block (enc := encNd) (k := 2) (l := out) (fun _ => rfl) hc h4) (lt_of_blk hc) (by simpa using h12) (fun n W h => (Try.bits_Len n W (by omega) (by omega)).mono fun _ _ ⟨he, hw⟩ => ⟨⟨_, he⟩, hw⟩)
    change Calls Try.prog 51 _ _ _ at hcon
    simp only [List.size_toArray] at hcon
    refine hcon.mono ?_
    rintro e w' ⟨rfl, d', n, os, hp, hs, rfl⟩
    have hl : d'.toList.length = out.length := by have := hp.1; simpa using this
    have hpe := permIn_whole (d := out.toArray) (by simpa using hp)
    refine ⟨rfl, (Below.refl B w).grown (grownBy_putId _) hB (by rintro k rfl'; cases rfl'; exact hb), d'.toList, by simpa using hpe, ?_, ?_⟩
    · refine (sortedIn_whole (n := out.length) (by simpa using hl) hs).imp fun h => ?_
      rw [ltNeed] at h
      simpa using h
    · have := ownsRow_sortedK (enc := encNd) (k := 2) (fun _ => rfl) (n := n) (os := os) (l := out) (l' := d'.toList) hl hb hc h1 h2 h3
      rw [show d'.toList.toArray = d' by simp] at this
      exact this
end Go.Proofs.Ytopnadilfjakiaa
