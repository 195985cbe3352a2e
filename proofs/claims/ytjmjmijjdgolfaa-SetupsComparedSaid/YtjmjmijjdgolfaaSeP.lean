/-
  The next setup: the reference's. And the check that the package counts loads.
-/
import Derived.Test.YtjmjmijjdgolfaaSeO
namespace Go.Proofs.Ytjmjmijjdgolfaa
open Go.RowKit
set_option linter.unusedSimpArgs false
set_option linter.unusedVariables false

/-! ### the check on fixed setups -/
abbrev kA : ByteArray := ⟨#[97]⟩
abbrev kB : ByteArray := ⟨#[98]⟩
theorem em_dS : em ⟨#[]⟩ = true := (em_iff _).mpr rfl
theorem em_A : em kA = false := key_not_em (by decide)
theorem em_B : em kB = false := key_not_em (by decide)
theorem bts {a b : ByteArray} : a = b ↔ bt a = bt b := ⟨fun h => by rw [h], bt_inj⟩
theorem loaded_chk : chkErr [⟨#[]⟩] [[kA], [kB]] = 0 := by
  have h1 : setErr [⟨#[]⟩] = 0 := by simp [setErr, seErr, em_dS]
  have h2 : keyB kA = true := by decide
  have h3 : keyB kB = true := by decide
  unfold chkErr
  rw [if_pos h1]
  simp [partsErr, psErr, paErr, inR, h2, h3]
theorem loaded_total : totalOf [⟨#[]⟩] [[kA], [kB]] = 2 := by
  have n1 : ¬ kA = dS := by rw [bts]; decide
  have n2 : ¬ kB = kA := by rw [bts]; decide
  have n3 : ¬ dS = kA := by rw [bts]; decide
  have n4 : ¬ kA = kB := by rw [bts]; decide
  have m1 : missOf [dS] [kA] = [kA] := by simp [missOf, has_false, n1]
  have m2 : missOf [kA] [kB] = [kB] := by simp [missOf, has_false, n2]
  have x1 : nextOf [dS] [kA] [[kB]] = [kA] := by
    unfold nextOf
    rw [m1]
    have : em dS = true := em_dS
    simp [nextGo, pickB, stepB, cand, nth, this]
  have x2 : nextOf [kA] [kB] [] = [kB] := by
    unfold nextOf
    rw [m2]
    have : has [kB] kA = false := has_false.mpr (by simp [n4])
    simp [nextGo, pickB, stepB, cand, nth, this]
  have l1 : loadsOf [dS] [kA] = 1 := by
    have e : chgOf [dS] [kA] = [(0, dS, kA)] := by
      unfold chgOf
      rw [show ([dS] : List ByteArray).length = 0 + 1 from rfl, chgK_next (by simpa [nth] using n3)]
      rfl
    unfold loadsOf ldsOf
    rw [e]
    simp [em_A]
  have l2 : loadsOf [kA] [kB] = 1 := by
    have e : chgOf [kA] [kB] = [(0, kA, kB)] := by
      unfold chgOf
      rw [show ([kA] : List ByteArray).length = 0 + 1 from rfl, chgK_next (by simp [nth])]
      rfl
    unfold loadsOf ldsOf
    rw [e]
    simp [em_B]
  show sumOf [dS] (setupsOf [dS] [[kA], [kB]]) = 2
  rw [setupsOf, x1, setupsOf, x2, setupsOf, sumOf, sumOf, sumOf, l1, l2]

set_option maxHeartbeats 1000000 in
theorem loaded_any (w : World) : Calls Try.prog 41 #[] w fun e w' => e = .returned (.bool true) ∧ Below w.heap.size w w' := by
  go_enter Try.func41, Try.ntmps41
  go_wp2_with fail
  have bw1 : Below w.heap.size w ((((w.alloc (Obj.cells #[.string ⟨#[]⟩] 9)).alloc (Obj.cells #[.string kA] 9)).alloc (Obj.cells #[.string kB] 9)).alloc (Obj.cells #[.slice (some ⟨w.heap.size + 1, 0, none⟩) 1 1, .slice (some ⟨w.heap.size + 1 + 1, 0, none⟩) 1 1] 51)) := (((((Below.refl _ _).alloc (Nat.le_refl _) _).alloc (by simp) _).alloc (by simp; omega) _).alloc (by simp; omega) _)
  have kS : ((((w.alloc (Obj.cells #[.string ⟨#[]⟩] 9)).alloc (Obj.cells #[.string kA] 9)).alloc (Obj.cells #[.string kB] 9)).alloc (Obj.cells #[.slice (some ⟨w.heap.size + 1, 0, none⟩) 1 1, .slice (some ⟨w.heap.size + 1 + 1, 0, none⟩) 1 1] 51)).heap[w.heap.size]? = some (.cells #[.string ⟨#[]⟩] 9 (0, 0)) := (blk_alloc (blk_alloc (blk_alloc (blk_new w _ rfl) _) _) _)
  have kX : ((((w.alloc (Obj.cells #[.string ⟨#[]⟩] 9)).alloc (Obj.cells #[.string kA] 9)).alloc (Obj.cells #[.string kB] 9)).alloc (Obj.cells #[.slice (some ⟨w.heap.size + 1, 0, none⟩) 1 1, .slice (some ⟨w.heap.size + 1 + 1, 0, none⟩) 1 1] 51)).heap[w.heap.size + 1]? = some (.cells #[.string kA] 9 (0, 0)) := (blk_alloc (blk_alloc (blk_new _ _ (by simp)) _) _)
  have kY : ((((w.alloc (Obj.cells #[.string ⟨#[]⟩] 9)).alloc (Obj.cells #[.string kA] 9)).alloc (Obj.cells #[.string kB] 9)).alloc (Obj.cells #[.slice (some ⟨w.heap.size + 1, 0, none⟩) 1 1, .slice (some ⟨w.heap.size + 1 + 1, 0, none⟩) 1 1] 51)).heap[w.heap.size + 1 + 1]? = some (.cells #[.string kB] 9 (0, 0)) := (blk_alloc (blk_new _ _ (by simp)) _)
  have kP : ((((w.alloc (Obj.cells #[.string ⟨#[]⟩] 9)).alloc (Obj.cells #[.string kA] 9)).alloc (Obj.cells #[.string kB] 9)).alloc (Obj.cells #[.slice (some ⟨w.heap.size + 1, 0, none⟩) 1 1, .slice (some ⟨w.heap.size + 1 + 1, 0, none⟩) 1 1] 51)).heap[w.heap.size + 1 + 1 + 1]? = some (.cells #[.slice (some ⟨w.heap.size + 1, 0, none⟩) 1 1, .slice (some ⟨w.heap.size + 1 + 1, 0, none⟩) 1 1] 51 (0, 0)) := (blk_new _ _ (by simp))
  generalize ((((w.alloc (Obj.cells #[.string ⟨#[]⟩] 9)).alloc (Obj.cells #[.string kA] 9)).alloc (Obj.cells #[.string kB] 9)).alloc (Obj.cells #[.slice (some ⟨w.heap.size + 1, 0, none⟩) 1 1, .slice (some ⟨w.heap.size + 1 + 1, 0, none⟩) 1 1] 51)) = w1 at *
  have r1 : ReadsF 0 encS (.slice (some ⟨w.heap.size, 0, none⟩) 1 1) [⟨#[]⟩] w1 := readsF_lit (l := [⟨#[]⟩]) rfl (Nat.le_refl _) kS (Nat.zero_le _)
  have r2 : ReadsF 0 encS (.slice (some ⟨w.heap.size + 1, 0, none⟩) 1 1) [kA] w1 := readsF_lit (l := [kA]) rfl (Nat.le_refl _) kX (Nat.zero_le _)
  have r3 : ReadsF 0 encS (.slice (some ⟨w.heap.size + 1 + 1, 0, none⟩) 1 1) [kB] w1 := readsF_lit (l := [kB]) rfl (Nat.le_refl _) kY (Nat.zero_le _)
  have r4 : ListsF 0 (.slice (some ⟨w.heap.size + 1 + 1 + 1, 0, none⟩) 2 2) [[kA], [kB]] w1 := by
    refine ⟨_, 2, rfl, Nat.le_refl _, .inr ⟨_, 0, rfl, Nat.zero_le _, lt_of_blk kP, fun j hj => ?_⟩⟩
    obtain ⟨c0, c1, _, _⟩ := blk2 kP
    match j, hj with
    | 0, _ => exact ⟨_, c0, r2⟩
    | 1, _ => exact ⟨_, c1, r3⟩
  have CT := Lib.hid (total_any (by simp) (by simp) (by simp) r1 r4)
  rw [loaded_chk, loaded_total] at CT
  have HB := Lib.hid bw1
  clear r1 r2 r3 r4 kS kX kY kP bw1
  refine CT.out.mono ?_
  rintro e w2 ⟨rfl, hb⟩
  have HB2 := Lib.hid (HB.out.then_below hb HB.out.size)
  clear hb
  have e1 : okN 0 2 = 2 := rfl
  rw [e1]
  go_wp2_with fail
  go_ret
  exact ⟨rfl, HB2.out⟩

/-! ### the reference, part by part -/
def stepN (parts : List ByteArray) (later : List (List ByteArray)) (out : List ByteArray) (x : ByteArray) : List ByteArray := match pickB parts later out out.length with | some i => out.set i x | none => out
def outK (parts : List ByteArray) (later : List (List ByteArray)) (s : List ByteArray) (xs : List ByteArray) : Nat → List ByteArray
  | 0 => s
  | k + 1 => stepN parts later (outK parts later s xs k) (nth xs k)
theorem outK_cons (parts : List ByteArray) (later : List (List ByteArray)) (s : List ByteArray) (x : ByteArray) (xs : List ByteArray) : ∀ k, outK parts later s (x :: xs) (k + 1) = outK parts later (stepN parts later s x) xs k := by
  intro k
  induction k with
  | zero => rfl
  | succ k ih => rw [outK, ih]; rfl
theorem nextGo_K (parts : List ByteArray) (later : List (List ByteArray)) (xs : List ByteArray) : ∀ s, nextGo parts later s xs = outK parts later s xs xs.length := by
  induction xs with
  | nil => intro s; rfl
  | cons x xs ih => intro s; rw [nextGo, ih, List.length_cons, outK_cons]; rfl
theorem stepN_length (parts : List ByteArray) (later : List (List ByteArray)) (out : List ByteArray) (x : ByteArray) : (stepN parts later out x).length = out.length := by
  unfold stepN
  split <;> simp
theorem outK_length (parts : List ByteArray) (later : List (List ByteArray)) (s : List ByteArray) (xs : List ByteArray) : ∀ k, (outK parts later s xs k).length = s.length := by
  intro k
  induction k with
  | zero => rfl
  | succ k ih => rw [outK, stepN_length, ih]
theorem outK_inv {parts : List ByteArray} {later : List (List ByteArray)} {s xs : List ByteArray} (hs : SetOk s) (hn : xs.Nodup) (hx : ∀ x ∈ xs, keyB x = true ∧ x ∉ s) :
    ∀ k, k ≤ xs.length → SetOk (outK parts later s xs k) ∧ ∀ j (h : j < xs.length), k ≤ j → xs[j] ∉ outK parts later s xs k := by
  intro k
  induction k with
  | zero => intro _; exact ⟨hs, fun j h _ => (hx _ (List.getElem_mem h)).2⟩
  | succ k ih =>
    intro hk
    obtain ⟨h1, h2⟩ := ih (by omega)
    have hlt : k < xs.length := by omega
    have e : nth xs k = xs[k] := nth_at hlt
    refine ⟨?_, fun j hj hkj hc => ?_⟩
    · have := nextGo_ok (parts := parts) (later := later) [nth xs k] _ h1 (by simp) (fun y hy => by
        simp only [List.mem_singleton] at hy
        subst hy
        rw [e]
        exact ⟨(hx _ (List.getElem_mem hlt)).1, h2 k hlt (Nat.le_refl _)⟩)
      exact this
    · rw [outK] at hc
      unfold stepN at hc
      have hmem : xs[j] = nth xs k ∨ xs[j] ∈ outK parts later s xs k := by
        split at hc
        · rcases List.mem_or_eq_of_mem_set hc with h | h
          · exact .inr h
          · exact .inl h
        · exact .inr hc
      rcases hmem with h | h
      · rw [e] at h
        have := (List.pairwise_iff_getElem.mp hn) k j hlt hj (by omega)
        exact this h.symm
      · exact h2 j hj (by omega) h
theorem pickB_none {parts : List ByteArray} {later : List (List ByteArray)} {out : List ByteArray} : ∀ k, pickB parts later out k = none → ∀ i, i < k → cand parts (nth out i) = false := by
  intro k
  induction k with
  | zero => intro _ i h; omega
  | succ k ih =>
    intro h i hi
    rw [pickB] at h
    unfold stepB at h
    by_cases hc : cand parts (nth out k) = false
    · rw [if_pos hc] at h
      rcases Nat.lt_or_ge i k with h1 | h1
      · exact ih h i h1
      · obtain rfl : i = k := by omega
        exact hc
    · rw [if_neg hc] at h
      cases hb : pickB parts later out k with
      | none => rw [hb] at h; cases h
      | some j =>
        rw [hb] at h
        simp only at h
        split at h
        · cases h
        split at h
        · cases h
        split at h <;> cases h
/-- There is always a slot. -/
theorem pickB_some {parts : List ByteArray} {later : List (List ByteArray)} {out : List ByteArray} {x : ByteArray} (ho : SetOk out) (hp : parts.length ≤ out.length) (hx : x ∈ parts) (hxo : x ∉ out) : ∃ i, pickB parts later out out.length = some i ∧ i < out.length := by
  cases h : pickB parts later out out.length with
  | some i => exact ⟨i, rfl, (pickB_lt _ _ _ _ _ h).1⟩
  | none =>
    exfalso
    have hc := pickB_none _ h
    have hin : ∀ y ∈ out, y ∈ parts ∧ em y = false := fun y hy => by
      obtain ⟨i, hi, rfl⟩ := List.getElem_of_mem hy
      have := hc i hi
      rw [nth_at hi] at this
      unfold cand at this
      simp only [Bool.not_eq_eq_eq_not, Bool.not_false, Bool.and_eq_true, Bool.not_true] at this
      exact ⟨has_iff.mp this.1, this.2⟩
    have hnd : (x :: out).Nodup := by
      rw [List.nodup_cons]
      refine ⟨hxo, ?_⟩
      refine ho.2.2.2.imp_of_mem ?_
      intro a b ha _ h
      exact h (hin a ha).2
    have := nodup_sub (x :: out) parts hnd (fun y hy => by
      rcases List.mem_cons.mp hy with rfl | hy
      · exact hx
      · exact (hin y hy).1)
    simp at this
    omega
end Go.Proofs.Ytjmjmijjdgolfaa
