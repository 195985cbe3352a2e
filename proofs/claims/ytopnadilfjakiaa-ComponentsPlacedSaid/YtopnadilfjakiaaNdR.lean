/-
  The walk of the reference's NeedsOf.
-/
import Derived.Test.YtopnadilfjakiaaSortN
import Derived.Test.YtopnadilfjakiaaNdM
import Derived.Maps.OwnOps
import Derived.Maps.RangeWalk
import Derived.Carry
namespace Go.Proofs.Ytopnadilfjakiaa
open Go.RowKit Go.WideMaps Go.Maps

/-- A map that counts the parts of a list. -/
def MapIs (D : DataW Unit) (l : List (List UInt8)) : Prop := IsMap D ∧ ∀ s z, D.atKey (.string s) z = if s ∈ l then .lit (.int .i64 (l.count s : Int)) else z
theorem mapIs_nil : MapIs (.map []) [] := ⟨isMap_empty, fun s z => by simp; rfl⟩
theorem mapIs_count {D : DataW Unit} {l : List (List UInt8)} (h : MapIs D l) {s : List UInt8} {c : Int} (hc : D.atKey (.string s) (.lit (.int .i64 0)) = .lit (.int .i64 c)) : c = (l.count s : Int) := by
  rw [h.2] at hc
  by_cases hm : s ∈ l
  · rw [if_pos hm] at hc; simpa using hc.symm
  · rw [if_neg hm] at hc
    rw [List.count_eq_zero.mpr hm]
    simpa using hc.symm
theorem mapIs_put {D : DataW Unit} {l : List (List UInt8)} (h : MapIs D l) {s : List UInt8} {c : Int} (hc : c = (l.count s : Int)) : MapIs (D.put (.string s) (.lit (.int .i64 (c + 1)))) (l ++ [s]) := by
  refine ⟨h.1.put _ _, fun t z => ?_⟩
  by_cases e : t = s
  · subst e
    rw [atKey_put_same (k := .string t) h.1 trivial, if_pos (by simp), List.count_append, hc]
    simp
  · rw [atKey_put_other (by simpa using e), h.2, List.count_append]
    simp [e, List.count_singleton, Ne.symm e]
theorem mapIs_has {D : DataW Unit} {l : List (List UInt8)} (h : MapIs D l) (s : List UInt8) : has D (.string s) = decide (s ∈ l) := by
  by_cases hm : s ∈ l
  · rw [has_true_of_atKey (y := .lit (.int .i64 (l.count s : Int))) (fun z => by rw [h.2, if_pos hm])]; simp [hm]
  · rw [has_false_of_atKey (fun z => by rw [h.2, if_neg hm])]; simp [hm]

/-- What has come out of the map so far. -/
def OutIs (parts : List (List UInt8)) (left : Lit → Bool) (out : List (List UInt8 × Int)) : Prop :=
  (∀ s, left (.string s) = true → s ∈ parts) ∧ (∀ x ∈ out, x.1 ∈ parts ∧ x.2 = (parts.count x.1 : Int) ∧ left (.string x.1) = false) ∧ (∀ s ∈ parts, left (.string s) = false → ∃ x ∈ out, x.1 = s) ∧ (out.map Prod.fst).Nodup
theorem outIs_start {D : DataW Unit} {parts : List (List UInt8)} (h : MapIs D parts) : OutIs parts (has D) [] :=
  ⟨fun s hs => by rw [mapIs_has h] at hs; simpa using hs, fun x hx => by simp at hx, fun s hs hf => by rw [mapIs_has h] at hf; simp [hs] at hf, by simp⟩
theorem sameKey_str (a b : List UInt8) : (Lit.string a).sameKey (.string b) = decide (a = b) := by
  by_cases h : a = b
  · subst h; rw [WideAt.sameKey_self (a := .string a) trivial]; simp
  · rw [sameKey_ne (by simpa using h)]; simp [h]
theorem outIs_step {parts : List (List UInt8)} {left : Lit → Bool} {out : List (List UInt8 × Int)} (h : OutIs parts left out) {s : List UInt8} {c : Int} (hl : left (.string s) = true) (hc : c = (parts.count s : Int)) :
    OutIs parts (fun z => left z && !z.sameKey (.string s)) (out ++ [(s, c)]) := by
  obtain ⟨h1, h2, h3, h4⟩ := h
  refine ⟨fun t ht => ?_, fun x hx => ?_, fun t ht hf => ?_, ?_⟩
  · simp only [Bool.and_eq_true] at ht
    exact h1 t ht.1
  · rcases List.mem_append.mp hx with hx | hx
    · obtain ⟨a, b, d⟩ := h2 x hx
      exact ⟨a, b, by simp [d]⟩
    · simp only [List.mem_singleton] at hx
      subst hx
      exact ⟨h1 s hl, hc, by simp [sameKey_str]⟩
  · by_cases e : t = s
    · exact ⟨(s, c), by simp, e.symm⟩
    · have : left (.string t) = false := by simpa [sameKey_str, e] using hf
      obtain ⟨x, hx, e⟩ := h3 t ht this
      exact ⟨x, by simp [hx], e⟩
  · rw [List.map_append, List.nodup_append]
    refine ⟨h4, by simp, fun a ha b hb e => ?_⟩
    obtain ⟨x, hx, rfl⟩ := List.mem_map.mp ha
    simp only [List.map_cons, List.map_nil, List.mem_singleton] at hb
    have h5 := (h2 x hx).2.2
    rw [e, hb, hl] at h5
    cases h5
theorem outIs_end {parts : List (List UInt8)} {left : Lit → Bool} {out out' : List (List UInt8 × Int)} (h : OutIs parts left out) (hl : ∀ kl, left kl = false) (hp : out'.Perm out) (hs : out'.Pairwise fun x y => ¬ y.1 < x.1) :
    out' = needsOf (parts.mergeSort fun x y => decide (x ≤ y)) := by
  obtain ⟨h1, h2, h3, h4⟩ := h
  have nd : (out'.map Prod.fst).Nodup := (hp.map Prod.fst).nodup_iff.mpr h4
  refine needs_unique parts out' ?_ fun x => ?_
  · rw [List.Nodup, List.pairwise_map] at nd
    exact (hs.and nd).imp fun ⟨a, b⟩ => le_lt_ne (by simpa using a) b
  · constructor
    · intro hx
      obtain ⟨a, b, _⟩ := h2 x (hp.mem_iff.mp hx)
      exact ⟨a, b⟩
    · rintro ⟨a, b⟩
      obtain ⟨y, hy, e⟩ := h3 x.1 a (hl _)
      have h5 := (h2 y hy).2.1
      have : x = y := Prod.ext e.symm (by rw [b, h5, e])
      rw [this]
      exact hp.mem_iff.mpr hy

theorem lawStr : Keyed Try.prog 9 := string_keyed Try.underlying9
theorem zeroInt (w : World) : (zeroValue 3).run Try.prog w = .ok (.int .i64 0) w := by kernel_rfl
theorem wf_small {c : Int} (h0 : 0 ≤ c) (h1 : c ≤ 1000000) : (Lit.int .i64 c).wf = true := by
  have e1 : IntKind.i64.min = -9223372036854775808 := by decide
  have e2 : IntKind.i64.max = 9223372036854775807 := by decide
  simp only [Lit.wf, e1, e2, Bool.and_eq_true, decide_eq_true_eq]
  omega
theorem key_size {s : ByteArray} (h : keyB s = true) : s.size ≤ maxLen := by
  rcases Nat.eq_zero_or_pos s.size with h0 | h0
  · rw [h0]; exact Nat.zero_le _
  · rw [keyB_some s h0] at h
    simp only [Bool.and_eq_true, decide_eq_true_eq] at h
    unfold maxLen
    omega
theorem plainStr_inv {key : Value} {kl : Lit} (h : keyOf Try.prog 9 key = some kl) : ∃ s : ByteArray, key = .string s ∧ kl = .string s.data.toList := by
  cases key <;> simp [keyOf, Try.underlying9, mapKey] at h
  exact ⟨_, rfl, h.2.symm⟩
end Go.Proofs.Ytopnadilfjakiaa
