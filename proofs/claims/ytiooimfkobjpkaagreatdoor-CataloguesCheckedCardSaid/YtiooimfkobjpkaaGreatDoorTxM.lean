/-
  Plain words on numerals: what a word of digits stands for, and how it is written.
-/
import Derived.Lib.AtoiAll
import Derived.Lib.ItoaNum
import Derived.Lib.Strings
namespace Go.Proofs.YtiooimfkobjpkaaGreatDoor

def digB (c : UInt8) : Bool := decide (48 ≤ c.toNat ∧ c.toNat ≤ 57)
def allDig (l : List UInt8) : Bool := l.all digB
def valF (acc : Nat) (l : List UInt8) : Nat := l.foldl (fun a c => a * 10 + (c.toNat - 48)) acc
def valD (l : List UInt8) : Nat := valF 0 l
theorem valF_snoc (acc : Nat) (l : List UInt8) (c : UInt8) : valF acc (l ++ [c]) = valF acc l * 10 + (c.toNat - 48) := by
  unfold valF; rw [List.foldl_append]; rfl
theorem valF_cons (acc : Nat) (l : List UInt8) (c : UInt8) : valF acc (c :: l) = valF (acc * 10 + (c.toNat - 48)) l := by unfold valF; rw [List.foldl_cons]
theorem allDig_cons {c : UInt8} {l : List UInt8} (h : allDig (c :: l) = true) : (48 ≤ c.toNat ∧ c.toNat ≤ 57) ∧ allDig l = true := by
  unfold allDig at h ⊢
  rw [List.all_cons, Bool.and_eq_true] at h
  exact ⟨by simpa [digB] using h.1, h.2⟩
theorem allDig_snoc {c : UInt8} {l : List UInt8} (h : allDig (l ++ [c]) = true) : allDig l = true ∧ (48 ≤ c.toNat ∧ c.toNat ≤ 57) := by
  unfold allDig at h ⊢
  rw [List.all_append, Bool.and_eq_true, List.all_cons, List.all_nil, Bool.and_true] at h
  exact ⟨h.1, by simpa [digB] using h.2⟩
theorem pow18 {k : Nat} (h : k ≤ 18) : (10 : Nat) ^ k ≤ 1000000000000000000 := Nat.le_trans (Nat.pow_le_pow_right (by omega) h) (by decide)
theorem parse_digits (l : List UInt8) : ∀ acc k, allDig l = true → acc < 10 ^ k → k + l.length ≤ 18 → Lib.parseUint10 acc l = .ok (valF acc l) ∧ valF acc l < 10 ^ (k + l.length) := by
  induction l with
  | nil => intro acc k _ h _; exact ⟨by rw [Lib.parseUint10]; rfl, by simpa [valF] using h⟩
  | cons c l ih =>
    intro acc k hd ha hk
    obtain ⟨hc, hl⟩ := allDig_cons hd
    have hk' : k + 1 + l.length ≤ 18 := by simp at hk; omega
    have ha' : acc * 10 + (c.toNat - 48) < 10 ^ (k + 1) := by rw [Nat.pow_succ]; omega
    have hb : acc * 10 + (c.toNat - 48) < 1000000000000000000 := Nat.lt_of_lt_of_le ha' (pow18 (by omega))
    obtain ⟨i1, i2⟩ := ih (acc * 10 + (c.toNat - 48)) (k + 1) hl ha' hk'
    have n1 : ¬ 1844674407370955162 ≤ acc := by omega
    have n2 : ¬ 18446744073709551616 ≤ acc * 10 + (c.toNat - 48) := by omega
    rw [Lib.parseUint10, if_pos hc, if_neg n1, if_neg n2, valF_cons]
    refine ⟨i1, ?_⟩
    rw [show k + (c :: l).length = k + 1 + l.length by simp; omega]
    exact i2
theorem val_lt {l : List UInt8} (h : allDig l = true) (hl : l.length ≤ 18) : valD l < 10 ^ l.length := by
  have := (parse_digits l 0 0 h (by decide) (by omega)).2
  rwa [Nat.zero_add] at this
/-- The digits of a value are those that were read, but for zeros ahead. -/
theorem dec_val (l : List UInt8) (hd : allDig l = true) (hn : l.head? ≠ some 48) (hne : l ≠ []) : Lib.decDigits (valD l) = l ∧ 1 ≤ valD l := by
  obtain ⟨n, hn'⟩ : ∃ n, l.length = n := ⟨_, rfl⟩
  induction n generalizing l with
  | zero => exact absurd (List.length_eq_zero_iff.mp hn') hne
  | succ n ih =>
    rcases List.eq_nil_or_concat l with rfl | ⟨r, c, rfl⟩
    · exact absurd rfl hne
    rw [List.concat_eq_append] at *
    obtain ⟨hr, hc⟩ := allDig_snoc hd
    have hv : valD (r ++ [c]) = valD r * 10 + (c.toNat - 48) := valF_snoc 0 r c
    by_cases h0 : r = []
    · subst h0
      have hc0 : c.toNat ≠ 48 := fun e => hn (by
        have : c = 48 := UInt8.toNat_inj.mp e
        rw [this]; rfl)
      have e : valD ([] ++ [c]) = c.toNat - 48 := by rw [hv]; simp [valD, valF]
      rw [e]
      refine ⟨?_, by omega⟩
      rw [Lib.decDigits, dif_pos (by omega), List.nil_append, show 48 + (c.toNat - 48) = c.toNat by omega]
      simp
    · have hh : r.head? ≠ some 48 := by
        cases r with
        | nil => exact absurd rfl h0
        | cons x r => exact hn
      obtain ⟨e1, e2⟩ := ih r hr hh h0 (by simp at hn'; omega)
      rw [hv]
      refine ⟨?_, by omega⟩
      rw [Lib.decDigits, dif_neg (by omega), show (valD r * 10 + (c.toNat - 48)) / 10 = valD r by omega, show (valD r * 10 + (c.toNat - 48)) % 10 = c.toNat - 48 by omega, e1, show 48 + (c.toNat - 48) = c.toNat by omega]
      simp
theorem dec_head (v : Nat) : ∀ (l : List UInt8), Lib.decDigits v = 48 :: l → l = [] := by
  induction v using Nat.strongRecOn with
  | _ v ih =>
    intro l h
    rw [Lib.decDigits] at h
    by_cases hv : v < 10
    · rw [dif_pos hv] at h
      simp at h
      exact h.2.symm ▸ rfl
    · rw [dif_neg hv] at h
      cases hd : Lib.decDigits (v / 10) with
      | nil => have := Lib.decDigits_length (v / 10); rw [hd] at this; have := Lib.nDigits_pos (v / 10); simp at *; omega
      | cons x r =>
        rw [hd, List.cons_append] at h
        injection h with h1 h2
        subst h1
        have := ih (v / 10) (by omega) r hd
        subst this
        have hh : Lib.decDigits (v / 10) = [48] := hd
        have hv0 : v / 10 = 0 := by
          by_cases h10 : v / 10 < 10
          · rw [Lib.decDigits, dif_pos h10] at hh
            have e : (UInt8.ofNat (48 + v / 10)).toNat = 48 := by
              have := congrArg (fun l => (l.headD 0).toNat) hh
              exact this
            rw [UInt8.toNat_ofNat', Nat.mod_eq_of_lt (by omega)] at e
            omega
          · have hl := congrArg List.length hh
            rw [Lib.decDigits_length, Lib.nDigits_big h10] at hl
            have := Lib.nDigits_pos (v / 10 / 10)
            simp at hl
            omega
        omega
theorem dec_iff (d : List UInt8) (hd : allDig d = true) (hne : d ≠ []) : Lib.decDigits (valD d) = d ↔ ¬ (d.head? = some 48 ∧ d ≠ [48]) := by
  constructor
  · rintro h ⟨h1, h2⟩
    cases d with
    | nil => exact hne rfl
    | cons x r =>
      simp at h1
      subst h1
      have := dec_head _ _ h
      subst this
      exact h2 rfl
  · intro h
    by_cases h1 : d.head? = some 48
    · have : d = [48] := Classical.byContradiction fun h2 => h ⟨h1, h2⟩
      subst this
      rw [Lib.decDigits, dif_pos (by decide)]
      rfl
    · exact (dec_val d hd h1 hne).1

/-- The digits of a word. -/
def digsOf (s : List UInt8) : List UInt8 := if s.head? = some 45 then s.tail else s
theorem digsOf_trim (s : List UInt8) : Lib.trimPrefix s [45] = digsOf s := by
  unfold Lib.trimPrefix Lib.hasPrefix digsOf
  cases s with
  | nil => rfl
  | cons x r =>
    by_cases h : x = 45
    · subst h
      simp
    · have h2 : ¬ (45 : UInt8) = x := fun e => h e.symm
      simp [h, h2]
def sgn (s : List UInt8) : Int := if s.head? = some 45 then -(valD (digsOf s) : Int) else valD (digsOf s)
/-- What a word of at most so many digits stands for. -/
def numP (most : Nat) (s : List UInt8) : Option Int :=
  if (digsOf s).length = 0 ∨ most < (digsOf s).length ∨ ((digsOf s).head? = some 48 ∧ s ≠ [48]) ∨ allDig (digsOf s) = false then none else some (sgn s)
theorem atoi_ok {s : List UInt8} (h1 : (digsOf s).length ≠ 0) (h2 : (digsOf s).length ≤ 18) (hd : allDig (digsOf s) = true) : Lib.atoiAll s = .ok (sgn s) := by
  have hp := parse_digits (digsOf s) 0 0 hd (by decide) (by omega)
  have hlt := val_lt hd h2
  have hlt : valD (digsOf s) < 1000000000000000000 := Nat.lt_of_lt_of_le hlt (pow18 h2)
  have hlt0 := hlt
  cases s with
  | nil => exact absurd rfl h1
  | cons c r =>
    unfold Lib.atoiAll
    by_cases hc : c = 45
    · subst hc
      have e : digsOf (45 :: r) = r := by unfold digsOf; simp
      rw [e] at h1 hd hp hlt
      have hr : r ≠ [] := fun h => h1 (by rw [h]; rfl)
      have hs : sgn (45 :: r) = -(valD r : Int) := by unfold sgn; rw [e]; simp
      have hm : Lib.parseMag r = .ok (valD r) := by unfold Lib.parseMag; rw [if_neg hr]; exact hp.1
      simp [hm, hs]
      omega
    · have e : digsOf (c :: r) = c :: r := by unfold digsOf; simp [hc]
      rw [e] at h1 hd hp hlt
      have hs : sgn (c :: r) = (valD (c :: r) : Int) := by unfold sgn; rw [e]; simp [hc]
      have hm : Lib.parseMag (c :: r) = .ok (valD (c :: r)) := by unfold Lib.parseMag; rw [if_neg (by simp)]; exact hp.1
      have hcd := (allDig_cons hd).1
      have c1 : ¬ (c.toNat = 43 ∨ c.toNat = 45) := by omega
      have c2 : ¬ c.toNat = 45 := by omega
      have hlt' : valD (c :: r) < 1000000000000000000 := by rw [← e]; exact hlt0
      have hm2 : Lib.parseMag (if c.toNat = 43 ∨ c.toNat = 45 then r else c :: r) = .ok (valD (c :: r)) := by rw [if_neg c1]; exact hm
      dsimp only
      rw [hm2, hs]
      generalize valD (c :: r) = v at *
      have n1 : ¬ (¬ c.toNat = 45 ∧ 9223372036854775808 ≤ v) := by omega
      have n2 : ¬ (c.toNat = 45 ∧ 9223372036854775808 < v) := by omega
      simp only [if_neg n1, if_neg n2, if_neg c2]
theorem itoa_iff {s : List UInt8} (h1 : (digsOf s).length ≠ 0) (hd : allDig (digsOf s) = true) : Lib.itoa (sgn s) = s ↔ ¬ ((digsOf s).head? = some 48 ∧ s ≠ [48]) := by
  have hne : digsOf s ≠ [] := fun h => h1 (by rw [h]; rfl)
  have hi := dec_iff (digsOf s) hd hne
  cases s with
  | nil => exact absurd rfl h1
  | cons c r =>
    by_cases hc : c = 45
    · subst hc
      have e : digsOf (45 :: r) = r := by unfold digsOf; simp
      rw [e] at h1 hd hne hi ⊢
      have hs : sgn (45 :: r) = -(valD r : Int) := by unfold sgn; rw [e]; simp
      rw [hs]
      unfold Lib.itoa
      by_cases h0 : valD r = 0
      · rw [h0]
        have hr48 : r.head? = some 48 := Classical.byContradiction fun h => by have := (dec_val r hd h hne).2; omega
        constructor
        · intro h
          rw [if_neg (by omega)] at h
          have := congrArg List.head? h
          rw [show (-((0 : Nat) : Int)).toNat = 0 by omega, Lib.decDigits, dif_pos (by decide)] at this
          simp at this
        · intro h; exact absurd ⟨hr48, by simp⟩ h
      · rw [if_pos (by omega), show (-(valD r : Int)).natAbs = valD r by omega]
        constructor
        · rintro h ⟨h2, _⟩
          injection h with _ h
          have := hi.mp h
          have hr48 : r = [48] := Classical.byContradiction fun h3 => this ⟨h2, h3⟩
          subst hr48
          exact h0 rfl
        · intro h
          have : ¬ (r.head? = some 48 ∧ r ≠ [48]) := fun h2 => h ⟨h2.1, by simp⟩
          rw [hi.mpr this]
    · have e : digsOf (c :: r) = c :: r := by unfold digsOf; simp [hc]
      rw [e] at h1 hd hne hi ⊢
      have hs : sgn (c :: r) = (valD (c :: r) : Int) := by unfold sgn; rw [e]; simp [hc]
      rw [hs]
      unfold Lib.itoa
      rw [if_neg (by omega), show ((valD (c :: r) : Nat) : Int).toNat = valD (c :: r) by omega]
      exact hi
end Go.Proofs.YtiooimfkobjpkaaGreatDoor
