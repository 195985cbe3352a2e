/-
  Plain words on texts: lines, words.
-/
import Derived.Test.YtiooimfkobjpkaaGreatDoorTxM
import Derived.Test.YtiooimfkobjpkaaGreatDoorSeM
import Derived.Lib.IndexMore
import Derived.Lib.Split
import Derived.Lib.SplitLaws
namespace Go.Proofs.YtiooimfkobjpkaaGreatDoor

def cutB (t : ByteArray) : ByteArray × ByteArray × Bool := (⟨(Lib.cut t.data.toList [10]).1.toArray⟩, ⟨(Lib.cut t.data.toList [10]).2.1.toArray⟩, (Lib.cut t.data.toList [10]).2.2)
theorem size_list (t : ByteArray) : t.size = t.data.toList.length := rfl
theorem cutB_lt {t : ByteArray} (h : (cutB t).2.2 = true) : (cutB t).1.size ≤ t.size ∧ (cutB t).2.1.size < t.size ∧ 0 < t.size := by
  unfold cutB at h ⊢
  unfold Lib.cut at h ⊢
  by_cases h0 : 0 ≤ Lib.index t.data.toList [10]
  · simp only [if_pos h0] at h ⊢
    have ht : 0 < t.data.toList.length := by
      rcases Nat.eq_zero_or_pos t.data.toList.length with hz | hz
      · rw [List.length_eq_zero_iff.mp hz] at h0
        exact absurd h0 (by decide)
      · exact hz
    simp only [size_list, List.length_take, List.length_drop, List.length_cons, List.length_nil]
    omega
  · simp only [if_neg h0] at h
    cases h
/-- A text, line by line, from a line on. -/
def scanT {σ : Type} (step : Nat → σ → ByteArray → Option σ) : Nat → Nat → σ → ByteArray → Except Nat σ
  | 0, i, st, t => if t.size = 0 then .ok st else .error i
  | f + 1, i, st, t =>
    if t.size = 0 then .ok st
    else if (cutB t).2.2 = false then .error i
    else match step i st (cutB t).1 with
      | none => .error i
      | some st' => scanT step f (i + 1) st' (cutB t).2.1
section
variable {σ : Type} {step : Nat → σ → ByteArray → Option σ} {f i : Nat} {st st' : σ} {t : ByteArray}
theorem scanT_end (h : t.size = 0) : scanT step f i st t = .ok st := by
  cases f <;> (unfold scanT; rw [if_pos h])
theorem scanT_open (h : t.size ≠ 0) (hc : (cutB t).2.2 = false) : scanT step f i st t = .error i := by
  cases f with
  | zero => unfold scanT; rw [if_neg h]
  | succ f => unfold scanT; rw [if_neg h, if_pos hc]
theorem scanT_bad (h : t.size ≠ 0) (hn : step i st (cutB t).1 = none) : scanT step f i st t = .error i := by
  cases f with
  | zero => unfold scanT; rw [if_neg h]
  | succ f =>
    unfold scanT
    rw [if_neg h, hn]
    split <;> rfl
theorem scanT_good (h : t.size ≠ 0) (hc : (cutB t).2.2 = true) (hs : step i st (cutB t).1 = some st') : scanT step (f + 1) i st t = scanT step f (i + 1) st' (cutB t).2.1 := by
  conv => lhs; unfold scanT
  rw [if_neg h, if_neg (by rw [hc]; simp), hs]
/-- The same where the steps are the same. -/
theorem scanT_congr {step2 : Nat → σ → ByteArray → Option σ} (h : ∀ i st l, step i st l = step2 i st l) : ∀ f i st t, scanT step f i st t = scanT step2 f i st t := by
  have : step = step2 := by funext i st l; exact h i st l
  intro f i st t; rw [this]
end
def lineOf {σ : Type} : Except Nat σ → Int
  | .ok _ => 0
  | .error i => i
def errOf {σ : Type} : Except Nat σ → Int
  | .ok _ => 0
  | .error _ => 9
def isOk {σ : Type} : Except Nat σ → Bool
  | .ok _ => true
  | .error _ => false
/-- The words of a line. -/
def wordsB (l : ByteArray) : List ByteArray := Lib.splitB ⟨#[32]⟩ 0 (Lib.countB l ⟨#[32]⟩) l
theorem wordsB_len (l : ByteArray) : (wordsB l).length = Lib.countB l ⟨#[32]⟩ + 1 := Lib.splitB_all _ (by decide) 0 _ l rfl
theorem splitB_size (sep : ByteArray) : ∀ (k : Nat) (s : ByteArray) x, x ∈ Lib.splitB sep 0 k s → x.size ≤ s.size
  | 0, s, x, h => by rw [Lib.splitB_zero] at h; simp at h; rw [h]; exact Nat.le_refl _
  | k + 1, s, x, h => by
    unfold Lib.splitB at h
    split at h
    · simp at h; rw [h]; exact Nat.le_refl _
    · rcases List.mem_cons.mp h with rfl | h
      · rw [ByteArray.size_extract]; omega
      · have := splitB_size sep k _ x h
        rw [ByteArray.size_extract] at this
        omega
theorem wordsB_size {l x : ByteArray} (h : x ∈ wordsB l) : x.size ≤ l.size := splitB_size _ _ _ _ h
/-- A line that has an empty word is none. -/
def stepW {σ : Type} (take : Nat → σ → List ByteArray → Option σ) (i : Nat) (st : σ) (l : ByteArray) : Option σ := if has (wordsB l) dS = true then none else take i st (wordsB l)
end Go.Proofs.YtiooimfkobjpkaaGreatDoor
