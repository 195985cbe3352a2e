/-
  Rows of passes, in plain words: cells of three numbers each, filled board by board, machine by machine.
-/
import Derived.Test.YtjmjmijjdgolfaaLnM
namespace Go.Proofs.Ytjmjmijjdgolfaa
open Go.RowKit
set_option linter.unusedSimpArgs false
set_option linter.unusedVariables false

theorem flat3_at (f : Nat → List Value) (hf : ∀ x, (f x).length = 3) (m i : Nat) : ((List.range m).flatMap f)[i]? = if i / 3 < m then (f (i / 3))[i % 3]? else none := by
  have hlen : ∀ m, ((List.range m).flatMap f).length = m * 3 := by
    intro m
    induction m with
    | zero => rfl
    | succ m ih => rw [List.range_succ, List.flatMap_append, List.length_append, ih]; simp [hf]; omega
  induction m with
  | zero => simp
  | succ m ih =>
    rw [List.range_succ, List.flatMap_append]
    by_cases h : i < m * 3
    · rw [List.getElem?_append_left (by rw [hlen]; exact h), ih, if_pos (by omega), if_pos (by omega)]
    · rw [List.getElem?_append_right (by rw [hlen]; omega), hlen]
      simp only [List.flatMap_cons, List.flatMap_nil, List.append_nil]
      by_cases h2 : i < m * 3 + 3
      · rw [if_pos (by omega), show i / 3 = m by omega, show i % 3 = i - m * 3 by omega]
      · rw [if_neg (by omega), List.getElem?_eq_none (by rw [hf]; omega)]
theorem flat3_set (f g : Nat → List Value) (hf : ∀ x, (f x).length = 3) {m b : Nat} (hb : b < m) (x y z : Value) (hg : g b = [x, y, z]) (he : ∀ c, c ≠ b → g c = f c) :
    ((((List.range m).flatMap f).set (b * 3) x).set (b * 3 + 1) y).set (b * 3 + 2) z = (List.range m).flatMap g := by
  have hgl : ∀ c, (g c).length = 3 := by
    intro c
    by_cases h : c = b
    · subst h; rw [hg]; rfl
    · rw [he c h, hf]
  have hlen : ((List.range m).flatMap f).length = m * 3 := by
    clear hb
    induction m with
    | zero => rfl
    | succ m ih => rw [List.range_succ, List.flatMap_append, List.length_append, ih]; simp [hf]; omega
  refine List.ext_getElem? fun i => ?_
  rw [flat3_at g hgl, List.getElem?_set, List.getElem?_set, List.getElem?_set, flat3_at f hf]
  simp only [List.length_set, hlen]
  by_cases h : i / 3 = b
  · rw [h, if_pos hb, hg]
    have hi : i = b * 3 ∨ i = b * 3 + 1 ∨ i = b * 3 + 2 := by omega
    rcases hi with rfl | rfl | rfl
    · rw [if_neg (by omega), if_neg (by omega), if_pos rfl, if_pos (by omega), show b * 3 % 3 = 0 by omega, if_pos hb]; rfl
    · rw [if_neg (by omega), if_pos rfl, if_pos (by omega), show (b * 3 + 1) % 3 = 1 by omega, if_pos hb]; rfl
    · rw [if_pos rfl, if_pos (by omega), show (b * 3 + 2) % 3 = 2 by omega, if_pos hb]; rfl
  · rw [if_neg (by omega), if_neg (by omega), if_neg (by omega), he _ h]

/-- What is known of board c at machine j, when the boards before b are done, and of b the machines before k. -/
def pC (cs bs : List Int) (b k j c : Nat) : List Value :=
  if c < b ∨ (c = b ∧ j < k) then [.int .i64 (cm cs bs c j), .int .i64 (dn cs bs c j), .int .i64 (lv cs bs c j)] else [.int .i64 0, .int .i64 0, .int .i64 0]
def pRow (cs bs : List Int) (m b k j : Nat) : List Value := (List.range m).flatMap (pC cs bs b k j)
theorem pC_len (cs bs : List Int) (b k j c : Nat) : (pC cs bs b k j c).length = 3 := by
  unfold pC
  split <;> rfl
theorem pRow_at (cs bs : List Int) {m c : Nat} (b k j : Nat) (hc : c < m) {i : Nat} (hi : i < 3) : (pRow cs bs m b k j)[c * 3 + i]? = (pC cs bs b k j c)[i]? := by
  unfold pRow
  rw [flat3_at _ (pC_len cs bs b k j), if_pos (by omega), show (c * 3 + i) / 3 = c by omega, show (c * 3 + i) % 3 = i by omega]
theorem pRow_done (cs bs : List Int) {m c : Nat} (b k j : Nat) (hc : c < m) (hd : c < b ∨ (c = b ∧ j < k)) :
    (pRow cs bs m b k j)[c * 3]? = some (.int .i64 (cm cs bs c j)) ∧ (pRow cs bs m b k j)[c * 3 + 1]? = some (.int .i64 (dn cs bs c j)) ∧ (pRow cs bs m b k j)[c * 3 + 2]? = some (.int .i64 (lv cs bs c j)) := by
  have h0 := pRow_at cs bs b k j hc (i := 0) (by omega)
  have h1 := pRow_at cs bs b k j hc (i := 1) (by omega)
  have h2 := pRow_at cs bs b k j hc (i := 2) (by omega)
  unfold pC at h0 h1 h2
  rw [if_pos hd] at h0 h1 h2
  exact ⟨h0, h1, h2⟩
theorem pRow_len (cs bs : List Int) (m b k j : Nat) : (pRow cs bs m b k j).length = m * 3 := by
  unfold pRow
  induction m with
  | zero => rfl
  | succ m ih => rw [List.range_succ, List.flatMap_append, List.length_append, ih]; simp [pC_len]; omega
theorem pRow_set (cs bs : List Int) {m b : Nat} (k : Nat) (hb : b < m) :
    (((pRow cs bs m b k k).set (b * 3) (.int .i64 (cm cs bs b k))).set (b * 3 + 1) (.int .i64 (dn cs bs b k))).set (b * 3 + 2) (.int .i64 (lv cs bs b k)) = pRow cs bs m b (k + 1) k := by
  refine flat3_set _ _ (pC_len cs bs b k k) hb _ _ _ ?_ fun c hc => ?_
  · unfold pC
    rw [if_pos (.inr ⟨rfl, by omega⟩)]
  · unfold pC
    by_cases h : c < b
    · rw [if_pos (.inl h), if_pos (.inl h)]
    · rw [if_neg (by omega), if_neg (by omega)]
theorem pRow_other (cs bs : List Int) (m b : Nat) {k j : Nat} (hj : j ≠ k) : pRow cs bs m b (k + 1) j = pRow cs bs m b k j := by
  unfold pRow
  refine congrArg (fun f => (List.range m).flatMap f) (funext fun c => ?_)
  unfold pC
  by_cases h : c < b ∨ (c = b ∧ j < k)
  · rw [if_pos h, if_pos (by omega)]
  · rw [if_neg h, if_neg (by omega)]
theorem pRow_next (cs bs : List Int) (m b : Nat) {n j : Nat} (hj : j < n) : pRow cs bs m b n j = pRow cs bs m (b + 1) 0 j := by
  unfold pRow
  refine congrArg (fun f => (List.range m).flatMap f) (funext fun c => ?_)
  unfold pC
  by_cases h : c < b + 1
  · rw [if_pos (by omega), if_pos (.inl h)]
  · rw [if_neg (by omega), if_neg (by omega)]
theorem pRow_zero (cs bs : List Int) (m j : Nat) : pRow cs bs m 0 0 j = List.replicate (m * 3) (.int .i64 0) := by
  unfold pRow
  induction m with
  | zero => rfl
  | succ m ih =>
    rw [List.range_succ, List.flatMap_append, ih, Nat.add_mul, List.replicate_append_replicate.symm]
    simp only [List.flatMap_cons, List.flatMap_nil, List.append_nil]
    unfold pC
    rw [if_neg (by omega)]
    rfl
end Go.Proofs.Ytjmjmijjdgolfaa
