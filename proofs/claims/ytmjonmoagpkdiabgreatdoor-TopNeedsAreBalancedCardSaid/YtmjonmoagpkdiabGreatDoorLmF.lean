/-
  Boards on a line, in plain words: when each one leaves each machine, and when the last one does. Rows of passes, in plain words: cells of three numbers each, filled board by board, machine by machine. Numbers in memory: equality, a search with any test; the rules of a line. What is wrong with a line: the program's checks, and the reference's.
-/
import Derived.Test.YtmjonmoagpkdiabGreatDoorLmA
import Derived.Test.YtmjonmoagpkdiabGreatDoorShelf
import Derived.Laws.MakeOwn
namespace Go.Proofs.YtmjonmoagpkdiabGreatDoor
open Go.RowKit
set_option linter.unusedSimpArgs false
set_option linter.unusedVariables false

/-- How many boards have room behind a machine. -/
def bufN (bs : List Int) (k : Nat) : Nat := (bs.getD k 0).toNat
/-- When board b leaves machine k. -/
def lv (cs bs : List Int) (b k : Nat) : Int :=
  max (max (if _h : k = 0 then 0 else lv cs bs b (k - 1)) (if _h : b = 0 then 0 else lv cs bs (b - 1) k) + cs.getD k 0)
    (if _h : k + 1 < cs.length ∧ bufN bs k < b then lv cs bs (b - 1 - bufN bs k) (k + 1) else 0)
termination_by (b, k)
decreasing_by
  · exact Prod.Lex.right _ (by omega)
  · exact Prod.Lex.left _ _ (by omega)
  · exact Prod.Lex.left _ _ (by omega)
/-- When the board before has left the machine. -/
def bef (cs bs : List Int) (b k : Nat) : Int := if b = 0 then 0 else lv cs bs (b - 1) k
/-- When the board has left the machine before. -/
def from_ (cs bs : List Int) (b k : Nat) : Int := if k = 0 then 0 else lv cs bs b (k - 1)
/-- When board b comes to machine k. -/
def cm (cs bs : List Int) (b k : Nat) : Int := max (from_ cs bs b k) (bef cs bs b k)
/-- When machine k has finished board b. -/
def dn (cs bs : List Int) (b k : Nat) : Int := cm cs bs b k + cs.getD k 0
/-- From when on there is room behind machine k for board b. -/
def rm (cs bs : List Int) (b k : Nat) : Int := if k + 1 < cs.length ∧ bufN bs k < b then lv cs bs (b - 1 - bufN bs k) (k + 1) else 0
theorem lv_eq (cs bs : List Int) (b k : Nat) : lv cs bs b k = max (dn cs bs b k) (rm cs bs b k) := by
  rw [lv]
  unfold dn cm from_ bef rm
  simp only [dite_eq_ite]

/-- Cycles from 1 on. -/
def CsOk (cs : List Int) : Prop := ∀ c ∈ cs, 1 ≤ c ∧ c ≤ 10000000
theorem cs_at {cs : List Int} (h : CsOk cs) (k : Nat) : 0 ≤ cs.getD k 0 ∧ cs.getD k 0 ≤ 10000000 := by
  rw [List.getD_eq_getElem?_getD]
  cases e : cs[k]? with
  | none => simp
  | some c => have := h c (List.mem_of_getElem? e); simp; omega
theorem lv_bd {cs : List Int} (bs : List Int) (h : CsOk cs) (b k : Nat) : 0 ≤ lv cs bs b k ∧ lv cs bs b k ≤ ((b : Int) + k + 1) * 10000000 := by
  have hc := cs_at h k
  have h1 : 0 ≤ from_ cs bs b k ∧ from_ cs bs b k ≤ ((b : Int) + k) * 10000000 := by
    unfold from_
    split
    · omega
    · have := lv_bd bs h b (k - 1)
      omega
  have h2 : 0 ≤ bef cs bs b k ∧ bef cs bs b k ≤ ((b : Int) + k) * 10000000 := by
    unfold bef
    split
    · omega
    · have := lv_bd bs h (b - 1) k
      omega
  have h3 : 0 ≤ rm cs bs b k ∧ rm cs bs b k ≤ ((b : Int) + k + 1) * 10000000 := by
    unfold rm
    split
    · have := lv_bd bs h (b - 1 - bufN bs k) (k + 1)
      omega
    · omega
  rw [lv_eq]
  unfold dn cm
  omega
termination_by (b, k)
decreasing_by
  · exact Prod.Lex.right _ (by omega)
  · exact Prod.Lex.left _ _ (by omega)
  · exact Prod.Lex.left _ _ (by omega)
theorem bef_bd {cs : List Int} (bs : List Int) (h : CsOk cs) (b k : Nat) : 0 ≤ bef cs bs b k ∧ bef cs bs b k ≤ ((b : Int) + k) * 10000000 := by
  unfold bef
  split
  · omega
  · have := lv_bd bs h (b - 1) k
    omega
theorem from_bd {cs : List Int} (bs : List Int) (h : CsOk cs) (b k : Nat) : 0 ≤ from_ cs bs b k ∧ from_ cs bs b k ≤ ((b : Int) + k) * 10000000 := by
  unfold from_
  split
  · omega
  · have := lv_bd bs h b (k - 1)
    omega
theorem rm_bd {cs : List Int} (bs : List Int) (h : CsOk cs) (b k : Nat) : 0 ≤ rm cs bs b k ∧ rm cs bs b k ≤ ((b : Int) + k + 1) * 10000000 := by
  unfold rm
  split
  · have := lv_bd bs h (b - 1 - bufN bs k) (k + 1)
    omega
  · omega
theorem cm_bd {cs : List Int} (bs : List Int) (h : CsOk cs) (b k : Nat) : 0 ≤ cm cs bs b k ∧ cm cs bs b k ≤ ((b : Int) + k) * 10000000 := by
  have := from_bd bs h b k
  have := bef_bd bs h b k
  unfold cm
  omega
theorem dn_bd {cs : List Int} (bs : List Int) (h : CsOk cs) (b k : Nat) : 0 ≤ dn cs bs b k ∧ dn cs bs b k ≤ lv cs bs b k ∧ cm cs bs b k ≤ dn cs bs b k := by
  have := cm_bd bs h b k
  have := cs_at h k
  rw [lv_eq]
  unfold dn
  omega
theorem lv_plain {cs : List Int} (bs : List Int) (h : CsOk cs) {b k : Nat} (hn : ¬ (k + 1 < cs.length ∧ bufN bs k < b)) : lv cs bs b k = dn cs bs b k := by
  have := dn_bd bs h b k
  rw [lv_eq] at *
  rw [show rm cs bs b k = 0 from if_neg hn] at *
  omega

/-! ### When the last board leaves -/
/-- The cycles up to a machine. -/
def cum (cs : List Int) : Nat → Int
  | 0 => cs.getD 0 0
  | k + 1 => cum cs k + cs.getD (k + 1) 0
/-- No board leaves later than this. -/
theorem lv_up {cs : List Int} (bs : List Int) (h : CsOk cs) {L : Int} (hL : ∀ c ∈ cs, c ≤ L) (b k : Nat) (hk : k < cs.length) : lv cs bs b k ≤ cum cs k + b * L := by
  have hc := cs_at h k
  have hcL : ∀ j, j < cs.length → cs.getD j 0 ≤ L := fun j hj => by
    rw [List.getD_eq_getElem?_getD, List.getElem?_eq_getElem hj]
    exact hL _ (List.getElem_mem hj)
  have h0 := hcL k hk
  have hcum : cum cs k = (if k = 0 then 0 else cum cs (k - 1)) + cs.getD k 0 := by
    cases k with
    | zero => simp [cum]
    | succ k => simp [cum]
  have hcp : 0 ≤ (if k = 0 then 0 else cum cs (k - 1)) := by
    have : ∀ j, 0 ≤ cum cs j := by
      intro j
      induction j with
      | zero => exact (cs_at h 0).1
      | succ j ih => have := (cs_at h (j + 1)).1; simp only [cum]; omega
    split
    · omega
    · exact this _
  have hb1 : b ≠ 0 → ((b - 1 : Nat) : Int) * L = (b : Int) * L - L := fun hb => by
    rw [Int.natCast_sub (by omega), Int.sub_mul]; simp
  have h1 : from_ cs bs b k ≤ (if k = 0 then 0 else cum cs (k - 1)) + b * L := by
    unfold from_
    split
    · have : 0 ≤ (b : Int) * L := Int.mul_nonneg (by omega) (by omega)
      omega
    · exact lv_up bs h hL b (k - 1) (by omega)
  have h2 : bef cs bs b k ≤ (if k = 0 then 0 else cum cs (k - 1)) + b * L := by
    unfold bef
    split
    · have : 0 ≤ (b : Int) * L := Int.mul_nonneg (by omega) (by omega)
      omega
    · have := lv_up bs h hL (b - 1) k hk
      have := hb1 ‹_›
      omega
  have h3 : rm cs bs b k ≤ cum cs k + b * L := by
    unfold rm
    split
    · have e1 := lv_up bs h hL (b - 1 - bufN bs k) (k + 1) (by omega)
      have e2 := hb1 (by omega)
      have e3 : ((b - 1 - bufN bs k : Nat) : Int) * L ≤ ((b - 1 : Nat) : Int) * L := Int.mul_le_mul_of_nonneg_right (by omega) (by omega)
      have e4 := hcL (k + 1) (by omega)
      simp only [cum] at e1
      omega
    · have : 0 ≤ (b : Int) * L := Int.mul_nonneg (by omega) (by omega)
      omega
  rw [lv_eq]
  unfold dn cm
  omega
termination_by (b, k)
decreasing_by
  · exact Prod.Lex.right _ (by omega)
  · exact Prod.Lex.left _ _ (by omega)
  · exact Prod.Lex.left _ _ (by omega)
theorem lv_step {cs : List Int} (bs : List Int) (h : CsOk cs) (b k : Nat) : lv cs bs b k + cs.getD (k + 1) 0 ≤ lv cs bs b (k + 1) ∧ lv cs bs b k + cs.getD k 0 ≤ lv cs bs (b + 1) k := by
  constructor
  · rw [lv_eq cs bs b (k + 1)]
    have : from_ cs bs b (k + 1) = lv cs bs b k := by unfold from_; rw [if_neg (by omega)]; rfl
    unfold dn cm
    omega
  · rw [lv_eq cs bs (b + 1) k]
    have : bef cs bs (b + 1) k = lv cs bs b k := by unfold bef; rw [if_neg (by omega)]; rfl
    unfold dn cm
    omega
theorem lv_low0 {cs : List Int} (bs : List Int) (h : CsOk cs) (b : Nat) : ∀ k d, lv cs bs b k + (cum cs (k + d) - cum cs k) ≤ lv cs bs b (k + d)
  | k, 0 => by simp
  | k, d + 1 => by
    have h1 := lv_low0 bs h b k d
    have h2 := (lv_step bs h b (k + d)).1
    rw [← Nat.add_assoc]
    simp only [cum]
    omega
theorem lv_first {cs : List Int} (bs : List Int) (h : CsOk cs) (k : Nat) : cum cs k ≤ lv cs bs 0 k := by
  have h0 : cs.getD 0 0 ≤ lv cs bs 0 0 := by
    rw [lv_eq]
    unfold dn cm from_ bef
    simp
    omega
  have := lv_low0 bs h 0 0 k
  rw [Nat.zero_add] at this
  simp only [cum] at this
  omega
/-- The slowest machine works on one board after the other. -/
theorem lv_low {cs : List Int} (bs : List Int) (h : CsOk cs) {L : Int} (hL : L ∈ cs) (b : Nat) : cum cs (cs.length - 1) + b * L ≤ lv cs bs b (cs.length - 1) := by
  obtain ⟨j, hj, e⟩ := List.mem_iff_getElem.mp hL
  have hg : cs.getD j 0 = L := by rw [List.getD_eq_getElem?_getD, List.getElem?_eq_getElem hj, ← e]; rfl
  have h1 : ∀ b : Nat, cum cs j + b * L ≤ lv cs bs b j := by
    intro b
    induction b with
    | zero => have := lv_first bs h j; simp; omega
    | succ b ih =>
      have := (lv_step bs h b j).2
      rw [hg] at this
      push_cast
      rw [Int.add_mul]
      omega
  have h2 := lv_low0 bs h b j (cs.length - 1 - j)
  rw [show j + (cs.length - 1 - j) = cs.length - 1 by omega] at h2
  have := h1 b
  omega
/-- With any room the last board leaves at the same moment. -/
theorem lv_same {cs : List Int} (bs bs' : List Int) (h : CsOk cs) (hn : cs ≠ []) (b : Nat) : lv cs bs b (cs.length - 1) = lv cs bs' b (cs.length - 1) := by
  have hx : ∃ L ∈ cs, ∀ c ∈ cs, c ≤ L := by
    clear h
    induction cs with
    | nil => exact absurd rfl hn
    | cons c l ih =>
      cases l with
      | nil => exact ⟨c, by simp, by simp⟩
      | cons d l =>
        obtain ⟨L, h1, h2⟩ := ih (by simp)
        by_cases hc : c ≤ L
        · exact ⟨L, by simp at h1 ⊢; exact .inr h1, fun x hx => by
            rcases List.mem_cons.mp hx with rfl | hx
            · exact hc
            · exact h2 x hx⟩
        · exact ⟨c, by simp, fun x hx => by
            rcases List.mem_cons.mp hx with rfl | hx
            · exact Int.le_refl _
            · have := h2 x hx; omega⟩
  obtain ⟨L, h1, h2⟩ := hx
  have hl : cs.length - 1 < cs.length := by
    have : 0 < cs.length := List.length_pos_iff.mpr hn
    omega
  have a1 := lv_low bs h h1 b
  have a2 := lv_low bs' h h1 b
  have a3 := lv_up bs h h2 b _ hl
  have a4 := lv_up bs' h h2 b _ hl
  omega
end Go.Proofs.YtmjonmoagpkdiabGreatDoor
namespace Go.Proofs.YtmjonmoagpkdiabGreatDoor
open Go.RowKit
set_option linter.unusedSimpArgs false
set_option linter.unusedVariables false

theorem flat3_at (f : Nat → List Value) (hf : ∀ x, (f x).length = 3) (m i : Nat) : ((List.range m).flatMap f)[i]? = if i / 3 < m then (f (i / 3))[i % 3]? else none := by
  have hlen : ∀ m, ((List.range m).flatMap f).length = m * 3 := by
    intro m
    induction m with
    | zero => rfl
    | succ m ih => rw [List.range_succ, List.flatMap_append, List.length_append, ih]; simp [hf]; omega
  induction m with
  | zero => simp
  | succ m ih =>
    rw [List.range_succ, List.flatMap_append]
    by_cases h : i < m * 3
    · rw [List.getElem?_append_left (by rw [hlen]; exact h), ih, if_pos (by omega), if_pos (by omega)]
    · rw [List.getElem?_append_right (by rw [hlen]; omega), hlen]
      simp only [List.flatMap_cons, List.flatMap_nil, List.append_nil]
      by_cases h2 : i < m * 3 + 3
      · rw [if_pos (by omega), show i / 3 = m by omega, show i % 3 = i - m * 3 by omega]
      · rw [if_neg (by omega), List.getElem?_eq_none (by rw [hf]; omega)]
theorem flat3_set (f g : Nat → List Value) (hf : ∀ x, (f x).length = 3) {m b : Nat} (hb : b < m) (x y z : Value) (hg : g b = [x, y, z]) (he : ∀ c, c ≠ b → g c = f c) :
    ((((List.range m).flatMap f).set (b * 3) x).set (b * 3 + 1) y).set (b * 3 + 2) z = (List.range m).flatMap g := by
  have hgl : ∀ c, (g c).length = 3 := by
    intro c
    by_cases h : c = b
    · subst h; rw [hg]; rfl
    · rw [he c h, hf]
  have hlen : ((List.range m).flatMap f).length = m * 3 := by
    clear hb
    induction m with
    | zero => rfl
    | succ m ih => rw [List.range_succ, List.flatMap_append, List.length_append, ih]; simp [hf]; omega
  refine List.ext_getElem? fun i => ?_
  rw [flat3_at g hgl, List.getElem?_set, List.getElem?_set, List.getElem?_set, flat3_at f hf]
  simp only [List.length_set, hlen]
  by_cases h : i / 3 = b
  · rw [h, if_pos hb, hg]
    have hi : i = b * 3 ∨ i = b * 3 + 1 ∨ i = b * 3 + 2 := by omega
    rcases hi with rfl | rfl | rfl
    · rw [if_neg (by omega), if_neg (by omega), if_pos rfl, if_pos (by omega), show b * 3 % 3 = 0 by omega, if_pos hb]; rfl
    · rw [if_neg (by omega), if_pos rfl, if_pos (by omega), show (b * 3 + 1) % 3 = 1 by omega, if_pos hb]; rfl
    · rw [if_pos rfl, if_pos (by omega), show (b * 3 + 2) % 3 = 2 by omega, if_pos hb]; rfl
  · rw [if_neg (by omega), if_neg (by omega), if_neg (by omega), he _ h]

/-- What is known of board c at machine j, when the boards before b are done, and of b the machines before k. -/
def pC (cs bs : List Int) (b k j c : Nat) : List Value :=
  if c < b ∨ (c = b ∧ j < k) then [.int .i64 (cm cs bs c j), .int .i64 (dn cs bs c j), .int .i64 (lv cs bs c j)] else [.int .i64 0, .int .i64 0, .int .i64 0]
def pRow (cs bs : List Int) (m b k j : Nat) : List Value := (List.range m).flatMap (pC cs bs b k j)
theorem pC_len (cs bs : List Int) (b k j c : Nat) : (pC cs bs b k j c).length = 3 := by
  unfold pC
  split <;> rfl
theorem pRow_at (cs bs : List Int) {m c : Nat} (b k j : Nat) (hc : c < m) {i : Nat} (hi : i < 3) : (pRow cs bs m b k j)[c * 3 + i]? = (pC cs bs b k j c)[i]? := by
  unfold pRow
  rw [flat3_at _ (pC_len cs bs b k j), if_pos (by omega), show (c * 3 + i) / 3 = c by omega, show (c * 3 + i) % 3 = i by omega]
theorem pRow_done (cs bs : List Int) {m c : Nat} (b k j : Nat) (hc : c < m) (hd : c < b ∨ (c = b ∧ j < k)) :
    (pRow cs bs m b k j)[c * 3]? = some (.int .i64 (cm cs bs c j)) ∧ (pRow cs bs m b k j)[c * 3 + 1]? = some (.int .i64 (dn cs bs c j)) ∧ (pRow cs bs m b k j)[c * 3 + 2]? = some (.int .i64 (lv cs bs c j)) := by
  have h0 := pRow_at cs bs b k j hc (i := 0) (by omega)
  have h1 := pRow_at cs bs b k j hc (i := 1) (by omega)
  have h2 := pRow_at cs bs b k j hc (i := 2) (by omega)
  unfold pC at h0 h1 h2
  rw [if_pos hd] at h0 h1 h2
  exact ⟨h0, h1, h2⟩
theorem pRow_len (cs bs : List Int) (m b k j : Nat) : (pRow cs bs m b k j).length = m * 3 := by
  unfold pRow
  induction m with
  | zero => rfl
  | succ m ih => rw [List.range_succ, List.flatMap_append, List.length_append, ih]; simp [pC_len]; omega
theorem pRow_set (cs bs : List Int) {m b : Nat} (k : Nat) (hb : b < m) :
    (((pRow cs bs m b k k).set (b * 3) (.int .i64 (cm cs bs b k))).set (b * 3 + 1) (.int .i64 (dn cs bs b k))).set (b * 3 + 2) (.int .i64 (lv cs bs b k)) = pRow cs bs m b (k + 1) k := by
  refine flat3_set _ _ (pC_len cs bs b k k) hb _ _ _ ?_ fun c hc => ?_
  · unfold pC
    rw [if_pos (.inr ⟨rfl, by omega⟩)]
  · unfold pC
    by_cases h : c < b
    · rw [if_pos (.inl h), if_pos (.inl h)]
    · rw [if_neg (by omega), if_neg (by omega)]
theorem pRow_other (cs bs : List Int) (m b : Nat) {k j : Nat} (hj : j ≠ k) : pRow cs bs m b (k + 1) j = pRow cs bs m b k j := by
  unfold pRow
  refine congrArg (fun f => (List.range m).flatMap f) (funext fun c => ?_)
  unfold pC
  by_cases h : c < b ∨ (c = b ∧ j < k)
  · rw [if_pos h, if_pos (by omega)]
  · rw [if_neg h, if_neg (by omega)]
theorem pRow_next (cs bs : List Int) (m b : Nat) {n j : Nat} (hj : j < n) : pRow cs bs m b n j = pRow cs bs m (b + 1) 0 j := by
  unfold pRow
  refine congrArg (fun f => (List.range m).flatMap f) (funext fun c => ?_)
  unfold pC
  by_cases h : c < b + 1
  · rw [if_pos (by omega), if_pos (.inl h)]
  · rw [if_neg (by omega), if_neg (by omega)]
theorem pRow_zero (cs bs : List Int) (m j : Nat) : pRow cs bs m 0 0 j = List.replicate (m * 3) (.int .i64 0) := by
  unfold pRow
  induction m with
  | zero => rfl
  | succ m ih =>
    rw [List.range_succ, List.flatMap_append, ih, Nat.add_mul, List.replicate_append_replicate.symm]
    simp only [List.flatMap_cons, List.flatMap_nil, List.append_nil]
    unfold pC
    rw [if_neg (by omega)]
    rfl
end Go.Proofs.YtmjonmoagpkdiabGreatDoor
namespace Go.Proofs.YtmjonmoagpkdiabGreatDoor
open Go.RowKit
set_option linter.unusedSimpArgs false
set_option linter.unusedVariables false

/-- A number in memory. -/
def encN (x : Int) : List Value := [.int .i64 x]
theorem flatN_map (l : List Int) : l.flatMap encN = l.map (Value.int .i64) := by
  induction l with
  | nil => rfl
  | cons x l ih => rw [List.flatMap_cons, ih]; rfl
theorem row_n {w : World} {g : Nat} {l : List Int} (h : LineAt w g (l.flatMap encN)) {k : Nat} (hk : k < l.length) : w.cell? ⟨g, k, none⟩ = some (.int .i64 l[k]) := by
  refine h.2 k _ ?_
  rw [flatN_map, List.getElem?_map, List.getElem?_eq_getElem hk]
  rfl
theorem readsN_own {w : World} {base : Nat} {v : Value} {l : List Int} {T : TypeId} (h : w.ownsRow base T 1 v l.length (l.map (Value.int .i64))) : Reads encN v l w := by
  refine reads_own (base := base) (T := T) (size := 1) ?_
  rw [flatN_map]
  exact h
theorem readsN_own' {w : World} {base : Nat} {v : Value} {l : List Int} {T : TypeId} {n : Nat} (h : w.ownsRow base T 1 v n (l.map (Value.int .i64))) (hn : n = l.length) : Reads encN v l w := by
  subst hn
  exact readsN_own h
theorem nil_readsN (W : World) : Reads encN (.slice none 0 0) [] W := ⟨none, 0, rfl, .inl rfl⟩
theorem int_infoN : (Tryz.prog.info? 3).map (fun i => (i.zero, i.size, i.bytes)) = some (some (.int .i64 0), 1, 8) := by kernel_rfl
/-! ### A search with any test -/
def ixF (p : Int → Bool) : List Int → Int → Int
  | [], _ => -1
  | x :: l, k => if p x = true then k else ixF p l (k + 1)
theorem ixF_any (p : Int → Bool) : ∀ (l : List Int) (k : Int), 0 ≤ k → decide (0 ≤ ixF p l k) = l.any p
  | [], _, _ => rfl
  | x :: l, k, hk => by
    rw [ixF, List.any_cons]
    by_cases h : p x = true
    · rw [if_pos h, h]; simpa using hk
    · rw [if_neg h, ixF_any p l (k + 1) (by omega)]; simp [h]

set_option maxHeartbeats 2000000 in
theorem indexFN_any {F : FuncId} (hF : ∀ args w, (callFunc F args).run Tryz.prog w = .ok (.enter F args) w) (p : Int → Bool) (hp : ∀ x W, Calls Tryz.prog F #[.int .i64 x] W fun e w' => e = .returned (.bool (p x)) ∧ Below W.heap.size W w')
    (l : List Int) (hl : l.length ≤ 1000000) {v : Value} {w : World} (h : Reads encN v l w) :
    Calls Tryz.prog 99 #[v, .func (.func F) #[] #[]] w fun r w' => r = .returned (.int .i64 (ixF p l 0)) ∧ Below w.heap.size w w' := by
  have HH := Lib.hid h
  have HP := Lib.hid hp
  clear hp
  obtain ⟨A, c, rfl, _⟩ := h
  go_enter Tryz.func99, Tryz.ntmps99
  go_wp2_with fail
  go_loopw [8] (fun kk wr => ∃ k : Nat, k ≤ l.length ∧ kk = .int .i64 k ∧ Hid (ixF p l 0 = ixF p (l.drop k) k) ∧ Hid (Below w.heap.size w wr)) (fun kk _ => l.length - (intOf kk).toNat)
  case atStart => exact ⟨0, by omega, rfl, by simp [Hid], Below.refl _ _⟩
  case round =>
    obtain ⟨k, hk, rfl, HI, HB⟩ := hrel
    by_cases hlt : k < l.length
    · obtain ⟨x, hx⟩ : ∃ x, l[k] = x := ⟨_, rfl⟩
      obtain ⟨A', c', e, hr⟩ := HH.out.below HB.out
      cases e
      rcases hr with rfl | ⟨g, rfl, hrow⟩
      · simp at hlt
      have hc := row_n hrow hlt
      rw [hx] at hc
      have hgl := hrow.1
      have hI : ixF p l 0 = if p x = true then (k : Int) else ixF p (l.drop (k + 1)) (k + 1) := HI.out.trans (by rw [drop_at l hlt, hx]; rfl)
      have HI2 := Lib.hid hI
      clear hx hI HI hrow
      have i1 : (0 : Int) ≤ (k : Int) := by omega
      have i2 : (k : Int) < (l.length : Int) := by omega
      go_wp2_with fail
      refine (HP.out _ _).mono ?_
      rintro e w2 ⟨rfl, b2⟩
      have HB2 := Lib.hid (HB.out.then_below b2 HB.out.size)
      clear b2 HB hc
      cases hb : p x
      · have HF : Hid (ixF p l 0 = ixF p (l.drop (k + 1)) (k + 1)) := HI2.out.trans (if_neg (by rw [hb]; simp))
        clear HI2
        go_wp2_with fail
        go_roundw
        case rel => exact ⟨k + 1, by omega, by go_num, HF, HB2⟩
        case measure => simp [intOf]; omega
      · have HFF : Hid (ixF p l 0 = k) := HI2.out.trans (if_pos hb)
        clear HI2
        go_wp2_with fail
        go_ret
        exact ⟨ret_int HFF.out.symm, HB2.out⟩
    · have HFF : Hid (ixF p l 0 = -1) := HI.out.trans (by rw [List.drop_eq_nil_of_le (by omega)]; rfl)
      go_wp2_with fail
      go_ret
      exact ⟨ret_int HFF.out.symm, HB.out⟩
theorem containsFN_any {F : FuncId} (hF : ∀ args w, (callFunc F args).run Tryz.prog w = .ok (.enter F args) w) (p : Int → Bool) (hp : ∀ x W, Calls Tryz.prog F #[.int .i64 x] W fun e w' => e = .returned (.bool (p x)) ∧ Below W.heap.size W w')
    (l : List Int) (hl : l.length ≤ 1000000) {v : Value} {w : World} (h : Reads encN v l w) :
    Calls Tryz.prog 74 #[v, .func (.func F) #[] #[]] w fun r w' => r = .returned (.bool (l.any p)) ∧ Below w.heap.size w w' := by
  have CI := Lib.hid (indexFN_any hF p hp l hl h)
  have HX := Lib.hid (ixF_any p l 0 (Int.le_refl _))
  obtain ⟨A, c, rfl, _⟩ := h
  generalize ixF p l 0 = ix at *
  generalize l.any p = r at *
  clear hp hF
  go_enter Tryz.func74, Tryz.ntmps74
  go_wp2_with fail
  refine CI.out.mono ?_
  rintro e w2 ⟨rfl, b2⟩
  have HB2 := Lib.hid b2
  clear b2
  go_wp2_with fail
  go_ret
  exact ⟨ret_bool HX.out, HB2.out⟩

/-! ### What is wrong with a line -/
def outC (x : Int) : Bool := !(decide (1 ≤ x) && decide (x ≤ 10000000))
def outR (x : Int) : Bool := !(decide (0 ≤ x) && decide (x ≤ 2000))
theorem outR1_any (x : Int) (W : World) : Calls Tryz.prog 73 #[.int .i64 x] W fun e w' => e = .returned (.bool (outR x)) ∧ Below W.heap.size W w' := by
  have CW := Lib.hid (within_any x 0 2000 W)
  have HO : Hid (outR x = !(decide (0 ≤ x) && decide (x ≤ 2000))) := rfl
  generalize (decide (0 ≤ x) && decide (x ≤ 2000)) = b at *
  go_enter Tryz.func73, Tryz.ntmps73
  go_wp2_with fail
  refine CW.out.mono ?_
  rintro e w2 ⟨rfl, rfl⟩
  go_wp2_with fail
  go_ret
  exact ⟨ret_bool HO.out.symm, Below.refl _ _⟩
theorem outC1_any (x : Int) (W : World) : Calls Tryz.prog 98 #[.int .i64 x] W fun e w' => e = .returned (.bool (outC x)) ∧ Below W.heap.size W w' := by
  have CW := Lib.hid (within_any x 1 10000000 W)
  have HO : Hid (outC x = !(decide (1 ≤ x) && decide (x ≤ 10000000))) := rfl
  generalize (decide (1 ≤ x) && decide (x ≤ 10000000)) = b at *
  go_enter Tryz.func98, Tryz.ntmps98
  go_wp2_with fail
  refine CW.out.mono ?_
  rintro e w2 ⟨rfl, rfl⟩
  go_wp2_with fail
  go_ret
  exact ⟨ret_bool HO.out.symm, Below.refl _ _⟩
/-- What is wrong with cycles. -/
def cErr (cs : List Int) : Int := if cs.length = 0 then 8 else if 6 < cs.length then 2 else if cs.any outC = true then 1 else 0
theorem cErr_ok {cs : List Int} (h : cErr cs = 0) : 1 ≤ cs.length ∧ cs.length ≤ 6 ∧ CsOk cs := by
  unfold cErr at h
  split at h
  · cases h
  split at h
  · cases h
  split at h
  · cases h
  rename_i h1 h2 h3
  refine ⟨by omega, by omega, fun c hc => ?_⟩
  have : outC c = false := by
    rw [Bool.not_eq_true, List.any_eq_false] at h3
    simpa using h3 c hc
  unfold outC at this
  simp at this
  exact this
/-- What is wrong with cycles, buffers and a number of boards. -/
def bErr (cs bs : List Int) (n : Int) : Int :=
  if cErr cs ≠ 0 then cErr cs else if (bs.length : Int) ≠ (cs.length : Int) - 1 then 3 else if bs.any outR = true then 1 else if 1 ≤ n ∧ n ≤ 2000 then 0 else 1
theorem bErr_ok {cs bs : List Int} {n : Int} (h : bErr cs bs n = 0) : cErr cs = 0 ∧ (bs.length : Int) = (cs.length : Int) - 1 ∧ (∀ x ∈ bs, 0 ≤ x ∧ x ≤ 2000) ∧ 1 ≤ n ∧ n ≤ 2000 := by
  unfold bErr at h
  split at h
  · omega
  split at h
  · cases h
  split at h
  · cases h
  split at h
  · rename_i h1 h2 h3 h4
    refine ⟨by omega, by omega, fun c hc => ?_, h4.1, h4.2⟩
    have : outR c = false := by
      rw [Bool.not_eq_true, List.any_eq_false] at h3
      simpa using h3 c hc
    unfold outR at this
    simp at this
    exact this
  · cases h
end Go.Proofs.YtmjonmoagpkdiabGreatDoor
namespace Go.Proofs.YtmjonmoagpkdiabGreatDoor
open Go.RowKit
set_option linter.unusedSimpArgs false
set_option linter.unusedVariables false

set_option maxHeartbeats 1000000 in
theorem checkCycles_any (cs : List Int) (hl : cs.length ≤ 1000000) {v : Value} {w : World} (h : Reads encN v cs w) :
    Calls Tryz.prog 72 #[v] w fun e w' => e = .returned (.int .i64 (cErr cs)) ∧ Below w.heap.size w w' := by
  have CI := Lib.hid (containsFN_any (enters_of Tryz.func98 (by kernel_rfl) rfl) outC outC1_any cs hl h)
  have HE : Hid (cErr cs = if cs.length = 0 then 8 else if 6 < cs.length then 2 else if cs.any outC = true then 1 else 0) := rfl
  obtain ⟨A, c, rfl, _⟩ := h
  generalize cs.any outC = b at *
  generalize cErr cs = E at *
  by_cases h0 : cs.length = 0
  · have HF : Hid (E = 8) := HE.out.trans (if_pos h0)
    clear HE CI
    rw [h0]
    clear h0 hl
    go_enter Tryz.func72, Tryz.ntmps72
    go_wp2_with fail
    go_ret
    exact ⟨ret_int HF.out.symm, Below.refl _ _⟩
  have HE2 := Lib.hid (HE.out.trans (if_neg h0))
  clear HE
  by_cases h6 : 6 < cs.length
  · have HF : Hid (E = 2) := HE2.out.trans (if_pos h6)
    clear HE2 CI
    go_enter Tryz.func72, Tryz.ntmps72
    go_wp2_with fail
    go_ret
    exact ⟨ret_int HF.out.symm, Below.refl _ _⟩
  have HE3 := Lib.hid (HE2.out.trans (if_neg h6))
  clear HE2
  cases b
  all_goals
    have HF0 := HE3.out
    simp at HF0
    have HF := Lib.hid HF0
    clear HF0
    clear HE3
    go_enter Tryz.func72, Tryz.ntmps72
    go_wp2_with fail
    refine CI.out.mono ?_
    rintro e w2 ⟨rfl, b2⟩
    have HB := Lib.hid b2
    clear b2
    go_wp2_with fail
    go_ret
    exact ⟨ret_int HF.out.symm, HB.out⟩

theorem bErr_c {cs bs : List Int} {n : Int} (h : cErr cs ≠ 0) : bErr cs bs n = cErr cs := if_pos h
theorem bErr_f {cs bs : List Int} {n : Int} (h : cErr cs = 0) (h2 : (bs.length : Int) ≠ (cs.length : Int) - 1) : bErr cs bs n = 3 := by
  unfold bErr
  rw [if_neg (by omega), if_pos h2]
theorem bErr_r {cs bs : List Int} {n : Int} (h : cErr cs = 0) (h2 : ¬ (bs.length : Int) ≠ (cs.length : Int) - 1) (h3 : bs.any outR = true) : bErr cs bs n = 1 := by
  unfold bErr
  rw [if_neg (by omega), if_neg h2, if_pos h3]
theorem bErr_n {cs bs : List Int} {n : Int} (h : cErr cs = 0) (h2 : ¬ (bs.length : Int) ≠ (cs.length : Int) - 1) (h3 : bs.any outR = false) : bErr cs bs n = if (decide (1 ≤ n) && decide (n ≤ 2000)) = true then 0 else 1 := by
  unfold bErr
  rw [if_neg (by omega), if_neg h2, if_neg (by rw [h3]; simp)]
  simp only [Bool.and_eq_true, decide_eq_true_eq]

theorem validBoards_any (n : Int) (w : World) : Calls Tryz.prog 75 #[.int .i64 n] w fun e w' => e = .returned (.bool (decide (1 ≤ n) && decide (n ≤ 2000))) ∧ w = w' := by
  have CW := Lib.hid (within_any n 1 2000 w)
  generalize (decide (1 ≤ n) && decide (n ≤ 2000)) = b at *
  go_enter Tryz.func75, Tryz.ntmps75
  go_wp2_with fail
  refine CW.out.mono ?_
  rintro e w2 ⟨rfl, rfl⟩
  go_wp2_with fail
  go_ret
  exact ⟨rfl, rfl⟩

set_option maxHeartbeats 2000000 in
theorem checkBoards_any (cs bs : List Int) (n : Int) (hl : cs.length ≤ 1000000) (hb : bs.length ≤ 1000000) {v1 v2 : Value} {w : World} (h1 : Reads encN v1 cs w) (h2 : Reads encN v2 bs w) :
    Calls Tryz.prog 45 #[v1, v2, .int .i64 n] w fun e w' => e = .returned (.int .i64 (bErr cs bs n)) ∧ Below w.heap.size w w' := by
  have CC := Lib.hid (checkCycles_any cs hl h1)
  have CI := Lib.hid (fun W h => @containsFN_any _ (enters_of Tryz.func73 (by kernel_rfl) rfl) outR outR1_any bs hb v2 W h)
  have CV := Lib.hid (fun W => validBoards_any n W)
  have HR := Lib.hid h2
  have HC := Lib.hid (@bErr_c cs bs n)
  have HF := Lib.hid (@bErr_f cs bs n)
  have HR1 := Lib.hid (@bErr_r cs bs n)
  have HN := Lib.hid (@bErr_n cs bs n)
  obtain ⟨A1, c1, rfl, _⟩ := h1
  obtain ⟨A2, c2, rfl, _⟩ := h2
  generalize bErr cs bs n = E at *
  generalize bs.any outR = rb at *
  generalize (decide (1 ≤ n) && decide (n ≤ 2000)) = nb at *
  generalize cErr cs = C at *
  by_cases h0 : C = 0
  rotate_left
  · have HX := Lib.hid (HC.out h0)
    have hne : (C != 0) = true := by simp [h0]
    clear HC HF HR1 HN CI CV
    go_enter Tryz.func45, Tryz.ntmps45
    go_wp2_with fail
    refine CC.out.mono ?_
    rintro e w2 ⟨rfl, b2⟩
    have HB := Lib.hid b2
    clear b2 CC
    go_wp2_with fail
    go_ret
    exact ⟨ret_int HX.out.symm, HB.out⟩
  subst h0
  clear HC
  by_cases hln : (bs.length : Int) ≠ (cs.length : Int) - 1
  · have HX := Lib.hid (HF.out rfl hln)
    have hne : ((bs.length : Int) != (cs.length : Int) - 1) = true := by simpa using hln
    clear HF HR1 HN CI CV hln
    go_enter Tryz.func45, Tryz.ntmps45
    go_wp2_with fail
    refine CC.out.mono ?_
    rintro e w2 ⟨rfl, b2⟩
    have HB := Lib.hid b2
    clear b2 CC
    go_wp2_with fail
    go_ret
    exact ⟨ret_int HX.out.symm, HB.out⟩
  have hne : ((bs.length : Int) != (cs.length : Int) - 1) = false := by simpa using hln
  clear HF
  cases rb
  rotate_left
  · have HX := Lib.hid (HR1.out rfl hln rfl)
    clear HR1 HN CV hln
    go_enter Tryz.func45, Tryz.ntmps45
    go_wp2_with fail
    refine CC.out.mono ?_
    rintro e w2 ⟨rfl, b2⟩
    have HB := Lib.hid b2
    clear b2 CC
    go_wp2_with fail
    refine (CI.out _ (HR.out.below HB.out)).mono ?_
    rintro e w3 ⟨rfl, b3⟩
    have HB3 := Lib.hid (HB.out.then_below b3 HB.out.size)
    clear b3 CI HB
    go_wp2_with fail
    go_ret
    exact ⟨ret_int HX.out.symm, HB3.out⟩
  have HX0 := Lib.hid (HN.out rfl hln rfl)
  clear HR1 HN hln
  cases nb
  all_goals
    have HXX := HX0.out
    simp at HXX
    have HX := Lib.hid HXX
    clear HXX
    clear HX0
    go_enter Tryz.func45, Tryz.ntmps45
    go_wp2_with fail
    refine CC.out.mono ?_
    rintro e w2 ⟨rfl, b2⟩
    have HB := Lib.hid b2
    clear b2 CC
    go_wp2_with fail
    refine (CI.out _ (HR.out.below HB.out)).mono ?_
    rintro e w3 ⟨rfl, b3⟩
    have HB3 := Lib.hid (HB.out.then_below b3 HB.out.size)
    clear b3 CI HB
    go_wp2_with fail
    refine (CV.out _).mono ?_
    rintro e w4 ⟨rfl, rfl⟩
    go_wp2_with fail
    go_ret
    exact ⟨ret_int HX.out.symm, HB3.out⟩

end Go.Proofs.YtmjonmoagpkdiabGreatDoor
