/-
  What a setup has not: the program's map and closure.
-/
import Derived.Test.YtopoemfnnnfgdaaGreatDoorLmD
import Derived.Test.YtopoemfnnnfgdaaGreatDoorShelfB
import Derived.Maps.OwnOps
import Derived.Maps.OwnSet
import Derived.Carry
namespace Go.Proofs.YtopoemfnnnfgdaaGreatDoor
open Go.RowKit Go.WideMaps Go.Maps

/-! ### the halving of a rising row -/
theorem less_iff (a b : ByteArray) : Op.bytesLess a.toList b.toList = decide (bt a < bt b) := by rw [bytesLess_eq, Lib.toList_data, Lib.toList_data]
theorem halve_has {l : List ByteArray} (h : PaOk l) (x : ByteArray) :
    (decide (Lib.bsGo (fun t => Op.bytesLess (l.getD t x).toList x.toList) l.length 0 l.length < l.length ∧ l.getD (Lib.bsGo (fun t => Op.bytesLess (l.getD t x).toList x.toList) l.length 0 l.length) x = x)) = has l x := by
  obtain ⟨k, hk⟩ : ∃ k, l.findIdx (fun y => !decide (bt y < bt x)) = k := ⟨_, rfl⟩
  have hkl : k ≤ l.length := by rw [← hk]; exact List.findIdx_le_length
  have hp := List.pairwise_iff_getElem.mp h.2
  have h1 : ∀ t, t < k → Op.bytesLess (l.getD t x).toList x.toList = true := fun t ht => by
    rw [less_iff]
    have := List.not_of_lt_findIdx (p := fun y => !decide (bt y < bt x)) (xs := l) (i := t) (by omega)
    rw [List.getD_eq_getElem?_getD, List.getElem?_eq_getElem (show t < l.length by omega)]
    simpa using this
  have hkn : ∀ hkl' : k < l.length, ¬ bt l[k] < bt x := fun hkl' => by
    have := List.findIdx_getElem (p := fun y => !decide (bt y < bt x)) (xs := l) (w := by rw [hk]; exact hkl')
    simp only [hk] at this
    simpa using this
  have h2 : ∀ t, k ≤ t → Op.bytesLess (l.getD t x).toList x.toList = false := fun t ht => by
    rw [less_iff, decide_eq_false_iff_not]
    rcases Nat.lt_or_ge t l.length with hl | hl
    · rw [List.getD_eq_getElem?_getD, List.getElem?_eq_getElem hl]
      simp only [Option.getD_some]
      have hn := hkn (by omega)
      rcases Nat.eq_or_lt_of_le ht with e | hlt
      · subst e; exact hn
      · exact fun hc => hn (List.lt_trans (hp k t (by omega) hl hlt) hc)
    · rw [List.getD_eq_getElem?_getD, List.getElem?_eq_none hl]
      exact List.lt_irrefl _
  rw [Lib.bsGo_spec _ k h1 h2 l.length 0 l.length (by omega) (by omega) hkl]
  rw [Bool.eq_iff_iff, decide_eq_true_eq, has_iff]
  constructor
  · rintro ⟨a, b⟩
    rw [List.getD_eq_getElem?_getD, List.getElem?_eq_getElem a] at b
    exact b ▸ List.getElem_mem a
  · intro hx
    obtain ⟨j, hj, rfl⟩ := List.getElem_of_mem hx
    rcases Nat.lt_trichotomy j k with h3 | h3 | h3
    · have := h1 j h3
      rw [less_iff, List.getD_eq_getElem?_getD, List.getElem?_eq_getElem hj] at this
      exact absurd (by simpa using this) (List.lt_irrefl (bt l[j]))
    · subst h3
      exact ⟨hj, by rw [List.getD_eq_getElem?_getD, List.getElem?_eq_getElem hj]; rfl⟩
    · exact absurd (hp k j (by omega) hj h3) (hkn (by omega))

/-! ### a map of what is there -/
theorem lawStr : Keyed Tryz.prog 9 := string_keyed Tryz.underlying9
theorem zeroBool (w : World) : (zeroValue 4).run Tryz.prog w = .ok (.bool false) w := by kernel_rfl
theorem plainElem_bool_inv {P : Program} {e : TypeId} (he : P.underlying e = some .bool) {v : Value} {z : DataW Unit × List MemPlace} (h : plainElem P e v = some z) : ∃ x, v = .bool x ∧ z = (.lit (.bool x), []) := by
  unfold plainElem at h
  rw [he] at h
  cases v <;> simp at h
  exact ⟨_, rfl, h.symm⟩
theorem wpList_lookup_own_bool {P : Program} (w : World) {ops : Array Oper} {rest : List Oper} {o : Oper} {a : Act} {Q : Exit → Act → World → Prop}
    (hg : o.guard = none) (m x : Operand) (t : TypeId) (hop : o.op = Op.lookup t m x false)
    (k e : TypeId) (K : Keyed P k) (ht : P.underlying t = some (.map k e)) (he : P.underlying e = some .bool) (hz : (zeroValue e).run P w = .ok (.bool false) w) (b n : Nat) (D : DataW Unit)
    (hm : a.eval m = .map (some b)) (hown : w.ownsMap P k (plainElem P e) b n D) (key : Value) (kl : Lit) (hx : a.eval x = key) (hkey : keyOf P k key = some kl)
    (hK : ∀ c : Bool, D.atKey kl (.lit (.bool false)) = .lit (.bool c) → wpList P ops Q rest (a.put o.dst (.bool c)) w) :
    wpList P ops Q (o :: rest) a w := by
  refine wpList_plain hg fun K' hK' => ?_
  obtain ⟨v, ps, hrun, hv⟩ := hown.lookup K ht hz (plainElem_bool he false) hkey
  obtain ⟨c, rfl, hc⟩ := plainElem_bool_inv he hv
  simp only [Prod.mk.injEq] at hc
  unfold Oper.wp
  simp [execOp, hop, hm, hx, hrun, Result.andThen]
  exact hK' _ _ (hK c hc.1)

/-- A map that has the strings of a list. -/
def ThereIs (D : DataW Unit) (l : List ByteArray) : Prop := IsMap D ∧ ∀ (s : List UInt8) z, D.atKey (.string s) z = if s ∈ l.map bt then .lit (.bool true) else z
theorem thereIs_nil : ThereIs (.map []) [] := ⟨isMap_empty, fun s z => by simp; rfl⟩
theorem thereIs_put {D : DataW Unit} {l : List ByteArray} (h : ThereIs D l) (x : ByteArray) : ThereIs (D.put (.string (bt x)) (.lit (.bool true))) (l ++ [x]) := by
  refine ⟨h.1.put _ _, fun t z => ?_⟩
  by_cases e : t = bt x
  · subst e
    rw [atKey_put_same (k := .string (bt x)) h.1 trivial, if_pos (by simp)]
  · rw [atKey_put_other (by simpa using e), h.2]
    have : (t ∈ (l ++ [x]).map bt) ↔ t ∈ l.map bt := by simp [e]
    by_cases hm : t ∈ l.map bt
    · rw [if_pos hm, if_pos (this.mpr hm)]
    · rw [if_neg hm, if_neg (fun h => hm (this.mp h))]
theorem thereIs_at {D : DataW Unit} {l : List ByteArray} (h : ThereIs D l) {x : ByteArray} {c : Bool} (hc : D.atKey (.string (bt x)) (.lit (.bool false)) = .lit (.bool c)) : c = has l x := by
  rw [h.2] at hc
  by_cases hm : x ∈ l
  · rw [if_pos (List.mem_map.mpr ⟨x, hm, rfl⟩)] at hc
    rw [has_iff.mpr hm]
    simpa using hc.symm
  · rw [if_neg (fun h => by obtain ⟨y, hy, e⟩ := List.mem_map.mp h; exact hm (bt_inj e ▸ hy))] at hc
    rw [has_false.mpr hm]
    simpa using hc.symm

theorem map_below {w w' : World} {mb n : Nat} {D : DataW Unit} {k : TypeId} {R : Value → Option (DataW Unit × List MemPlace)} (h : w.ownsMap Tryz.prog k R mb n D) (hb : Below w.heap.size w w') : w'.ownsMap Tryz.prog k R mb n D := by
  have hlt := h.lt
  obtain ⟨es, clock, h1, h2⟩ := h
  exact ⟨es, clock, (hb.block _ hlt).trans h1, h2⟩
theorem missOf_succ {s l : List ByteArray} {k : Nat} (h : k < l.length) : missOf s (l.take (k + 1)) = if has s l[k] = true then missOf s (l.take k) else missOf s (l.take k) ++ [l[k]] := by
  unfold missOf
  rw [List.take_succ_eq_append_getElem h, List.filter_append]
  cases hh : has s l[k] <;> simp [hh]

end Go.Proofs.YtopoemfnnnfgdaaGreatDoor
