/-
  When a part is needed next, the program's and the reference's.
-/
import Derived.Test.YtjmjmijjdgolfaaSeF
namespace Go.Proofs.Ytjmjmijjdgolfaa
open Go.RowKit
set_option linter.unusedSimpArgs false
set_option linter.unusedVariables false

def whenI (part : ByteArray) (L : List (List ByteArray)) : Int := if whenOf part L < L.length then (whenOf part L : Int) else -1
theorem when_hit {part : ByteArray} {L : List (List ByteArray)} {k : Nat} (h : k < L.length) (hk : has L[k] part = true) (hb : ∀ i (hi : i < L.length), i < k → has L[i] part = false) : whenOf part L = k := by
  unfold whenOf
  rw [List.findIdx_eq h]
  exact ⟨hk, fun j hj => hb j (by omega) hj⟩
theorem when_none {part : ByteArray} {L : List (List ByteArray)} (hb : ∀ i (hi : i < L.length), has L[i] part = false) : whenOf part L = L.length := by
  unfold whenOf
  rw [List.findIdx_eq_length]
  intro l hl
  obtain ⟨i, hi, rfl⟩ := List.getElem_of_mem hl
  exact hb i hi
theorem whenOf_le (part : ByteArray) (L : List (List ByteArray)) : whenOf part L ≤ L.length := List.findIdx_le_length

set_option maxHeartbeats 2000000 in
theorem idxWhen_any {base : Nat} {L : List (List ByteArray)} {v : Value} (part : ByteArray) (fb : Nat) (hL : L.length ≤ 1000000) {w : World} (h : ListsF base v L w)
    (HC : ∀ (W : World) (j : Nat) (hj : j < L.length) (u : Value), Below w.heap.size w W → ReadsF base encS u L[j] W → Calls Try.prog 102 #[u, .pointer (some ⟨fb, 0, none⟩)] W fun e w' => e = .returned (.bool (has L[j] part)) ∧ Below W.heap.size W w') :
    Calls Try.prog 101 #[v, .func (.func 102) #[] #[.pointer (some ⟨fb, 0, none⟩)]] w fun e w' => e = .returned (.int .i64 (whenI part L)) ∧ Below w.heap.size w w' := by
  have HH := Lib.hid (And.intro h HC)
  obtain ⟨A, c, rfl, _, _⟩ := h
  clear HC
  go_enter Try.func101, Try.ntmps101
  go_wp2_with fail
  go_loopw [8] (fun kk wr => ∃ k : Nat, k ≤ L.length ∧ kk = .int .i64 k ∧ Hid (Below w.heap.size w wr ∧ ∀ i (hi : i < L.length), i < k → has L[i] part = false)) (fun kk _ => L.length - (intOf kk).toNat)
  case atStart => exact ⟨0, by omega, rfl, Below.refl _ _, fun i _ h => by omega⟩
  case round =>
    obtain ⟨k, hk, rfl, HS⟩ := hrel
    by_cases hlt : k < L.length
    · obtain ⟨A', c', e, _, hr⟩ := HH.out.1.below HS.out.1
      cases e
      rcases hr with hr | ⟨g, o, rfl, _, hgl, hcells⟩
      · subst hr; simp at hlt
      obtain ⟨u, c0, hu⟩ := hcells k hlt
      have CK := Lib.hid (HH.out.2 wr k hlt u HS.out.1 hu)
      obtain ⟨A3, c3, rfl, _, _⟩ := hu
      have i1 : (0 : Int) ≤ (k : Int) := by omega
      have i2 : (k : Int) < (L.length : Int) := by omega
      clear hcells
      cases hh : has L[k] part
      · rw [hh] at CK
        have HN : Hid (∀ i (hi : i < L.length), i < k + 1 → has L[i] part = false) := fun i hi hik => by
          rcases Nat.lt_or_ge i k with h | h
          · exact HS.out.2 i hi h
          · obtain rfl : i = k := by omega
            exact hh
        clear hh
        generalize L[k] = l at *
        go_wp2_with fail
        refine CK.out.mono ?_
        rintro e w' ⟨rfl, hb⟩
        have HB := Lib.hid (HS.out.1.then_below hb HS.out.1.size)
        clear hb
        go_wp2_with fail
        go_roundw
        case rel => exact ⟨k + 1, by omega, by go_num, HB.out, HN.out⟩
        case measure => simp [intOf]; omega
      · rw [hh] at CK
        have hw := when_hit hlt hh HS.out.2
        have HF : Hid (whenI part L = k) := by
          show whenI part L = k
          unfold whenI
          rw [hw, if_pos hlt]
        clear hh hw
        generalize L[k] = l at *
        go_wp2_with fail
        refine CK.out.mono ?_
        rintro e w' ⟨rfl, hb⟩
        have HB := Lib.hid (HS.out.1.then_below hb HS.out.1.size)
        clear hb
        go_wp2_with fail
        go_ret
        exact ⟨ret_int HF.out.symm, HB.out⟩
    · have HF : Hid (whenI part L = -1) := by
        show whenI part L = -1
        unfold whenI
        rw [when_none (fun i hi => HS.out.2 i hi (by omega)), if_neg (Nat.lt_irrefl _)]
      go_wp2_with fail
      go_ret
      exact ⟨ret_int HF.out.symm, HS.out.1⟩

set_option maxHeartbeats 2000000 in
theorem idxNeed_any {base : Nat} {L : List (List ByteArray)} {v : Value} (part : ByteArray) (fb : Nat) (hL : L.length ≤ 1000000) {w : World} (h : ListsF base v L w)
    (HC : ∀ (W : World) (j : Nat) (hj : j < L.length) (u : Value), Below w.heap.size w W → ReadsF base encS u L[j] W → Calls Try.prog 124 #[u, .pointer (some ⟨fb, 0, none⟩)] W fun e w' => e = .returned (.bool (has L[j] part)) ∧ Below W.heap.size W w') :
    Calls Try.prog 101 #[v, .func (.func 124) #[] #[.pointer (some ⟨fb, 0, none⟩)]] w fun e w' => e = .returned (.int .i64 (whenI part L)) ∧ Below w.heap.size w w' := by
  have HH := Lib.hid (And.intro h HC)
  obtain ⟨A, c, rfl, _, _⟩ := h
  clear HC
  go_enter Try.func101, Try.ntmps101
  go_wp2_with fail
  go_loopw [8] (fun kk wr => ∃ k : Nat, k ≤ L.length ∧ kk = .int .i64 k ∧ Hid (Below w.heap.size w wr ∧ ∀ i (hi : i < L.length), i < k → has L[i] part = false)) (fun kk _ => L.length - (intOf kk).toNat)
  case atStart => exact ⟨0, by omega, rfl, Below.refl _ _, fun i _ h => by omega⟩
  case round =>
    obtain ⟨k, hk, rfl, HS⟩ := hrel
    by_cases hlt : k < L.length
    · obtain ⟨A', c', e, _, hr⟩ := HH.out.1.below HS.out.1
      cases e
      rcases hr with hr | ⟨g, o, rfl, _, hgl, hcells⟩
      · subst hr; simp at hlt
      obtain ⟨u, c0, hu⟩ := hcells k hlt
      have CK := Lib.hid (HH.out.2 wr k hlt u HS.out.1 hu)
      obtain ⟨A3, c3, rfl, _, _⟩ := hu
      have i1 : (0 : Int) ≤ (k : Int) := by omega
      have i2 : (k : Int) < (L.length : Int) := by omega
      clear hcells
      cases hh : has L[k] part
      · rw [hh] at CK
        have HN : Hid (∀ i (hi : i < L.length), i < k + 1 → has L[i] part = false) := fun i hi hik => by
          rcases Nat.lt_or_ge i k with h | h
          · exact HS.out.2 i hi h
          · obtain rfl : i = k := by omega
            exact hh
        clear hh
        generalize L[k] = l at *
        go_wp2_with fail
        refine CK.out.mono ?_
        rintro e w' ⟨rfl, hb⟩
        have HB := Lib.hid (HS.out.1.then_below hb HS.out.1.size)
        clear hb
        go_wp2_with fail
        go_roundw
        case rel => exact ⟨k + 1, by omega, by go_num, HB.out, HN.out⟩
        case measure => simp [intOf]; omega
      · rw [hh] at CK
        have hw := when_hit hlt hh HS.out.2
        have HF : Hid (whenI part L = k) := by
          show whenI part L = k
          unfold whenI
          rw [hw, if_pos hlt]
        clear hh hw
        generalize L[k] = l at *
        go_wp2_with fail
        refine CK.out.mono ?_
        rintro e w' ⟨rfl, hb⟩
        have HB := Lib.hid (HS.out.1.then_below hb HS.out.1.size)
        clear hb
        go_wp2_with fail
        go_ret
        exact ⟨ret_int HF.out.symm, HB.out⟩
    · have HF : Hid (whenI part L = -1) := by
        show whenI part L = -1
        unfold whenI
        rw [when_none (fun i hi => HS.out.2 i hi (by omega)), if_neg (Nat.lt_irrefl _)]
      go_wp2_with fail
      go_ret
      exact ⟨ret_int HF.out.symm, HS.out.1⟩

set_option maxHeartbeats 1000000 in
theorem whenC_any {base : Nat} {l : List ByteArray} {u : Value} {fb : Nat} (part : ByteArray) (hl : l.length ≤ 1000000) {W : World} (hf : W.heap[fb]? = some (.cells #[.string part] 9 (0, 0))) (h : ReadsF base encS u l W) :
    Calls Try.prog 102 #[u, .pointer (some ⟨fb, 0, none⟩)] W fun e w' => e = .returned (.bool (has l part)) ∧ Below W.heap.size W w' := by
  have hr := h
  obtain ⟨A, c, rfl, hc, _⟩ := h
  have CC := Lib.hid (contains_any part l.length (Nat.le_refl _) hl hr c)
  rw [List.take_of_length_le (Nat.le_refl _)] at CC
  have c0 := blk_cell0 hf
  have hlt := lt_of_blk hf
  clear hr hf
  generalize has l part = b at *
  go_enter Try.func102, Try.ntmps102
  go_wp2_with fail
  refine CC.out.mono ?_
  rintro e w' ⟨rfl, rfl⟩
  go_wp2_with fail
  go_ret
  exact ⟨rfl, Below.refl _ _⟩

set_option maxHeartbeats 1000000 in
theorem needC_any {base : Nat} {l : List ByteArray} {u : Value} {fb : Nat} (part : ByteArray) (hl : l.length ≤ 1000000) (hp : PaOk l) {W : World} (hf : W.heap[fb]? = some (.cells #[.string part] 9 (0, 0))) (h : ReadsF base encS u l W) :
    Calls Try.prog 124 #[u, .pointer (some ⟨fb, 0, none⟩)] W fun e w' => e = .returned (.bool (has l part)) ∧ Below W.heap.size W w' := by
  have CC := Lib.hid (needs_any part hl hp h)
  obtain ⟨A, c, rfl, hc, _⟩ := h
  have c0 := blk_cell0 hf
  have hlt := lt_of_blk hf
  clear hf
  generalize has l part = b at *
  go_enter Try.func124, Try.ntmps124
  go_wp2_with fail
  refine CC.out.mono ?_
  rintro e w' ⟨rfl, q, rfl⟩
  go_wp2_with fail
  go_ret
  exact ⟨rfl, (Below.refl _ _).drawN _⟩

set_option maxHeartbeats 2000000 in
theorem when_any {base : Nat} {L : List (List ByteArray)} {v : Value} (part : ByteArray) (hL : L.length ≤ 1000000) (hLL : ∀ l ∈ L, l.length ≤ 1000000) {w : World} (h : ListsF base v L w) :
    Calls Try.prog 83 #[.string part, v] w fun e w' => e = .returned (.int .i64 (whenOf part L)) ∧ Below w.heap.size w w' := by
  have hW : Below w.heap.size w (w.alloc (.cells #[.string part] 9)) := (Below.refl _ _).alloc (Nat.le_refl _) _
  have hbk : (w.alloc (.cells #[.string part] 9)).heap[w.heap.size]? = some (.cells #[.string part] 9 (0, 0)) := blk_new w _ rfl
  have CI := Lib.hid (idxWhen_any part w.heap.size hL (h.below hW) (fun W j hj u hb hu => whenC_any part (hLL _ (List.getElem_mem hj)) (blk_below hb hbk) hu))
  obtain ⟨A, c, rfl, _, _⟩ := h
  have HW := Lib.hid hW
  have hle := whenOf_le part L
  have HE : Hid (whenI part L = if whenOf part L < L.length then (whenOf part L : Int) else -1) := rfl
  clear hbk hW
  by_cases hlt : whenOf part L < L.length
  · rw [if_pos hlt] at HE
    rw [HE.out] at CI
    generalize whenOf part L = m at *
    clear HE
    go_enter Try.func83, Try.ntmps83
    go_wp2_with fail
    refine CI.out.mono ?_
    rintro e w' ⟨rfl, hb⟩
    have HB := Lib.hid (HW.out.then_below hb HW.out.size)
    clear hb
    go_wp2_with fail
    go_ret
    exact ⟨rfl, HB.out⟩
  · rw [if_neg hlt] at HE
    rw [HE.out] at CI
    have HM : Hid (whenOf part L = L.length) := by show whenOf part L = L.length; omega
    rw [HM.out]
    clear HE hlt hle
    go_enter Try.func83, Try.ntmps83
    go_wp2_with fail
    refine CI.out.mono ?_
    rintro e w' ⟨rfl, hb⟩
    have HB := Lib.hid (HW.out.then_below hb HW.out.size)
    clear hb
    go_wp2_with fail
    go_ret
    exact ⟨rfl, HB.out⟩

set_option maxHeartbeats 2000000 in
theorem firstNeed_any {base : Nat} {L : List (List ByteArray)} {v : Value} (part : ByteArray) (hL : L.length ≤ 1000000) (hLL : ∀ l ∈ L, l.length ≤ 1000000) (hp : ∀ l ∈ L, PaOk l) {w : World} (h : ListsF base v L w) :
    Calls Try.prog 113 #[v, .string part] w fun e w' => e = .returned (.int .i64 (whenOf part L)) ∧ Below w.heap.size w w' := by
  have hW : Below w.heap.size w (w.alloc (.cells #[.string part] 9)) := (Below.refl _ _).alloc (Nat.le_refl _) _
  have hbk : (w.alloc (.cells #[.string part] 9)).heap[w.heap.size]? = some (.cells #[.string part] 9 (0, 0)) := blk_new w _ rfl
  have CI := Lib.hid (idxNeed_any part w.heap.size hL (h.below hW) (fun W j hj u hb hu => needC_any part (hLL _ (List.getElem_mem hj)) (hp _ (List.getElem_mem hj)) (blk_below hb hbk) hu))
  obtain ⟨A, c, rfl, _, _⟩ := h
  have HW := Lib.hid hW
  have hle := whenOf_le part L
  have HE : Hid (whenI part L = if whenOf part L < L.length then (whenOf part L : Int) else -1) := rfl
  clear hbk hW
  by_cases hlt : whenOf part L < L.length
  · rw [if_pos hlt] at HE
    rw [HE.out] at CI
    generalize whenOf part L = m at *
    clear HE
    go_enter Try.func113, Try.ntmps113
    go_wp2_with fail
    refine CI.out.mono ?_
    rintro e w' ⟨rfl, hb⟩
    have HB := Lib.hid (HW.out.then_below hb HW.out.size)
    clear hb
    go_wp2_with fail
    go_ret
    exact ⟨rfl, HB.out⟩
  · rw [if_neg hlt] at HE
    rw [HE.out] at CI
    have HM : Hid (whenOf part L = L.length) := by show whenOf part L = L.length; omega
    rw [HM.out]
    clear HE hlt hle
    go_enter Try.func113, Try.ntmps113
    go_wp2_with fail
    refine CI.out.mono ?_
    rintro e w' ⟨rfl, hb⟩
    have HB := Lib.hid (HW.out.then_below hb HW.out.size)
    clear hb
    go_wp2_with fail
    go_ret
    exact ⟨rfl, HB.out⟩
end Go.Proofs.Ytjmjmijjdgolfaa
