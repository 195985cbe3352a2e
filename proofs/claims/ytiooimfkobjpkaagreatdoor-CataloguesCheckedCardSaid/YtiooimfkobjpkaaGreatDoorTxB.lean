/-
  The program's lists of numerals: word.Numbers.
-/
import Derived.Test.YtiooimfkobjpkaaGreatDoorTxA
namespace Go.Proofs.YtiooimfkobjpkaaGreatDoor
open Go.RowKit
set_option linter.unusedSimpArgs false
set_option linter.unusedVariables false

/-- Strings in a row, from a place of a block on. -/
def StrsAt (v : Value) (ws : List ByteArray) (w : World) : Prop :=
  ∃ A c, v = .slice A ws.length c ∧ ws.length ≤ c ∧ (ws = [] ∨ ∃ g o : Nat, A = some ⟨g, o, none⟩ ∧ g < w.heap.size ∧ ∀ j (h : j < ws.length), w.cell? ⟨g, o + j, none⟩ = some (.string ws[j]))
theorem StrsAt.below {v : Value} {ws : List ByteArray} {w w' : World} (h : StrsAt v ws w) (hb : Below w.heap.size w w') : StrsAt v ws w' := by
  obtain ⟨A, c, e, hc, h⟩ := h
  refine ⟨A, c, e, hc, h.imp_right ?_⟩
  rintro ⟨g, o, e, hl, h⟩
  exact ⟨g, o, e, Nat.lt_of_lt_of_le hl hb.size, fun j hj => (hb.cell (p := ⟨g, o + j, none⟩) hl).trans (h j hj)⟩
theorem ReadsF.strs {base : Nat} {v : Value} {ws : List ByteArray} {w : World} (h : ReadsF base encS v ws w) : StrsAt v ws w := by
  obtain ⟨A, c, e, hc, h⟩ := h
  refine ⟨A, c, e, hc, h.imp_right ?_⟩
  rintro ⟨g, e, _, hl, hr⟩
  exact ⟨g, 0, e, hl, fun j hj => by rw [Nat.zero_add]; exact row_strg ⟨hl, hr⟩ hj⟩
theorem int_info2 : (Tryz.prog.info? 3).map (fun i => (i.zero, i.size, i.bytes)) = some (some (.int .i64 0), 1, 8) := by kernel_rfl
def encZ (x : Int) : List Value := [.int .i64 x]
theorem flatZ_map (l : List Int) : l.flatMap encZ = l.map (Value.int .i64) := by
  induction l with
  | nil => rfl
  | cons x l ih => rw [List.flatMap_cons, ih]; rfl
theorem row_intz {w : World} {g : Nat} {l : List Int} (h : LineAt w g (l.flatMap encZ)) {k : Nat} (hk : k < l.length) : w.cell? ⟨g, k, none⟩ = some (.int .i64 l[k]) := by
  refine h.2 k _ ?_
  rw [flatZ_map, List.getElem?_map, List.getElem?_eq_getElem hk]
  rfl
theorem own_intz {w : World} {base : Nat} {v : Value} {l : List Int} {T : TypeId} (h : w.ownsRow base T 1 v l.length (l.map (Value.int .i64))) : ReadsF base encZ v l w := by
  refine readsF_own (T := T) (size := 1) ?_
  rw [flatZ_map]
  exact h
theorem own_slice' {w : World} {base : Nat} {e : TypeId} {size n : Nat} {v : Value} {xs : List Value} (h : w.ownsRow base e size v n xs) : ∃ A c, v = .slice A n c ∧ n ≤ c ∧ ((∃ b : Nat, A = some ⟨b, 0, none⟩) ∨ (A = none ∧ n = 0 ∧ c = 0)) := by
  rcases h.2 with ⟨rfl, rfl⟩ | ⟨g, cap, cur, rfl, hb, hc, h1, h2, _⟩
  · exact ⟨none, 0, rfl, Nat.le_refl _, .inr ⟨rfl, rfl, rfl⟩⟩
  · exact ⟨_, cap, rfl, h1, .inl ⟨g, rfl⟩⟩

/-- Whether all words are numerals, and what they stand for. -/
def numsB (most : Nat) (ws : List ByteArray) : Bool := ws.all (numB most)
def numsI (most : Nat) (ws : List ByteArray) : List Int := ws.map (numI most)

set_option maxHeartbeats 2000000 in
theorem numbers_any (ws : List ByteArray) (hl : ws.length ≤ 1000000) (hz : ∀ x ∈ ws, x.size ≤ 10000000) {v : Value} {w : World} (h : StrsAt v ws w) :
    Calls Tryz.prog 67 #[v] w fun e w' => ∃ u, e = .returned (.tuple #[u, .bool (numsB 15 ws)]) ∧ Below w.heap.size w w' ∧ (numsB 15 ws = true → ReadsF w.heap.size encZ u (numsI 15 ws) w') := by
  have HH := Lib.hid h
  obtain ⟨A, c, rfl, hc, _⟩ := h
  go_enter Tryz.func67, Tryz.ntmps67
  go_wp2_with fail
  go_loopw [4, 11] (fun v4 kk wr => ∃ k : Nat, k ≤ ws.length ∧ kk = .int .i64 k ∧ w.heap.size ≤ wr.heap.size ∧ Hid (Below w.heap.size w wr ∧ numsB 15 (ws.take k) = true ∧ wr.ownsRow w.heap.size 3 1 v4 (numsI 15 (ws.take k)).length ((numsI 15 (ws.take k)).map (Value.int .i64)))) (fun _ kk _ => ws.length - (intOf kk).toNat)
  case atStart => exact ⟨0, by omega, rfl, Nat.le_refl _, Below.refl _ _, rfl, World.ownsRow_nil _ _ _ _⟩
  case round =>
    obtain ⟨k, hk, rfl, hwz, HS⟩ := hrel
    obtain ⟨A4, c4, rfl, hc4, _⟩ := own_slice' HS.out.2.2
    by_cases hlt : k < ws.length
    · obtain ⟨g, o, rfl, hgl, hcs⟩ : ∃ g o : Nat, A = some ⟨g, o, none⟩ ∧ g < wr.heap.size ∧ ∀ j (h : j < ws.length), wr.cell? ⟨g, o + j, none⟩ = some (.string ws[j]) := by
        obtain ⟨A', c', e, _, hr⟩ := HH.out.below HS.out.1
        cases e
        rcases hr with hr | hr
        · subst hr; simp at hlt
        · exact hr
      have q1 := hcs k hlt
      have i1 : (0 : Int) ≤ (k : Int) := by omega
      have i2 : (k : Int) < (ws.length : Int) := by omega
      have CN := Lib.hid (number_any ws[k] 15 (by omega) (hz _ (List.getElem_mem hlt)) wr)
      have HT : Hid (ws.take (k + 1) = ws.take k ++ [ws[k]]) := (List.take_append_getElem hlt).symm
      have HAll : Hid (numB 15 ws[k] = false → numsB 15 ws = false) := fun h => by
        rw [Bool.eq_false_iff]
        intro hc
        have := List.all_eq_true.mp hc _ (List.getElem_mem hlt)
        rw [h] at this
        cases this
      have hnl : (numsI 15 (ws.take k)).length = k := by unfold numsI; rw [List.length_map, List.length_take]; omega
      have HNL := Lib.hid hnl
      clear hcs hnl
      generalize ws[k] = x at *
      cases hb : numB 15 x
      · have HF := Lib.hid (HAll.out hb)
        rw [hb] at CN
        clear hb HAll
        go_wp2_with fail
        refine CN.out.mono ?_
        rintro e w1 ⟨rfl, b1⟩
        have HB := Lib.hid (HS.out.1.then_below b1 HS.out.1.size)
        clear b1 HS CN
        go_wp2_with fail
        refine bodyPost_ret (v := .tuple #[.slice none 0 0, .bool false]) (by unfold results; simp only [Tryz.results67]; go_simp) rfl ⟨_, by rw [HF.out], HB.out, fun h => by rw [HF.out] at h; cases h⟩
      · rw [hb] at CN
        have HG := Lib.hid hb
        clear hb HAll
        go_wp2_with fail
        refine CN.out.mono ?_
        rintro e w1 ⟨rfl, b1⟩
        have H1 := Lib.hid (And.intro (HS.out.1.then_below b1 HS.out.1.size) (And.intro HS.out.2.1 (own_below HS.out.2.2 b1)))
        have hwz1 : w.heap.size ≤ w1.heap.size := H1.out.1.size
        have hlen : (numsI 15 (ws.take k)).length ≤ 1000000 := by rw [HNL.out]; omega
        clear b1 HS CN
        obtain ⟨i0, hi0, hz0, hzz1, hz2⟩ := info_parts int_info2
        have HI := Lib.hid (And.intro hi0 (And.intro hz0 (And.intro hzz1 hz2)))
        clear hi0 hz0 hzz1 hz2
        go_wp2_with (at_builtin; refine hold ?_)
        refine loose ?_
        refine wpList_append_own _ rfl _ _ 22 rfl w.heap.size 3 i0 _ 1 8 Tryz.underlying22 HI.out.1 HI.out.2.1 HI.out.2.2.1 HI.out.2.2.2 rfl (by omega) _ (numsI 15 (ws.take k)).length ((numsI 15 (ws.take k)).map (Value.int .i64)) rfl (H1.out.2.2.alloc _) ⟨w1.heap.size, 0, none⟩ 1 1 [.int .i64 (numI 15 x)] rfl rfl (cell_one_new _ _ _) (by intro u hu; simp at hu; subst hu; rfl) (by unfold maxLen; omega) (by omega) (by simp; omega) ?_
        intro v' w2 hown' hg' _
        have HF : Hid (Below w.heap.size w w2 ∧ numsB 15 (ws.take (k + 1)) = true ∧ w2.ownsRow w.heap.size 3 1 v' (numsI 15 (ws.take (k + 1))).length ((numsI 15 (ws.take (k + 1))).map (Value.int .i64))) := by
          refine ⟨(H1.out.1.alloc hwz1 _).grown hg' (by simp; omega) (own_row H1.out.2.2), ?_, ?_⟩
          · rw [HT.out]
            unfold numsB
            rw [List.all_append]
            have := H1.out.2.1
            unfold numsB at this
            rw [this]
            simp [HG.out]
          · have e : numsI 15 (ws.take (k + 1)) = numsI 15 (ws.take k) ++ [numI 15 x] := by rw [HT.out]; unfold numsI; rw [List.map_append]; rfl
            rw [e, List.length_append, List.map_append]
            exact hown'
        have hz3 := HF.out.1.size
        clear hown' hg' H1
        go_wp2_with fail
        go_roundw
        case rel => exact ⟨k + 1, by omega, by go_num, hz3, HF⟩
        case measure => simp [intOf]; omega
    · have HF : Hid (numsB 15 ws = true ∧ ReadsF w.heap.size encZ (.slice A4 (numsI 15 (ws.take k)).length c4) (numsI 15 ws) wr) := by
        have e : ws.take k = ws := List.take_of_length_le (by omega)
        have h2 := HS.out.2.1
        have h3 := own_intz HS.out.2.2
        rw [e] at h2
        refine ⟨h2, ?_⟩
        rw [e] at h3 ⊢
        exact h3
      have HB := Lib.hid HS.out.1
      clear HS
      go_wp2_with fail
      refine bodyPost_ret (v := .tuple #[.slice A4 (numsI 15 (ws.take k)).length c4, .bool true]) (by unfold results; simp only [Tryz.results67]; go_simp) rfl ⟨_, by rw [HF.out.1], HB.out, fun _ => HF.out.2⟩
end Go.Proofs.YtiooimfkobjpkaaGreatDoor
