/-
  The reference's missing parts.
-/
import Derived.Test.YtjmjmijjdgolfaaSeE
import Derived.Shelf.SlicesE.DeleteFunc
namespace Go.Proofs.Ytjmjmijjdgolfaa
open Go.RowKit Go.Sort
set_option linter.unusedSimpArgs false
set_option linter.unusedVariables false

/-- slices.Clone of a slice that reads as strings. -/
theorem clone_any {base : Nat} {l : List ByteArray} {v : Value} (hl : l.length ≤ 1000000) {w : World} (h : ReadsF base encS v l w) :
    Calls Try.prog 71 #[v] w fun e w' => ∃ u, e = .returned u ∧ Below w.heap.size w w' ∧ w'.ownsRow w.heap.size 9 1 u l.length (l.map Value.string) := by
  obtain ⟨A, c, rfl, hc, hr⟩ := h
  rcases Nat.eq_zero_or_pos l.length with h0 | h0
  · obtain rfl : l = [] := List.length_eq_zero_iff.mp h0
    cases A with
    | none =>
      refine (Try.slices_Clone_string_nil 0 c w).mono ?_
      rintro e w' ⟨rfl, rfl⟩
      exact ⟨_, rfl, Below.refl _ _, World.ownsRow_nil _ _ _ _⟩
    | some a =>
      refine (Try.slices_Clone_string_zero a c w).mono ?_
      rintro e w' ⟨v', rfl, h1, _, h2⟩
      exact ⟨_, rfl, h2, h1⟩
  · rcases hr with rfl | ⟨g, rfl, _, hr⟩
    · simp at h0
    refine (Try.slices_Clone_string g 0 l.length c l w (Nat.le_refl _) (by omega) (fun j hj => ?_)).mono ?_
    · rw [Nat.zero_add, List.getD_eq_getElem?_getD, List.getElem?_eq_getElem hj]
      exact row_strg hr hj
    · rintro e w' ⟨v', rfl, h1, _, h2⟩
      rw [List.take_of_length_le (Nat.le_refl _)] at h1
      exact ⟨_, rfl, h2, h1⟩

theorem grownBy_sw {α : Type} [Inhabited α] (enc : α → Value) (w : World) (g off n : Nat) (d : Array α) (os : Array Obj) : w.grownBy (sortWorld enc w g off n d os) (some g) := by
  unfold sortWorld
  refine ⟨rfl, rfl, rfl, by simp, fun k hk hne => ?_⟩
  rw [heap_grow_old _ _ (by simpa using hk)]
  have : g ≠ k := fun e => hne (by rw [e])
  simp [putRow, mapBlock, Sort.ahead, Array.getElem?_modify, this]
theorem holds_strs {w : World} {g cap : Nat} {cur : Array Value} {e : TypeId} {l : List ByteArray} (hb : w.heap[g]? = some (.cells cur e (0, 0))) (ht : cur.toList.take l.length = l.map Value.string) : Holds Value.string w g 0 l.toArray := by
  intro j hj
  have hj' : j < l.length := by simpa using hj
  refine ⟨?_, by simp [World.frozen?, hb]⟩
  have h1 : (cur.toList.take l.length)[j]? = (l.map Value.string)[j]? := by rw [ht]
  rw [List.getElem?_take_of_lt hj', Array.getElem?_toList] at h1
  rw [Nat.zero_add, cell_of_blk hb, h1]
  simp [hj']
theorem reads_put {w : World} {g cap n : Nat} {l r : List ByteArray} {F : List ByteArray} {base : Nat} (hH : Holds Value.string w g 0 l.toArray) (hg : g < w.heap.size) (hb : base ≤ g) (hF : (r ++ F).length = l.length) (hc : l.length ≤ cap) :
    ReadsF base encS (.slice (some ⟨g, 0, none⟩) r.length cap) r (putRow Value.string (Sort.ahead w n) g 0 (r ++ F).toArray) := by
  have hrl : r.length ≤ l.length := by rw [← hF]; simp
  refine ⟨_, cap, rfl, by omega, .inr ⟨g, rfl, hb, by simpa using hg, fun j u hu => ?_⟩⟩
  rw [show r.flatMap encS = r.map Value.string from flatS_map r] at hu
  have hj : j < r.length := by
    rcases Nat.lt_or_ge j r.length with h | h
    · exact h
    · rw [List.getElem?_eq_none (by simpa using h)] at hu; cases hu
  have hP := (holds_putRow Value.string (Sort.ahead w n) g 0 l.toArray (r ++ F).toArray (fun j hj => hH j hj) (by simpa using hF)) j (by simp; omega)
  rw [Nat.zero_add] at hP
  rw [hP.1]
  rw [List.getElem?_map, List.getElem?_eq_getElem hj] at hu
  rw [← hu, getElem!_pos _ j (by simp; omega)]
  simp [List.getElem_append_left hj]

set_option maxHeartbeats 1000000 in
theorem delNone_any (A : Option Addr) (c : Nat) (f : Value) (w : World) : Calls Try.prog 77 #[.slice A 0 c, f] w fun e w' => e = .returned (.slice A 0 c) ∧ w = w' := by
  have CI := Lib.hid (fun W => Try.slices_IndexFunc_empty_f99 (α := ByteArray) A c f W)
  go_enter Try.func77, Try.ntmps77
  go_wp2_with fail
  refine (CI.out _).mono ?_
  rintro e w' ⟨rfl, rfl⟩
  go_wp2_with fail
  go_ret
  exact ⟨rfl, rfl⟩

set_option maxHeartbeats 1000000 in
theorem missOf1_any {base : Nat} {s : List ByteArray} {v : Value} {fb : Nat} (x : ByteArray) (hl : s.length ≤ 1000000) {w : World} (hf : w.heap[fb]? = some (.cells #[v] 51 (0, 0))) (h : ReadsF base encS v s w) :
    Calls Try.prog 78 #[.string x, .pointer (some ⟨fb, 0, none⟩)] w fun e w' => e = .returned (.bool (has s x)) ∧ w = w' := by
  have hr := h
  obtain ⟨A, c, rfl, hc, _⟩ := h
  have CC := Lib.hid (contains_any x s.length (Nat.le_refl _) hl hr c)
  rw [List.take_of_length_le (Nat.le_refl _)] at CC
  have c0 := blk_cell0 hf
  have hlt := lt_of_blk hf
  clear hr hf
  generalize has s x = b at *
  go_enter Try.func78, Try.ntmps78
  go_wp2_with fail
  refine CC.out.mono ?_
  rintro e w' ⟨rfl, rfl⟩
  go_wp2_with fail
  go_ret
  exact ⟨rfl, rfl⟩

set_option maxHeartbeats 2000000 in
theorem missOfR_any {b1 b2 : Nat} {s l : List ByteArray} {v1 v2 : Value} (hl : s.length ≤ 1000000) (hll : l.length ≤ 1000000) {w : World} (h1 : ReadsF b1 encS v1 s w) (h2 : ReadsF b2 encS v2 l w) :
    Calls Try.prog 34 #[v1, v2] w fun e w' => ∃ u, e = .returned u ∧ Below w.heap.size w w' ∧ ReadsF w.heap.size encS u (missOf s l) w' := by
  have h1' := h1
  obtain ⟨A1, k1, rfl, _, _⟩ := h1'
  have hW : Below w.heap.size w (w.alloc (.cells #[.slice A1 s.length k1] 51)) := (Below.refl _ _).alloc (Nat.le_refl _) _
  have HB := Lib.hid (show (w.alloc (.cells #[.slice A1 s.length k1] 51)).heap[w.heap.size]? = some (.cells #[.slice A1 s.length k1] 51 (0, 0)) from blk_new w _ rfl)
  have H1 := Lib.hid (h1.below hW)
  have CC := Lib.hid (clone_any hll (h2.below hW))
  have HW : Hid (Below w.heap.size w (w.alloc (.cells #[.slice A1 s.length k1] 51)) ∧ w.heap.size < (w.alloc (.cells #[.slice A1 s.length k1] 51)).heap.size) := ⟨hW, by simp⟩
  clear hW h1 h2
  go_enter Try.func34, Try.ntmps34
  go_wp2_with fail
  generalize w.alloc (.cells #[.slice A1 s.length k1] 51) = w1 at *
  refine CC.out.mono ?_
  rintro e w2 ⟨u, rfl, hb2, hown⟩
  rcases hown.2 with ⟨rfl, h0⟩ | ⟨g, cap, cur, rfl, hg, hc, c1, c2, c3, c4⟩
  · have h00 : l = [] := List.length_eq_zero_iff.mp h0
    subst h00
    have HF : Hid (Below w.heap.size w w2) := HW.out.1.then_below hb2 HW.out.1.size
    clear hown h0 hb2
    go_wp2_with fail
    refine (delNone_any _ _ _ _).mono ?_
    rintro e w' ⟨rfl, rfl⟩
    go_wp2_with fail
    go_ret
    exact ⟨_, rfl, HF.out, readsF_nil _ _ _⟩
  · have hH : Holds Value.string w2 g 0 l.toArray := holds_strs (cap := cap) hc (by simpa using c4)
    have hgl := lt_of_blk hc
    have hge : w1.heap.size ≤ g := hg
    have hfw : w.heap.size < w1.heap.size := HW.out.2
    have eg : ∀ args w, (callFunc 78 args).run Try.prog w = .ok (.enter 78 args) w := enters_of Try.func78 (by kernel_rfl) rfl
    have z9 : ∀ w, (zeroValue 9).run Try.prog w = .ok (Value.string ByteArray.empty) w := fun w => by kernel_rfl
    have hgive : ∀ (W : World) (x : ByteArray), Below w1.heap.size w1 W → FnGives Try.prog 78 #[.pointer (some ⟨w.heap.size, 0, none⟩)] #[.string x] (.bool (has s x)) W := fun W x hbW => by
      show Calls Try.prog 78 #[.string x, .pointer (some ⟨w.heap.size, 0, none⟩)] W _
      refine (missOf1_any x hl (blk_below hbW HB.out) (H1.out.below hbW)).mono ?_
      rintro e w' ⟨rfl, rfl⟩
      exact ⟨rfl, 0, rfl⟩
    have CD := Try.slices_DeleteFunc Value.string (fun _ => rfl) (has s) 78 #[.pointer (some ⟨w.heap.size, 0, none⟩)] eg ByteArray.empty z9 g 0 cap l.toArray w2
      (fun W x hbW => hgive W x (hb2.then_below hbW hb2.size))
      (fun n os dk x hs => hgive _ x (hb2.grown (grownBy_sw Value.string w2 g 0 n dk os) hb2.size (fun j hj => by cases hj; exact hge)))
      hH (by simp; omega) (by simpa using c1)
    have CD2 := Lib.hid CD
    simp only [List.size_toArray] at CD2
    have HM : Hid ((l.toArray.toList.filter fun x => !has s x) = missOf s l) := by simp [missOf, Hid]
    have HL : Hid (((missOf s l) ++ List.replicate (l.length - (missOf s l).length) ByteArray.empty).length = l.length) := by
      have := List.length_filter_le (fun x => !has s x) l
      show _ = _
      rw [List.length_append, List.length_replicate]
      unfold missOf
      omega
    have HX := Lib.hid (And.intro hb2 (And.intro hH (And.intro hgl (And.intro hge c1))))
    rw [HM.out] at CD2
    clear CD hgive eg z9 hH hown hb2 hc c2 c3 c4 hg hge HM
    obtain ⟨r, hr⟩ : ∃ r, missOf s l = r := ⟨_, rfl⟩
    rw [hr] at CD2 HL
    have HR := Lib.hid hr
    clear hr
    go_wp2_with fail
    refine CD2.out.mono ?_
    rintro e w3 ⟨rfl, q, rfl⟩
    have HF : Hid (Below w.heap.size w (putRow Value.string (Sort.ahead w2 q) g 0 (r ++ List.replicate (l.length - r.length) ByteArray.empty).toArray) ∧ ReadsF w.heap.size encS (.slice (some ⟨g, 0, none⟩) r.length cap) r (putRow Value.string (Sort.ahead w2 q) g 0 (r ++ List.replicate (l.length - r.length) ByteArray.empty).toArray)) := by
      refine ⟨?_, reads_put (l := l) HX.out.2.1 HX.out.2.2.1 (by have := HX.out.2.2.2.1; omega) HL.out HX.out.2.2.2.2⟩
      have hg0 := grownBy_sw Value.string w2 g 0 q (r ++ List.replicate (l.length - r.length) ByteArray.empty).toArray #[]
      unfold sortWorld at hg0
      rw [grow_empty] at hg0
      have h3 := HW.out.1.then_below HX.out.1 HW.out.1.size
      exact h3.grown hg0 h3.size (fun j hj => by cases hj; have := HX.out.2.2.2.1; omega)
    generalize putRow Value.string (Sort.ahead w2 q) g 0 (r ++ List.replicate (l.length - r.length) ByteArray.empty).toArray = w3 at *
    go_wp2_with fail
    go_ret
    exact ⟨_, rfl, HF.out.1, by rw [HR.out]; exact HF.out.2⟩
end Go.Proofs.Ytjmjmijjdgolfaa
