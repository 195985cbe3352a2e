/-
  Slices that read as rows of strings.
-/
import Derived.Test.YtjmjmijjdgolfaaGen0
import Derived.Deep.AppendLies
namespace Go.Proofs.Ytjmjmijjdgolfaa
open Go.RowKit

theorem str_info9 : (Try.prog.info? 9).map (fun i => (i.zero, i.size, i.bytes)) = some (some (.string ⟨#[]⟩), 1, 16) := by kernel_rfl
def encS (s : ByteArray) : List Value := [.string s]
def flatS (l : List ByteArray) : List Value := l.flatMap encS
theorem own_below {w w' : World} {base : Nat} {e : TypeId} {size n : Nat} {v : Value} {xs : List Value} (h : w.ownsRow base e size v n xs) (hb : Below w.heap.size w w') : w'.ownsRow base e size v n xs := by
  refine ⟨h.1, h.2.imp_right ?_⟩
  rintro ⟨g, cap, cur, hv, hg, hc, rest⟩
  exact ⟨g, cap, cur, hv, hg, (hb.block _ (lt_of_blk hc)).trans hc, rest⟩
theorem own_lt {w : World} {base : Nat} {e : TypeId} {size n : Nat} {v : Value} {xs : List Value} (h : w.ownsRow base e size v n xs) : ∀ j, v.ownBlock = some j → j < w.heap.size := by
  intro j hj
  rcases h.2 with ⟨rfl, _⟩ | ⟨g, cap, cur, rfl, hb, hc, _⟩
  · simp [Value.ownBlock] at hj
  · simp [Value.ownBlock] at hj
    subst hj
    exact lt_of_blk hc
def dS : ByteArray := ⟨#[]⟩
theorem row_str {w : World} {g : Nat} {l : List ByteArray} (h : LineAt w g (flatS l)) {k : Nat} (hk : k < l.length) : w.cell? ⟨g, k, none⟩ = some (.string (l.getD k dS)) := by
  have e := flatK_at encS 1 (fun _ => rfl) l k hk 0 (by omega)
  have := h.2 (k * 1 + 0) (.string l[k]) (by exact e)
  rw [List.getD_eq_getElem?_getD, List.getElem?_eq_getElem hk]
  simpa using this

def errsL : List Int → Int
  | [] => 0
  | e :: l => if e = 0 then errsL l else e
set_option maxHeartbeats 1000000 in
theorem errs_any (l : List Int) (hl : l.length ≤ 1000) (g c : Nat) (w : World) (h : LineAt w g (l.map (Value.int .i64))) :
    Calls Try.prog 12 #[.slice (some ⟨g, 0, none⟩) l.length c] w fun e w' => e = .returned (.int .i64 (errsL l)) ∧ w = w' := by
  have HL := Lib.hid h
  clear h
  go_enter Try.func12, Try.ntmps12
  go_wp2_with fail
  go_loopw [7] (fun kk wr => ∃ k : Nat, k ≤ l.length ∧ kk = .int .i64 k ∧ w = wr ∧ Hid (errsL l = errsL (l.drop k))) (fun kk _ => l.length - (intOf kk).toNat)
  case atStart => exact ⟨0, by omega, rfl, rfl, rfl⟩
  case round =>
    obtain ⟨k, hk, rfl, rfl, HO⟩ := hrel
    by_cases hlt : k < l.length
    · obtain ⟨x, hx⟩ : ∃ x, l[k] = x := ⟨_, rfl⟩
      have hc := HL.out.2 k (.int .i64 x) (by simp [hlt, hx])
      have hD : errsL l = if x = 0 then errsL (l.drop (k + 1)) else x := HO.out.trans (by rw [drop_at l hlt, hx]; rfl)
      have HD := Lib.hid hD
      clear hD hx HO
      cases h0 : (x == 0)
      · have hne : ¬ x = 0 := by simpa using h0
        have HF : Hid (errsL l = x) := HD.out.trans (if_neg hne)
        have h1 : (x != 0) = true := by simpa using hne
        go_wp2_with fail
        go_ret
        exact ⟨ret_int HF.out.symm, rfl⟩
      · obtain rfl : x = 0 := by simpa using h0
        have HF : Hid (errsL l = errsL (l.drop (k + 1))) := HD.out.trans (if_pos rfl)
        go_wp2_with fail
        go_roundw
        case rel => exact ⟨k + 1, by omega, by go_num, by trivial, HF⟩
        case measure => simp [intOf]; omega
    · have HF : Hid (errsL l = 0) := HO.out.trans (by rw [List.drop_eq_nil_of_le (by omega)]; rfl)
      go_wp2_with fail
      go_ret
      exact ⟨ret_int HF.out.symm, rfl⟩

/-- A slice that reads as a row. -/
def Reads {α : Type} (enc : α → List Value) (v : Value) (l : List α) (w : World) : Prop :=
  ∃ A c, v = .slice A l.length c ∧ (l = [] ∨ ∃ g : Nat, A = some ⟨g, 0, none⟩ ∧ LineAt w g (l.flatMap enc))
theorem Reads.below {α : Type} {enc : α → List Value} {v : Value} {l : List α} {w w' : World} (h : Reads enc v l w) (hb : Below w.heap.size w w') : Reads enc v l w' := by
  obtain ⟨A, c, e, h⟩ := h
  refine ⟨A, c, e, h.imp_right ?_⟩
  rintro ⟨g, e, h⟩
  exact ⟨g, e, h.below hb⟩
theorem reads_own {α : Type} {enc : α → List Value} {v : Value} {l : List α} {w : World} {base : Nat} {T : TypeId} {size : Nat} (h : w.ownsRow base T size v l.length (l.flatMap enc)) : Reads enc v l w := by
  obtain ⟨A, c, rfl, _⟩ := own_form h
  refine ⟨A, c, rfl, ?_⟩
  by_cases h0 : l.length = 0
  · exact .inl (List.length_eq_zero_iff.mp h0)
  · obtain ⟨g', _, hv, _, hlt, _, _, hrd⟩ := own_read h (by omega)
    simp only [Value.slice.injEq, true_and] at hv
    exact .inr ⟨g', hv.1, hlt, hrd⟩

def ReadsF (base : Nat) {α : Type} (enc : α → List Value) (v : Value) (l : List α) (w : World) : Prop :=
  ∃ A c, v = .slice A l.length c ∧ l.length ≤ c ∧ (l = [] ∨ ∃ g : Nat, A = some ⟨g, 0, none⟩ ∧ base ≤ g ∧ LineAt w g (l.flatMap enc))
theorem ReadsF.below {base : Nat} {α : Type} {enc : α → List Value} {v : Value} {l : List α} {w w' : World} (h : ReadsF base enc v l w) (hb : Below w.heap.size w w') : ReadsF base enc v l w' := by
  obtain ⟨A, c, e, hc, h⟩ := h
  refine ⟨A, c, e, hc, h.imp_right ?_⟩
  rintro ⟨g, e, h0, h⟩
  exact ⟨g, e, h0, h.below hb⟩
theorem ReadsF.reads {base : Nat} {α : Type} {enc : α → List Value} {v : Value} {l : List α} {w : World} (h : ReadsF base enc v l w) : Reads enc v l w := by
  obtain ⟨A, c, e, _, h⟩ := h
  refine ⟨A, c, e, h.imp_right ?_⟩
  rintro ⟨g, e, _, h⟩
  exact ⟨g, e, h⟩
theorem ReadsF.least {base b : Nat} {α : Type} {enc : α → List Value} {v : Value} {l : List α} {w : World} (h : ReadsF base enc v l w) (hb : b ≤ base) : ReadsF b enc v l w := by
  obtain ⟨A, c, e, hc, h⟩ := h
  refine ⟨A, c, e, hc, h.imp_right ?_⟩
  rintro ⟨g, e, h0, h⟩
  exact ⟨g, e, Nat.le_trans hb h0, h⟩
theorem ReadsF.far {base : Nat} {α : Type} {enc : α → List Value} {v : Value} {l : List α} {w : World} (h : ReadsF base enc v l w) {p : Addr} (hp : p.block < base) (u : Value) : ReadsF base enc v l (w.setCell p u) := by
  obtain ⟨A, c, e, hc, h⟩ := h
  refine ⟨A, c, e, hc, h.imp_right ?_⟩
  rintro ⟨g, e, h0, h⟩
  refine ⟨g, e, h0, ?_, fun j x hx => ?_⟩
  · have := h.1
    simpa [World.setCell] using this
  · exact (World.cell?_setCell_other _ _ _ _ (fun e => by have := congrArg Addr.block e; simp at this; omega)).trans (h.2 j x hx)
theorem readsF_nil {α : Type} (base : Nat) (enc : α → List Value) (w : World) : ReadsF base enc (.slice none 0 0) ([] : List α) w := ⟨none, 0, rfl, Nat.le_refl _, .inl rfl⟩
theorem readsF_own {α : Type} {enc : α → List Value} {v : Value} {l : List α} {w : World} {base : Nat} {T : TypeId} {size : Nat} (h : w.ownsRow base T size v l.length (l.flatMap enc)) : ReadsF base enc v l w := by
  obtain ⟨A, c, rfl, _⟩ := own_form h
  by_cases h0 : l.length = 0
  · exact ⟨A, c, rfl, by omega, .inl (List.length_eq_zero_iff.mp h0)⟩
  · obtain ⟨g', _, hv, hb, hlt, hc, _, hrd⟩ := own_read h (by omega)
    simp only [Value.slice.injEq, true_and] at hv
    obtain ⟨rfl, rfl⟩ := hv
    exact ⟨_, _, rfl, hc, .inr ⟨g', rfl, hb, hlt, hrd⟩⟩
set_option maxHeartbeats 2000000 in
theorem equalStr_any (l : List ByteArray) (hl : l.length ≤ 2000000) (v1 v2 : Value) (w : World) (h1 : Reads encS v1 l w) (h2 : Reads encS v2 l w) :
    Calls Try.prog 39 #[v1, v2] w fun e w' => e = .returned (.bool true) ∧ Below w.heap.size w w' := by
  obtain ⟨A1, c1, rfl, h1⟩ := h1
  obtain ⟨A2, c2, rfl, h2⟩ := h2
  go_enter Try.func39, Try.ntmps39
  go_wp2_with fail
  go_loopw [13] (fun kk wr => ∃ k : Nat, k ≤ l.length ∧ kk = .int .i64 k ∧ Hid (Below w.heap.size w wr)) (fun kk _ => l.length - (intOf kk).toNat)
  case atStart => exact ⟨0, by omega, rfl, Below.refl _ _⟩
  case round =>
    obtain ⟨k, hk, rfl, HB⟩ := hrel
    by_cases hlt : k < l.length
    · rcases h1 with rfl | ⟨g1, rfl, r1⟩
      · simp at hlt
      rcases h2 with rfl | ⟨g2, rfl, r2⟩
      · simp at hlt
      have a0 := row_str (r1.below HB.out) hlt
      have b0 := row_str (r2.below HB.out) hlt
      generalize l.getD k dS = s at *
      have R1 := Lib.hid r1
      have R2 := Lib.hid r2
      clear r1 r2
      have i1 : (0 : Int) ≤ (k : Int) := by omega
      have i2 : (k : Int) < (l.length : Int) := by omega
      go_wp2_with fail
      go_quiet (fail)
      go_wp2_with fail
      go_roundw
      case rel => exact ⟨k + 1, by omega, by go_num, HB.out.drawN _⟩
      case measure => simp [intOf]; omega
    · go_wp2_with fail
      go_ret
      exact ⟨rfl, HB.out⟩
theorem ReadsF.kept {base sb : Nat} {α : Type} {enc : α → List Value} {v : Value} {l : List α} {w w' : World} (h : ReadsF base enc v l w) (hk : Kept sb w w') (hb : sb < base) : ReadsF base enc v l w' := by
  obtain ⟨A, c, e, hc, h⟩ := h
  refine ⟨A, c, e, hc, h.imp_right ?_⟩
  rintro ⟨g, e, h0, h⟩
  exact ⟨g, e, h0, Nat.lt_of_lt_of_le h.1 hk.more, fun j u hu => (hk.cell (p := ⟨g, j, none⟩) h.1 (by show g ≠ sb; omega)).trans (h.2 j u hu)⟩
theorem flatS_map (l : List ByteArray) : flatS l = l.map Value.string := by
  induction l with
  | nil => rfl
  | cons a l ih => simp [flatS, encS] at ih ⊢; exact ih
theorem flatS_len (l : List ByteArray) : (flatS l).length = l.length := by rw [flatS_map, List.length_map]
theorem row_strg {w : World} {g : Nat} {l : List ByteArray} (h : LineAt w g (l.flatMap encS)) {k : Nat} (hk : k < l.length) : w.cell? ⟨g, k, none⟩ = some (.string l[k]) := by
  have := row_str (l := l) h hk
  rw [List.getD_eq_getElem?_getD, List.getElem?_eq_getElem hk] at this
  exact this
theorem readsF_lit {w : World} {g c n : Nat} {l : List ByteArray} {base : Nat} {t : TypeId} (hn : n = l.length) (hc : n ≤ c) (h : w.heap[g]? = some (.cells (l.map Value.string).toArray t (0, 0))) (hb : base ≤ g) : ReadsF base encS (.slice (some ⟨g, 0, none⟩) n c) l w := by
  subst hn
  refine ⟨_, c, rfl, hc, .inr ⟨g, rfl, hb, lt_of_blk h, fun j u hu => ?_⟩⟩
  rw [cell_of_blk h]
  rw [show l.flatMap encS = l.map Value.string from flatS_map l] at hu
  simpa using hu

/-- Slices of slices of strings: each slice's value stands in its cell. -/
def ListsF (base : Nat) (v : Value) (L : List (List ByteArray)) (w : World) : Prop :=
  ∃ A c, v = .slice A L.length c ∧ L.length ≤ c ∧ (L = [] ∨ ∃ g o : Nat, A = some ⟨g, o, none⟩ ∧ base ≤ g ∧ g < w.heap.size ∧ ∀ j (h : j < L.length), ∃ u, w.cell? ⟨g, o + j, none⟩ = some u ∧ ReadsF base encS u L[j] w)
theorem ListsF.below {base : Nat} {v : Value} {L : List (List ByteArray)} {w w' : World} (h : ListsF base v L w) (hb : Below w.heap.size w w') : ListsF base v L w' := by
  obtain ⟨A, c, e, hc, h⟩ := h
  refine ⟨A, c, e, hc, h.imp_right ?_⟩
  rintro ⟨g, o, e, h0, h1, h⟩
  refine ⟨g, o, e, h0, Nat.lt_of_lt_of_le h1 hb.size, fun j hj => ?_⟩
  obtain ⟨u, hu, hr⟩ := h j hj
  exact ⟨u, (hb.cell (p := ⟨g, o + j, none⟩) h1).trans hu, hr.below hb⟩
theorem ListsF.kept {base sb : Nat} {v : Value} {L : List (List ByteArray)} {w w' : World} (h : ListsF base v L w) (hk : Kept sb w w') (hb : sb < base) : ListsF base v L w' := by
  obtain ⟨A, c, e, hc, h⟩ := h
  refine ⟨A, c, e, hc, h.imp_right ?_⟩
  rintro ⟨g, o, e, h0, h1, h⟩
  refine ⟨g, o, e, h0, Nat.lt_of_lt_of_le h1 hk.more, fun j hj => ?_⟩
  obtain ⟨u, hu, hr⟩ := h j hj
  exact ⟨u, (hk.cell (p := ⟨g, o + j, none⟩) h1 (by show g ≠ sb; omega)).trans hu, hr.kept hk hb⟩
theorem ListsF.least {base b : Nat} {v : Value} {L : List (List ByteArray)} {w : World} (h : ListsF base v L w) (hb : b ≤ base) : ListsF b v L w := by
  obtain ⟨A, c, e, hc, h⟩ := h
  refine ⟨A, c, e, hc, h.imp_right ?_⟩
  rintro ⟨g, o, e, h0, h1, h⟩
  refine ⟨g, o, e, Nat.le_trans hb h0, h1, fun j hj => ?_⟩
  obtain ⟨u, hu, hr⟩ := h j hj
  exact ⟨u, hu, hr.least hb⟩
end Go.Proofs.Ytjmjmijjdgolfaa
