/-
  The phases of the program.
-/
import Derived.Test.YtopnadilfjakiaaDoorPx2
import Derived.Test.YtopnadilfjakiaaDoorGen0
namespace Go.Proofs.YtopnadilfjakiaaDoor
open Go.RowKit

/-- A slice that reads as a row. -/
def Reads {α : Type} (enc : α → List Value) (v : Value) (l : List α) (w : World) : Prop :=
  ∃ A c, v = .slice A l.length c ∧ (l = [] ∨ ∃ g : Nat, A = some ⟨g, 0, none⟩ ∧ LineAt w g (l.flatMap enc))
theorem Reads.below {α : Type} {enc : α → List Value} {v : Value} {l : List α} {w w' : World} (h : Reads enc v l w) (hb : Below w.heap.size w w') : Reads enc v l w' := by
  obtain ⟨A, c, e, h⟩ := h
  refine ⟨A, c, e, h.imp_right ?_⟩
  rintro ⟨g, e, h⟩
  exact ⟨g, e, h.below hb⟩
theorem reads_own {α : Type} {enc : α → List Value} {v : Value} {l : List α} {w : World} {base : Nat} {T : TypeId} {size : Nat} (h : w.ownsRow base T size v l.length (l.flatMap enc)) : Reads enc v l w := by
  obtain ⟨A, c, rfl, _⟩ := own_form h
  refine ⟨A, c, rfl, ?_⟩
  by_cases h0 : l.length = 0
  · exact .inl (List.length_eq_zero_iff.mp h0)
  · obtain ⟨g', _, hv, _, hlt, _, _, hrd⟩ := own_read h (by omega)
    simp only [Value.slice.injEq, true_and] at hv
    exact .inr ⟨g', hv.1, hlt, hrd⟩

theorem own_below {w w' : World} {base : Nat} {e : TypeId} {size n : Nat} {v : Value} {xs : List Value} (h : w.ownsRow base e size v n xs) (hb : Below w.heap.size w w') : w'.ownsRow base e size v n xs := by
  obtain ⟨hl, hh⟩ := h
  refine ⟨hl, hh.imp_right ?_⟩
  rintro ⟨g, cap, cur, hv, hg, hc, rest⟩
  exact ⟨g, cap, cur, hv, hg, blk_below hb hc, rest⟩
theorem own_other {w : World} {base : Nat} {e : TypeId} {size n : Nat} {v : Value} {xs : List Value} (h : w.ownsRow base e size v n xs) {i : Nat} {cs : Array Value} {t : TypeId} (hb : w.heap[i]? = some (.cells cs t (0, 0))) (ht : t ≠ e) : ∀ j, v.ownBlock = some j → i ≠ j := by
  intro j hj
  rcases h.2 with ⟨rfl, _⟩ | ⟨g, cap, cur, rfl, _, hc, _⟩
  · simp [Value.ownBlock] at hj
  · simp [Value.ownBlock] at hj
    subst hj
    rintro rfl
    rw [hb] at hc
    simp at hc
    exact ht hc.2

def Ph.cells (f : Ph) : List Value := [.int .i64 f.frm, .int .i64 f.to, .int .i64 f.ex, .bool f.gr]
theorem ph_info : (Tryd.prog.info? 75).map (fun i => (i.zero, i.size, i.bytes)) = some (some (.agg #[.int .i64 0, .int .i64 0, .int .i64 0, .bool false]), 4, 32) := by kernel_rfl
theorem blk1 {w : World} {g : Nat} {a : Value} {t : TypeId} (h : w.heap[g]? = some (.cells #[a] t (0, 0))) : w.cell? ⟨g, 0, none⟩ = some a ∧ w.frozen? ⟨g, 0, none⟩ = false ∧ g < w.heap.size := ⟨by rw [cell_of_blk h]; rfl, frozen_of_blk h 0, lt_of_blk h⟩

set_option maxHeartbeats 1000000 in
theorem exposed_any (a b e : Int) (g : Bool) (t : Int) (w : World) (ha : 0 ≤ a ∧ a ≤ 1000000000000) (he : 0 ≤ e ∧ e ≤ 1000000000000) (ht : -1000000000000 ≤ t ∧ t ≤ 1000000000000) :
    Calls Tryd.prog 39 #[.agg #[.int .i64 a, .int .i64 b, .int .i64 e, .bool g], .int .i64 t] w fun r w' => r = .returned (.int .i64 (phAt ⟨a, b, e, g⟩ t)) ∧ Below w.heap.size w w' := by
  obtain ⟨ha0, ha1⟩ := ha
  obtain ⟨he0, he1⟩ := he
  obtain ⟨ht0, ht1⟩ := ht
  cases g
  · go_enter Tryd.func39, Tryd.ntmps39
    go_wp2_with fail
    go_ret
    exact ⟨rfl, (Below.refl _ _).alloc (Nat.le_refl _) _⟩
  · go_enter Tryd.func39, Tryd.ntmps39
    go_wp2_with fail
    go_ret
    exact ⟨rfl, (Below.refl _ _).alloc (Nat.le_refl _) _⟩

def dryW (lv bk pl e : Int) : Int := (dryT lv bk pl e).getD 0
def dryB (lv bk pl e : Int) : Bool := (dryT lv bk pl e).isSome
set_option maxHeartbeats 1000000 in
theorem drying_any (key pk : ByteArray) (lv bk pl e : Int) (w : World) (he : 0 ≤ e) :
    Calls Tryd.prog 50 #[.agg #[.string key, .string pk, .int .i64 lv, .int .i64 bk], .int .i64 pl, .int .i64 e] w fun r w' => r = .returned (.tuple #[.int .i64 (dryW lv bk pl e), .bool (dryB lv bk pl e)]) ∧ Below w.heap.size w w' := by
  by_cases h4 : pl = 4
  · subst h4
    go_enter Tryd.func50, Tryd.ntmps50
    go_wp2_with fail
    go_ret2
    exact ⟨rfl, (Below.refl _ _).alloc (Nat.le_refl _) _⟩
  have h40 : (pl == 4) = false := by simpa using h4
  by_cases h3 : pl = 3
  · subst h3
    by_cases hc : 43200000 < e
    · have HD : Hid (dryT lv bk 3 e = none) := by show _ = _; unfold dryT; rw [if_neg (by omega), if_pos rfl, if_pos (.inl hc)]
      go_enter Tryd.func50, Tryd.ntmps50
      go_wp2_with fail
      go_ret2
      exact ⟨by unfold dryW dryB; rw [HD.out]; rfl, (Below.refl _ _).alloc (Nat.le_refl _) _⟩
    by_cases hl : 5 < lv
    · have HD : Hid (dryT lv bk 3 e = none) := by show _ = _; unfold dryT; rw [if_neg (by omega), if_pos rfl, if_pos (.inr hl)]
      go_enter Tryd.func50, Tryd.ntmps50
      go_wp2_with fail
      go_ret2
      exact ⟨by unfold dryW dryB; rw [HD.out]; rfl, (Below.refl _ _).alloc (Nat.le_refl _) _⟩
    by_cases h5 : lv = 5
    · subst h5
      have HD : Hid (dryT 5 bk 3 e = some (10 * e)) := by show _ = _; unfold dryT; rw [if_neg (by omega), if_pos rfl, if_neg (by omega)]; rfl
      clear hl
      go_enter Tryd.func50, Tryd.ntmps50
      go_wp2_with fail
      go_ret2
      exact ⟨by unfold dryW dryB; rw [HD.out]; rfl, (Below.refl _ _).alloc (Nat.le_refl _) _⟩
    · have HD : Hid (dryT lv bk 3 e = some (5 * e)) := by show _ = _; unfold dryT facL; rw [if_neg (by omega), if_pos rfl, if_neg (by omega), if_neg h5]
      have h50 : (lv == 5) = false := by simpa using h5
      clear h5
      go_enter Tryd.func50, Tryd.ntmps50
      go_wp2_with fail
      go_ret2
      exact ⟨by unfold dryW dryB; rw [HD.out]; rfl, (Below.refl _ _).alloc (Nat.le_refl _) _⟩
  · have HD : Hid (dryT lv bk pl e = none) := by show _ = _; unfold dryT; rw [if_neg h4, if_neg h3]
    have h30 : (pl == 3) = false := by simpa using h3
    clear h3 h4
    go_enter Tryd.func50, Tryd.ntmps50
    go_wp2_with fail
    go_ret2
    exact ⟨by unfold dryW dryB; rw [HD.out]; rfl, (Below.refl _ _).alloc (Nat.le_refl _) _⟩

/-- What the function that adds a phase works on. -/
def PhSt (w0 : World) (base hE hL : Nat) (e : Int) (acc : List Ph) (W : World) : Prop :=
  Below w0.heap.size w0 W ∧ W.heap[hE]? = some (.cells #[.int .i64 e] 3 (0, 0)) ∧ base ≤ W.heap.size ∧ ∃ v, W.heap[hL]? = some (.cells #[v] 72 (0, 0)) ∧ W.ownsRow base 75 4 v acc.length (acc.flatMap Ph.cells)
/-- Other blocks that it leaves. -/
def PhKeep (hE hL : Nat) (W W' : World) : Prop := W.heap.size ≤ W'.heap.size ∧ ∀ i cs T, W.heap[i]? = some (.cells cs T (0, 0)) → T ≠ 75 → i ≠ hE → i ≠ hL → W'.heap[i]? = some (.cells cs T (0, 0))
theorem PhKeep.of_below {hE hL : Nat} {W W' : World} (h : Below W.heap.size W W') : PhKeep hE hL W W' := ⟨h.size, fun i cs T hi _ _ _ => blk_below h hi⟩
theorem PhKeep.trans {hE hL : Nat} {W W1 W2 : World} (h : PhKeep hE hL W W1) (k : PhKeep hE hL W1 W2) : PhKeep hE hL W W2 := ⟨Nat.le_trans h.1 k.1, fun i cs T hi h1 h2 h3 => k.2 i cs T (h.2 i cs T hi h1 h2 h3) h1 h2 h3⟩
def addE (a b e : Int) (g : Bool) : Int := if a < b then phAt ⟨a, b, e, g⟩ b else e
theorem PhSt.below {w0 : World} {base hE hL : Nat} {e : Int} {acc : List Ph} {W W' : World} (h : PhSt w0 base hE hL e acc W) (hb : Below W.heap.size W W') : PhSt w0 base hE hL e acc W' := by
  obtain ⟨h1, h2, h3, v, h4, h5⟩ := h
  exact ⟨h1.then_below hb h1.size, blk_below hb h2, Nat.le_trans h3 hb.size, v, blk_below hb h4, own_below h5 hb⟩

set_option maxRecDepth 100000 in
set_option maxHeartbeats 4000000 in
theorem add_any (w0 : World) (base hE hL : Nat) (e : Int) (acc : List Ph) (a b : Int) (g : Bool) (W : World) (hs : PhSt w0 base hE hL e acc W) (h1 : w0.heap.size ≤ hE) (h2 : w0.heap.size ≤ hL) (h3 : hE < base) (h4 : hL < base) (h5 : hE ≠ hL) (hn : acc.length ≤ 1000)
    (ha : 0 ≤ a ∧ a ≤ 1000000000000) (he : 0 ≤ e ∧ e ≤ 1000000000000) (hb : 0 ≤ b ∧ b ≤ 1000000000000) :
    Calls Tryd.prog 49 #[.int .i64 a, .int .i64 b, .bool g, .pointer (some ⟨hE, 0, none⟩), .pointer (some ⟨hL, 0, none⟩)] W fun r W' => r = .returned (.tuple #[]) ∧ PhSt w0 base hE hL (addE a b e g) (acc ++ phL a b e g) W' ∧ PhKeep hE hL W W' := by
  by_cases hab : a < b
  · have HA : Hid (addE a b e g = phAt ⟨a, b, e, g⟩ b) := if_pos hab
    have HP : Hid (phL a b e g = [⟨a, b, e, g⟩]) := if_pos hab
    have HX := Lib.hid (fun W' => exposed_any a b e g b W' ha he ⟨by omega, by omega⟩)
    obtain ⟨s1, s2, s3, v, s4, s5⟩ := hs
    obtain ⟨A, c, rfl, _⟩ := own_form s5
    generalize phAt ⟨a, b, e, g⟩ b = eb at *
    have HS := Lib.hid (And.intro s1 (And.intro s2 (And.intro s4 s5)))
    obtain ⟨e0, e1, e2⟩ := blk1 s2
    obtain ⟨l0, l1, l2⟩ := blk1 s4
    have hrlt := s5.lt
    have HRLT := Lib.hid hrlt
    clear s1 s2 s4 s5 hrlt
    go_enter Tryd.func49, Tryd.ntmps49
    go_wp2_with (at_builtin; refine hold ?_)
    refine loose ?_
    obtain ⟨i0, hi0, hz0, hz1, hz2⟩ := info_parts ph_info
    refine wpList_append_own _ rfl _ _ 72 rfl base 75 i0 _ 4 32 Tryd.underlying72 hi0 hz0 hz1 hz2 rfl (by omega) _ acc.length (acc.flatMap Ph.cells) rfl ((HS.out.2.2.2.alloc _).alloc _) ⟨W.heap.size + 1, 0, none⟩ 1 1 (Ph.cells ⟨a, b, e, g⟩) rfl rfl ?_ (by intro u hu; simp [Ph.cells] at hu; rcases hu with rfl | rfl | rfl | rfl <;> rfl) (by unfold maxLen; omega) (by omega) (by simp; omega) ?_
    · intro j u hu
      rw [addr_new, cell_of_blk (blk_new (g := W.heap.size + 1) _ _ (by simp))]
      simpa [Ph.cells] using hu
    intro v' w' hown' hg' _
    have hsz := hg'.size
    simp at hsz
    obtain ⟨A9, c9, rfl, _⟩ := own_form hown'
    have hr := HRLT.out
    have kL : w'.heap[hL]? = some (.cells #[.slice A acc.length c] 72 (0, 0)) := (hg'.block hL (by simp; omega) (fun q => by have := (hr _ q.symm).1; omega)).trans (blk_alloc (blk_alloc HS.out.2.2.1 _) _)
    have kE : w'.heap[hE]? = some (.cells #[.int .i64 e] 3 (0, 0)) := (hg'.block hE (by simp; omega) (fun q => by have := (hr _ q.symm).1; omega)).trans (blk_alloc (blk_alloc HS.out.2.1 _) _)
    have kF : w'.heap[W.heap.size]? = some (.cells #[.int .i64 a, .int .i64 b, .int .i64 e, .bool g] 75 (0, 0)) := (hg'.block _ (by simp; omega) (fun q => by have := (hr _ q.symm).2; omega)).trans (blk_alloc (blk_new W _ rfl) _)
    have hkeep : ∀ (i : Nat) (cs : Array Value) (T : TypeId), W.heap[i]? = some (Obj.cells cs T (0, 0)) → T ≠ 75 → w'.heap[i]? = some (Obj.cells cs T (0, 0)) := fun i cs T hi hT =>
      (hg'.block i (by have := lt_of_blk hi; simp; omega) (fun q => own_other HS.out.2.2.2 hi hT _ q.symm rfl)).trans (blk_alloc (blk_alloc hi _) _)
    have hbel : Below w0.heap.size w0 w' := (((HS.out.1.alloc HS.out.1.size _).alloc (by have := HS.out.1.size; simp; omega) _)).grown hg' (by have := HS.out.1.size; simp; omega) (fun q e => by have := (hr q e).1; omega)
    have HF := Lib.hid (And.intro hown' (And.intro kL (And.intro kE (And.intro hkeep hbel))))
    obtain ⟨c0, c1, c2, c3⟩ := blk4 kF
    obtain ⟨x0, x1, x2⟩ := blk1 kL
    have hLf : hL < W.heap.size := l2
    have hlen : acc.length + 1 = (acc ++ [(⟨a, b, e, g⟩ : Ph)]).length := by simp
    have HLEN := Lib.hid hlen
    clear hown' hg' kF kL kE hkeep hbel hr hi0 hz0 hz1 hz2 e0 e1 l0 l1 l2 hlen
    go_wp2_with fail
    refine (HX.out _).mono ?_
    rintro r w2 ⟨rfl, b2⟩
    have kE2 := blk_below b2 (blk_far (p := ⟨hL, 0, none⟩) HF.out.2.2.1 h5 (.slice A9 (acc.length + 1) c9))
    have kL2 := blk_below b2 (blk_set (i := 0) HF.out.2.1 (.slice A9 (acc.length + 1) c9))
    obtain ⟨y0, y1, y2⟩ := blk1 kE2
    have HB2 := Lib.hid (And.intro b2 (And.intro kE2 kL2))
    clear b2 kE2 kL2 c0 c1 c2 c3 x0 x1 x2
    go_wp2_with fail
    go_end0
    refine ⟨rfl, ⟨?_, ?_, ?_, .slice A9 (acc.length + 1) c9, ?_, ?_⟩, ?_, fun i cs T hi hT q1 q2 => ?_⟩
    · exact ((HF.out.2.2.2.2.setCell (p := ⟨hL, 0, none⟩) h2 _).then_below HB2.out.1 (by have := HF.out.2.2.2.2.size; simpa [World.setCell] using this)).setCell (p := ⟨hE, 0, none⟩) h1 _
    · rw [HA.out]
      exact blk_set HB2.out.2.1 _
    · have := HB2.out.1.size
      simp [World.setCell] at this ⊢
      omega
    · exact blk_far HB2.out.2.2 (Ne.symm h5) _
    · rw [HP.out, List.length_append, List.flatMap_append]
      have e1 : [(⟨a, b, e, g⟩ : Ph)].flatMap Ph.cells = Ph.cells ⟨a, b, e, g⟩ := by simp
      rw [e1]
      exact own_far (own_below (own_far (p := ⟨hL, 0, none⟩) HF.out.1 h4 (.slice A9 (acc.length + 1) c9)) HB2.out.1) h3 _
    · have := HB2.out.1.size
      simp [World.setCell] at this ⊢
      omega
    · exact blk_far (blk_below HB2.out.1 (blk_far (p := ⟨hL, 0, none⟩) (HF.out.2.2.2.1 i cs T hi hT) q2 (.slice A9 (acc.length + 1) c9))) q1 _
  · have HA : Hid (addE a b e g = e) := if_neg hab
    have HP : Hid (phL a b e g = []) := if_neg hab
    go_enter Tryd.func49, Tryd.ntmps49
    go_wp2_with fail
    go_end0
    rw [HA.out, HP.out, List.append_nil]
    exact ⟨rfl, hs, PhKeep.of_below (Below.refl _ _)⟩
end Go.Proofs.YtopnadilfjakiaaDoor
