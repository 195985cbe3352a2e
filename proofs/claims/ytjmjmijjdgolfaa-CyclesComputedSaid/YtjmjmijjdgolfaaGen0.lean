/-
  Words for the makers: two blocks that may turn, typed rows, picks out of blocks.
-/
import Derived.Test.YtjmjmijjdgolfaaBodM
namespace Go.Proofs.Ytjmjmijjdgolfaa
open Go.RowKit

/-- All blocks but sb and g stand as they stood. -/
structure Kept2 (sb g : Nat) (a w : World) : Prop where
  outer : w.os = a.os ∧ w.tape = a.tape ∧ w.output = a.output
  more : a.heap.size ≤ w.heap.size
  old : ∀ i, i < a.heap.size → i ≠ sb → i ≠ g → w.heap[i]? = a.heap[i]?
namespace Kept2
variable {sb g : Nat} {a b w : World}
theorem same (sb g : Nat) (a : World) : Kept2 sb g a a := { outer := ⟨rfl, rfl, rfl⟩, more := Nat.le_refl _, old := fun _ _ _ _ => rfl }
theorem then_ (h : Kept2 sb g a b) (k : Kept2 sb g b w) : Kept2 sb g a w where
  outer := by
    obtain ⟨x, y, z⟩ := h.outer
    obtain ⟨x', y', z'⟩ := k.outer
    exact ⟨x'.trans x, y'.trans y, z'.trans z⟩
  more := by have := h.more; have := k.more; omega
  old i hi hne hng := by
    have := h.more
    rw [k.old i (by omega) hne hng, h.old i hi hne hng]
theorem of_kept (h : Kept sb a w) : Kept2 sb g a w := { outer := h.outer, more := h.more, old := fun i hi hne _ => h.old i hi hne }
theorem of_below (h : Below a.heap.size a w) : Kept2 sb g a w := of_kept (Kept.of_below h)
theorem alloc (o : Obj) : Kept2 sb g a (a.alloc o) := of_below ((Below.refl _ _).alloc (Nat.le_refl _) o)
theorem draws (h : Kept2 sb g a w) (n : Nat) : Kept2 sb g a (w.drewN n) := { outer := h.outer, more := h.more, old := h.old }
theorem store (h : Kept2 sb g a w) {p : Addr} (hp : p.block = g) (u : Value) : Kept2 sb g a (w.setCell p u) where
  outer := h.outer
  more := by have := h.more; simpa [World.setCell] using this
  old i hi hne hng := by
    rw [← h.old i hi hne hng]
    exact Below.heap_setCell w p u i (by omega)
theorem blk (h : Kept2 sb g a w) {i : Nat} {o : Obj} (hg : a.heap[i]? = some o) (h1 : i ≠ sb) (h2 : i ≠ g) : w.heap[i]? = some o := (h.old _ (lt_of_blk hg) h1 h2).trans hg
end Kept2

theorem Kept.blk {sb : Nat} {a w : World} (h : Kept sb a w) {i : Nat} {o : Obj} (hg : a.heap[i]? = some o) (h1 : i ≠ sb) : w.heap[i]? = some o := (h.old _ (lt_of_blk hg) h1).trans hg
theorem kept_own {sb : Nat} {w w' : World} {base : Nat} {e : TypeId} {size n : Nat} {v : Value} {xs : List Value} (h : w.ownsRow base e size v n xs) (hk : Kept sb w w') (hb : sb < base) : w'.ownsRow base e size v n xs := by
  refine ⟨h.1, h.2.imp_right ?_⟩
  rintro ⟨g, cap, cur, hv, hg, hc, rest⟩
  exact ⟨g, cap, cur, hv, hg, (hk.old _ (lt_of_blk hc) (by omega)).trans hc, rest⟩
theorem own_mono {w : World} {base base' : Nat} {e : TypeId} {size n : Nat} {v : Value} {xs : List Value} (h : w.ownsRow base e size v n xs) (hb : base' ≤ base) : w.ownsRow base' e size v n xs := by
  refine ⟨h.1, h.2.imp_right ?_⟩
  rintro ⟨g, cap, cur, hv, hg, rest⟩
  exact ⟨g, cap, cur, hv, by omega, rest⟩
theorem own_far {w : World} {base : Nat} {e : TypeId} {size n : Nat} {v : Value} {xs : List Value} (h : w.ownsRow base e size v n xs) {p : Addr} (hp : p.block < base) (u : Value) : (w.setCell p u).ownsRow base e size v n xs := by
  refine ⟨h.1, h.2.imp_right ?_⟩
  rintro ⟨g, cap, cur, hv, hg, hc, rest⟩
  exact ⟨g, cap, cur, hv, hg, blk_far hc (by omega) u, rest⟩
theorem own_alloc {w : World} {base : Nat} {e : TypeId} {size n : Nat} {v : Value} {xs : List Value} (h : w.ownsRow base e size v n xs) (o : Obj) : (w.alloc o).ownsRow base e size v n xs := h.alloc o

theorem IsStream.low {w w' : World} {sb b : Nat} (h : IsStream w sb b) (hk : ∀ i, i ≤ sb → w'.heap[i]? = w.heap[i]?) (hsz : w.heap.size ≤ w'.heap.size) : IsStream w' sb b := by
  obtain ⟨A, n, c, t, h1, h2, h3, h4, h5⟩ := h
  refine ⟨A, n, c, t, h1, h2, h3, (hk sb (Nat.le_refl _)).trans h4, fun hn => ?_⟩
  obtain ⟨ad, e, hb, hne, hc⟩ := h5 hn
  refine ⟨ad, e, by omega, hne, fun k hkk => ?_⟩
  obtain ⟨x, hx⟩ := hc k hkk
  refine ⟨x, ?_⟩
  rw [← hx]
  unfold World.cell?
  rw [hk _ (by rw [addr_block]; omega)]
theorem Took.grown {sb b : Nat} {w W w' : World} {row : Option Nat} (h : Took sb b w W) (hs : sb < w.heap.size) (hg : W.grownBy w' row) (hr : ∀ j, row = some j → w.heap.size ≤ j) : Took sb b w w' := by
  have hm := h.2.more
  refine ⟨h.1.low (fun i hi => hg.block i (by omega) (fun e => by have := hr i e.symm; omega)) hg.size, ?_⟩
  obtain ⟨a, b', c⟩ := h.2.outer
  exact ⟨⟨hg.os.trans a, hg.tape.trans b', hg.output.trans c⟩, Nat.le_trans h.2.more hg.size, fun i hi hne => (hg.block i (by omega) (fun e => by have := hr i e.symm; omega)).trans (h.2.old i hi hne)⟩
theorem own_row {w : World} {base : Nat} {e : TypeId} {size n : Nat} {v : Value} {xs : List Value} (h : w.ownsRow base e size v n xs) : ∀ j, v.ownBlock = some j → base ≤ j := by
  intro j hj
  rcases h.2 with ⟨rfl, _⟩ | ⟨g, cap, cur, rfl, hb, _⟩
  · simp [Value.ownBlock] at hj
  · simp [Value.ownBlock] at hj
    omega
theorem kept_of2 {sb g : Nat} {a b c : World} (h : Kept sb a b) (k : Kept2 sb g b c) (hg : a.heap.size ≤ g) : Kept sb a c := by
  have := h.more
  obtain ⟨x, y, z⟩ := h.outer
  obtain ⟨x', y', z'⟩ := k.outer
  exact ⟨⟨x'.trans x, y'.trans y, z'.trans z⟩, Nat.le_trans h.more k.more, fun i hi hne => (k.old i (by omega) hne (by omega)).trans (h.old i hi hne)⟩
theorem row_blk {w : World} {g : Nat} {cs : List Value} {t : TypeId} {sb : Nat} (h : w.heap[g]? = some (.cells cs.toArray t (0, 0))) (hne : g ≠ sb) : RowAt w (some ⟨g, 0, none⟩) cs sb := by
  refine ⟨_, rfl, lt_of_blk h, hne, fun k v hk => ?_⟩
  rw [addr_new, cell_of_blk h]
  simpa using hk
theorem pick_blk {sb b n g : Nat} {xs : List Int} {w : World} {t : TypeId} (hg : w.heap[g]? = some (.cells (xs.map (Value.int .i64)).toArray t (0, 0))) (hn : n = xs.length) (h1 : 1 ≤ n) (h2 : n ≤ 1000) (hne : g ≠ sb) (hb : b ≤ 1000000) (hs : IsStream w sb b) :
    Calls Try.prog 25 #[.pointer (some ⟨sb, 0, none⟩), .slice (some ⟨g, 0, none⟩) n n] w
      (fun e w' => ∃ x ∈ xs, e = .returned (.int .i64 x) ∧ Took sb (b + 1) w w') := by
  subst hn
  exact pick_any sb b xs.length _ xs _ h1 (Nat.le_refl _) (by omega) hb hs (row_blk hg hne)
theorem some_blk {sb b n g : Nat} {xs : List ByteArray} {w : World} {t : TypeId} (hg : w.heap[g]? = some (.cells (xs.map Value.string).toArray t (0, 0))) (hn : n = xs.length) (h1 : 1 ≤ n) (h2 : n ≤ 1000) (hne : g ≠ sb) (hb : b ≤ 1000000) (hs : IsStream w sb b) :
    Calls Try.prog 52 #[.pointer (some ⟨sb, 0, none⟩), .slice (some ⟨g, 0, none⟩) n n] w
      (fun e w' => ∃ x ∈ xs, e = .returned (.string x) ∧ Took sb (b + 1) w w') := by
  subst hn
  exact some_any sb b xs.length _ xs _ h1 (Nat.le_refl _) (by omega) hb hs (row_blk hg hne)

/-- A slice of strings, or of numbers, that a statement has just built. -/
def StrSl (B0 n : Nat) (v : Value) (u : World) : Prop := ∃ (b : Nat) (xs : List ByteArray), n = xs.length ∧ B0 ≤ b ∧ v = .slice (some ⟨b, 0, none⟩) n n ∧ u.heap[b]? = some (.cells (xs.map Value.string).toArray 9 (0, 0))
def IntSl (B0 n : Nat) (v : Value) (u : World) : Prop := ∃ (b : Nat) (xs : List Int), n = xs.length ∧ B0 ≤ b ∧ v = .slice (some ⟨b, 0, none⟩) n n ∧ u.heap[b]? = some (.cells (xs.map (Value.int .i64)).toArray 3 (0, 0))
theorem StrSl.kept2 {B0 n sb g : Nat} {v : Value} {u u' : World} (h : StrSl B0 n v u) (hk : Kept2 sb g u u') (h1 : sb < B0) (h2 : g < B0) : StrSl B0 n v u' := by
  obtain ⟨b, xs, a, c, d, e⟩ := h
  exact ⟨b, xs, a, c, d, hk.blk e (by omega) (by omega)⟩
theorem IntSl.kept2 {B0 n sb g : Nat} {v : Value} {u u' : World} (h : IntSl B0 n v u) (hk : Kept2 sb g u u') (h1 : sb < B0) (h2 : g < B0) : IntSl B0 n v u' := by
  obtain ⟨b, xs, a, c, d, e⟩ := h
  exact ⟨b, xs, a, c, d, hk.blk e (by omega) (by omega)⟩
theorem StrSl.kept {B0 n sb : Nat} {v : Value} {u u' : World} (h : StrSl B0 n v u) (hk : Kept sb u u') (h1 : sb < B0) : StrSl B0 n v u' := by
  obtain ⟨b, xs, a, c, d, e⟩ := h
  exact ⟨b, xs, a, c, d, hk.blk e (by omega)⟩
theorem IntSl.kept {B0 n sb : Nat} {v : Value} {u u' : World} (h : IntSl B0 n v u) (hk : Kept sb u u') (h1 : sb < B0) : IntSl B0 n v u' := by
  obtain ⟨b, xs, a, c, d, e⟩ := h
  exact ⟨b, xs, a, c, d, hk.blk e (by omega)⟩
theorem StrSl.new {B0 n : Nat} {u : World} (xs : List ByteArray) (hn : n = xs.length) (hB : B0 ≤ u.heap.size) : StrSl B0 n (.slice (some ⟨u.heap.size, 0, none⟩) n n) (u.alloc (.cells (xs.map Value.string).toArray 9)) := ⟨_, xs, hn, hB, rfl, blk_new u _ rfl⟩
theorem IntSl.new {B0 n : Nat} {u : World} (xs : List Int) (hn : n = xs.length) (hB : B0 ≤ u.heap.size) : IntSl B0 n (.slice (some ⟨u.heap.size, 0, none⟩) n n) (u.alloc (.cells (xs.map (Value.int .i64)).toArray 3)) := ⟨_, xs, hn, hB, rfl, blk_new u _ rfl⟩

/-- A stream, and a row of structs whose fields have their kinds. -/
def RowI {α : Type} (enc : α → List Value) (T k sb b g len cap base n : Nat) (W : World) : Prop :=
  IsStream W sb (b + n) ∧ ∃ l : List α, l.length = len ∧ W.ownsRow base T k (.slice (some ⟨g, 0, none⟩) len cap) len (l.flatMap enc)
section
variable {α : Type} {enc : α → List Value} {T k sb b g len cap base n : Nat} {W W' : World}
theorem RowI.step (h : RowI enc T k sb b g len cap base n W) : RowI enc T k sb b g len cap base (n + 1) W := ⟨h.1.more (by omega), h.2⟩
theorem RowI.alloc (h : RowI enc T k sb b g len cap base n W) (o : Obj) : RowI enc T k sb b g len cap base (n + 1) (W.alloc o) := by
  obtain ⟨h1, l, h2, h3⟩ := h
  exact ⟨(h1.more (by omega)).alloc o, l, h2, h3.alloc o⟩
theorem RowI.took (h : RowI enc T k sb b g len cap base n W) (ht : Took sb (b + n + 1) W W') (hb : sb < base) : RowI enc T k sb b g len cap base (n + 1) W' := by
  obtain ⟨h1, l, h2, h3⟩ := h
  exact ⟨ht.1, l, h2, kept_own h3 ht.2 hb⟩
theorem flatK_set (hk : ∀ x, (enc x).length = k) (l : List α) : ∀ (i : Nat) (h : i < l.length) (j : Nat) (_ : j < k) (u : Value) (y : α), (enc l[i]).set j u = enc y → (l.flatMap enc).set (i * k + j) u = (l.set i y).flatMap enc := by
  induction l with
  | nil => intro i h; simp at h
  | cons p l ih =>
    intro i h j hj u y he
    cases i with
    | zero =>
      simp only [List.getElem_cons_zero] at he
      rw [List.flatMap_cons, List.set_append_left _ _ (by rw [hk]; omega), List.set_cons_zero, List.flatMap_cons, ← he]
      simp
    | succ i =>
      have := ih i (by simpa using h) j hj u y (by simpa using he)
      rw [List.flatMap_cons, List.set_append_right _ _ (by rw [hk, Nat.succ_mul]; omega), hk, show (i + 1) * k + j - k = i * k + j by rw [Nat.succ_mul]; omega, this, List.set_cons_succ, List.flatMap_cons]
theorem RowI.cell (h : RowI enc T k sb b g len cap base n W) (hk : ∀ x, (enc x).length = k) {i : Nat} (hi : i < len) : ∃ x : α, ∀ j (_ : j < k), W.cell? ⟨g, i * k + j, none⟩ = (enc x)[j]? := by
  obtain ⟨_, l, h2, h3⟩ := h
  have hil : i < l.length := by omega
  refine ⟨l[i], fun j hj => ?_⟩
  obtain ⟨g', cap', hv, _, _, _, _, hrd⟩ := own_read h3 (by omega)
  simp only [Value.slice.injEq, Option.some.injEq, Addr.mk.injEq, and_true, true_and] at hv
  obtain ⟨rfl, rfl⟩ := hv
  have h4 := flatK_at enc k hk l i hil j hj
  have h5 : j < (enc l[i]).length := by rw [hk]; exact hj
  rw [List.getElem?_eq_getElem h5] at h4 ⊢
  exact hrd _ _ h4
theorem RowI.frozen (h : RowI enc T k sb b g len cap base n W) (j : Nat) : W.frozen? ⟨g, j, none⟩ = false := by
  obtain ⟨_, l, h2, h3⟩ := h
  exact own_frozen h3 j
theorem RowI.store (h : RowI enc T k sb b g len cap base n W) (hk : ∀ x, (enc x).length = k) {i j : Nat} (hi : i < len) (hj : j < k) (u : Value) (hsb : sb < base) (hu : ∀ x, ∃ y, (enc x).set j u = enc y) : RowI enc T k sb b g len cap base (n + 1) (W.setCell ⟨g, i * k + j, none⟩ u) := by
  obtain ⟨h1, l, h2, h3⟩ := h
  obtain ⟨g', _, hv, hb, hg, _⟩ := own_read h3 (by omega)
  simp only [Value.slice.injEq, Option.some.injEq, Addr.mk.injEq, and_true, true_and] at hv
  obtain ⟨rfl, rfl⟩ := hv
  have hil : i < l.length := by omega
  obtain ⟨y, hy⟩ := hu l[i]
  refine ⟨(h1.more (by omega)).setCell (by show sb < g; omega) u, l.set i y, by simpa using h2, ?_⟩
  rw [← flatK_set hk l i hil j hj u y hy]
  exact own_set h3 _ _
end
theorem Kept2.of_took {sb g c : Nat} {w w' : World} (h : Took sb c w w') : Kept2 sb g w w' := .of_kept h.2
theorem pl_row {T k sb b g len cap base n i : Nat} {W : World} (h : RowI Pl.cells T k sb b g len cap base n W) (hk : k = 5) (hi : i < len) :
    ∃ (s1 s2 : ByteArray) (x y q : Int), W.cell? ⟨g, i * 5, none⟩ = some (.string s1) ∧ W.cell? ⟨g, i * 5 + 1, none⟩ = some (.string s2) ∧ W.cell? ⟨g, i * 5 + 2, none⟩ = some (.int .i64 x) ∧ W.cell? ⟨g, i * 5 + 3, none⟩ = some (.int .i64 y) ∧ W.cell? ⟨g, i * 5 + 4, none⟩ = some (.int .i64 q) := by
  subst hk
  obtain ⟨p, hp⟩ := h.cell (fun _ => rfl) hi
  exact ⟨p.name, p.part, p.x, p.y, p.q, hp 0 (by omega), hp 1 (by omega), hp 2 (by omega), hp 3 (by omega), hp 4 (by omega)⟩
theorem bo_row {T k sb b g len cap base n i : Nat} {W : World} (h : RowI Bo.cells T k sb b g len cap base n W) (hk : k = 3) (hi : i < len) :
    ∃ (s1 : ByteArray) (x y : Int), W.cell? ⟨g, i * 3, none⟩ = some (.string s1) ∧ W.cell? ⟨g, i * 3 + 1, none⟩ = some (.int .i64 x) ∧ W.cell? ⟨g, i * 3 + 2, none⟩ = some (.int .i64 y) := by
  subst hk
  obtain ⟨p, hp⟩ := h.cell (fun _ => rfl) hi
  exact ⟨p.part, p.w, p.h, hp 0 (by omega), hp 1 (by omega), hp 2 (by omega)⟩
theorem pl_typ (x : Pl) : (Pl.cells x).length = 5 := rfl
theorem bo_typ (x : Bo) : (Bo.cells x).length = 3 := rfl
theorem pl_str0 (s : ByteArray) (x : Pl) : ∃ y, (Pl.cells x).set 0 (.string s) = Pl.cells y := ⟨{ x with name := s }, rfl⟩
theorem pl_str1 (s : ByteArray) (x : Pl) : ∃ y, (Pl.cells x).set 1 (.string s) = Pl.cells y := ⟨{ x with part := s }, rfl⟩
theorem pl_int2 (s : Int) (x : Pl) : ∃ y, (Pl.cells x).set 2 (.int .i64 s) = Pl.cells y := ⟨{ x with x := s }, rfl⟩
theorem pl_int3 (s : Int) (x : Pl) : ∃ y, (Pl.cells x).set 3 (.int .i64 s) = Pl.cells y := ⟨{ x with y := s }, rfl⟩
theorem pl_int4 (s : Int) (x : Pl) : ∃ y, (Pl.cells x).set 4 (.int .i64 s) = Pl.cells y := ⟨{ x with q := s }, rfl⟩
theorem bo_str0 (s : ByteArray) (x : Bo) : ∃ y, (Bo.cells x).set 0 (.string s) = Bo.cells y := ⟨{ x with part := s }, rfl⟩
theorem bo_int1 (s : Int) (x : Bo) : ∃ y, (Bo.cells x).set 1 (.int .i64 s) = Bo.cells y := ⟨{ x with w := s }, rfl⟩
theorem bo_int2 (s : Int) (x : Bo) : ∃ y, (Bo.cells x).set 2 (.int .i64 s) = Bo.cells y := ⟨{ x with h := s }, rfl⟩
end Go.Proofs.Ytjmjmijjdgolfaa
