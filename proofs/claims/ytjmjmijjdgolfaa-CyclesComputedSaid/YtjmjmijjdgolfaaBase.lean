/-
  Words for the walks: the stream of raw numbers in memory, and the smallest contracts.
-/
import Derived.Test.YtjmjmijjdgolfaaRows
import Derived.WalkKit
import Derived.WalkSpells
import Derived.WalkLawsBesides
import Derived.Outline
import Derived.Lib.Hide
import Derived.Deep.QuietTactic
import Derived.BigQuiet
import Derived.Deep.RegionHeld3
import Derived.Below
import Derived.Deep.Draws
import Derived.Deep.DeepCutAuto
namespace Go.Proofs.Ytjmjmijjdgolfaa
open Go.RowKit

/-- The walk stands at a goal that is held. -/
theorem hold {p : Prop} (h : Hid p) : p := h
theorem loose {p : Prop} (h : p) : Hid p := h
theorem ret_int {k : IntKind} {a b : Int} (h : a = b) : Ending.returned (.int k a) = .returned (.int k b) := by rw [h]
theorem ret_bool {a b : Bool} (h : a = b) : Ending.returned (.bool a) = .returned (.bool b) := by rw [h]

theorem addr_block (p : Addr) (k : Nat) : (p.add k).block = p.block := by
  cases k with
  | zero => rfl
  | succ k => simp [Addr.add]
theorem addr_new (g k : Nat) : (⟨g, 0, none⟩ : Addr).add k = ⟨g, k, none⟩ := by
  cases k with
  | zero => rfl
  | succ k => simp [Addr.add]

/-- A slice of integers that is only read. -/
def IntsAt (w : World) (A : Option Addr) (n : Nat) (sb : Nat) : Prop :=
  0 < n → ∃ ad, A = some ad ∧ ad.block < w.heap.size ∧ ad.block < sb ∧ ∀ k : Nat, k < n → ∃ x : Int, w.cell? (ad.add k) = some (.int .i64 x)

/-- Block sb is a stream, from which at most b numbers have been taken. -/
def IsStream (w : World) (sb b : Nat) : Prop :=
  ∃ (A : Option Addr) (n c t : Nat), n ≤ c ∧ c ≤ 9223372036854775807 ∧ t ≤ b ∧ w.heap[sb]? = some (.cells #[.slice A n c, .int .i64 t] 25 (0, 0)) ∧ IntsAt w A n sb

def below (x n : Int) : Int := if n < 1 then 0 else x % n

theorem below_lt (x n : Int) (h : 1 ≤ n) : 0 ≤ below x n ∧ below x n < n := by
  unfold below
  rw [if_neg (by omega)]
  exact ⟨Int.emod_nonneg _ (by omega), Int.emod_lt_of_pos _ (by omega)⟩

theorem tmod_neg {x n : Int} (hn : 1 ≤ n) (h : x.tmod n < 0) : x.tmod n + n = x % n := by
  rw [Int.tmod_eq_emod]
  rw [Int.tmod_eq_emod] at h
  have := Int.emod_nonneg x (show n ≠ 0 by omega)
  split at h
  · omega
  · rw [if_neg ‹_›]
    have := Int.natAbs_of_nonneg (show 0 ≤ n by omega)
    omega
theorem tmod_pos {x n : Int} (hn : 1 ≤ n) (h : ¬ x.tmod n < 0) : x.tmod n = x % n := by
  rw [Int.tmod_eq_emod] at h ⊢
  have h1 := Int.emod_nonneg x (show n ≠ 0 by omega)
  have h2 := Int.emod_lt_of_pos x (show 0 < n by omega)
  split at h
  · rw [if_pos ‹_›]; omega
  · have := Int.natAbs_of_nonneg (show 0 ≤ n by omega)
    omega

set_option maxHeartbeats 400000 in
theorem below_any (x n : Int) (w : World) (hn : n ≤ 9223372036854775807) :
    Calls Try.prog 72 #[.int .i64 x, .int .i64 n] w fun e w' => e = .returned (.int .i64 (below x n)) ∧ w = w' := by
  by_cases h : n < 1
  · go_enter Try.func72, Try.ntmps72
    go_wp2
    go_ret
    exact ⟨by simp [below, h], rfl⟩
  · have h1 : 1 ≤ n := by omega
    by_cases hx : x.tmod n < 0
    · have e := tmod_neg h1 hx
      have hlt : -n ≤ x.tmod n := by
        have := Int.emod_nonneg x (show n ≠ 0 by omega); omega
      have HE := Lib.hid e
      clear e
      go_enter Try.func72, Try.ntmps72
      go_wp2
      go_ret
      exact ⟨ret_int (by rw [HE.out, below, if_neg (by omega)]), rfl⟩
    · have e := tmod_pos h1 hx
      have HE := Lib.hid e
      clear e
      go_enter Try.func72, Try.ntmps72
      go_wp2
      go_ret
      exact ⟨ret_int (by rw [HE.out, below, if_neg (by omega)]), rfl⟩

def SomeBelow (n : Int) (P : World → Prop) (e : Ending) (w' : World) : Prop := ∃ k : Int, 0 ≤ k ∧ k < n ∧ e = .returned (.int .i64 k) ∧ P w'

theorem cell_of_blk {w : World} {g : Nat} {cs : Array Value} {t : TypeId} (h : w.heap[g]? = some (.cells cs t (0, 0))) (i : Nat) : w.cell? ⟨g, i, none⟩ = cs[i]? := cell_of_row w g i cs t (0, 0) h
theorem frozen_of_blk {w : World} {g : Nat} {cs : Array Value} {t : TypeId} (h : w.heap[g]? = some (.cells cs t (0, 0))) (i : Nat) : w.frozen? ⟨g, i, none⟩ = false := by
  simp [World.frozen?, h]
theorem lt_of_blk {w : World} {g : Nat} {o : Obj} (h : w.heap[g]? = some o) : g < w.heap.size := by
  rcases Nat.lt_or_ge g w.heap.size with hlt | hge
  · exact hlt
  · rw [Array.getElem?_eq_none hge] at h; cases h

/-- All blocks but sb stand as they stood; no block has gone, and the outside is as it was. -/
structure Kept (sb : Nat) (a w : World) : Prop where
  outer : w.os = a.os ∧ w.tape = a.tape ∧ w.output = a.output
  more : a.heap.size ≤ w.heap.size
  old : ∀ i, i < a.heap.size → i ≠ sb → w.heap[i]? = a.heap[i]?

namespace Kept
variable {sb : Nat} {a b w : World}
theorem same (sb : Nat) (a : World) : Kept sb a a := { outer := ⟨rfl, rfl, rfl⟩, more := Nat.le_refl _, old := fun _ _ _ => rfl }
theorem then_ (h : Kept sb a b) (k : Kept sb b w) : Kept sb a w where
  outer := by
    obtain ⟨x, y, z⟩ := h.outer
    obtain ⟨x', y', z'⟩ := k.outer
    exact ⟨x'.trans x, y'.trans y, z'.trans z⟩
  more := by have := h.more; have := k.more; omega
  old i hi hne := by
    have := h.more
    rw [k.old i (by omega) hne, h.old i hi hne]
theorem of_below (h : Below a.heap.size a w) : Kept sb a w := { outer := ⟨h.os, h.tape, h.output⟩, more := h.size, old := fun i hi _ => h.block i hi }
theorem draws (h : Kept sb a w) (n : Nat) : Kept sb a (w.drewN n) := { outer := h.outer, more := h.more, old := h.old }
theorem cell (h : Kept sb a w) {p : Addr} (hp : p.block < a.heap.size) (hne : p.block ≠ sb) : w.cell? p = a.cell? p := by
  unfold World.cell?
  rw [h.old _ hp hne]
/-- A store into the block sb, or into a new one. -/
theorem store (h : Kept sb a w) {p : Addr} (hp : p.block = sb ∨ a.heap.size ≤ p.block) (u : Value) : Kept sb a (w.setCell p u) where
  outer := h.outer
  more := by have := h.more; simpa [World.setCell] using this
  old i hi hne := by
    rw [← h.old i hi hne]
    exact Below.heap_setCell w p u i (by omega)
end Kept

/-- What a taking of numbers does: only the stream's block, and what is new, has turned. -/
def Took (sb b : Nat) (w w' : World) : Prop := IsStream w' sb b ∧ Kept sb w w'

/-- What is known of a row that the call owns, and that is not empty. -/
theorem own_read {w : World} {base : Nat} {e : TypeId} {size n : Nat} {v : Value} {xs : List Value} (h : w.ownsRow base e size v n xs) (hn : 0 < n) :
    ∃ g cap : Nat, v = .slice (some ⟨g, 0, none⟩) n cap ∧ base ≤ g ∧ g < w.heap.size ∧ n ≤ cap ∧ cap ≤ maxLen ∧ ∀ j u, xs[j]? = some u → w.cell? ⟨g, j, none⟩ = some u := by
  obtain ⟨hl, h | ⟨g, cap, cur, hv, hb, hc, hnc, hm, hs, ht⟩⟩ := h
  · omega
  · refine ⟨g, cap, hv, hb, lt_of_blk hc, hnc, hm, fun j u hu => ?_⟩
    rw [cell_of_blk hc]
    rw [← ht, List.getElem?_take] at hu
    split at hu
    · simpa using hu
    · cases hu

theorem IntsAt.grown {w w' : World} {A : Option Addr} {n sb : Nat} (h : IntsAt w A n sb) (hg : Kept sb w w') : IntsAt w' A n sb := fun hn => by
  obtain ⟨ad, e, hb, hne, hc⟩ := h hn
  refine ⟨ad, e, Nat.lt_of_lt_of_le hb hg.more, hne, fun k hk => ?_⟩
  obtain ⟨x, hx⟩ := hc k hk
  exact ⟨x, by rw [← hx]; exact hg.cell (by rw [addr_block]; exact hb) (by rw [addr_block]; omega)⟩

theorem IsStream.more {w : World} {sb b b' : Nat} (h : IsStream w sb b) (hb : b ≤ b') : IsStream w sb b' := by
  obtain ⟨A, n, c, t, h1, h2, h3, h4, h5⟩ := h
  exact ⟨A, n, c, t, h1, h2, by omega, h4, h5⟩
theorem IsStream.lt {w : World} {sb b : Nat} (h : IsStream w sb b) : sb < w.heap.size := by
  obtain ⟨A, n, c, t, h1, h2, h3, h4, h5⟩ := h
  exact lt_of_blk h4
/-- The stream is kept where its own block, and the numbers', are as they were. -/
theorem IsStream.below {w w' : World} {sb b : Nat} (h : IsStream w sb b) (hb : Below w.heap.size w w') : IsStream w' sb b := by
  have hlt := h.lt
  obtain ⟨A, n, c, t, h1, h2, h3, h4, h5⟩ := h
  exact ⟨A, n, c, t, h1, h2, h3, (hb.block _ hlt).trans h4, h5.grown (Kept.of_below hb)⟩
theorem IsStream.alloc {w : World} {sb b : Nat} (h : IsStream w sb b) (o : Obj) : IsStream (w.alloc o) sb b := h.below ((Below.refl _ _).alloc (Nat.le_refl _) o)
theorem IsStream.drew {w : World} {sb b : Nat} (h : IsStream w sb b) : IsStream w.drew sb b := h.below (Below.refl _ _).drew
theorem IsStream.drewN {w : World} {sb b : Nat} (h : IsStream w sb b) (n : Nat) : IsStream (w.drewN n) sb b := by
  induction n with
  | zero => exact h
  | succ n ih => exact ⟨_, _, _, _, h.choose_spec.choose_spec.choose_spec.choose_spec.1, h.choose_spec.choose_spec.choose_spec.choose_spec.2.1, h.choose_spec.choose_spec.choose_spec.choose_spec.2.2.1, h.choose_spec.choose_spec.choose_spec.choose_spec.2.2.2.1, h.choose_spec.choose_spec.choose_spec.choose_spec.2.2.2.2⟩

theorem Took.trans {sb b b' : Nat} {w w1 w2 : World} (h : Took sb b w w1) (k : Took sb b' w1 w2) : Took sb b' w w2 := ⟨k.1, h.2.then_ k.2⟩
theorem Took.more {sb b b' : Nat} {w w1 : World} (h : Took sb b w w1) (hb : b ≤ b') : Took sb b' w w1 := ⟨h.1.more hb, h.2⟩
theorem Took.refl {sb b : Nat} {w : World} (h : IsStream w sb b) : Took sb b w w := ⟨h, Kept.same _ _⟩
theorem Took.below {sb b : Nat} {w w1 w2 : World} (h : Took sb b w w1) (hb : Below w1.heap.size w1 w2) : Took sb b w w2 := ⟨h.1.below hb, h.2.then_ (Kept.of_below hb)⟩
theorem Took.alloc {sb b : Nat} {w w1 : World} (h : Took sb b w w1) (o : Obj) : Took sb b w (w1.alloc o) := h.below ((Below.refl _ _).alloc (Nat.le_refl _) o)
theorem Took.drew {sb b : Nat} {w w1 : World} (h : Took sb b w w1) : Took sb b w w1.drew := h.below (Below.refl _ _).drew
theorem Took.drewN {sb b : Nat} {w w1 : World} (h : Took sb b w w1) (n : Nat) : Took sb b w (w1.drewN n) := ⟨h.1.drewN n, h.2.draws n⟩

theorem took_next {w : World} {sb b len c t : Nat} {A : Option Addr} (hblk : w.heap[sb]? = some (.cells #[.slice A len c, .int .i64 t] 25 (0, 0)))
    (hlc : len ≤ c) (hc : c ≤ 9223372036854775807) (ht : t ≤ b) (_hb : b ≤ 1000001) (hi : IntsAt w A len sb) (k : Nat) :
    Took sb (b + 1) w ((w.setCell ⟨sb, 1, none⟩ (.int .i64 ((t : Int) + 1))).drewN k) := by
  have hg : Kept sb w (w.setCell ⟨sb, 1, none⟩ (.int .i64 ((t : Int) + 1))) := (Kept.same sb w).store (p := ⟨sb, 1, none⟩) (.inl rfl) _
  refine ⟨?_, hg.draws k⟩
  refine IsStream.drewN ⟨A, len, c, t + 1, hlc, hc, by omega, ?_, hi.grown hg⟩ k
  simp [World.setCell, Array.getElem?_modify, hblk]

set_option maxHeartbeats 1000000 in
theorem next_any (sb b : Nat) (n : Int) (w : World) (h1 : 1 ≤ n) (hn : n ≤ 9223372036854775807) (hb : b ≤ 1000000) (hs : IsStream w sb b) :
    Calls Try.prog 27 #[.pointer (some ⟨sb, 0, none⟩), .int .i64 n] w (SomeBelow n (Took sb (b + 1) w)) := by
  obtain ⟨A, len, c, t, hlc, hc, ht, hblk, hints⟩ := hs
  have c0 := cell_of_blk hblk 0
  have c1 := cell_of_blk hblk 1
  have f0 := frozen_of_blk hblk 0
  have f1 := frozen_of_blk hblk 1
  simp at c0 c1
  have HB := Lib.hid hblk
  clear hblk
  rcases Nat.eq_zero_or_pos len with h0 | h0
  · subst h0
    have HI := Lib.hid hints
    clear hints
    go_enter Try.func27, Try.ntmps27
    go_wp2_with (go_at_call 72; refine (below_any _ _ _ hn).mono ?_; rintro e w' ⟨rfl, rfl⟩)
    go_ret
    exact ⟨below _ n, (below_lt _ n h1).1, (below_lt _ n h1).2, rfl, took_next HB.out hlc hc ht (by omega) HI.out 0⟩
  · obtain ⟨ad, rfl, hab, hne, hcell⟩ := hints h0
    have hi0 : (0 : Int) ≤ (t : Int) % (len : Int) := Int.emod_nonneg _ (by omega)
    have hi1 : (t : Int) % (len : Int) < (len : Int) := Int.emod_lt_of_pos _ (by omega)
    obtain ⟨x, hx⟩ := hcell (t % len) (Nat.mod_lt _ h0)
    have hx' : (w.setCell ⟨sb, 1, none⟩ (.int .i64 ((t : Int) + 1))).cell? (ad.add (t % len)) = some (.int .i64 x) := by
      rw [World.cell?_setCell_other]
      · exact hx
      · intro e
        have := addr_block ad (t % len)
        rw [← e] at this
        simp only at this
        omega
    clear hx
    have HI := Lib.hid hints
    clear hints hcell
    go_enter Try.func27, Try.ntmps27
    go_wp2_with (go_at_call 72; refine (below_any _ _ _ hn).mono ?_; rintro e w' ⟨rfl, rfl⟩)
    go_quiet (fail)
    go_wp2_with fail
    go_quiet (fail)
    go_wp2_with (go_at_call 72; refine (below_any _ _ _ (by omega)).mono ?_; rintro e w' ⟨rfl, rfl⟩)
    go_ret
    exact ⟨below _ n, (below_lt _ n h1).1, (below_lt _ n h1).2, rfl, took_next HB.out hlc hc ht (by omega) HI.out _⟩

set_option maxHeartbeats 1000000 in
theorem flip_any (sb b : Nat) (n : Int) (w : World) (h1 : 1 ≤ n) (hn : n ≤ 9223372036854775807) (hb : b ≤ 1000000) (hs : IsStream w sb b) :
    Calls Try.prog 51 #[.pointer (some ⟨sb, 0, none⟩), .int .i64 n] w (fun e w' => ∃ x : Bool, e = .returned (.bool x) ∧ Took sb (b + 1) w w') := by
  go_enter Try.func51, Try.ntmps51
  go_wp2_with (go_at_call 27; refine (next_any sb b n _ h1 hn hb hs).mono ?_; rintro e w' ⟨k, hk0, hk1, rfl, ht⟩)
  go_ret
  exact ⟨_, rfl, ht⟩

set_option maxHeartbeats 1000000 in
theorem range_any (sb b : Nat) (lo hi : Int) (w : World) (h1 : lo ≤ hi) (h2 : -1000000000 ≤ lo) (h3 : hi ≤ 1000000000) (hb : b ≤ 1000000) (hs : IsStream w sb b) :
    Calls Try.prog 23 #[.pointer (some ⟨sb, 0, none⟩), .int .i64 lo, .int .i64 hi] w
      (fun e w' => ∃ x : Int, lo ≤ x ∧ x ≤ hi ∧ e = .returned (.int .i64 x) ∧ Took sb (b + 1) w w') := by
  go_enter Try.func23, Try.ntmps23
  go_wp2_with (go_at_call 27; refine (next_any sb b _ _ (by omega) (by omega) hb hs).mono ?_; rintro e w' ⟨k, hk0, hk1, rfl, ht⟩)
  go_ret
  exact ⟨lo + k, by omega, by omega, rfl, ht⟩

/-- A row of values (one cell each) that is only read. -/
def RowAt (w : World) (A : Option Addr) (xs : List Value) (sb : Nat) : Prop :=
  ∃ ad, A = some ad ∧ ad.block < w.heap.size ∧ ad.block ≠ sb ∧ ∀ (k : Nat) (v : Value), xs[k]? = some v → w.cell? (ad.add k) = some v

set_option maxHeartbeats 1000000 in
theorem pick_any (sb b c : Nat) (A : Option Addr) (xs : List Int) (w : World) (h1 : 1 ≤ xs.length) (hc : xs.length ≤ c) (hn : c ≤ 1000000) (hb : b ≤ 1000000) (hs : IsStream w sb b)
    (hr : RowAt w A (xs.map (.int .i64)) sb) :
    Calls Try.prog 25 #[.pointer (some ⟨sb, 0, none⟩), .slice A xs.length c] w
      (fun e w' => ∃ x ∈ xs, e = .returned (.int .i64 x) ∧ Took sb (b + 1) w w') := by
  obtain ⟨ad, rfl, hab, hne, hcell⟩ := hr
  have HC := Lib.hid hcell
  clear hcell
  go_enter Try.func25, Try.ntmps25
  go_wp2_with fail
  refine (next_any sb b _ _ (by omega) (by omega) hb hs).mono ?_
  rintro e w' ⟨k, hk0, hk1, rfl, ht⟩
  obtain ⟨j, rfl⟩ := Int.eq_ofNat_of_zero_le hk0
  have hj : j < xs.length := by omega
  have hcj := (ht.2.cell (p := ad.add j) (by rw [addr_block]; exact hab) (by rw [addr_block]; exact hne)).trans (HC.out j (.int .i64 xs[j]) (by simp [hj]))
  go_wp2_with fail
  go_ret
  exact ⟨xs[j], List.getElem_mem hj, rfl, ht⟩

set_option maxHeartbeats 1000000 in
theorem some_any (sb b c : Nat) (A : Option Addr) (xs : List ByteArray) (w : World) (h1 : 1 ≤ xs.length) (hc : xs.length ≤ c) (hn : c ≤ 1000000) (hb : b ≤ 1000000) (hs : IsStream w sb b)
    (hr : RowAt w A (xs.map .string) sb) :
    Calls Try.prog 52 #[.pointer (some ⟨sb, 0, none⟩), .slice A xs.length c] w
      (fun e w' => ∃ x ∈ xs, e = .returned (.string x) ∧ Took sb (b + 1) w w') := by
  obtain ⟨ad, rfl, hab, hne, hcell⟩ := hr
  have HC := Lib.hid hcell
  clear hcell
  go_enter Try.func52, Try.ntmps52
  go_wp2_with fail
  refine (next_any sb b _ _ (by omega) (by omega) hb hs).mono ?_
  rintro e w' ⟨k, hk0, hk1, rfl, ht⟩
  obtain ⟨j, rfl⟩ := Int.eq_ofNat_of_zero_le hk0
  have hj : j < xs.length := by omega
  have hcj := (ht.2.cell (p := ad.add j) (by rw [addr_block]; exact hab) (by rw [addr_block]; exact hne)).trans (HC.out j (.string xs[j]) (by simp [hj]))
  go_wp2_with fail
  go_ret
  exact ⟨xs[j], List.getElem_mem hj, rfl, ht⟩

theorem Took.blk {sb b : Nat} {w w' : World} (h : Took sb b w w') {g : Nat} {o : Obj} (hg : w.heap[g]? = some o) (hne : g ≠ sb) : w'.heap[g]? = some o :=
  (h.2.old _ (lt_of_blk hg) hne).trans hg
theorem Took.size {sb b : Nat} {w w' : World} (h : Took sb b w w') : w.heap.size ≤ w'.heap.size := h.2.more
theorem IsStream.setCell {w : World} {sb b : Nat} (h : IsStream w sb b) {p : Addr} (hp : sb < p.block) (v : Value) : IsStream (w.setCell p v) sb b := by
  obtain ⟨A, n, c, t, h1, h2, h3, h4, h5⟩ := h
  refine ⟨A, n, c, t, h1, h2, h3, (Below.heap_setCell _ _ _ _ (by omega)).trans h4, fun hn => ?_⟩
  obtain ⟨ad, e, hb, hne, hc⟩ := h5 hn
  refine ⟨ad, e, by simpa [World.setCell] using hb, hne, fun k hk => ?_⟩
  obtain ⟨x, hx⟩ := hc k hk
  refine ⟨x, ?_⟩
  rw [World.cell?_setCell_other]
  · exact hx
  · intro e
    have := addr_block ad k
    rw [← e] at this
    omega
theorem Took.setCell {sb b : Nat} {w w1 : World} (h : Took sb b w w1) {p : Addr} (hp : w.heap.size ≤ p.block) (hs : sb < w.heap.size) (v : Value) : Took sb b w (w1.setCell p v) :=
  ⟨h.1.setCell (by omega) v, h.2.store (.inr hp) v⟩
/-- What is read of a block that is known whole. -/
theorem blk2 {w : World} {g : Nat} {x y : Value} {t : TypeId} (h : w.heap[g]? = some (.cells #[x, y] t (0, 0))) :
    w.cell? ⟨g, 0, none⟩ = some x ∧ w.cell? ⟨g, 1, none⟩ = some y ∧ w.frozen? ⟨g, 0, none⟩ = false ∧ w.frozen? ⟨g, 1, none⟩ = false :=
  ⟨by rw [cell_of_blk h]; rfl, by rw [cell_of_blk h]; rfl, frozen_of_blk h _, frozen_of_blk h _⟩

theorem blk_set {w : World} {g i : Nat} {cs : Array Value} {t : TypeId} (h : w.heap[g]? = some (.cells cs t (0, 0))) (u : Value) : (w.setCell ⟨g, i, none⟩ u).heap[g]? = some (.cells (cs.setIfInBounds i u) t (0, 0)) := by
  simp [World.setCell, Array.getElem?_modify, h]
theorem blk_far {w : World} {g : Nat} {o : Obj} {p : Addr} (h : w.heap[g]? = some o) (hp : g ≠ p.block) (u : Value) : (w.setCell p u).heap[g]? = some o := (Below.heap_setCell w p u g hp).trans h
theorem blk_alloc {w : World} {g : Nat} {o : Obj} (h : w.heap[g]? = some o) (o' : Obj) : (w.alloc o').heap[g]? = some o := (Below.heap_alloc w o' g (lt_of_blk h)).trans h

def i64 (n : Int) : Prop := -9223372036854775808 ≤ n ∧ n ≤ 9223372036854775807

/-- A point that a stream makes. -/
def PointOf (sb b : Nat) (w : World) (e : Ending) (w' : World) : Prop :=
  ∃ x y : Int, i64 x ∧ -500000 ≤ y ∧ y ≤ 500000 ∧ e = .returned (.agg #[.int .i64 x, .int .i64 y]) ∧ Took sb b w w'

theorem row_new (w : World) (cs : List Value) (t : TypeId) (sb g : Nat) (hg : w.heap.size = g) (hs : sb < w.heap.size) : RowAt (w.alloc (.cells cs.toArray t)) (some ⟨g, 0, none⟩) cs sb := by
  subst hg
  refine ⟨_, rfl, by simp, by simp; omega, fun k v hk => ?_⟩
  have : (w.alloc (.cells cs.toArray t)).heap[w.heap.size]? = some (.cells cs.toArray t (0, 0)) := heap_alloc_new w _
  have h2 := cell_of_blk this k
  rw [addr_new, h2]
  simpa using hk

theorem Took.from_alloc {sb b : Nat} {w w' : World} {o : Obj} (h : Took sb b (w.alloc o) w') : Took sb b w w' :=
  ⟨h.1, (Kept.of_below ((Below.refl _ _).alloc (Nat.le_refl _) o)).then_ h.2⟩

theorem pick_lit (sb b : Nat) (xs : List Int) (w : World) (g n : Nat) (hx : n = xs.length) (h1 : 1 ≤ n) (h2 : n ≤ 1000) (hg : w.heap.size = g) (hb : b ≤ 1000000) (hs : IsStream w sb b) :
    Calls Try.prog 25 #[.pointer (some ⟨sb, 0, none⟩), .slice (some ⟨g, 0, none⟩) n n] (w.alloc (.cells (xs.map (Value.int .i64)).toArray 3))
      (fun e w' => ∃ x ∈ xs, e = .returned (.int .i64 x) ∧ Took sb (b + 1) w w') := by
  subst hx
  refine (pick_any sb b xs.length _ xs _ h1 (Nat.le_refl _) (by omega) hb (hs.alloc _) (row_new w _ _ sb g hg hs.lt)).mono ?_
  rintro e w' ⟨x, hx, rfl, ht⟩
  exact ⟨x, hx, rfl, ht.from_alloc⟩
theorem some_lit (sb b : Nat) (xs : List ByteArray) (w : World) (g n : Nat) (hx : n = xs.length) (h1 : 1 ≤ n) (h2 : n ≤ 1000) (hg : w.heap.size = g) (hb : b ≤ 1000000) (hs : IsStream w sb b) :
    Calls Try.prog 52 #[.pointer (some ⟨sb, 0, none⟩), .slice (some ⟨g, 0, none⟩) n n] (w.alloc (.cells (xs.map Value.string).toArray 9))
      (fun e w' => ∃ x ∈ xs, e = .returned (.string x) ∧ Took sb (b + 1) w w') := by
  subst hx
  refine (some_any sb b xs.length _ xs _ h1 (Nat.le_refl _) (by omega) hb (hs.alloc _) (row_new w _ _ sb g hg hs.lt)).mono ?_
  rintro e w' ⟨x, hx, rfl, ht⟩
  exact ⟨x, hx, rfl, ht.from_alloc⟩

end Go.Proofs.Ytjmjmijjdgolfaa
