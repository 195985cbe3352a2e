/-
  Words for the walks: the stream of raw numbers in memory, and the smallest contracts. The walks of the functions on points: the program's, and the reference's. The walk of keys. The walks of the checks of fiducials. The walk of the check of products. Plain words: rows of equal parts, the order of strings, bodies and their areas, pairs. Words for the makers: two blocks that may turn, typed rows, picks out of blocks. Slices that read as rows of strings. Plain words on setups.
-/
import Derived.Test.YtmjonmoagpkdiabGreatDoorRows
import Derived.WalkKit
import Derived.WalkSpells
import Derived.WalkLawsBesides
import Derived.Outline
import Derived.Lib.Hide
import Derived.Deep.QuietTactic
import Derived.BigQuiet
import Derived.Deep.RegionHeld3
import Derived.Below
import Derived.Deep.Draws
import Derived.Deep.DeepCutAuto
import Derived.Sort.Walk0
import Derived.Lib.Bytealg
import Derived.Deep.AppendLies
import Derived.Lib.SlicesS
namespace Go.Proofs.YtmjonmoagpkdiabGreatDoor
open Go.RowKit

/-- The walk stands at a goal that is held. -/
theorem hold {p : Prop} (h : Hid p) : p := h
theorem loose {p : Prop} (h : p) : Hid p := h
theorem ret_int {k : IntKind} {a b : Int} (h : a = b) : Ending.returned (.int k a) = .returned (.int k b) := by rw [h]
theorem ret_bool {a b : Bool} (h : a = b) : Ending.returned (.bool a) = .returned (.bool b) := by rw [h]

theorem addr_block (p : Addr) (k : Nat) : (p.add k).block = p.block := by
  cases k with
  | zero => rfl
  | succ k => simp [Addr.add]
theorem addr_new (g k : Nat) : (⟨g, 0, none⟩ : Addr).add k = ⟨g, k, none⟩ := by
  cases k with
  | zero => rfl
  | succ k => simp [Addr.add]

/-- A slice of integers that is only read. -/
def IntsAt (w : World) (A : Option Addr) (n : Nat) (sb : Nat) : Prop :=
  0 < n → ∃ ad, A = some ad ∧ ad.block < w.heap.size ∧ ad.block < sb ∧ ∀ k : Nat, k < n → ∃ x : Int, w.cell? (ad.add k) = some (.int .i64 x)

/-- Block sb is a stream, from which at most b numbers have been taken. -/
def IsStream (w : World) (sb b : Nat) : Prop :=
  ∃ (A : Option Addr) (n c t : Nat), n ≤ c ∧ c ≤ 9223372036854775807 ∧ t ≤ b ∧ w.heap[sb]? = some (.cells #[.slice A n c, .int .i64 t] 25 (0, 0)) ∧ IntsAt w A n sb

def below (x n : Int) : Int := if n < 1 then 0 else x % n

theorem below_lt (x n : Int) (h : 1 ≤ n) : 0 ≤ below x n ∧ below x n < n := by
  unfold below
  rw [if_neg (by omega)]
  exact ⟨Int.emod_nonneg _ (by omega), Int.emod_lt_of_pos _ (by omega)⟩

theorem tmod_neg {x n : Int} (hn : 1 ≤ n) (h : x.tmod n < 0) : x.tmod n + n = x % n := by
  rw [Int.tmod_eq_emod]
  rw [Int.tmod_eq_emod] at h
  have := Int.emod_nonneg x (show n ≠ 0 by omega)
  split at h
  · omega
  · rw [if_neg ‹_›]
    have := Int.natAbs_of_nonneg (show 0 ≤ n by omega)
    omega
theorem tmod_pos {x n : Int} (hn : 1 ≤ n) (h : ¬ x.tmod n < 0) : x.tmod n = x % n := by
  rw [Int.tmod_eq_emod] at h ⊢
  have h1 := Int.emod_nonneg x (show n ≠ 0 by omega)
  have h2 := Int.emod_lt_of_pos x (show 0 < n by omega)
  split at h
  · rw [if_pos ‹_›]; omega
  · have := Int.natAbs_of_nonneg (show 0 ≤ n by omega)
    omega

set_option maxHeartbeats 400000 in
theorem below_any (x n : Int) (w : World) (hn : n ≤ 9223372036854775807) :
    Calls Tryz.prog 51 #[.int .i64 x, .int .i64 n] w fun e w' => e = .returned (.int .i64 (below x n)) ∧ w = w' := by
  by_cases h : n < 1
  · go_enter Tryz.func51, Tryz.ntmps51
    go_wp2
    go_ret
    exact ⟨by simp [below, h], rfl⟩
  · have h1 : 1 ≤ n := by omega
    by_cases hx : x.tmod n < 0
    · have e := tmod_neg h1 hx
      have hlt : -n ≤ x.tmod n := by
        have := Int.emod_nonneg x (show n ≠ 0 by omega); omega
      have HE := Lib.hid e
      clear e
      go_enter Tryz.func51, Tryz.ntmps51
      go_wp2
      go_ret
      exact ⟨ret_int (by rw [HE.out, below, if_neg (by omega)]), rfl⟩
    · have e := tmod_pos h1 hx
      have HE := Lib.hid e
      clear e
      go_enter Tryz.func51, Tryz.ntmps51
      go_wp2
      go_ret
      exact ⟨ret_int (by rw [HE.out, below, if_neg (by omega)]), rfl⟩

def SomeBelow (n : Int) (P : World → Prop) (e : Ending) (w' : World) : Prop := ∃ k : Int, 0 ≤ k ∧ k < n ∧ e = .returned (.int .i64 k) ∧ P w'

theorem cell_of_blk {w : World} {g : Nat} {cs : Array Value} {t : TypeId} (h : w.heap[g]? = some (.cells cs t (0, 0))) (i : Nat) : w.cell? ⟨g, i, none⟩ = cs[i]? := cell_of_row w g i cs t (0, 0) h
theorem frozen_of_blk {w : World} {g : Nat} {cs : Array Value} {t : TypeId} (h : w.heap[g]? = some (.cells cs t (0, 0))) (i : Nat) : w.frozen? ⟨g, i, none⟩ = false := by
  simp [World.frozen?, h]
theorem lt_of_blk {w : World} {g : Nat} {o : Obj} (h : w.heap[g]? = some o) : g < w.heap.size := by
  rcases Nat.lt_or_ge g w.heap.size with hlt | hge
  · exact hlt
  · rw [Array.getElem?_eq_none hge] at h; cases h

/-- All blocks but sb stand as they stood; no block has gone, and the outside is as it was. -/
structure Kept (sb : Nat) (a w : World) : Prop where
  outer : w.os = a.os ∧ w.tape = a.tape ∧ w.output = a.output
  more : a.heap.size ≤ w.heap.size
  old : ∀ i, i < a.heap.size → i ≠ sb → w.heap[i]? = a.heap[i]?

namespace Kept
variable {sb : Nat} {a b w : World}
theorem same (sb : Nat) (a : World) : Kept sb a a := { outer := ⟨rfl, rfl, rfl⟩, more := Nat.le_refl _, old := fun _ _ _ => rfl }
theorem then_ (h : Kept sb a b) (k : Kept sb b w) : Kept sb a w where
  outer := by
    obtain ⟨x, y, z⟩ := h.outer
    obtain ⟨x', y', z'⟩ := k.outer
    exact ⟨x'.trans x, y'.trans y, z'.trans z⟩
  more := by have := h.more; have := k.more; omega
  old i hi hne := by
    have := h.more
    rw [k.old i (by omega) hne, h.old i hi hne]
theorem of_below (h : Below a.heap.size a w) : Kept sb a w := { outer := ⟨h.os, h.tape, h.output⟩, more := h.size, old := fun i hi _ => h.block i hi }
theorem draws (h : Kept sb a w) (n : Nat) : Kept sb a (w.drewN n) := { outer := h.outer, more := h.more, old := h.old }
theorem cell (h : Kept sb a w) {p : Addr} (hp : p.block < a.heap.size) (hne : p.block ≠ sb) : w.cell? p = a.cell? p := by
  unfold World.cell?
  rw [h.old _ hp hne]
/-- A store into the block sb, or into a new one. -/
theorem store (h : Kept sb a w) {p : Addr} (hp : p.block = sb ∨ a.heap.size ≤ p.block) (u : Value) : Kept sb a (w.setCell p u) where
  outer := h.outer
  more := by have := h.more; simpa [World.setCell] using this
  old i hi hne := by
    rw [← h.old i hi hne]
    exact Below.heap_setCell w p u i (by omega)
end Kept

/-- What a taking of numbers does: only the stream's block, and what is new, has turned. -/
def Took (sb b : Nat) (w w' : World) : Prop := IsStream w' sb b ∧ Kept sb w w'

/-- What is known of a row that the call owns, and that is not empty. -/
theorem own_read {w : World} {base : Nat} {e : TypeId} {size n : Nat} {v : Value} {xs : List Value} (h : w.ownsRow base e size v n xs) (hn : 0 < n) :
    ∃ g cap : Nat, v = .slice (some ⟨g, 0, none⟩) n cap ∧ base ≤ g ∧ g < w.heap.size ∧ n ≤ cap ∧ cap ≤ maxLen ∧ ∀ j u, xs[j]? = some u → w.cell? ⟨g, j, none⟩ = some u := by
  obtain ⟨hl, h | ⟨g, cap, cur, hv, hb, hc, hnc, hm, hs, ht⟩⟩ := h
  · omega
  · refine ⟨g, cap, hv, hb, lt_of_blk hc, hnc, hm, fun j u hu => ?_⟩
    rw [cell_of_blk hc]
    rw [← ht, List.getElem?_take] at hu
    split at hu
    · simpa using hu
    · cases hu

theorem IntsAt.grown {w w' : World} {A : Option Addr} {n sb : Nat} (h : IntsAt w A n sb) (hg : Kept sb w w') : IntsAt w' A n sb := fun hn => by
  obtain ⟨ad, e, hb, hne, hc⟩ := h hn
  refine ⟨ad, e, Nat.lt_of_lt_of_le hb hg.more, hne, fun k hk => ?_⟩
  obtain ⟨x, hx⟩ := hc k hk
  exact ⟨x, by rw [← hx]; exact hg.cell (by rw [addr_block]; exact hb) (by rw [addr_block]; omega)⟩

theorem IsStream.more {w : World} {sb b b' : Nat} (h : IsStream w sb b) (hb : b ≤ b') : IsStream w sb b' := by
  obtain ⟨A, n, c, t, h1, h2, h3, h4, h5⟩ := h
  exact ⟨A, n, c, t, h1, h2, by omega, h4, h5⟩
theorem IsStream.lt {w : World} {sb b : Nat} (h : IsStream w sb b) : sb < w.heap.size := by
  obtain ⟨A, n, c, t, h1, h2, h3, h4, h5⟩ := h
  exact lt_of_blk h4
/-- The stream is kept where its own block, and the numbers', are as they were. -/
theorem IsStream.below {w w' : World} {sb b : Nat} (h : IsStream w sb b) (hb : Below w.heap.size w w') : IsStream w' sb b := by
  have hlt := h.lt
  obtain ⟨A, n, c, t, h1, h2, h3, h4, h5⟩ := h
  exact ⟨A, n, c, t, h1, h2, h3, (hb.block _ hlt).trans h4, h5.grown (Kept.of_below hb)⟩
theorem IsStream.alloc {w : World} {sb b : Nat} (h : IsStream w sb b) (o : Obj) : IsStream (w.alloc o) sb b := h.below ((Below.refl _ _).alloc (Nat.le_refl _) o)
theorem IsStream.drew {w : World} {sb b : Nat} (h : IsStream w sb b) : IsStream w.drew sb b := h.below (Below.refl _ _).drew
theorem IsStream.drewN {w : World} {sb b : Nat} (h : IsStream w sb b) (n : Nat) : IsStream (w.drewN n) sb b := by
  induction n with
  | zero => exact h
  | succ n ih => exact ⟨_, _, _, _, h.choose_spec.choose_spec.choose_spec.choose_spec.1, h.choose_spec.choose_spec.choose_spec.choose_spec.2.1, h.choose_spec.choose_spec.choose_spec.choose_spec.2.2.1, h.choose_spec.choose_spec.choose_spec.choose_spec.2.2.2.1, h.choose_spec.choose_spec.choose_spec.choose_spec.2.2.2.2⟩

theorem Took.trans {sb b b' : Nat} {w w1 w2 : World} (h : Took sb b w w1) (k : Took sb b' w1 w2) : Took sb b' w w2 := ⟨k.1, h.2.then_ k.2⟩
theorem Took.more {sb b b' : Nat} {w w1 : World} (h : Took sb b w w1) (hb : b ≤ b') : Took sb b' w w1 := ⟨h.1.more hb, h.2⟩
theorem Took.refl {sb b : Nat} {w : World} (h : IsStream w sb b) : Took sb b w w := ⟨h, Kept.same _ _⟩
theorem Took.below {sb b : Nat} {w w1 w2 : World} (h : Took sb b w w1) (hb : Below w1.heap.size w1 w2) : Took sb b w w2 := ⟨h.1.below hb, h.2.then_ (Kept.of_below hb)⟩
theorem Took.alloc {sb b : Nat} {w w1 : World} (h : Took sb b w w1) (o : Obj) : Took sb b w (w1.alloc o) := h.below ((Below.refl _ _).alloc (Nat.le_refl _) o)
theorem Took.drew {sb b : Nat} {w w1 : World} (h : Took sb b w w1) : Took sb b w w1.drew := h.below (Below.refl _ _).drew
theorem Took.drewN {sb b : Nat} {w w1 : World} (h : Took sb b w w1) (n : Nat) : Took sb b w (w1.drewN n) := ⟨h.1.drewN n, h.2.draws n⟩

theorem took_next {w : World} {sb b len c t : Nat} {A : Option Addr} (hblk : w.heap[sb]? = some (.cells #[.slice A len c, .int .i64 t] 25 (0, 0)))
    (hlc : len ≤ c) (hc : c ≤ 9223372036854775807) (ht : t ≤ b) (_hb : b ≤ 1000001) (hi : IntsAt w A len sb) (k : Nat) :
    Took sb (b + 1) w ((w.setCell ⟨sb, 1, none⟩ (.int .i64 ((t : Int) + 1))).drewN k) := by
  have hg : Kept sb w (w.setCell ⟨sb, 1, none⟩ (.int .i64 ((t : Int) + 1))) := (Kept.same sb w).store (p := ⟨sb, 1, none⟩) (.inl rfl) _
  refine ⟨?_, hg.draws k⟩
  refine IsStream.drewN ⟨A, len, c, t + 1, hlc, hc, by omega, ?_, hi.grown hg⟩ k
  simp [World.setCell, Array.getElem?_modify, hblk]

set_option maxHeartbeats 1000000 in
theorem next_any (sb b : Nat) (n : Int) (w : World) (h1 : 1 ≤ n) (hn : n ≤ 9223372036854775807) (hb : b ≤ 1000000) (hs : IsStream w sb b) :
    Calls Tryz.prog 26 #[.pointer (some ⟨sb, 0, none⟩), .int .i64 n] w (SomeBelow n (Took sb (b + 1) w)) := by
  obtain ⟨A, len, c, t, hlc, hc, ht, hblk, hints⟩ := hs
  have c0 := cell_of_blk hblk 0
  have c1 := cell_of_blk hblk 1
  have f0 := frozen_of_blk hblk 0
  have f1 := frozen_of_blk hblk 1
  simp at c0 c1
  have HB := Lib.hid hblk
  clear hblk
  rcases Nat.eq_zero_or_pos len with h0 | h0
  · subst h0
    have HI := Lib.hid hints
    clear hints
    go_enter Tryz.func26, Tryz.ntmps26
    go_wp2_with (go_at_call 51; refine (below_any _ _ _ hn).mono ?_; rintro e w' ⟨rfl, rfl⟩)
    go_ret
    exact ⟨below _ n, (below_lt _ n h1).1, (below_lt _ n h1).2, rfl, took_next HB.out hlc hc ht (by omega) HI.out 0⟩
  · obtain ⟨ad, rfl, hab, hne, hcell⟩ := hints h0
    have hi0 : (0 : Int) ≤ (t : Int) % (len : Int) := Int.emod_nonneg _ (by omega)
    have hi1 : (t : Int) % (len : Int) < (len : Int) := Int.emod_lt_of_pos _ (by omega)
    obtain ⟨x, hx⟩ := hcell (t % len) (Nat.mod_lt _ h0)
    have hx' : (w.setCell ⟨sb, 1, none⟩ (.int .i64 ((t : Int) + 1))).cell? (ad.add (t % len)) = some (.int .i64 x) := by
      rw [World.cell?_setCell_other]
      · exact hx
      · intro e
        have := addr_block ad (t % len)
        rw [← e] at this
        simp only at this
        omega
    clear hx
    have HI := Lib.hid hints
    clear hints hcell
    go_enter Tryz.func26, Tryz.ntmps26
    go_wp2_with (go_at_call 51; refine (below_any _ _ _ hn).mono ?_; rintro e w' ⟨rfl, rfl⟩)
    go_quiet (fail)
    go_wp2_with fail
    go_quiet (fail)
    go_wp2_with (go_at_call 51; refine (below_any _ _ _ (by omega)).mono ?_; rintro e w' ⟨rfl, rfl⟩)
    go_ret
    exact ⟨below _ n, (below_lt _ n h1).1, (below_lt _ n h1).2, rfl, took_next HB.out hlc hc ht (by omega) HI.out _⟩

set_option maxHeartbeats 1000000 in
theorem flip_any (sb b : Nat) (n : Int) (w : World) (h1 : 1 ≤ n) (hn : n ≤ 9223372036854775807) (hb : b ≤ 1000000) (hs : IsStream w sb b) :
    Calls Tryz.prog 23 #[.pointer (some ⟨sb, 0, none⟩), .int .i64 n] w (fun e w' => ∃ x : Bool, e = .returned (.bool x) ∧ Took sb (b + 1) w w') := by
  go_enter Tryz.func23, Tryz.ntmps23
  go_wp2_with (go_at_call 26; refine (next_any sb b n _ h1 hn hb hs).mono ?_; rintro e w' ⟨k, hk0, hk1, rfl, ht⟩)
  go_ret
  exact ⟨_, rfl, ht⟩

set_option maxHeartbeats 1000000 in
theorem range_any (sb b : Nat) (lo hi : Int) (w : World) (h1 : lo ≤ hi) (h2 : -1000000000 ≤ lo) (h3 : hi ≤ 1000000000) (hb : b ≤ 1000000) (hs : IsStream w sb b) :
    Calls Tryz.prog 25 #[.pointer (some ⟨sb, 0, none⟩), .int .i64 lo, .int .i64 hi] w
      (fun e w' => ∃ x : Int, lo ≤ x ∧ x ≤ hi ∧ e = .returned (.int .i64 x) ∧ Took sb (b + 1) w w') := by
  go_enter Tryz.func25, Tryz.ntmps25
  go_wp2_with (go_at_call 26; refine (next_any sb b _ _ (by omega) (by omega) hb hs).mono ?_; rintro e w' ⟨k, hk0, hk1, rfl, ht⟩)
  go_ret
  exact ⟨lo + k, by omega, by omega, rfl, ht⟩

/-- A row of values (one cell each) that is only read. -/
def RowAt (w : World) (A : Option Addr) (xs : List Value) (sb : Nat) : Prop :=
  ∃ ad, A = some ad ∧ ad.block < w.heap.size ∧ ad.block ≠ sb ∧ ∀ (k : Nat) (v : Value), xs[k]? = some v → w.cell? (ad.add k) = some v

set_option maxHeartbeats 1000000 in
theorem pick_any (sb b c : Nat) (A : Option Addr) (xs : List Int) (w : World) (h1 : 1 ≤ xs.length) (hc : xs.length ≤ c) (hn : c ≤ 1000000) (hb : b ≤ 1000000) (hs : IsStream w sb b)
    (hr : RowAt w A (xs.map (.int .i64)) sb) :
    Calls Tryz.prog 22 #[.pointer (some ⟨sb, 0, none⟩), .slice A xs.length c] w
      (fun e w' => ∃ x ∈ xs, e = .returned (.int .i64 x) ∧ Took sb (b + 1) w w') := by
  obtain ⟨ad, rfl, hab, hne, hcell⟩ := hr
  have HC := Lib.hid hcell
  clear hcell
  go_enter Tryz.func22, Tryz.ntmps22
  go_wp2_with fail
  refine (next_any sb b _ _ (by omega) (by omega) hb hs).mono ?_
  rintro e w' ⟨k, hk0, hk1, rfl, ht⟩
  obtain ⟨j, rfl⟩ := Int.eq_ofNat_of_zero_le hk0
  have hj : j < xs.length := by omega
  have hcj := (ht.2.cell (p := ad.add j) (by rw [addr_block]; exact hab) (by rw [addr_block]; exact hne)).trans (HC.out j (.int .i64 xs[j]) (by simp [hj]))
  go_wp2_with fail
  go_ret
  exact ⟨xs[j], List.getElem_mem hj, rfl, ht⟩

set_option maxHeartbeats 1000000 in
theorem some_any (sb b c : Nat) (A : Option Addr) (xs : List ByteArray) (w : World) (h1 : 1 ≤ xs.length) (hc : xs.length ≤ c) (hn : c ≤ 1000000) (hb : b ≤ 1000000) (hs : IsStream w sb b)
    (hr : RowAt w A (xs.map .string) sb) :
    Calls Tryz.prog 24 #[.pointer (some ⟨sb, 0, none⟩), .slice A xs.length c] w
      (fun e w' => ∃ x ∈ xs, e = .returned (.string x) ∧ Took sb (b + 1) w w') := by
  obtain ⟨ad, rfl, hab, hne, hcell⟩ := hr
  have HC := Lib.hid hcell
  clear hcell
  go_enter Tryz.func24, Tryz.ntmps24
  go_wp2_with fail
  refine (next_any sb b _ _ (by omega) (by omega) hb hs).mono ?_
  rintro e w' ⟨k, hk0, hk1, rfl, ht⟩
  obtain ⟨j, rfl⟩ := Int.eq_ofNat_of_zero_le hk0
  have hj : j < xs.length := by omega
  have hcj := (ht.2.cell (p := ad.add j) (by rw [addr_block]; exact hab) (by rw [addr_block]; exact hne)).trans (HC.out j (.string xs[j]) (by simp [hj]))
  go_wp2_with fail
  go_ret
  exact ⟨xs[j], List.getElem_mem hj, rfl, ht⟩

theorem Took.blk {sb b : Nat} {w w' : World} (h : Took sb b w w') {g : Nat} {o : Obj} (hg : w.heap[g]? = some o) (hne : g ≠ sb) : w'.heap[g]? = some o :=
  (h.2.old _ (lt_of_blk hg) hne).trans hg
theorem Took.size {sb b : Nat} {w w' : World} (h : Took sb b w w') : w.heap.size ≤ w'.heap.size := h.2.more
theorem IsStream.setCell {w : World} {sb b : Nat} (h : IsStream w sb b) {p : Addr} (hp : sb < p.block) (v : Value) : IsStream (w.setCell p v) sb b := by
  obtain ⟨A, n, c, t, h1, h2, h3, h4, h5⟩ := h
  refine ⟨A, n, c, t, h1, h2, h3, (Below.heap_setCell _ _ _ _ (by omega)).trans h4, fun hn => ?_⟩
  obtain ⟨ad, e, hb, hne, hc⟩ := h5 hn
  refine ⟨ad, e, by simpa [World.setCell] using hb, hne, fun k hk => ?_⟩
  obtain ⟨x, hx⟩ := hc k hk
  refine ⟨x, ?_⟩
  rw [World.cell?_setCell_other]
  · exact hx
  · intro e
    have := addr_block ad k
    rw [← e] at this
    omega
theorem Took.setCell {sb b : Nat} {w w1 : World} (h : Took sb b w w1) {p : Addr} (hp : w.heap.size ≤ p.block) (hs : sb < w.heap.size) (v : Value) : Took sb b w (w1.setCell p v) :=
  ⟨h.1.setCell (by omega) v, h.2.store (.inr hp) v⟩
/-- What is read of a block that is known whole. -/
theorem blk2 {w : World} {g : Nat} {x y : Value} {t : TypeId} (h : w.heap[g]? = some (.cells #[x, y] t (0, 0))) :
    w.cell? ⟨g, 0, none⟩ = some x ∧ w.cell? ⟨g, 1, none⟩ = some y ∧ w.frozen? ⟨g, 0, none⟩ = false ∧ w.frozen? ⟨g, 1, none⟩ = false :=
  ⟨by rw [cell_of_blk h]; rfl, by rw [cell_of_blk h]; rfl, frozen_of_blk h _, frozen_of_blk h _⟩

theorem blk_set {w : World} {g i : Nat} {cs : Array Value} {t : TypeId} (h : w.heap[g]? = some (.cells cs t (0, 0))) (u : Value) : (w.setCell ⟨g, i, none⟩ u).heap[g]? = some (.cells (cs.setIfInBounds i u) t (0, 0)) := by
  simp [World.setCell, Array.getElem?_modify, h]
theorem blk_far {w : World} {g : Nat} {o : Obj} {p : Addr} (h : w.heap[g]? = some o) (hp : g ≠ p.block) (u : Value) : (w.setCell p u).heap[g]? = some o := (Below.heap_setCell w p u g hp).trans h
theorem blk_alloc {w : World} {g : Nat} {o : Obj} (h : w.heap[g]? = some o) (o' : Obj) : (w.alloc o').heap[g]? = some o := (Below.heap_alloc w o' g (lt_of_blk h)).trans h

def i64 (n : Int) : Prop := -9223372036854775808 ≤ n ∧ n ≤ 9223372036854775807

/-- A point that a stream makes. -/
def PointOf (sb b : Nat) (w : World) (e : Ending) (w' : World) : Prop :=
  ∃ x y : Int, i64 x ∧ -500000 ≤ y ∧ y ≤ 500000 ∧ e = .returned (.agg #[.int .i64 x, .int .i64 y]) ∧ Took sb b w w'

theorem row_new (w : World) (cs : List Value) (t : TypeId) (sb g : Nat) (hg : w.heap.size = g) (hs : sb < w.heap.size) : RowAt (w.alloc (.cells cs.toArray t)) (some ⟨g, 0, none⟩) cs sb := by
  subst hg
  refine ⟨_, rfl, by simp, by simp; omega, fun k v hk => ?_⟩
  have : (w.alloc (.cells cs.toArray t)).heap[w.heap.size]? = some (.cells cs.toArray t (0, 0)) := heap_alloc_new w _
  have h2 := cell_of_blk this k
  rw [addr_new, h2]
  simpa using hk

theorem Took.from_alloc {sb b : Nat} {w w' : World} {o : Obj} (h : Took sb b (w.alloc o) w') : Took sb b w w' :=
  ⟨h.1, (Kept.of_below ((Below.refl _ _).alloc (Nat.le_refl _) o)).then_ h.2⟩

theorem pick_lit (sb b : Nat) (xs : List Int) (w : World) (g n : Nat) (hx : n = xs.length) (h1 : 1 ≤ n) (h2 : n ≤ 1000) (hg : w.heap.size = g) (hb : b ≤ 1000000) (hs : IsStream w sb b) :
    Calls Tryz.prog 22 #[.pointer (some ⟨sb, 0, none⟩), .slice (some ⟨g, 0, none⟩) n n] (w.alloc (.cells (xs.map (Value.int .i64)).toArray 3))
      (fun e w' => ∃ x ∈ xs, e = .returned (.int .i64 x) ∧ Took sb (b + 1) w w') := by
  subst hx
  refine (pick_any sb b xs.length _ xs _ h1 (Nat.le_refl _) (by omega) hb (hs.alloc _) (row_new w _ _ sb g hg hs.lt)).mono ?_
  rintro e w' ⟨x, hx, rfl, ht⟩
  exact ⟨x, hx, rfl, ht.from_alloc⟩
theorem some_lit (sb b : Nat) (xs : List ByteArray) (w : World) (g n : Nat) (hx : n = xs.length) (h1 : 1 ≤ n) (h2 : n ≤ 1000) (hg : w.heap.size = g) (hb : b ≤ 1000000) (hs : IsStream w sb b) :
    Calls Tryz.prog 24 #[.pointer (some ⟨sb, 0, none⟩), .slice (some ⟨g, 0, none⟩) n n] (w.alloc (.cells (xs.map Value.string).toArray 9))
      (fun e w' => ∃ x ∈ xs, e = .returned (.string x) ∧ Took sb (b + 1) w w') := by
  subst hx
  refine (some_any sb b xs.length _ xs _ h1 (Nat.le_refl _) (by omega) hb (hs.alloc _) (row_new w _ _ sb g hg hs.lt)).mono ?_
  rintro e w' ⟨x, hx, rfl, ht⟩
  exact ⟨x, hx, rfl, ht.from_alloc⟩

end Go.Proofs.YtmjonmoagpkdiabGreatDoor
namespace Go.Proofs.YtmjonmoagpkdiabGreatDoor
open Go.RowKit

theorem _root_.Go.RowKit.Below.drawN {B : Nat} {a w : World} (h : Below B a w) (n : Nat) : Below B a (w.drewN n) := { os := h.os, tape := h.tape, output := h.output, size := h.size, block := h.block }
/-- What a later part leaves alone below its own beginning is left alone below an earlier one. -/
theorem _root_.Go.RowKit.Below.then_below {B : Nat} {a b w : World} (h : Below B a b) (k : Below b.heap.size b w) (hB : B ≤ b.heap.size := by simp) : Below B a w := h.trans (k.mono hB)
theorem _root_.Go.RowKit.Below.ext {a b w : World} (h : Below a.heap.size a b) (k : Below b.heap.size b w) : Below a.heap.size a w := h.trans (k.mono h.size)
theorem blk_below {a w : World} (h : Below a.heap.size a w) {g : Nat} {o : Obj} (hg : a.heap[g]? = some o) : w.heap[g]? = some o := (h.block g (lt_of_blk hg)).trans hg

abbrev i (n : Int) : Value := .int .i64 n

set_option maxHeartbeats 400000 in
theorem within_any (n lo hi : Int) (w : World) :
    Calls Tryz.prog 31 #[.int .i64 n, .int .i64 lo, .int .i64 hi] w fun e w' => e = .returned (.bool (decide (lo ≤ n) && decide (n ≤ hi))) ∧ w = w' := by
  by_cases h : lo ≤ n <;> by_cases h2 : n ≤ hi
  all_goals
    go_enter Tryz.func31, Tryz.ntmps31
    go_wp2
    go_ret
    exact ⟨by simp [h, h2], rfl⟩
set_option maxHeartbeats 400000 in
theorem in_any (n lo hi : Int) (w : World) :
    Calls Tryz.prog 28 #[.int .i64 n, .int .i64 lo, .int .i64 hi] w fun e w' => e = .returned (.bool (decide (lo ≤ n) && decide (n ≤ hi))) ∧ w = w' := by
  by_cases h : lo ≤ n <;> by_cases h2 : n ≤ hi
  all_goals
    go_enter Tryz.func28, Tryz.ntmps28
    go_wp2
    go_ret
    exact ⟨by simp [h, h2], rfl⟩
/-- A coordinate. -/
def crd (n : Int) : Bool := decide (-500000 ≤ n) && decide (n ≤ 500000)
theorem crd_spec {n : Int} (h : crd n = true) : -500000 ≤ n ∧ n ≤ 500000 := by simpa [crd] using h
/-- A difference of coordinates. -/
def dif (n : Int) : Prop := -1000000 ≤ n ∧ n ≤ 1000000

theorem tdiv_of_neg {a b : Int} (hb : 1 ≤ b) (h : a.tmod b < 0) : a.tdiv b - 1 = a / b := by
  have h1 := Int.emod_nonneg a (show b ≠ 0 by omega)
  rw [Int.tmod_eq_emod] at h
  rw [Int.tdiv_eq_ediv]
  split at h
  · omega
  · rw [if_neg ‹_›, Int.sign_eq_one_of_pos (by omega)]; omega
theorem tdiv_of_pos {a b : Int} (hb : 1 ≤ b) (h : ¬ a.tmod b < 0) : a.tdiv b = a / b := by
  have h2 := Int.emod_lt_of_pos a (show 0 < b by omega)
  rw [Int.tmod_eq_emod] at h
  rw [Int.tdiv_eq_ediv]
  split at h
  · rw [if_pos ‹_›]; omega
  · have := Int.natAbs_of_nonneg (show 0 ≤ b by omega)
    omega
theorem div_bd {a b B : Int} (hb : 1 ≤ b) (h1 : -B ≤ a) (h2 : a ≤ B) (hB : 0 ≤ B) : -B ≤ a / b ∧ a / b ≤ B := by
  constructor
  · rw [Int.le_ediv_iff_mul_le (by omega)]
    have h3 : 0 ≤ B * (b - 1) := Int.mul_nonneg hB (by omega)
    have h4 : B * (b - 1) = B * b - B := by rw [Int.mul_sub, Int.mul_one]
    rw [Int.neg_mul]
    omega
  · rcases Int.le_total 0 a with h | h
    · exact Int.le_trans (Int.ediv_le_self _ h) h2
    · have h3 : a / b < 1 := by
        rw [Int.ediv_lt_iff_lt_mul (by omega)]
        omega
      omega

/-- Rounded to the nearest integer, halves up. -/
def near (n b : Int) : Int := (2 * n + b) / (2 * b)

theorem near_split (n b : Int) (hb : 1 ≤ b) : near n b = (2 * (n % b) + b) / (2 * b) + n / b := by
  unfold near
  have h := Int.mul_ediv_add_emod n b
  have e : 2 * n + b = (2 * (n % b) + b) + (2 * b) * (n / b) := by
    rw [Int.mul_assoc]; omega
  rw [e, Int.add_mul_ediv_left _ _ (by omega)]
theorem near_up {n b : Int} (hb : 1 ≤ b) (h : n % b ≥ b - n % b) : n / b + 1 = near n b := by
  have h1 := Int.emod_lt_of_pos n (show 0 < b by omega)
  rw [near_split n b hb]
  have e : 2 * (n % b) + b = (2 * (n % b) - b) + (2 * b) * 1 := by omega
  have z : (2 * (n % b) - b) / (2 * b) = 0 := Int.ediv_eq_zero_of_lt (by omega) (by omega)
  rw [e, Int.add_mul_ediv_left _ _ (by omega), z]
  omega
theorem near_dn {n b : Int} (hb : 1 ≤ b) (h : ¬ n % b ≥ b - n % b) : n / b = near n b := by
  have h1 := Int.emod_nonneg n (show b ≠ 0 by omega)
  have z : (2 * (n % b) + b) / (2 * b) = 0 := Int.ediv_eq_zero_of_lt (by omega) (by omega)
  rw [near_split n b hb, z]
  omega

/-- A fraction in lowest terms. -/
def low (a b : Int) : Value := .agg #[.int .i64 (a / Int.gcd a b), .int .i64 (b / Int.gcd a b)]

theorem gcd_step (c r : Int) : Int.gcd r (c % r) = Int.gcd c r := by
  have h := Int.gcd_add_mul_right_right r (c % r) (c / r)
  rw [show c % r + c / r * r = c from by rw [Int.add_comm, Int.mul_comm]; exact Int.mul_ediv_add_emod c r] at h
  rw [← h, Int.gcd_comm]

set_option maxHeartbeats 400000 in
theorem lowest_any (a b : Int) (w : World) (ha : 0 ≤ a) (ha' : a ≤ 4000000000000000000) (hb : 1 ≤ b) (hb' : b ≤ 4000000000000000000) :
    Calls Tryz.prog 48 #[.int .i64 a, .int .i64 b] w fun e w' => e = .returned (low a b) ∧ Below w.heap.size w w' := by
  go_enter Tryz.func48, Tryz.ntmps48
  go_wp2_with fail
  go_loopw [5, 6] (fun c r wr => ∃ x y : Int, c = .int .i64 x ∧ r = .int .i64 y ∧ 0 ≤ x ∧ 0 ≤ y ∧ x ≤ 4000000000000000000 ∧ y ≤ 4000000000000000000 ∧ Hid (Int.gcd x y = Int.gcd a b) ∧
      Hid (1 ≤ x + y) ∧ Below w.heap.size w wr ∧ wr.cell? ⟨w.heap.size, 0, none⟩ = some (.int .i64 0) ∧ wr.cell? ⟨w.heap.size, 1, none⟩ = some (.int .i64 0) ∧ wr.frozen? ⟨w.heap.size, 0, none⟩ = false ∧ wr.frozen? ⟨w.heap.size, 1, none⟩ = false ∧ w.heap.size < wr.heap.size) (fun _ r _ => (intOf r).toNat)
  case atStart => exact ⟨b, a, rfl, rfl, by omega, ha, hb', ha', Int.gcd_comm _ _, by show 1 ≤ b + a; omega, (Below.refl _ _).alloc (Nat.le_refl _) _, by go_simp, by go_simp, by go_simp, by go_simp, by simp⟩
  case round =>
    obtain ⟨x, y, rfl, rfl, hx, hy, hx', hy', HG, HS, hbl, c0, c1, f0, f1, hsz⟩ := hrel
    by_cases hz : y = 0
    · subst hz
      have h1 : 1 ≤ x := by have := HS.out; omega
      have hg : (Int.gcd a b : Int) = x := by
        have := HG.out
        rw [Int.gcd_zero_right] at this
        omega
      have HGG := Lib.hid hg
      clear hg
      go_wp2_with fail
      go_region
      go_wp2_with fail
      refine bodyPost_ret (v := .agg #[.int .i64 (a / x), .int .i64 (b / x)]) (by unfold results; simp only [Tryz.results48]; go_simp) rfl ⟨by rw [low, HGG.out], ?_⟩
      exact ((hbl.setCell (Nat.le_refl _) _).setCell (Nat.le_refl _) _).drew
    · have h1 : 1 ≤ y := by omega
      have m1 := Int.emod_nonneg x (show y ≠ 0 by omega)
      have m2 := Int.emod_lt_of_pos x (show 0 < y by omega)
      go_wp2_with fail
      go_quiet (fail)
      go_wp2_with fail
      go_roundw
      case rel => exact ⟨y, x % y, rfl, rfl, hy, m1, hy', by omega, (gcd_step x y).trans HG.out, by show 1 ≤ y + x % y; omega, hbl.drawN _, by go_simp, by go_simp, by go_simp, by go_simp, by simpa using hsz⟩
      case measure => simp [intOf]; omega

end Go.Proofs.YtmjonmoagpkdiabGreatDoor
namespace Go.Proofs.YtmjonmoagpkdiabGreatDoor
open Go.RowKit

def smallB (b : Int) : Bool := decide (97 ≤ b) && decide (b ≤ 122)
def digitB (b : Int) : Bool := decide (48 ≤ b) && decide (b ≤ 57)
def keyByte (b : Int) : Bool := smallB b || digitB b || !(b != 45) || !(b != 95)
/-- A key. -/
def keyL : List UInt8 → Bool
  | [] => false
  | b :: l => decide (l.length + 1 ≤ 40) && smallB b.toNat && (b :: l).all fun x => keyByte x.toNat
def keyB (s : ByteArray) : Bool := keyL s.data.toList

set_option maxHeartbeats 400000 in
theorem small_any (n : Int) (w : World) : Calls Tryz.prog 53 #[.int .u8 n] w fun e w' => e = .returned (.bool (smallB n)) ∧ w = w' := by
  by_cases h : 97 ≤ n <;> by_cases h2 : n ≤ 122
  all_goals
    go_enter Tryz.func53, Tryz.ntmps53
    go_wp2
    go_ret
    exact ⟨by simp [smallB, h, h2], rfl⟩
set_option maxHeartbeats 400000 in
theorem digit_any (n : Int) (w : World) : Calls Tryz.prog 54 #[.int .u8 n] w fun e w' => e = .returned (.bool (digitB n)) ∧ w = w' := by
  by_cases h : 48 ≤ n <;> by_cases h2 : n ≤ 57
  all_goals
    go_enter Tryz.func54, Tryz.ntmps54
    go_wp2
    go_ret
    exact ⟨by simp [digitB, h, h2], rfl⟩

theorem keyB_empty (s : ByteArray) (h : s.size = 0) : keyB s = false := by
  unfold keyB
  rw [show s.data.toList = [] by have : s.data.toList.length = 0 := by simpa using h
                                 exact List.length_eq_zero_iff.mp this]
  rfl
theorem keyB_some (s : ByteArray) (h : 0 < s.size) : keyB s = (decide (s.size ≤ 40) && smallB ((s[0]'h).toNat : Int) && s.data.toList.all fun x => keyByte x.toNat) := by
  have e : s.data.toList = s[0] :: s.data.toList.tail := by
    obtain ⟨⟨l⟩⟩ := s
    cases l with
    | nil => simp [ByteArray.size] at h
    | cons a l => rfl
  have hl : s.data.toList.length = s.size := by simp
  unfold keyB
  rw [e] at hl ⊢
  simp only [keyL]
  rw [show s.data.toList.tail.length + 1 = s.size by simpa using hl]
theorem keyB_all (s : ByteArray) : (s.data.toList.all fun x => keyByte x.toNat) = true ↔ ∀ i (h : i < s.size), keyByte ((s[i]'h).toNat : Int) = true := by
  rw [List.all_eq_true]
  constructor
  · intro h i hi
    exact h _ (by obtain ⟨d⟩ := s; show d[i]'hi ∈ d.toList; simp)
  · intro h x hx
    obtain ⟨j, hj, rfl⟩ := List.getElem_of_mem hx
    exact h j (by simpa using hj)

set_option maxHeartbeats 1000000 in
theorem key_any (s : ByteArray) (w : World) : Calls Tryz.prog 29 #[.string s] w fun e w' => e = .returned (.bool (keyB s)) ∧ w = w' := by
  by_cases h0 : s.size = 0
  · have HK := Lib.hid (keyB_empty s h0)
    go_enter Tryz.func29, Tryz.ntmps29
    go_wp2_with fail
    go_ret
    exact ⟨ret_bool HK.out.symm, rfl⟩
  have hp : 0 < s.size := by omega
  have HK := Lib.hid (keyB_some s hp)
  by_cases h40 : s.size ≤ 40
  rotate_left
  · have HB : Hid (keyB s = false) := HK.out.trans (by simp [h40])
    go_enter Tryz.func29, Tryz.ntmps29
    go_wp2_with fail
    go_ret
    exact ⟨ret_bool HB.out.symm, rfl⟩
  obtain ⟨b0, hb0⟩ : ∃ b : Int, ((s[0]'hp).toNat : Int) = b := ⟨_, rfl⟩
  have e1 : ((s.size : Int) == 0) = false := beq_eq_false_iff_ne.mpr (by omega)
  have e2 : decide (40 < (s.size : Int)) = false := decide_eq_false (by omega)
  cases hsm : smallB b0
  · have HB : Hid (keyB s = false) := HK.out.trans (by simp [hb0, hsm])
    go_enter Tryz.func29, Tryz.ntmps29
    go_wp2_with fail
    refine (small_any _ _).mono ?_
    rintro e w' ⟨rfl, rfl⟩
    go_wp2_with fail
    go_ret
    exact ⟨ret_bool HB.out.symm, rfl⟩
  have HB : Hid (keyB s = s.data.toList.all fun x => keyByte x.toNat) := HK.out.trans (by simp [h40, hb0, hsm])
  clear HK
  go_enter Tryz.func29, Tryz.ntmps29
  go_wp2_with fail
  refine (small_any _ _).mono ?_
  rintro e w' ⟨rfl, rfl⟩
  go_wp2_with fail
  clear hsm hb0 e1 e2
  go_loopw [20] (fun kk wr => ∃ k : Nat, k ≤ s.size ∧ kk = .int .i64 k ∧ w = wr ∧ Hid (∀ j (h : j < s.size), j < k → keyByte ((s[j]'h).toNat : Int) = true)) (fun kk _ => s.size - (intOf kk).toNat)
  case atStart => exact ⟨0, by omega, rfl, rfl, fun j _ h => by omega⟩
  case round =>
    obtain ⟨k, hk, rfl, rfl, HO⟩ := hrel
    by_cases hlt : k < s.size
    · obtain ⟨b, hb⟩ : ∃ b : Int, ((s[k]'hlt).toNat : Int) = b := ⟨_, rfl⟩
      have HBB := Lib.hid hb
      cases h1 : smallB b <;> cases h2 : digitB b <;> cases h3 : (b != 45) <;> cases h4 : (b != 95)
      case false.false.true.true =>
        have HBAD : Hid (keyB s = false) := by
          refine HB.out.trans ?_
          rw [Bool.eq_false_iff]
          intro hc
          have := (keyB_all s).mp hc k hlt
          rw [HBB.out] at this
          unfold keyByte at this
          rw [h1, h2, h3, h4] at this
          cases this
        go_wp2_with fail
        repeat (refine (small_any _ _).mono ?_; rintro e w' ⟨rfl, rfl⟩; go_wp2_with fail)
        repeat (refine (digit_any _ _).mono ?_; rintro e w' ⟨rfl, rfl⟩; go_wp2_with fail)
        go_ret
        exact ⟨ret_bool HBAD.out.symm, rfl⟩
      all_goals
        have HGOOD : Hid (keyByte b = true) := by show keyByte b = true; unfold keyByte; rw [h1, h2, h3, h4]; rfl
        go_wp2_with fail
        repeat (refine (small_any _ _).mono ?_; rintro e w' ⟨rfl, rfl⟩; go_wp2_with fail)
        repeat (refine (digit_any _ _).mono ?_; rintro e w' ⟨rfl, rfl⟩; go_wp2_with fail)
        go_roundw
        case rel => exact ⟨k + 1, by omega, by go_num, by trivial, fun j h hj => by
          by_cases e : j = k
          · subst e; rw [HBB.out]; exact HGOOD.out
          · exact HO.out j h (by omega)⟩
        case measure => simp [intOf]; omega
    · have HALL : Hid (keyB s = true) := by
        refine HB.out.trans ((keyB_all s).mpr fun i hi => HO.out i hi (by omega))
      go_wp2_with fail
      go_ret
      exact ⟨ret_bool HALL.out.symm, rfl⟩
end Go.Proofs.YtmjonmoagpkdiabGreatDoor
namespace Go.Proofs.YtmjonmoagpkdiabGreatDoor
open Go.RowKit

/-- Points, as cells. -/
def flat (l : List (Int × Int)) : List Value := l.flatMap fun p => [.int .i64 p.1, .int .i64 p.2]
theorem flat_len (l : List (Int × Int)) : (flat l).length = l.length * 2 := by
  induction l with
  | nil => rfl
  | cons p l ih => simp only [flat, List.flatMap_cons, List.length_append] at ih ⊢; simp [ih]; omega
theorem flat_append (a b : List (Int × Int)) : flat (a ++ b) = flat a ++ flat b := List.flatMap_append
theorem flat_at (l : List (Int × Int)) : ∀ (k : Nat) (h : k < l.length), (flat l)[k * 2]? = some (.int .i64 l[k].1) ∧ (flat l)[k * 2 + 1]? = some (.int .i64 l[k].2) := by
  induction l with
  | nil => intro k h; simp at h
  | cons p l ih =>
    intro k h
    cases k with
    | zero => simp [flat]
    | succ k =>
      have := ih k (by simpa using h)
      have e : flat (p :: l) = [.int .i64 p.1, .int .i64 p.2] ++ flat l := rfl
      rw [e, List.getElem?_append_right (by simp; omega), List.getElem?_append_right (by simp; omega)]
      simpa [show (k + 1) * 2 - 2 = k * 2 by omega, show (k + 1) * 2 + 1 - 2 = k * 2 + 1 by omega] using this
theorem flat_one (l : List (Int × Int)) : ∀ u ∈ flat l, u.oneCell' = true := by
  intro u hu
  simp only [flat, List.mem_flatMap] at hu
  obtain ⟨p, _, hp⟩ := hu
  simp at hp
  rcases hp with rfl | rfl <;> rfl

def ok (p : Int × Int) : Bool := crd p.1 && crd p.2
/-- The error of fiducials. -/
def fidErr (n0 n1 m0 m1 : Int × Int) (more : List (Int × Int)) : Int :=
  if ([n0, n1, m0, m1] ++ more).all ok then (if n0 = n1 ∨ m0 = m1 then 16 else 0) else 1

def two (p q : Int × Int) : Value := .agg #[.int .i64 p.1, .int .i64 p.2, .int .i64 q.1, .int .i64 q.2]

/-- A slice of points that comes in: none, or some. -/
def PtsAt (w : World) (A : Option Addr) (c : Nat) (l : List (Int × Int)) : Prop :=
  (A = none ∧ c = 0 ∧ l = []) ∨ ∃ ad, A = some ad ∧ ad.block < w.heap.size ∧ ∀ j u, (flat l)[j]? = some u → w.cell? (ad.add j) = some u

/-- The points that are looked at lie in a row. -/
def LieAt (w : World) (g : Nat) (l : List (Int × Int)) : Prop := g < w.heap.size ∧ ∀ j u, (flat l)[j]? = some u → w.cell? ⟨g, j, none⟩ = some u
theorem LieAt.below {w w' : World} {g : Nat} {l : List (Int × Int)} (h : LieAt w g l) (hb : Below w.heap.size w w') : LieAt w' g l :=
  ⟨Nat.lt_of_lt_of_le h.1 hb.size, fun j u hu => (hb.cell (p := ⟨g, j, none⟩) h.1).trans (h.2 j u hu)⟩
theorem LieAt.at_ {w : World} {g : Nat} {l : List (Int × Int)} (h : LieAt w g l) {k : Nat} (hk : k < l.length) :
    w.cell? ⟨g, k * 2, none⟩ = some (.int .i64 l[k].1) ∧ w.cell? ⟨g, k * 2 + 1, none⟩ = some (.int .i64 l[k].2) :=
  ⟨h.2 _ _ (flat_at l k hk).1, h.2 _ _ (flat_at l k hk).2⟩

theorem blk_new (W : World) (o : Obj) {g : Nat} (hg : W.heap.size = g) : (W.alloc o).heap[g]? = some o := by subst hg; exact heap_alloc_new W o
theorem all_bad (al : List (Int × Int)) (k : Nat) (hk : k < al.length) (h : ok al[k] = false) : al.all ok = false := by
  rw [List.all_eq_false]
  exact ⟨al[k], List.getElem_mem hk, by rw [h]; simp⟩
theorem blk4 {w : World} {g : Nat} {a b c d : Value} {t : TypeId} (h : w.heap[g]? = some (.cells #[a, b, c, d] t (0, 0))) :
    w.cell? ⟨g, 0, none⟩ = some a ∧ w.cell? ⟨g, 1, none⟩ = some b ∧ w.cell? ⟨g, 2, none⟩ = some c ∧ w.cell? ⟨g, 3, none⟩ = some d :=
  ⟨by rw [cell_of_blk h]; rfl, by rw [cell_of_blk h]; rfl, by rw [cell_of_blk h]; rfl, by rw [cell_of_blk h]; rfl⟩

theorem incrd_any (n : Int) (w : World) : Calls Tryz.prog 28 #[.int .i64 n, .int .i64 (-500000), .int .i64 500000] w fun e w' => e = .returned (.bool (crd n)) ∧ w = w' := in_any n _ _ w

end Go.Proofs.YtmjonmoagpkdiabGreatDoor
namespace Go.Proofs.YtmjonmoagpkdiabGreatDoor
open Go.RowKit

structure Pl where
  name : ByteArray
  part : ByteArray
  x : Int
  y : Int
  q : Int

def Pl.cells (p : Pl) : List Value := [.string p.name, .string p.part, .int .i64 p.x, .int .i64 p.y, .int .i64 p.q]
def flatP (l : List Pl) : List Value := l.flatMap Pl.cells
theorem flatP_len (l : List Pl) : (flatP l).length = l.length * 5 := by
  induction l with
  | nil => rfl
  | cons p l ih => simp only [flatP, List.flatMap_cons, List.length_append] at ih ⊢; simp [ih, Pl.cells]; omega
theorem flatP_append (a b : List Pl) : flatP (a ++ b) = flatP a ++ flatP b := List.flatMap_append
theorem flatP_at (l : List Pl) : ∀ (k : Nat) (h : k < l.length) (j : Nat), j < 5 → (flatP l)[k * 5 + j]? = l[k].cells[j]? := by
  induction l with
  | nil => intro k h; simp at h
  | cons p l ih =>
    intro k h j hj
    have e : flatP (p :: l) = p.cells ++ flatP l := rfl
    have hc : p.cells.length = 5 := rfl
    cases k with
    | zero => rw [e, List.getElem?_append_left (by omega)]; simp
    | succ k =>
      have := ih k (by simpa using h) j hj
      rw [e, List.getElem?_append_right (by omega), show (k + 1) * 5 + j - p.cells.length = k * 5 + j by omega, this]
      rfl
theorem flatP_one (l : List Pl) : ∀ u ∈ flatP l, u.oneCell' = true := by
  intro u hu
  simp only [flatP, List.mem_flatMap] at hu
  obtain ⟨p, _, hp⟩ := hu
  simp [Pl.cells] at hp
  rcases hp with rfl | rfl | rfl | rfl | rfl <;> rfl

/-- A row of cells at a block's beginning. -/
def LineAt (w : World) (g : Nat) (l : List Value) : Prop := g < w.heap.size ∧ ∀ j u, l[j]? = some u → w.cell? ⟨g, j, none⟩ = some u
theorem LineAt.below {w w' : World} {g : Nat} {l : List Value} (h : LineAt w g l) (hb : Below w.heap.size w w') : LineAt w' g l :=
  ⟨Nat.lt_of_lt_of_le h.1 hb.size, fun j u hu => (hb.cell (p := ⟨g, j, none⟩) h.1).trans (h.2 j u hu)⟩
/-- Placements that come in. -/
def PlAt (w : World) (A : Option Addr) (l : List Pl) : Prop := l = [] ∨ ∃ g : Nat, A = some ⟨g, 0, none⟩ ∧ LineAt w g (flatP l)
theorem PlAt.below {w w' : World} {A : Option Addr} {l : List Pl} (h : PlAt w A l) (hb : Below w.heap.size w w') : PlAt w' A l := by
  rcases h with h | ⟨g, e, h⟩
  · exact .inl h
  · exact .inr ⟨g, e, h.below hb⟩
theorem row_pl {w : World} {g : Nat} {l : List Pl} (h : LineAt w g (flatP l)) {k : Nat} (hk : k < l.length) :
    w.cell? ⟨g, k * 5, none⟩ = some (.string l[k].name) ∧ w.cell? ⟨g, k * 5 + 1, none⟩ = some (.string l[k].part) ∧ w.cell? ⟨g, k * 5 + 2, none⟩ = some (.int .i64 l[k].x) ∧
    w.cell? ⟨g, k * 5 + 3, none⟩ = some (.int .i64 l[k].y) ∧ w.cell? ⟨g, k * 5 + 4, none⟩ = some (.int .i64 l[k].q) :=
  ⟨h.2 _ _ (flatP_at l k hk 0 (by omega)), h.2 _ _ (flatP_at l k hk 1 (by omega)), h.2 _ _ (flatP_at l k hk 2 (by omega)), h.2 _ _ (flatP_at l k hk 3 (by omega)), h.2 _ _ (flatP_at l k hk 4 (by omega))⟩

def inR (n lo hi : Int) : Bool := decide (lo ≤ n) && decide (n ≤ hi)
theorem withinR (n lo hi : Int) (w : World) : Calls Tryz.prog 31 #[.int .i64 n, .int .i64 lo, .int .i64 hi] w fun e w' => e = .returned (.bool (inR n lo hi)) ∧ w = w' := within_any n lo hi w
theorem refinR (n lo hi : Int) (w : World) : Calls Tryz.prog 28 #[.int .i64 n, .int .i64 lo, .int .i64 hi] w fun e w' => e = .returned (.bool (inR n lo hi)) ∧ w = w' := in_any n lo hi w

set_option maxHeartbeats 400000 in
theorem vsize_any (a b : Int) (w : World) : Calls Tryz.prog 30 #[.int .i64 a, .int .i64 b] w fun e w' => e = .returned (.bool (inR a 1 500000 && inR b 1 500000)) ∧ w = w' := by
  cases h1 : inR a 1 500000 <;> cases h2 : inR b 1 500000
  all_goals
    go_enter Tryz.func30, Tryz.ntmps30
    go_wp2_with fail
    repeat (refine (withinR _ _ _ _).mono ?_; rintro e w' ⟨rfl, rfl⟩; go_wp2_with fail)
    go_ret
    exact ⟨rfl, rfl⟩
set_option maxHeartbeats 400000 in
theorem vquarter_any (a : Int) (w : World) : Calls Tryz.prog 32 #[.int .i64 a] w fun e w' => e = .returned (.bool (inR a 0 3)) ∧ w = w' := by
  go_enter Tryz.func32, Tryz.ntmps32
  go_wp2_with fail
  refine (withinR _ _ _ _).mono ?_
  rintro e w' ⟨rfl, rfl⟩
  go_wp2_with fail
  go_ret
  exact ⟨rfl, rfl⟩

def leS (a b : ByteArray) : Bool := Op.bytesLess a.toList b.toList || (a.toList == b.toList)
def plOk (W H : Int) (p : Pl) : Bool := inR p.x 0 W && inR p.y 0 H && inR p.q 0 3
/-- The error of placements. -/
def plErr (W H : Int) : List Pl → Option ByteArray → Int
  | [], _ => 0
  | p :: l, prev => if (keyB p.name && keyB p.part) = false then 5 else if prev.any (leS p.name) = true then 7 else if plOk W H p = false then 1 else plErr W H l (some p.name)
/-- The error of a product. -/
def prodErr (key : ByteArray) (W H : Int) (l : List Pl) : Int :=
  if keyB key = false then 5 else if (inR W 1 500000 && inR H 1 500000) = false then 1 else if 1000 < l.length then 2 else plErr W H l none
def prevOf (l : List Pl) : Nat → Option ByteArray
  | 0 => none
  | k + 1 => l[k]?.map Pl.name

theorem drop_at {α : Type} (l : List α) {k : Nat} (h : k < l.length) : l.drop k = l[k] :: l.drop (k + 1) := List.drop_eq_getElem_cons h

abbrev prod (key : ByteArray) (W H : Int) (A : Option Addr) (n c : Nat) : Value := .agg #[.string key, .int .i64 W, .int .i64 H, .slice A n c]


set_option maxHeartbeats 2000000 in
theorem checkProduct_any (key : ByteArray) (W H : Int) (A : Option Addr) (c : Nat) (l : List Pl) (hl : l.length ≤ 4611686018427387904) (w : World) (hA : PlAt w A l) :
    Calls Tryz.prog 12 #[prod key W H A l.length c] w fun e w' => e = .returned (.int .i64 (prodErr key W H l)) ∧ Below w.heap.size w w' := by
  have HE : Hid (prodErr key W H l = if keyB key = false then 5 else if (inR W 1 500000 && inR H 1 500000) = false then 1 else if 1000 < l.length then 2 else plErr W H l none) := rfl
  cases hk : keyB key
  · go_enter Tryz.func12, Tryz.ntmps12
    go_wp2_with fail
    refine (key_any _ _).mono ?_
    rintro e w' ⟨rfl, rfl⟩
    go_wp2_with fail
    go_ret
    exact ⟨ret_int (by rw [HE.out, if_pos hk]), (Below.refl _ _).alloc (Nat.le_refl _) _⟩
  cases hs : (inR W 1 500000 && inR H 1 500000)
  · have HS := Lib.hid hs
    go_enter Tryz.func12, Tryz.ntmps12
    go_wp2_with fail
    refine (key_any _ _).mono ?_
    rintro e w' ⟨rfl, rfl⟩
    go_wp2_with fail
    refine (vsize_any _ _ _).mono ?_
    rw [HS.out]
    clear hs
    rintro e w' ⟨rfl, rfl⟩
    go_wp2_with fail
    go_ret
    exact ⟨ret_int (by rw [HE.out, if_neg (by rw [hk]; simp), if_pos HS.out]), (Below.refl _ _).alloc (Nat.le_refl _) _⟩
  have HS := Lib.hid hs
  clear hs
  by_cases hn : 1000 < l.length
  · go_enter Tryz.func12, Tryz.ntmps12
    go_wp2_with fail
    refine (key_any _ _).mono ?_
    rintro e w' ⟨rfl, rfl⟩
    go_wp2_with fail
    refine (vsize_any _ _ _).mono ?_
    rw [HS.out]
    rintro e w' ⟨rfl, rfl⟩
    go_wp2_with fail
    go_ret
    exact ⟨ret_int (by rw [HE.out, if_neg (by rw [hk]; simp), if_neg (by rw [HS.out]; simp), if_pos hn]), (Below.refl _ _).alloc (Nat.le_refl _) _⟩
  have HE2 : Hid (prodErr key W H l = plErr W H l none) := by
    refine HE.out.trans ?_
    rw [if_neg (by rw [hk]; simp), if_neg (by rw [HS.out]; simp), if_neg hn]
  clear HE
  go_enter Tryz.func12, Tryz.ntmps12
  go_wp2_with fail
  refine (key_any _ _).mono ?_
  rintro e w' ⟨rfl, rfl⟩
  go_wp2_with fail
  refine (vsize_any _ _ _).mono ?_
  rw [HS.out]
  rintro e w' ⟨rfl, rfl⟩
  go_wp2_with fail
  clear hk
  go_loopw [22] (fun kk wr => ∃ k : Nat, k ≤ l.length ∧ kk = .int .i64 k ∧ Below (w.alloc (.cells #[.string key, .int .i64 W, .int .i64 H, .slice A l.length c] 28)).heap.size (w.alloc (.cells #[.string key, .int .i64 W, .int .i64 H, .slice A l.length c] 28)) wr ∧ Hid (plErr W H l none = plErr W H (l.drop k) (prevOf l k))) (fun kk _ => l.length - (intOf kk).toNat)
  case atStart => exact ⟨0, by omega, rfl, Below.refl _ _, rfl⟩
  case round =>
    obtain ⟨k, hk, rfl, hb, HO⟩ := hrel
    by_cases hlt : k < l.length
    · obtain ⟨p, hp⟩ : ∃ p, l[k] = p := ⟨_, rfl⟩
      have hD : plErr W H l none = plErr W H (p :: l.drop (k + 1)) (prevOf l k) := HO.out.trans (by rw [drop_at l hlt, hp])
      have hN : prevOf l (k + 1) = some p.name := by simp [prevOf, hlt, hp]
      rcases hA with rfl | ⟨g, rfl, hrow⟩
      · simp at hlt
      obtain ⟨p0, p1, p2, p3, p4⟩ := row_pl (hrow.below ((Below.refl w.heap.size w).alloc (Nat.le_refl _) _ |>.then_below hb)) hlt
      obtain ⟨b0, b1, b2, b3⟩ := blk4 (blk_below hb (blk_new w _ rfl))
      rw [hp] at p0 p1 p2 p3 p4
      obtain ⟨nm, pt, x, y, q⟩ := p
      dsimp only at p0 p1 p2 p3 p4 hN
      have hg1 : g < wr.heap.size := Nat.lt_of_lt_of_le (Nat.lt_trans hrow.1 (by simp)) hb.size
      have hw1 : w.heap.size < wr.heap.size := Nat.lt_of_lt_of_le (by simp) hb.size
      have HD := Lib.hid hD
      have HN := Lib.hid hN
      have HP := Lib.hid hp
      have HROW := Lib.hid hrow
      have HBE : Hid (Below w.heap.size w wr) := ((Below.refl w.heap.size w).alloc (Nat.le_refl _) _).then_below hb
      clear hD hN hp hrow
      cases hk1 : keyB nm
      · have HF : Hid (prodErr key W H l = 5) := by
          refine HE2.out.trans (HD.out.trans ?_)
          rw [plErr, if_pos (by simp [hk1])]
        go_wp2_with fail
        (refine (key_any _ _).mono ?_; rintro e w' ⟨rfl, rfl⟩; go_wp2_with fail)
        go_ret
        exact ⟨ret_int HF.out.symm, HBE.out.alloc HBE.out.size _⟩
      cases hk2 : keyB pt
      · have HF : Hid (prodErr key W H l = 5) := by
          refine HE2.out.trans (HD.out.trans ?_)
          rw [plErr, if_pos (by simp [hk1, hk2])]
        go_wp2_with fail
        (refine (key_any _ _).mono ?_; rintro e w' ⟨rfl, rfl⟩; go_wp2_with fail)
        (refine (key_any _ _).mono ?_; rintro e w' ⟨rfl, rfl⟩; go_wp2_with fail)
        go_ret
        exact ⟨ret_int HF.out.symm, HBE.out.alloc HBE.out.size _⟩
      have HK : Hid ((keyB nm && keyB pt) = true) := by show _ = true; rw [hk1, hk2]; rfl
      by_cases hk0 : k = 0
      · have HD1 : Hid (prodErr key W H l = if plOk W H ⟨nm, pt, x, y, q⟩ = false then 1 else plErr W H (l.drop (k + 1)) (some nm)) := by
          refine HE2.out.trans (HD.out.trans ?_)
          rw [plErr, if_neg (by rw [HK.out]; simp), if_neg (by rw [hk0]; simp [prevOf])]
        have hd0 : decide (0 < k) = false := decide_eq_false (by omega)
        clear hk0
        go_wp2_with fail
        (refine (key_any _ _).mono ?_; rintro e w' ⟨rfl, rfl⟩; go_wp2_with fail)
        (refine (key_any _ _).mono ?_; rintro e w' ⟨rfl, rfl⟩; go_wp2_with fail)
        clear hk1 hk2
        go_quiet (fail)
        clear hd0
        cases hx : inR x 0 W
        · have HF : Hid (prodErr key W H l = 1) := HD1.out.trans (by rw [if_pos (by simp [plOk, hx])])
          go_wp2_with fail
          (refine (withinR _ _ _ _).mono ?_; rintro e w' ⟨rfl, rfl⟩; go_wp2_with fail)
          go_ret
          exact ⟨ret_int HF.out.symm, (HBE.out.alloc HBE.out.size _).drawN _⟩
        cases hy : inR y 0 H
        · have HF : Hid (prodErr key W H l = 1) := HD1.out.trans (by rw [if_pos (by simp [plOk, hx, hy])])
          go_wp2_with fail
          (refine (withinR _ _ _ _).mono ?_; rintro e w' ⟨rfl, rfl⟩; go_wp2_with fail)
          (refine (withinR _ _ _ _).mono ?_; rintro e w' ⟨rfl, rfl⟩; go_wp2_with fail)
          go_ret
          exact ⟨ret_int HF.out.symm, (HBE.out.alloc HBE.out.size _).drawN _⟩
        cases hq : inR q 0 3
        · have HF : Hid (prodErr key W H l = 1) := HD1.out.trans (by rw [if_pos (by simp [plOk, hx, hy, hq])])
          go_wp2_with fail
          (refine (withinR _ _ _ _).mono ?_; rintro e w' ⟨rfl, rfl⟩; go_wp2_with fail)
          (refine (withinR _ _ _ _).mono ?_; rintro e w' ⟨rfl, rfl⟩; go_wp2_with fail)
          (refine (vquarter_any _ _).mono ?_; rintro e w' ⟨rfl, rfl⟩; go_wp2_with fail)
          go_ret
          exact ⟨ret_int HF.out.symm, (HBE.out.alloc HBE.out.size _).drawN _⟩
        have HF : Hid (plErr W H l none = plErr W H (l.drop (k + 1)) (prevOf l (k + 1))) := HE2.out.symm.trans (HD1.out.trans (by rw [if_neg (by simp [plOk, hx, hy, hq]), HN.out]))
        go_wp2_with fail
        (refine (withinR _ _ _ _).mono ?_; rintro e w' ⟨rfl, rfl⟩; go_wp2_with fail)
        (refine (withinR _ _ _ _).mono ?_; rintro e w' ⟨rfl, rfl⟩; go_wp2_with fail)
        (refine (vquarter_any _ _).mono ?_; rintro e w' ⟨rfl, rfl⟩; go_wp2_with fail)
        go_roundw
        case rel => exact ⟨k + 1, by omega, by go_num, (hb.alloc hb.size _).drawN _, HF.out⟩
        case measure => simp [intOf]; omega
      · obtain ⟨pm, hpm⟩ : ∃ p, l[k - 1] = p := ⟨_, rfl⟩
        have hwi : IntKind.i64.wrap ((k : Int) - 1) = (k : Int) - 1 := IntWalk.i64_in ((k : Int) - 1) (by omega)
        obtain ⟨m0, _⟩ := row_pl ((HROW.out).below HBE.out) (show k - 1 < l.length by omega)
        have hPV : prevOf l k = some pm.name := by
          obtain ⟨m, rfl⟩ : ∃ m, k = m + 1 := ⟨k - 1, by omega⟩
          simp only [Nat.add_sub_cancel] at hpm
          simp [prevOf, show m < l.length by omega, hpm]
        have HPV := Lib.hid hPV
        rw [hpm] at m0
        have hd0 : 0 < k := by omega
        obtain ⟨pn, hpn⟩ : ∃ n, pm.name = n := ⟨_, rfl⟩
        rw [hpn] at m0
        have HPN := Lib.hid hpn
        clear hpm hPV hpn
        go_wp2_with fail
        (refine (key_any _ _).mono ?_; rintro e w' ⟨rfl, rfl⟩; go_wp2_with fail)
        (refine (key_any _ _).mono ?_; rintro e w' ⟨rfl, rfl⟩; go_wp2_with fail)
        clear hk1 hk2
        have HLES : leS nm pn = (Op.bytesLess nm.toList pn.toList || (nm.toList == pn.toList)) := rfl
        cases ho : leS nm pn
        · have HD1 : Hid (prodErr key W H l = if plOk W H ⟨nm, pt, x, y, q⟩ = false then 1 else plErr W H (l.drop (k + 1)) (some nm)) := by
            refine HE2.out.trans (HD.out.trans ?_)
            rw [plErr, if_neg (by rw [HK.out]; simp), if_neg (by rw [HPV.out]; simp only [Option.any_some]; rw [HPN.out, ho]; simp)]
          rw [ho] at HLES
          obtain ⟨hl1, hl2⟩ := Bool.or_eq_false_iff.mp HLES.symm
          clear ho HLES
          go_quiet (fail)
          clear hd0 hl1 hl2
          cases hx : inR x 0 W
          · have HF : Hid (prodErr key W H l = 1) := HD1.out.trans (by rw [if_pos (by simp [plOk, hx])])
            go_wp2_with fail
            (refine (withinR _ _ _ _).mono ?_; rintro e w' ⟨rfl, rfl⟩; go_wp2_with fail)
            go_ret
            exact ⟨ret_int HF.out.symm, (HBE.out.alloc HBE.out.size _).drawN _⟩
          cases hy : inR y 0 H
          · have HF : Hid (prodErr key W H l = 1) := HD1.out.trans (by rw [if_pos (by simp [plOk, hx, hy])])
            go_wp2_with fail
            (refine (withinR _ _ _ _).mono ?_; rintro e w' ⟨rfl, rfl⟩; go_wp2_with fail)
            (refine (withinR _ _ _ _).mono ?_; rintro e w' ⟨rfl, rfl⟩; go_wp2_with fail)
            go_ret
            exact ⟨ret_int HF.out.symm, (HBE.out.alloc HBE.out.size _).drawN _⟩
          cases hq : inR q 0 3
          · have HF : Hid (prodErr key W H l = 1) := HD1.out.trans (by rw [if_pos (by simp [plOk, hx, hy, hq])])
            go_wp2_with fail
            (refine (withinR _ _ _ _).mono ?_; rintro e w' ⟨rfl, rfl⟩; go_wp2_with fail)
            (refine (withinR _ _ _ _).mono ?_; rintro e w' ⟨rfl, rfl⟩; go_wp2_with fail)
            (refine (vquarter_any _ _).mono ?_; rintro e w' ⟨rfl, rfl⟩; go_wp2_with fail)
            go_ret
            exact ⟨ret_int HF.out.symm, (HBE.out.alloc HBE.out.size _).drawN _⟩
          have HF : Hid (plErr W H l none = plErr W H (l.drop (k + 1)) (prevOf l (k + 1))) := HE2.out.symm.trans (HD1.out.trans (by rw [if_neg (by simp [plOk, hx, hy, hq]), HN.out]))
          go_wp2_with fail
          (refine (withinR _ _ _ _).mono ?_; rintro e w' ⟨rfl, rfl⟩; go_wp2_with fail)
          (refine (withinR _ _ _ _).mono ?_; rintro e w' ⟨rfl, rfl⟩; go_wp2_with fail)
          (refine (vquarter_any _ _).mono ?_; rintro e w' ⟨rfl, rfl⟩; go_wp2_with fail)
          go_roundw
          case rel => exact ⟨k + 1, by omega, by go_num, (hb.alloc hb.size _).drawN _, HF.out⟩
          case measure => simp [intOf]; omega
        · have HF : Hid (prodErr key W H l = 7) := by
            refine HE2.out.trans (HD.out.trans ?_)
            rw [plErr, if_neg (by rw [HK.out]; simp), if_pos (by rw [HPV.out]; simp only [Option.any_some]; rw [HPN.out, ho])]
          rw [ho] at HLES
          have hl1 := HLES.symm
          clear ho HLES
          go_quiet (fail)
          go_wp2_with fail
          go_ret
          exact ⟨ret_int HF.out.symm, (HBE.out.alloc HBE.out.size _).drawN _⟩
    · have HALL : Hid (prodErr key W H l = 0) := by
        refine HE2.out.trans (HO.out.trans ?_)
        rw [List.drop_eq_nil_of_le (by omega)]
        rfl
      go_wp2_with fail
      go_ret
      exact ⟨ret_int HALL.out.symm, ((Below.refl _ _).alloc (Nat.le_refl _) _).then_below hb⟩
end Go.Proofs.YtmjonmoagpkdiabGreatDoor
namespace Go.Proofs.YtmjonmoagpkdiabGreatDoor
open Go.RowKit

section
variable {α : Type} (enc : α → List Value) (k : Nat)
theorem flatK_len (hk : ∀ x, (enc x).length = k) (l : List α) : (l.flatMap enc).length = l.length * k := by
  induction l with
  | nil => simp
  | cons p l ih => rw [List.flatMap_cons, List.length_append, ih, hk, List.length_cons, Nat.succ_mul]; omega
theorem flatK_at (hk : ∀ x, (enc x).length = k) (l : List α) : ∀ (i : Nat) (h : i < l.length) (j : Nat), j < k → (l.flatMap enc)[i * k + j]? = (enc l[i])[j]? := by
  induction l with
  | nil => intro i h; simp at h
  | cons p l ih =>
    intro i h j hj
    rw [List.flatMap_cons]
    cases i with
    | zero => rw [List.getElem?_append_left (by rw [hk]; omega)]; simp
    | succ i =>
      have := ih i (by simpa using h) j hj
      rw [List.getElem?_append_right (by rw [hk, Nat.succ_mul]; omega), hk, show (i + 1) * k + j - k = i * k + j by rw [Nat.succ_mul]; omega, this]
      rfl
end

/-- A cell of an own row is set. -/
theorem own_set {w : World} {base : Nat} {e : TypeId} {size n g cap : Nat} {xs : List Value} (h : w.ownsRow base e size (.slice (some ⟨g, 0, none⟩) n cap) n xs) (j : Nat) (u : Value) :
    (w.setCell ⟨g, j, none⟩ u).ownsRow base e size (.slice (some ⟨g, 0, none⟩) n cap) n (xs.set j u) := by
  obtain ⟨hl, ⟨h0, _⟩ | ⟨g', cap', cur, hv, hb, hc, h1, h2, h3, h4⟩⟩ := h
  · simp at h0
  · simp only [Value.slice.injEq, Option.some.injEq, Addr.mk.injEq, and_true, true_and] at hv
    obtain ⟨rfl, rfl⟩ := hv
    exact ⟨by simpa using hl, .inr ⟨g, cap, _, rfl, hb, blk_set hc u, h1, h2, by simpa using h3, by rw [Array.toList_setIfInBounds, List.take_set, h4]⟩⟩
theorem own_frozen {w : World} {base : Nat} {e : TypeId} {size n g cap : Nat} {xs : List Value} (h : w.ownsRow base e size (.slice (some ⟨g, 0, none⟩) n cap) n xs) (j : Nat) : w.frozen? ⟨g, j, none⟩ = false := by
  obtain ⟨hl, ⟨h0, _⟩ | ⟨g', cap', cur, hv, hb, hc, h1, h2, h3, h4⟩⟩ := h
  · simp at h0
  · simp only [Value.slice.injEq, Option.some.injEq, Addr.mk.injEq, and_true, true_and] at hv
    obtain ⟨rfl, rfl⟩ := hv
    exact frozen_of_blk hc _
theorem own_form {w : World} {base : Nat} {e : TypeId} {size n : Nat} {v : Value} {xs : List Value} (h : w.ownsRow base e size v n xs) : ∃ A c, v = .slice A n c ∧ (0 < n → ∃ g : Nat, A = some ⟨g, 0, none⟩ ∧ g < w.heap.size ∧ base ≤ g) := by
  rcases h.2 with ⟨rfl, rfl⟩ | ⟨g, cap, cur, rfl, hb, hc, _⟩
  · exact ⟨none, 0, rfl, fun h => by omega⟩
  · exact ⟨_, cap, rfl, fun _ => ⟨g, rfl, lt_of_blk hc, hb⟩⟩


theorem blk_cell0 {w : World} {g : Nat} {a : Value} {t : TypeId} (h : w.heap[g]? = some (.cells #[a] t (0, 0))) : w.cell? ⟨g, 0, none⟩ = some a := by rw [cell_of_blk h]; rfl

/-- The bytes of a string. -/
abbrev bt (s : ByteArray) : List UInt8 := s.data.toList
theorem bt_inj {a b : ByteArray} (h : bt a = bt b) : a = b := by
  obtain ⟨⟨a⟩⟩ := a; obtain ⟨⟨b⟩⟩ := b
  simpa [bt] using h
theorem leS_iff (a b : ByteArray) : leS a b = true ↔ ¬ bt b < bt a := by
  unfold leS
  rw [bytesLess_eq, Lib.toList_data, Lib.toList_data]
  simp only [Bool.or_eq_true, decide_eq_true_eq, beq_iff_eq]
  constructor
  · rintro (h | h)
    · exact fun h2 => absurd (List.lt_trans h h2) (List.lt_irrefl _)
    · rw [bt, bt, h]; exact List.lt_irrefl _
  · intro h
    rcases List.le_iff_lt_or_eq.mp (List.not_lt.mp h) with h | h
    · exact .inl h
    · exact .inr h
theorem leS_false (a b : ByteArray) : leS a b = false ↔ bt b < bt a := by
  rw [← Bool.not_eq_true, leS_iff, Classical.not_not]
theorem cmpB_lt : ∀ (a b : List UInt8), Lib.compareBytes a b < 0 ↔ a < b
  | [], [] => by simp [Lib.compareBytes]
  | [], _ :: _ => by simp [Lib.compareBytes]
  | _ :: _, [] => by simp [Lib.compareBytes]
  | a :: x, b :: y => by
    have ih := cmpB_lt x y
    unfold Lib.compareBytes
    rw [List.cons_lt_cons_iff]
    by_cases h1 : a < b
    · simp [h1]
    · by_cases h2 : b < a
      · have : a ≠ b := fun e => by subst e; exact h1 h2
        simp [h1, h2, this]
      · have e : a = b := UInt8.le_antisymm (UInt8.not_lt.mp h2) (UInt8.not_lt.mp h1)
        subst e
        simp [h1, ih]
theorem cmpB_eq : ∀ (a b : List UInt8), Lib.compareBytes a b = 0 ↔ a = b
  | [], [] => by simp [Lib.compareBytes]
  | [], _ :: _ => by simp [Lib.compareBytes]
  | _ :: _, [] => by simp [Lib.compareBytes]
  | a :: x, b :: y => by
    have ih := cmpB_eq x y
    unfold Lib.compareBytes
    by_cases h1 : a < b
    · have : a ≠ b := fun e => by subst e; exact UInt8.lt_irrefl _ h1
      simp [h1, this]
    · by_cases h2 : b < a
      · have : a ≠ b := fun e => by subst e; exact h1 h2
        simp [h1, h2, this]
      · have e : a = b := UInt8.le_antisymm (UInt8.not_lt.mp h2) (UInt8.not_lt.mp h1)
        subst e
        simp [h1, ih]
theorem cmpB_bd : ∀ (a b : List UInt8), -1 ≤ Lib.compareBytes a b ∧ Lib.compareBytes a b ≤ 1
  | [], [] => by simp [Lib.compareBytes]
  | [], _ :: _ => by simp [Lib.compareBytes]
  | _ :: _, [] => by simp [Lib.compareBytes]
  | a :: x, b :: y => by
    have ih := cmpB_bd x y
    unfold Lib.compareBytes
    split
    · omega
    · split
      · omega
      · exact ih

/-- Rising keys. -/
def Rising {α : Type} (key : α → ByteArray) (l : List α) : Prop := ∀ i j (_ : i < j) (hj : j < l.length), bt (key (l[i]'(by omega))) < bt (key (l[j]'hj))

structure Bo where
  part : ByteArray
  w : Int
  h : Int
def Bo.cells (b : Bo) : List Value := [.string b.part, .int .i64 b.w, .int .i64 b.h]
def flatB (l : List Bo) : List Value := l.flatMap Bo.cells
def BoAt (w : World) (A : Option Addr) (l : List Bo) : Prop := l = [] ∨ ∃ g : Nat, A = some ⟨g, 0, none⟩ ∧ LineAt w g (flatB l)
theorem BoAt.below {w w' : World} {A : Option Addr} {l : List Bo} (h : BoAt w A l) (hb : Below w.heap.size w w') : BoAt w' A l := by
  rcases h with h | ⟨g, e, h⟩
  · exact .inl h
  · exact .inr ⟨g, e, h.below hb⟩
theorem flatB_at (l : List Bo) (k : Nat) (h : k < l.length) (j : Nat) (hj : j < 3) : (flatB l)[k * 3 + j]? = l[k].cells[j]? := flatK_at Bo.cells 3 (fun _ => rfl) l k h j hj
theorem row_bo {w : World} {g : Nat} {l : List Bo} (h : LineAt w g (flatB l)) {k : Nat} (hk : k < l.length) :
    w.cell? ⟨g, k * 3, none⟩ = some (.string l[k].part) ∧ w.cell? ⟨g, k * 3 + 1, none⟩ = some (.int .i64 l[k].w) ∧ w.cell? ⟨g, k * 3 + 2, none⟩ = some (.int .i64 l[k].h) :=
  ⟨h.2 _ _ (flatB_at l k hk 0 (by omega)), h.2 _ _ (flatB_at l k hk 1 (by omega)), h.2 _ _ (flatB_at l k hk 2 (by omega))⟩

/-- The error of bodies. -/
def bodyErr : List Bo → Option ByteArray → Int
  | [], _ => 0
  | p :: l, prev => if keyB p.part = false then 5 else if (inR p.w 1 500000 && inR p.h 1 500000) = false then 1 else if prev.any (leS p.part) = true then 7 else bodyErr l (some p.part)
def bodiesErr (l : List Bo) : Int := if 500 < l.length then 2 else bodyErr l none
def prevB (l : List Bo) : Nat → Option ByteArray
  | 0 => none
  | k + 1 => l[k]?.map Bo.part

def boOk (b : Bo) : Bool := keyB b.part && inR b.w 1 500000 && inR b.h 1 500000
theorem bodyErr_ok : ∀ (l : List Bo) (prev : Option ByteArray), bodyErr l prev = 0 → (∀ b ∈ l, boOk b = true) ∧ (∀ p, prev = some p → ∀ b ∈ l.head?, bt p < bt b.part) ∧ l.Pairwise (fun a b => bt a.part < bt b.part)
  | [], _, _ => ⟨by simp, by simp, .nil⟩
  | b :: l, prev, h => by
    unfold bodyErr at h
    split at h
    · cases h
    split at h
    · cases h
    split at h
    · cases h
    rename_i h1 h2 h3
    obtain ⟨i1, i2, i3⟩ := bodyErr_ok l (some b.part) h
    refine ⟨?_, ?_, ?_⟩
    · intro x hx
      rcases List.mem_cons.mp hx with rfl | hx
      · simp only [Bool.not_eq_false] at h1 h2
        unfold boOk
        rw [h1, Bool.true_and, h2]
      · exact i1 x hx
    · rintro p rfl x hx
      simp at hx
      subst hx
      simp only [Option.any_some, Bool.not_eq_true] at h3
      exact (leS_false _ _).mp h3
    · cases l with
      | nil => simp
      | cons c l =>
        have hbc := i2 b.part rfl c (by simp)
        refine List.pairwise_cons.mpr ⟨?_, i3⟩
        intro x hx
        rcases List.mem_cons.mp hx with rfl | hx
        · exact hbc
        · exact List.lt_trans hbc ((List.pairwise_cons.mp i3).1 x hx)
theorem bodiesErr_ok {l : List Bo} (h : bodiesErr l = 0) : l.length ≤ 500 ∧ (∀ b ∈ l, boOk b = true) ∧ Rising Bo.part l := by
  unfold bodiesErr at h
  split at h
  · cases h
  obtain ⟨h1, _, h3⟩ := bodyErr_ok l none h
  refine ⟨by omega, h1, fun i j hij hj => ?_⟩
  exact List.pairwise_iff_getElem.mp h3 i j (by omega) hj hij
theorem plErr_ok (W H : Int) : ∀ (l : List Pl) (prev : Option ByteArray), plErr W H l prev = 0 → (∀ b ∈ l, (keyB b.name && keyB b.part && plOk W H b) = true) ∧ (∀ p, prev = some p → ∀ b ∈ l.head?, bt p < bt b.name) ∧ l.Pairwise (fun a b => bt a.name < bt b.name)
  | [], _, _ => ⟨by simp, by simp, .nil⟩
  | b :: l, prev, h => by
    unfold plErr at h
    split at h
    · cases h
    split at h
    · cases h
    split at h
    · cases h
    rename_i h1 h2 h3
    obtain ⟨i1, i2, i3⟩ := plErr_ok W H l (some b.name) h
    refine ⟨?_, ?_, ?_⟩
    · intro x hx
      rcases List.mem_cons.mp hx with rfl | hx
      · simp only [Bool.not_eq_false] at h1 h3
        rw [h1, h3]; rfl
      · exact i1 x hx
    · rintro p rfl x hx
      simp at hx
      subst hx
      simp only [Option.any_some, Bool.not_eq_true] at h2
      exact (leS_false _ _).mp h2
    · cases l with
      | nil => simp
      | cons c l =>
        have hbc := i2 b.name rfl c (by simp)
        refine List.pairwise_cons.mpr ⟨?_, i3⟩
        intro x hx
        rcases List.mem_cons.mp hx with rfl | hx
        · exact hbc
        · exact List.lt_trans hbc ((List.pairwise_cons.mp i3).1 x hx)
theorem prodErr_ok {key : ByteArray} {W H : Int} {l : List Pl} (h : prodErr key W H l = 0) :
    keyB key = true ∧ (1 ≤ W ∧ W ≤ 500000) ∧ (1 ≤ H ∧ H ≤ 500000) ∧ l.length ≤ 1000 ∧ (∀ b ∈ l, (keyB b.name && keyB b.part && plOk W H b) = true) ∧ Rising Pl.name l := by
  unfold prodErr at h
  split at h
  · cases h
  split at h
  · cases h
  split at h
  · cases h
  rename_i h1 h2 h3
  simp [inR] at h1 h2
  obtain ⟨i1, _, i3⟩ := plErr_ok W H l none h
  refine ⟨h1, by omega, by omega, by omega, i1, fun i j hij hj => ?_⟩
  exact List.pairwise_iff_getElem.mp i3 i j (by omega) hj hij

def gapErr (g : Int) : Int := if inR g 0 500000 = true then 0 else 1
/-- The error of bodies, and of a distance, with a product. -/
def distErr (key : ByteArray) (W H : Int) (l : List Pl) (b : List Bo) (g : Int) : Int :=
  if prodErr key W H l = 0 then (if bodiesErr b = 0 then gapErr g else bodiesErr b) else prodErr key W H l

/-- An area: from, to; from, to. -/
structure Ar where
  xf : Int
  xt : Int
  yf : Int
  yt : Int
def Ar.cells (a : Ar) : List Value := [.int .i64 a.xf, .int .i64 a.xt, .int .i64 a.yf, .int .i64 a.yt]
def turnW (w h q : Int) : Int := if q % 2 = 1 then h else w
def turnH (w h q : Int) : Int := if q % 2 = 1 then w else h
def arOf (p : Pl) (o : Bo) : Ar := ⟨2 * p.x - turnW o.w o.h p.q, 2 * p.x + turnW o.w o.h p.q, 2 * p.y - turnH o.w o.h p.q, 2 * p.y + turnH o.w o.h p.q⟩
def boOf (b : List Bo) (part : ByteArray) : Option Bo := b.find? fun o => decide (bt o.part = bt part)
def boxOf (b : List Bo) (p : Pl) : Option Ar := (boOf b p.part).map (arOf p)
def nameBox (b : List Bo) (p : Pl) : Option (ByteArray × Ar) := (boxOf b p).map fun a => (p.name, a)

def nearA (g : Int) (a b : Ar) : Bool := decide (max (a.xf - b.xt) (b.xf - a.xt) < g) && decide (max (a.yf - b.yt) (b.yf - a.yt) < g)
/-- All pairs of a list, in order. -/
def prs {α : Type} : List α → List (α × α)
  | [] => []
  | x :: l => l.map (fun y => (x, y)) ++ prs l

def crowdP (b : List Bo) (g : Int) (l : List Pl) : List (ByteArray × ByteArray) := ((prs (l.filterMap (nameBox b))).filter fun p => nearA g p.1.2 p.2.2).map fun p => (p.1.1, p.2.1)
def crowd2 (b : List Bo) (g : Int) (p q : Pl) : Option (ByteArray × ByteArray) :=
  match boxOf b p, boxOf b q with
  | some x, some y => if nearA g x y then some (p.name, q.name) else none
  | _, _ => none
def crowdR (b : List Bo) (g : Int) (l : List Pl) : List (ByteArray × ByteArray) := (prs l).filterMap fun p => crowd2 b g p.1 p.2
theorem crowd_row (b : List Bo) (g : Int) (p : Pl) (l : List Pl) :
    l.filterMap (crowd2 b g p) = match boxOf b p with
      | some a => ((l.filterMap (nameBox b)).filter fun q => nearA g a q.2).map fun q => (p.name, q.1)
      | none => [] := by
  cases ha : boxOf b p with
  | none =>
    simp only
    rw [List.filterMap_eq_nil_iff]
    intro q _
    simp [crowd2, ha]
  | some a =>
    simp only
    induction l with
    | nil => rfl
    | cons q l ih =>
      cases hq : boxOf b q with
      | none =>
        rw [List.filterMap_cons_none (by simp [crowd2, ha, hq]), ih, List.filterMap_cons_none (by simp [nameBox, hq])]
      | some c =>
        rw [List.filterMap_cons_some (b := (q.name, c)) (by simp [nameBox, hq])]
        cases hn : nearA g a c
        · rw [List.filterMap_cons_none (by simp [crowd2, ha, hq, hn]), ih, List.filter_cons_of_neg (by simp [hn])]
        · rw [List.filterMap_cons_some (b := (p.name, q.name)) (by simp [crowd2, ha, hq, hn]), ih, List.filter_cons_of_pos (by simp [hn])]
          rfl
theorem crowd_eq (b : List Bo) (g : Int) (l : List Pl) : crowdP b g l = crowdR b g l := by
  induction l with
  | nil => rfl
  | cons p l ih =>
    have e : crowdR b g (p :: l) = l.filterMap (crowd2 b g p) ++ crowdR b g l := by
      unfold crowdR
      rw [prs, List.filterMap_append, List.filterMap_map]
      rfl
    rw [e, crowd_row, ← ih]
    unfold crowdP
    cases hp : boxOf b p with
    | none => rw [List.filterMap_cons_none (by simp [nameBox, hp])]; simp
    | some a =>
      rw [List.filterMap_cons_some (b := (p.name, a)) (by simp [nameBox, hp])]
      simp only
      rw [prs, List.filter_append, List.map_append, List.filter_map, List.map_map]
      rfl

def mn2 (x y : Int) : Int := if y < x then y else x
def mn4 (x y z u : Int) : Int := mn2 (mn2 (mn2 x y) z) u
theorem mn4_def (x y z u : Int) : (if u < (if z < (if y < x then y else x) then z else (if y < x then y else x)) then u else (if z < (if y < x then y else x) then z else (if y < x then y else x))) = mn4 x y z u := rfl
theorem run_min_int4 {P : Program} (w : World) (ts : Array TypeId) (t : TypeId) (k k' k'' k3 : IntKind) (x y z u : Int) : (Builtin.min_ ts t #[.int k x, .int k' y, .int k'' z, .int k3 u]).run P w = .ok (.int k (mn4 x y z u)) w := by
  simp [Builtin.min_, Builtin.min2, mn4, mn2]
  rfl
def beyOf (W H e : Int) (a : Ar) : Bool := decide (mn4 a.xf a.yf (2 * W - a.xt) (2 * H - a.yt) < 2 * e)
def beyond (b : List Bo) (W H e : Int) (l : List Pl) : List ByteArray := ((l.filterMap (nameBox b)).filter fun p => beyOf W H e p.2).map fun p => p.1
end Go.Proofs.YtmjonmoagpkdiabGreatDoor
namespace Go.Proofs.YtmjonmoagpkdiabGreatDoor
open Go.RowKit

/-- All blocks but sb and g stand as they stood. -/
structure Kept2 (sb g : Nat) (a w : World) : Prop where
  outer : w.os = a.os ∧ w.tape = a.tape ∧ w.output = a.output
  more : a.heap.size ≤ w.heap.size
  old : ∀ i, i < a.heap.size → i ≠ sb → i ≠ g → w.heap[i]? = a.heap[i]?
namespace Kept2
variable {sb g : Nat} {a b w : World}
theorem same (sb g : Nat) (a : World) : Kept2 sb g a a := { outer := ⟨rfl, rfl, rfl⟩, more := Nat.le_refl _, old := fun _ _ _ _ => rfl }
theorem then_ (h : Kept2 sb g a b) (k : Kept2 sb g b w) : Kept2 sb g a w where
  outer := by
    obtain ⟨x, y, z⟩ := h.outer
    obtain ⟨x', y', z'⟩ := k.outer
    exact ⟨x'.trans x, y'.trans y, z'.trans z⟩
  more := by have := h.more; have := k.more; omega
  old i hi hne hng := by
    have := h.more
    rw [k.old i (by omega) hne hng, h.old i hi hne hng]
theorem of_kept (h : Kept sb a w) : Kept2 sb g a w := { outer := h.outer, more := h.more, old := fun i hi hne _ => h.old i hi hne }
theorem of_below (h : Below a.heap.size a w) : Kept2 sb g a w := of_kept (Kept.of_below h)
theorem alloc (o : Obj) : Kept2 sb g a (a.alloc o) := of_below ((Below.refl _ _).alloc (Nat.le_refl _) o)
theorem draws (h : Kept2 sb g a w) (n : Nat) : Kept2 sb g a (w.drewN n) := { outer := h.outer, more := h.more, old := h.old }
theorem store (h : Kept2 sb g a w) {p : Addr} (hp : p.block = g) (u : Value) : Kept2 sb g a (w.setCell p u) where
  outer := h.outer
  more := by have := h.more; simpa [World.setCell] using this
  old i hi hne hng := by
    rw [← h.old i hi hne hng]
    exact Below.heap_setCell w p u i (by omega)
theorem blk (h : Kept2 sb g a w) {i : Nat} {o : Obj} (hg : a.heap[i]? = some o) (h1 : i ≠ sb) (h2 : i ≠ g) : w.heap[i]? = some o := (h.old _ (lt_of_blk hg) h1 h2).trans hg
end Kept2

theorem Kept.blk {sb : Nat} {a w : World} (h : Kept sb a w) {i : Nat} {o : Obj} (hg : a.heap[i]? = some o) (h1 : i ≠ sb) : w.heap[i]? = some o := (h.old _ (lt_of_blk hg) h1).trans hg
theorem kept_own {sb : Nat} {w w' : World} {base : Nat} {e : TypeId} {size n : Nat} {v : Value} {xs : List Value} (h : w.ownsRow base e size v n xs) (hk : Kept sb w w') (hb : sb < base) : w'.ownsRow base e size v n xs := by
  refine ⟨h.1, h.2.imp_right ?_⟩
  rintro ⟨g, cap, cur, hv, hg, hc, rest⟩
  exact ⟨g, cap, cur, hv, hg, (hk.old _ (lt_of_blk hc) (by omega)).trans hc, rest⟩
theorem own_mono {w : World} {base base' : Nat} {e : TypeId} {size n : Nat} {v : Value} {xs : List Value} (h : w.ownsRow base e size v n xs) (hb : base' ≤ base) : w.ownsRow base' e size v n xs := by
  refine ⟨h.1, h.2.imp_right ?_⟩
  rintro ⟨g, cap, cur, hv, hg, rest⟩
  exact ⟨g, cap, cur, hv, by omega, rest⟩
theorem own_far {w : World} {base : Nat} {e : TypeId} {size n : Nat} {v : Value} {xs : List Value} (h : w.ownsRow base e size v n xs) {p : Addr} (hp : p.block < base) (u : Value) : (w.setCell p u).ownsRow base e size v n xs := by
  refine ⟨h.1, h.2.imp_right ?_⟩
  rintro ⟨g, cap, cur, hv, hg, hc, rest⟩
  exact ⟨g, cap, cur, hv, hg, blk_far hc (by omega) u, rest⟩
theorem own_alloc {w : World} {base : Nat} {e : TypeId} {size n : Nat} {v : Value} {xs : List Value} (h : w.ownsRow base e size v n xs) (o : Obj) : (w.alloc o).ownsRow base e size v n xs := h.alloc o

theorem IsStream.low {w w' : World} {sb b : Nat} (h : IsStream w sb b) (hk : ∀ i, i ≤ sb → w'.heap[i]? = w.heap[i]?) (hsz : w.heap.size ≤ w'.heap.size) : IsStream w' sb b := by
  obtain ⟨A, n, c, t, h1, h2, h3, h4, h5⟩ := h
  refine ⟨A, n, c, t, h1, h2, h3, (hk sb (Nat.le_refl _)).trans h4, fun hn => ?_⟩
  obtain ⟨ad, e, hb, hne, hc⟩ := h5 hn
  refine ⟨ad, e, by omega, hne, fun k hkk => ?_⟩
  obtain ⟨x, hx⟩ := hc k hkk
  refine ⟨x, ?_⟩
  rw [← hx]
  unfold World.cell?
  rw [hk _ (by rw [addr_block]; omega)]
theorem Took.grown {sb b : Nat} {w W w' : World} {row : Option Nat} (h : Took sb b w W) (hs : sb < w.heap.size) (hg : W.grownBy w' row) (hr : ∀ j, row = some j → w.heap.size ≤ j) : Took sb b w w' := by
  have hm := h.2.more
  refine ⟨h.1.low (fun i hi => hg.block i (by omega) (fun e => by have := hr i e.symm; omega)) hg.size, ?_⟩
  obtain ⟨a, b', c⟩ := h.2.outer
  exact ⟨⟨hg.os.trans a, hg.tape.trans b', hg.output.trans c⟩, Nat.le_trans h.2.more hg.size, fun i hi hne => (hg.block i (by omega) (fun e => by have := hr i e.symm; omega)).trans (h.2.old i hi hne)⟩
theorem own_row {w : World} {base : Nat} {e : TypeId} {size n : Nat} {v : Value} {xs : List Value} (h : w.ownsRow base e size v n xs) : ∀ j, v.ownBlock = some j → base ≤ j := by
  intro j hj
  rcases h.2 with ⟨rfl, _⟩ | ⟨g, cap, cur, rfl, hb, _⟩
  · simp [Value.ownBlock] at hj
  · simp [Value.ownBlock] at hj
    omega
theorem kept_of2 {sb g : Nat} {a b c : World} (h : Kept sb a b) (k : Kept2 sb g b c) (hg : a.heap.size ≤ g) : Kept sb a c := by
  have := h.more
  obtain ⟨x, y, z⟩ := h.outer
  obtain ⟨x', y', z'⟩ := k.outer
  exact ⟨⟨x'.trans x, y'.trans y, z'.trans z⟩, Nat.le_trans h.more k.more, fun i hi hne => (k.old i (by omega) hne (by omega)).trans (h.old i hi hne)⟩
theorem row_blk {w : World} {g : Nat} {cs : List Value} {t : TypeId} {sb : Nat} (h : w.heap[g]? = some (.cells cs.toArray t (0, 0))) (hne : g ≠ sb) : RowAt w (some ⟨g, 0, none⟩) cs sb := by
  refine ⟨_, rfl, lt_of_blk h, hne, fun k v hk => ?_⟩
  rw [addr_new, cell_of_blk h]
  simpa using hk
theorem pick_blk {sb b n g : Nat} {xs : List Int} {w : World} {t : TypeId} (hg : w.heap[g]? = some (.cells (xs.map (Value.int .i64)).toArray t (0, 0))) (hn : n = xs.length) (h1 : 1 ≤ n) (h2 : n ≤ 1000) (hne : g ≠ sb) (hb : b ≤ 1000000) (hs : IsStream w sb b) :
    Calls Tryz.prog 22 #[.pointer (some ⟨sb, 0, none⟩), .slice (some ⟨g, 0, none⟩) n n] w
      (fun e w' => ∃ x ∈ xs, e = .returned (.int .i64 x) ∧ Took sb (b + 1) w w') := by
  subst hn
  exact pick_any sb b xs.length _ xs _ h1 (Nat.le_refl _) (by omega) hb hs (row_blk hg hne)
theorem some_blk {sb b n g : Nat} {xs : List ByteArray} {w : World} {t : TypeId} (hg : w.heap[g]? = some (.cells (xs.map Value.string).toArray t (0, 0))) (hn : n = xs.length) (h1 : 1 ≤ n) (h2 : n ≤ 1000) (hne : g ≠ sb) (hb : b ≤ 1000000) (hs : IsStream w sb b) :
    Calls Tryz.prog 24 #[.pointer (some ⟨sb, 0, none⟩), .slice (some ⟨g, 0, none⟩) n n] w
      (fun e w' => ∃ x ∈ xs, e = .returned (.string x) ∧ Took sb (b + 1) w w') := by
  subst hn
  exact some_any sb b xs.length _ xs _ h1 (Nat.le_refl _) (by omega) hb hs (row_blk hg hne)

/-- A slice of strings, or of numbers, that a statement has just built. -/
def StrSl (B0 n : Nat) (v : Value) (u : World) : Prop := ∃ (b : Nat) (xs : List ByteArray), n = xs.length ∧ B0 ≤ b ∧ v = .slice (some ⟨b, 0, none⟩) n n ∧ u.heap[b]? = some (.cells (xs.map Value.string).toArray 9 (0, 0))
def IntSl (B0 n : Nat) (v : Value) (u : World) : Prop := ∃ (b : Nat) (xs : List Int), n = xs.length ∧ B0 ≤ b ∧ v = .slice (some ⟨b, 0, none⟩) n n ∧ u.heap[b]? = some (.cells (xs.map (Value.int .i64)).toArray 3 (0, 0))
theorem StrSl.kept2 {B0 n sb g : Nat} {v : Value} {u u' : World} (h : StrSl B0 n v u) (hk : Kept2 sb g u u') (h1 : sb < B0) (h2 : g < B0) : StrSl B0 n v u' := by
  obtain ⟨b, xs, a, c, d, e⟩ := h
  exact ⟨b, xs, a, c, d, hk.blk e (by omega) (by omega)⟩
theorem IntSl.kept2 {B0 n sb g : Nat} {v : Value} {u u' : World} (h : IntSl B0 n v u) (hk : Kept2 sb g u u') (h1 : sb < B0) (h2 : g < B0) : IntSl B0 n v u' := by
  obtain ⟨b, xs, a, c, d, e⟩ := h
  exact ⟨b, xs, a, c, d, hk.blk e (by omega) (by omega)⟩
theorem StrSl.kept {B0 n sb : Nat} {v : Value} {u u' : World} (h : StrSl B0 n v u) (hk : Kept sb u u') (h1 : sb < B0) : StrSl B0 n v u' := by
  obtain ⟨b, xs, a, c, d, e⟩ := h
  exact ⟨b, xs, a, c, d, hk.blk e (by omega)⟩
theorem IntSl.kept {B0 n sb : Nat} {v : Value} {u u' : World} (h : IntSl B0 n v u) (hk : Kept sb u u') (h1 : sb < B0) : IntSl B0 n v u' := by
  obtain ⟨b, xs, a, c, d, e⟩ := h
  exact ⟨b, xs, a, c, d, hk.blk e (by omega)⟩
theorem StrSl.new {B0 n : Nat} {u : World} (xs : List ByteArray) (hn : n = xs.length) (hB : B0 ≤ u.heap.size) : StrSl B0 n (.slice (some ⟨u.heap.size, 0, none⟩) n n) (u.alloc (.cells (xs.map Value.string).toArray 9)) := ⟨_, xs, hn, hB, rfl, blk_new u _ rfl⟩
theorem IntSl.new {B0 n : Nat} {u : World} (xs : List Int) (hn : n = xs.length) (hB : B0 ≤ u.heap.size) : IntSl B0 n (.slice (some ⟨u.heap.size, 0, none⟩) n n) (u.alloc (.cells (xs.map (Value.int .i64)).toArray 3)) := ⟨_, xs, hn, hB, rfl, blk_new u _ rfl⟩

/-- A stream, and a row of structs whose fields have their kinds. -/
def RowI {α : Type} (enc : α → List Value) (T k sb b g len cap base n : Nat) (W : World) : Prop :=
  IsStream W sb (b + n) ∧ ∃ l : List α, l.length = len ∧ W.ownsRow base T k (.slice (some ⟨g, 0, none⟩) len cap) len (l.flatMap enc)
section
variable {α : Type} {enc : α → List Value} {T k sb b g len cap base n : Nat} {W W' : World}
theorem RowI.step (h : RowI enc T k sb b g len cap base n W) : RowI enc T k sb b g len cap base (n + 1) W := ⟨h.1.more (by omega), h.2⟩
theorem RowI.alloc (h : RowI enc T k sb b g len cap base n W) (o : Obj) : RowI enc T k sb b g len cap base (n + 1) (W.alloc o) := by
  obtain ⟨h1, l, h2, h3⟩ := h
  exact ⟨(h1.more (by omega)).alloc o, l, h2, h3.alloc o⟩
theorem RowI.took (h : RowI enc T k sb b g len cap base n W) (ht : Took sb (b + n + 1) W W') (hb : sb < base) : RowI enc T k sb b g len cap base (n + 1) W' := by
  obtain ⟨h1, l, h2, h3⟩ := h
  exact ⟨ht.1, l, h2, kept_own h3 ht.2 hb⟩
theorem flatK_set (hk : ∀ x, (enc x).length = k) (l : List α) : ∀ (i : Nat) (h : i < l.length) (j : Nat) (_ : j < k) (u : Value) (y : α), (enc l[i]).set j u = enc y → (l.flatMap enc).set (i * k + j) u = (l.set i y).flatMap enc := by
  induction l with
  | nil => intro i h; simp at h
  | cons p l ih =>
    intro i h j hj u y he
    cases i with
    | zero =>
      simp only [List.getElem_cons_zero] at he
      rw [List.flatMap_cons, List.set_append_left _ _ (by rw [hk]; omega), List.set_cons_zero, List.flatMap_cons, ← he]
      simp
    | succ i =>
      have := ih i (by simpa using h) j hj u y (by simpa using he)
      rw [List.flatMap_cons, List.set_append_right _ _ (by rw [hk, Nat.succ_mul]; omega), hk, show (i + 1) * k + j - k = i * k + j by rw [Nat.succ_mul]; omega, this, List.set_cons_succ, List.flatMap_cons]
theorem RowI.cell (h : RowI enc T k sb b g len cap base n W) (hk : ∀ x, (enc x).length = k) {i : Nat} (hi : i < len) : ∃ x : α, ∀ j (_ : j < k), W.cell? ⟨g, i * k + j, none⟩ = (enc x)[j]? := by
  obtain ⟨_, l, h2, h3⟩ := h
  have hil : i < l.length := by omega
  refine ⟨l[i], fun j hj => ?_⟩
  obtain ⟨g', cap', hv, _, _, _, _, hrd⟩ := own_read h3 (by omega)
  simp only [Value.slice.injEq, Option.some.injEq, Addr.mk.injEq, and_true, true_and] at hv
  obtain ⟨rfl, rfl⟩ := hv
  have h4 := flatK_at enc k hk l i hil j hj
  have h5 : j < (enc l[i]).length := by rw [hk]; exact hj
  rw [List.getElem?_eq_getElem h5] at h4 ⊢
  exact hrd _ _ h4
theorem RowI.frozen (h : RowI enc T k sb b g len cap base n W) (j : Nat) : W.frozen? ⟨g, j, none⟩ = false := by
  obtain ⟨_, l, h2, h3⟩ := h
  exact own_frozen h3 j
theorem RowI.store (h : RowI enc T k sb b g len cap base n W) (hk : ∀ x, (enc x).length = k) {i j : Nat} (hi : i < len) (hj : j < k) (u : Value) (hsb : sb < base) (hu : ∀ x, ∃ y, (enc x).set j u = enc y) : RowI enc T k sb b g len cap base (n + 1) (W.setCell ⟨g, i * k + j, none⟩ u) := by
  obtain ⟨h1, l, h2, h3⟩ := h
  obtain ⟨g', _, hv, hb, hg, _⟩ := own_read h3 (by omega)
  simp only [Value.slice.injEq, Option.some.injEq, Addr.mk.injEq, and_true, true_and] at hv
  obtain ⟨rfl, rfl⟩ := hv
  have hil : i < l.length := by omega
  obtain ⟨y, hy⟩ := hu l[i]
  refine ⟨(h1.more (by omega)).setCell (by show sb < g; omega) u, l.set i y, by simpa using h2, ?_⟩
  rw [← flatK_set hk l i hil j hj u y hy]
  exact own_set h3 _ _
end
theorem Kept2.of_took {sb g c : Nat} {w w' : World} (h : Took sb c w w') : Kept2 sb g w w' := .of_kept h.2
theorem pl_row {T k sb b g len cap base n i : Nat} {W : World} (h : RowI Pl.cells T k sb b g len cap base n W) (hk : k = 5) (hi : i < len) :
    ∃ (s1 s2 : ByteArray) (x y q : Int), W.cell? ⟨g, i * 5, none⟩ = some (.string s1) ∧ W.cell? ⟨g, i * 5 + 1, none⟩ = some (.string s2) ∧ W.cell? ⟨g, i * 5 + 2, none⟩ = some (.int .i64 x) ∧ W.cell? ⟨g, i * 5 + 3, none⟩ = some (.int .i64 y) ∧ W.cell? ⟨g, i * 5 + 4, none⟩ = some (.int .i64 q) := by
  subst hk
  obtain ⟨p, hp⟩ := h.cell (fun _ => rfl) hi
  exact ⟨p.name, p.part, p.x, p.y, p.q, hp 0 (by omega), hp 1 (by omega), hp 2 (by omega), hp 3 (by omega), hp 4 (by omega)⟩
theorem bo_row {T k sb b g len cap base n i : Nat} {W : World} (h : RowI Bo.cells T k sb b g len cap base n W) (hk : k = 3) (hi : i < len) :
    ∃ (s1 : ByteArray) (x y : Int), W.cell? ⟨g, i * 3, none⟩ = some (.string s1) ∧ W.cell? ⟨g, i * 3 + 1, none⟩ = some (.int .i64 x) ∧ W.cell? ⟨g, i * 3 + 2, none⟩ = some (.int .i64 y) := by
  subst hk
  obtain ⟨p, hp⟩ := h.cell (fun _ => rfl) hi
  exact ⟨p.part, p.w, p.h, hp 0 (by omega), hp 1 (by omega), hp 2 (by omega)⟩
theorem pl_typ (x : Pl) : (Pl.cells x).length = 5 := rfl
theorem bo_typ (x : Bo) : (Bo.cells x).length = 3 := rfl
theorem pl_str0 (s : ByteArray) (x : Pl) : ∃ y, (Pl.cells x).set 0 (.string s) = Pl.cells y := ⟨{ x with name := s }, rfl⟩
theorem pl_str1 (s : ByteArray) (x : Pl) : ∃ y, (Pl.cells x).set 1 (.string s) = Pl.cells y := ⟨{ x with part := s }, rfl⟩
theorem pl_int2 (s : Int) (x : Pl) : ∃ y, (Pl.cells x).set 2 (.int .i64 s) = Pl.cells y := ⟨{ x with x := s }, rfl⟩
theorem pl_int3 (s : Int) (x : Pl) : ∃ y, (Pl.cells x).set 3 (.int .i64 s) = Pl.cells y := ⟨{ x with y := s }, rfl⟩
theorem pl_int4 (s : Int) (x : Pl) : ∃ y, (Pl.cells x).set 4 (.int .i64 s) = Pl.cells y := ⟨{ x with q := s }, rfl⟩
theorem bo_str0 (s : ByteArray) (x : Bo) : ∃ y, (Bo.cells x).set 0 (.string s) = Bo.cells y := ⟨{ x with part := s }, rfl⟩
theorem bo_int1 (s : Int) (x : Bo) : ∃ y, (Bo.cells x).set 1 (.int .i64 s) = Bo.cells y := ⟨{ x with w := s }, rfl⟩
theorem bo_int2 (s : Int) (x : Bo) : ∃ y, (Bo.cells x).set 2 (.int .i64 s) = Bo.cells y := ⟨{ x with h := s }, rfl⟩
end Go.Proofs.YtmjonmoagpkdiabGreatDoor
namespace Go.Proofs.YtmjonmoagpkdiabGreatDoor
open Go.RowKit

theorem str_info9 : (Tryz.prog.info? 9).map (fun i => (i.zero, i.size, i.bytes)) = some (some (.string ⟨#[]⟩), 1, 16) := by kernel_rfl
def encS (s : ByteArray) : List Value := [.string s]
def flatS (l : List ByteArray) : List Value := l.flatMap encS
theorem own_below {w w' : World} {base : Nat} {e : TypeId} {size n : Nat} {v : Value} {xs : List Value} (h : w.ownsRow base e size v n xs) (hb : Below w.heap.size w w') : w'.ownsRow base e size v n xs := by
  refine ⟨h.1, h.2.imp_right ?_⟩
  rintro ⟨g, cap, cur, hv, hg, hc, rest⟩
  exact ⟨g, cap, cur, hv, hg, (hb.block _ (lt_of_blk hc)).trans hc, rest⟩
theorem own_lt {w : World} {base : Nat} {e : TypeId} {size n : Nat} {v : Value} {xs : List Value} (h : w.ownsRow base e size v n xs) : ∀ j, v.ownBlock = some j → j < w.heap.size := by
  intro j hj
  rcases h.2 with ⟨rfl, _⟩ | ⟨g, cap, cur, rfl, hb, hc, _⟩
  · simp [Value.ownBlock] at hj
  · simp [Value.ownBlock] at hj
    subst hj
    exact lt_of_blk hc
def dS : ByteArray := ⟨#[]⟩
theorem row_str {w : World} {g : Nat} {l : List ByteArray} (h : LineAt w g (flatS l)) {k : Nat} (hk : k < l.length) : w.cell? ⟨g, k, none⟩ = some (.string (l.getD k dS)) := by
  have e := flatK_at encS 1 (fun _ => rfl) l k hk 0 (by omega)
  have := h.2 (k * 1 + 0) (.string l[k]) (by exact e)
  rw [List.getD_eq_getElem?_getD, List.getElem?_eq_getElem hk]
  simpa using this

def errsL : List Int → Int
  | [] => 0
  | e :: l => if e = 0 then errsL l else e
/-- A slice that reads as a row. -/
def Reads {α : Type} (enc : α → List Value) (v : Value) (l : List α) (w : World) : Prop :=
  ∃ A c, v = .slice A l.length c ∧ (l = [] ∨ ∃ g : Nat, A = some ⟨g, 0, none⟩ ∧ LineAt w g (l.flatMap enc))
theorem Reads.below {α : Type} {enc : α → List Value} {v : Value} {l : List α} {w w' : World} (h : Reads enc v l w) (hb : Below w.heap.size w w') : Reads enc v l w' := by
  obtain ⟨A, c, e, h⟩ := h
  refine ⟨A, c, e, h.imp_right ?_⟩
  rintro ⟨g, e, h⟩
  exact ⟨g, e, h.below hb⟩
theorem reads_own {α : Type} {enc : α → List Value} {v : Value} {l : List α} {w : World} {base : Nat} {T : TypeId} {size : Nat} (h : w.ownsRow base T size v l.length (l.flatMap enc)) : Reads enc v l w := by
  obtain ⟨A, c, rfl, _⟩ := own_form h
  refine ⟨A, c, rfl, ?_⟩
  by_cases h0 : l.length = 0
  · exact .inl (List.length_eq_zero_iff.mp h0)
  · obtain ⟨g', _, hv, _, hlt, _, _, hrd⟩ := own_read h (by omega)
    simp only [Value.slice.injEq, true_and] at hv
    exact .inr ⟨g', hv.1, hlt, hrd⟩

def ReadsF (base : Nat) {α : Type} (enc : α → List Value) (v : Value) (l : List α) (w : World) : Prop :=
  ∃ A c, v = .slice A l.length c ∧ l.length ≤ c ∧ (l = [] ∨ ∃ g : Nat, A = some ⟨g, 0, none⟩ ∧ base ≤ g ∧ LineAt w g (l.flatMap enc))
theorem ReadsF.below {base : Nat} {α : Type} {enc : α → List Value} {v : Value} {l : List α} {w w' : World} (h : ReadsF base enc v l w) (hb : Below w.heap.size w w') : ReadsF base enc v l w' := by
  obtain ⟨A, c, e, hc, h⟩ := h
  refine ⟨A, c, e, hc, h.imp_right ?_⟩
  rintro ⟨g, e, h0, h⟩
  exact ⟨g, e, h0, h.below hb⟩
theorem ReadsF.reads {base : Nat} {α : Type} {enc : α → List Value} {v : Value} {l : List α} {w : World} (h : ReadsF base enc v l w) : Reads enc v l w := by
  obtain ⟨A, c, e, _, h⟩ := h
  refine ⟨A, c, e, h.imp_right ?_⟩
  rintro ⟨g, e, _, h⟩
  exact ⟨g, e, h⟩
theorem ReadsF.least {base b : Nat} {α : Type} {enc : α → List Value} {v : Value} {l : List α} {w : World} (h : ReadsF base enc v l w) (hb : b ≤ base) : ReadsF b enc v l w := by
  obtain ⟨A, c, e, hc, h⟩ := h
  refine ⟨A, c, e, hc, h.imp_right ?_⟩
  rintro ⟨g, e, h0, h⟩
  exact ⟨g, e, Nat.le_trans hb h0, h⟩
theorem ReadsF.far {base : Nat} {α : Type} {enc : α → List Value} {v : Value} {l : List α} {w : World} (h : ReadsF base enc v l w) {p : Addr} (hp : p.block < base) (u : Value) : ReadsF base enc v l (w.setCell p u) := by
  obtain ⟨A, c, e, hc, h⟩ := h
  refine ⟨A, c, e, hc, h.imp_right ?_⟩
  rintro ⟨g, e, h0, h⟩
  refine ⟨g, e, h0, ?_, fun j x hx => ?_⟩
  · have := h.1
    simpa [World.setCell] using this
  · exact (World.cell?_setCell_other _ _ _ _ (fun e => by have := congrArg Addr.block e; simp at this; omega)).trans (h.2 j x hx)
theorem readsF_nil {α : Type} (base : Nat) (enc : α → List Value) (w : World) : ReadsF base enc (.slice none 0 0) ([] : List α) w := ⟨none, 0, rfl, Nat.le_refl _, .inl rfl⟩
theorem readsF_own {α : Type} {enc : α → List Value} {v : Value} {l : List α} {w : World} {base : Nat} {T : TypeId} {size : Nat} (h : w.ownsRow base T size v l.length (l.flatMap enc)) : ReadsF base enc v l w := by
  obtain ⟨A, c, rfl, _⟩ := own_form h
  by_cases h0 : l.length = 0
  · exact ⟨A, c, rfl, by omega, .inl (List.length_eq_zero_iff.mp h0)⟩
  · obtain ⟨g', _, hv, hb, hlt, hc, _, hrd⟩ := own_read h (by omega)
    simp only [Value.slice.injEq, true_and] at hv
    obtain ⟨rfl, rfl⟩ := hv
    exact ⟨_, _, rfl, hc, .inr ⟨g', rfl, hb, hlt, hrd⟩⟩
theorem ReadsF.kept {base sb : Nat} {α : Type} {enc : α → List Value} {v : Value} {l : List α} {w w' : World} (h : ReadsF base enc v l w) (hk : Kept sb w w') (hb : sb < base) : ReadsF base enc v l w' := by
  obtain ⟨A, c, e, hc, h⟩ := h
  refine ⟨A, c, e, hc, h.imp_right ?_⟩
  rintro ⟨g, e, h0, h⟩
  exact ⟨g, e, h0, Nat.lt_of_lt_of_le h.1 hk.more, fun j u hu => (hk.cell (p := ⟨g, j, none⟩) h.1 (by show g ≠ sb; omega)).trans (h.2 j u hu)⟩
theorem flatS_map (l : List ByteArray) : flatS l = l.map Value.string := by
  induction l with
  | nil => rfl
  | cons a l ih => simp [flatS, encS] at ih ⊢; exact ih
theorem flatS_len (l : List ByteArray) : (flatS l).length = l.length := by rw [flatS_map, List.length_map]
theorem row_strg {w : World} {g : Nat} {l : List ByteArray} (h : LineAt w g (l.flatMap encS)) {k : Nat} (hk : k < l.length) : w.cell? ⟨g, k, none⟩ = some (.string l[k]) := by
  have := row_str (l := l) h hk
  rw [List.getD_eq_getElem?_getD, List.getElem?_eq_getElem hk] at this
  exact this
theorem readsF_lit {w : World} {g c n : Nat} {l : List ByteArray} {base : Nat} {t : TypeId} (hn : n = l.length) (hc : n ≤ c) (h : w.heap[g]? = some (.cells (l.map Value.string).toArray t (0, 0))) (hb : base ≤ g) : ReadsF base encS (.slice (some ⟨g, 0, none⟩) n c) l w := by
  subst hn
  refine ⟨_, c, rfl, hc, .inr ⟨g, rfl, hb, lt_of_blk h, fun j u hu => ?_⟩⟩
  rw [cell_of_blk h]
  rw [show l.flatMap encS = l.map Value.string from flatS_map l] at hu
  simpa using hu

/-- Slices of slices of strings: each slice's value stands in its cell. -/
def ListsF (base : Nat) (v : Value) (L : List (List ByteArray)) (w : World) : Prop :=
  ∃ A c, v = .slice A L.length c ∧ L.length ≤ c ∧ (L = [] ∨ ∃ g o : Nat, A = some ⟨g, o, none⟩ ∧ base ≤ g ∧ g < w.heap.size ∧ ∀ j (h : j < L.length), ∃ u, w.cell? ⟨g, o + j, none⟩ = some u ∧ ReadsF base encS u L[j] w)
theorem ListsF.below {base : Nat} {v : Value} {L : List (List ByteArray)} {w w' : World} (h : ListsF base v L w) (hb : Below w.heap.size w w') : ListsF base v L w' := by
  obtain ⟨A, c, e, hc, h⟩ := h
  refine ⟨A, c, e, hc, h.imp_right ?_⟩
  rintro ⟨g, o, e, h0, h1, h⟩
  refine ⟨g, o, e, h0, Nat.lt_of_lt_of_le h1 hb.size, fun j hj => ?_⟩
  obtain ⟨u, hu, hr⟩ := h j hj
  exact ⟨u, (hb.cell (p := ⟨g, o + j, none⟩) h1).trans hu, hr.below hb⟩
theorem ListsF.kept {base sb : Nat} {v : Value} {L : List (List ByteArray)} {w w' : World} (h : ListsF base v L w) (hk : Kept sb w w') (hb : sb < base) : ListsF base v L w' := by
  obtain ⟨A, c, e, hc, h⟩ := h
  refine ⟨A, c, e, hc, h.imp_right ?_⟩
  rintro ⟨g, o, e, h0, h1, h⟩
  refine ⟨g, o, e, h0, Nat.lt_of_lt_of_le h1 hk.more, fun j hj => ?_⟩
  obtain ⟨u, hu, hr⟩ := h j hj
  exact ⟨u, (hk.cell (p := ⟨g, o + j, none⟩) h1 (by show g ≠ sb; omega)).trans hu, hr.kept hk hb⟩
theorem ListsF.least {base b : Nat} {v : Value} {L : List (List ByteArray)} {w : World} (h : ListsF base v L w) (hb : b ≤ base) : ListsF b v L w := by
  obtain ⟨A, c, e, hc, h⟩ := h
  refine ⟨A, c, e, hc, h.imp_right ?_⟩
  rintro ⟨g, o, e, h0, h1, h⟩
  refine ⟨g, o, e, Nat.le_trans hb h0, h1, fun j hj => ?_⟩
  obtain ⟨u, hu, hr⟩ := h j hj
  exact ⟨u, hu, hr.least hb⟩
end Go.Proofs.YtmjonmoagpkdiabGreatDoor
namespace Go.Proofs.YtmjonmoagpkdiabGreatDoor
open Go.RowKit

def nth (l : List ByteArray) (i : Nat) : ByteArray := l.getD i dS
def has (l : List ByteArray) (x : ByteArray) : Bool := Lib.containsS l x
theorem has_iff {l : List ByteArray} {x : ByteArray} : has l x = true ↔ x ∈ l := Lib.containsS_iff _ _
theorem has_false {l : List ByteArray} {x : ByteArray} : has l x = false ↔ x ∉ l := by rw [← Bool.not_eq_true, has_iff]
theorem nth_at {l : List ByteArray} {i : Nat} (h : i < l.length) : nth l i = l[i] := by unfold nth; rw [List.getD_eq_getElem?_getD, List.getElem?_eq_getElem h]; rfl
/-- No part. -/
def em (x : ByteArray) : Bool := x.toList.isEmpty
theorem em_iff (x : ByteArray) : em x = true ↔ x = dS := by
  unfold em
  rw [Lib.toList_data, List.isEmpty_iff]
  constructor
  · intro h; exact bt_inj h
  · rintro rfl; rfl
theorem key_not_em {x : ByteArray} (h : keyB x = true) : em x = false := by
  cases e : em x
  · rfl
  · rw [(em_iff x).mp e] at h
    exact absurd h (by decide)

/-- The error of a setup. -/
def seErr : List ByteArray → List ByteArray → Int
  | [], _ => 0
  | x :: r, seen => if em x = true then seErr r (seen ++ [x]) else if keyB x = false then 5 else if has seen x = true then 6 else seErr r (seen ++ [x])
def setErr (s : List ByteArray) : Int := if s = [] then 8 else if 100 < s.length then 2 else seErr s []

/-- A right setup. -/
def SetOk (s : List ByteArray) : Prop := s ≠ [] ∧ s.length ≤ 100 ∧ (∀ x ∈ s, em x = true ∨ keyB x = true) ∧ s.Pairwise fun a b => em a = false → a ≠ b
theorem seErr_ok (s : List ByteArray) : ∀ seen, seErr s seen = 0 → (∀ x ∈ s, em x = true ∨ keyB x = true) ∧ (∀ x ∈ s, em x = false → x ∉ seen) ∧ s.Pairwise fun a b => em a = false → a ≠ b := by
  induction s with
  | nil => intro seen _; simp
  | cons x r ih =>
    intro seen h
    unfold seErr at h
    by_cases h1 : em x = true
    · rw [if_pos h1] at h
      obtain ⟨a, b, c⟩ := ih _ h
      refine ⟨?_, ?_, ?_⟩
      · intro y hy
        rcases List.mem_cons.mp hy with rfl | hy
        · exact .inl h1
        · exact a y hy
      · intro y hy he
        rcases List.mem_cons.mp hy with rfl | hy
        · rw [h1] at he; cases he
        · intro hs; exact b y hy he (List.mem_append_left _ hs)
      · refine List.Pairwise.cons ?_ c
        intro y hy he
        rw [h1] at he; cases he
    · rw [if_neg h1] at h
      by_cases h2 : keyB x = false
      · rw [if_pos h2] at h; cases h
      rw [if_neg h2] at h
      by_cases h3 : has seen x = true
      · rw [if_pos h3] at h; cases h
      rw [if_neg h3] at h
      obtain ⟨a, b, c⟩ := ih _ h
      refine ⟨?_, ?_, ?_⟩
      · intro y hy
        rcases List.mem_cons.mp hy with rfl | hy
        · exact .inr (by simpa using h2)
        · exact a y hy
      · intro y hy he
        rcases List.mem_cons.mp hy with rfl | hy
        · exact fun h => h3 (has_iff.mpr h)
        · intro hs; exact b y hy he (List.mem_append_left _ hs)
      · refine List.Pairwise.cons ?_ c
        rintro y hy he rfl
        exact b _ hy he (List.mem_append_right _ (by simp))
theorem setErr_ok {s : List ByteArray} (h : setErr s = 0) : SetOk s := by
  unfold setErr at h
  by_cases h0 : s = []
  · rw [if_pos h0] at h; cases h
  rw [if_neg h0] at h
  by_cases h1 : 100 < s.length
  · rw [if_pos h1] at h; cases h
  rw [if_neg h1] at h
  obtain ⟨a, _, c⟩ := seErr_ok s [] h
  exact ⟨h0, by omega, a, c⟩

/-- The error of parts. -/
def paErr : List ByteArray → Option ByteArray → Int
  | [], _ => 0
  | x :: r, prev => if keyB x = false then 5 else if prev.any (leS x) = true then 7 else paErr r (some x)
def psErr (slots : Int) : List (List ByteArray) → Int
  | [] => 0
  | l :: r => if slots < l.length then 12 else if paErr l none = 0 then psErr slots r else paErr l none
def partsErr (slots : Int) (p : List (List ByteArray)) : Int := if inR slots 1 100 = false then 1 else if 200 < p.length then 2 else psErr slots p

/-- Right parts. -/
def PaOk (l : List ByteArray) : Prop := (∀ x ∈ l, keyB x = true) ∧ l.Pairwise fun a b => bt a < bt b
theorem paErr_ok (l : List ByteArray) : ∀ prev, paErr l prev = 0 → PaOk l ∧ ∀ y, prev = some y → ∀ x ∈ l, bt y < bt x := by
  induction l with
  | nil => intro prev _; exact ⟨⟨by simp, .nil⟩, by simp⟩
  | cons x r ih =>
    intro prev h
    unfold paErr at h
    by_cases h1 : keyB x = false
    · rw [if_pos h1] at h; cases h
    rw [if_neg h1] at h
    by_cases h2 : prev.any (leS x) = true
    · rw [if_pos h2] at h; cases h
    rw [if_neg h2] at h
    obtain ⟨⟨a, b⟩, c⟩ := ih _ h
    have hx : ∀ y, prev = some y → bt y < bt x := by
      rintro y rfl
      simp only [Option.any_some, Bool.not_eq_true] at h2
      exact (leS_false _ _).mp h2
    refine ⟨⟨?_, .cons (fun y hy => c x rfl y hy) b⟩, ?_⟩
    · intro y hy
      rcases List.mem_cons.mp hy with rfl | hy
      · simpa using h1
      · exact a y hy
    · intro y hy z hz
      rcases List.mem_cons.mp hz with rfl | hz
      · exact hx y hy
      · exact List.lt_trans (hx y hy) (c x rfl z hz)
theorem psErr_ok {slots : Int} {p : List (List ByteArray)} (h : psErr slots p = 0) : ∀ l ∈ p, (l.length : Int) ≤ slots ∧ PaOk l := by
  induction p with
  | nil => simp
  | cons l r ih =>
    unfold psErr at h
    by_cases h1 : slots < l.length
    · rw [if_pos h1] at h; cases h
    rw [if_neg h1] at h
    by_cases h2 : paErr l none = 0
    · rw [if_pos h2] at h
      intro k hk
      rcases List.mem_cons.mp hk with rfl | hk
      · exact ⟨by omega, (paErr_ok _ _ h2).1⟩
      · exact ih h k hk
    · rw [if_neg h2] at h; exact absurd h h2
theorem partsErr_ok {slots : Int} {p : List (List ByteArray)} (h : partsErr slots p = 0) : 1 ≤ slots ∧ slots ≤ 100 ∧ p.length ≤ 200 ∧ ∀ l ∈ p, (l.length : Int) ≤ slots ∧ PaOk l := by
  unfold partsErr at h
  by_cases h1 : inR slots 1 100 = false
  · rw [if_pos h1] at h; cases h
  rw [if_neg h1] at h
  by_cases h2 : 200 < p.length
  · rw [if_pos h2] at h; cases h
  rw [if_neg h2] at h
  simp [inR] at h1
  exact ⟨h1.1, h1.2, by omega, psErr_ok h⟩

/-- The errors of a setup and parts. -/
def chkErr (s : List ByteArray) (p : List (List ByteArray)) : Int := if setErr s = 0 then partsErr s.length p else setErr s

/-- The parts that a setup has not. -/
def missOf (s parts : List ByteArray) : List ByteArray := parts.filter fun x => !has s x

/-- The changes. -/
def chgK (a b : List ByteArray) (k : Nat) : List (Nat × ByteArray × ByteArray) := (List.range k).filterMap fun i => if nth a i = nth b i then none else some (i, nth a i, nth b i)
def chgOf (a b : List ByteArray) : List (Nat × ByteArray × ByteArray) := chgK a b a.length
theorem chgK_same {a b : List ByteArray} {k : Nat} (h : nth a k = nth b k) : chgK a b (k + 1) = chgK a b k := by
  unfold chgK
  rw [List.range_succ, List.filterMap_append]
  simp [h]
theorem chgK_next {a b : List ByteArray} {k : Nat} (h : ¬ nth a k = nth b k) : chgK a b (k + 1) = chgK a b k ++ [(k, nth a k, nth b k)] := by
  unfold chgK
  rw [List.range_succ, List.filterMap_append]
  congr 1
  simp only [List.filterMap_cons, List.filterMap_nil, if_neg h]
theorem chgK_len (a b : List ByteArray) (k : Nat) : (chgK a b k).length ≤ k := by
  unfold chgK
  have := List.length_filterMap_le (fun i => if nth a i = nth b i then none else some (i, nth a i, nth b i)) (List.range k)
  simpa using this
def ldsOf (l : List (Nat × ByteArray × ByteArray)) : Nat := l.countP fun c => !em c.2.2
def loadsOf (a b : List ByteArray) : Nat := ldsOf (chgOf a b)
theorem loadsOf_le (a b : List ByteArray) : loadsOf a b ≤ a.length := Nat.le_trans List.countP_le_length (chgK_len _ _ _)

/-- When a part is needed next. -/
def whenOf (part : ByteArray) (later : List (List ByteArray)) : Nat := later.findIdx fun l => has l part
/-- A part is rather taken out than another one. -/
def better (later : List (List ByteArray)) (y z : ByteArray) : Bool := decide (whenOf z later < whenOf y later) || (decide (whenOf y later = whenOf z later) && decide (bt z < bt y))
theorem better_asymm {later : List (List ByteArray)} {y z : ByteArray} (h : better later y z = true) : better later z y = false := by
  unfold better at *
  simp only [Bool.or_eq_true, Bool.and_eq_true, decide_eq_true_eq, Bool.or_eq_false_iff, Bool.and_eq_false_iff, decide_eq_false_iff_not] at *
  rcases h with h | ⟨h, h2⟩
  · exact ⟨by omega, .inl (by omega)⟩
  · exact ⟨by omega, .inr (fun h3 => List.lt_irrefl _ (List.lt_trans h2 h3))⟩
theorem better_total {later : List (List ByteArray)} {y z : ByteArray} (hne : y ≠ z) (h : better later z y = false) : better later y z = true := by
  unfold better at *
  simp only [Bool.or_eq_true, Bool.and_eq_true, decide_eq_true_eq, Bool.or_eq_false_iff, Bool.and_eq_false_iff, decide_eq_false_iff_not] at *
  obtain ⟨h1, h2⟩ := h
  rcases Nat.lt_or_ge (whenOf z later) (whenOf y later) with h3 | h3
  · exact .inl h3
  · right
    have he : whenOf y later = whenOf z later := by omega
    refine ⟨he, ?_⟩
    have h4 : ¬ bt y < bt z := by
      rcases h2 with h2 | h2
      · exact absurd he.symm h2
      · exact h2
    rcases List.le_iff_lt_or_eq.mp (List.not_lt.mp h4) with h | h
    · exact h
    · exact absurd (bt_inj h.symm) hne

/-- A slot that may be taken. -/
def cand (parts : List ByteArray) (y : ByteArray) : Bool := !(has parts y && !em y)
def stepB (parts : List ByteArray) (later : List (List ByteArray)) (out : List ByteArray) (b : Option Nat) (i : Nat) : Option Nat :=
  if cand parts (nth out i) = false then b else
    match b with
    | none => some i
    | some j => if em (nth out j) = true then some j else if em (nth out i) = true then some i else if better later (nth out i) (nth out j) = true then some i else some j
def pickB (parts : List ByteArray) (later : List (List ByteArray)) (out : List ByteArray) : Nat → Option Nat
  | 0 => none
  | k + 1 => stepB parts later out (pickB parts later out k) k
def nextGo (parts : List ByteArray) (later : List (List ByteArray)) : List ByteArray → List ByteArray → List ByteArray
  | out, [] => out
  | out, x :: xs => nextGo parts later (match pickB parts later out out.length with | some i => out.set i x | none => out) xs
def nextOf (s parts : List ByteArray) (later : List (List ByteArray)) : List ByteArray := nextGo parts later s (missOf s parts)
theorem nextGo_length (parts : List ByteArray) (later : List (List ByteArray)) (xs : List ByteArray) : ∀ out, (nextGo parts later out xs).length = out.length := by
  induction xs with
  | nil => intro out; rfl
  | cons x xs ih =>
    intro out
    rw [nextGo, ih]
    split <;> simp
theorem nextOf_length (s parts : List ByteArray) (later : List (List ByteArray)) : (nextOf s parts later).length = s.length := nextGo_length _ _ _ _

/-- One slot goes before another one. -/
def pre (later : List (List ByteArray)) (out : List ByteArray) (i j : Nat) : Prop :=
  (em (nth out i) = true ∧ (em (nth out j) = true → i < j)) ∨ (em (nth out i) = false ∧ em (nth out j) = false ∧ better later (nth out i) (nth out j) = true)
theorem pickB_lt (parts : List ByteArray) (later : List (List ByteArray)) (out : List ByteArray) : ∀ k i, pickB parts later out k = some i → i < k ∧ cand parts (nth out i) = true := by
  intro k
  induction k with
  | zero => intro i h; cases h
  | succ k ih =>
    intro i h
    rw [pickB] at h
    unfold stepB at h
    by_cases hc : cand parts (nth out k) = false
    · rw [if_pos hc] at h
      have := ih i h
      exact ⟨by omega, this.2⟩
    rw [if_neg hc] at h
    have hck : cand parts (nth out k) = true := by simpa using hc
    cases hb : pickB parts later out k with
    | none => rw [hb] at h; cases h; exact ⟨by omega, hck⟩
    | some j =>
      rw [hb] at h
      have hj := ih j hb
      simp only at h
      split at h
      · cases h; exact ⟨by omega, hj.2⟩
      split at h
      · cases h; exact ⟨by omega, hck⟩
      split at h
      · cases h; exact ⟨by omega, hck⟩
      · cases h; exact ⟨by omega, hj.2⟩
theorem pickB_best {parts : List ByteArray} {later : List (List ByteArray)} {out : List ByteArray} {i : Nat} (hc : cand parts (nth out i) = true) (hp : ∀ j, j < out.length → j ≠ i → cand parts (nth out j) = true → pre later out i j) :
    ∀ k, k ≤ out.length → (i < k → pickB parts later out k = some i) ∧ (k ≤ i → ∀ j, pickB parts later out k = some j → j ≠ i) := by
  intro k
  induction k with
  | zero => intro _; exact ⟨fun h => by omega, fun _ j h => by cases h⟩
  | succ k ih =>
    intro hk
    obtain ⟨ih1, ih2⟩ := ih (by omega)
    refine ⟨fun hik => ?_, fun hki j hj => ?_⟩
    · rw [pickB]
      by_cases e : k = i
      · subst e
        unfold stepB
        rw [if_neg (by simp [hc])]
        cases hb : pickB parts later out k with
        | none => rfl
        | some j =>
          have hj := pickB_lt _ _ _ _ _ hb
          have hne := ih2 (Nat.le_refl _) j hb
          simp only
          rcases hp j (by omega) hne hj.2 with ⟨a, b⟩ | ⟨a, b, c⟩
          · have hz : em (nth out j) = false := by
              cases h : em (nth out j)
              · rfl
              · have := b h; omega
            rw [if_neg (by simp [hz]), if_pos a]
          · rw [if_neg (by simp [b]), if_neg (by simp [a]), if_pos c]
      · rw [ih1 (by omega)]
        unfold stepB
        by_cases hck : cand parts (nth out k) = false
        · rw [if_pos hck]
        · rw [if_neg hck]
          simp only
          rcases hp k (by omega) e (by simpa using hck) with ⟨a, b⟩ | ⟨a, b, c⟩
          · rw [if_pos a]
          · rw [if_neg (by simp [a]), if_neg (by simp [b]), if_neg (by simp [better_asymm c])]
    · have := pickB_lt parts later out (k + 1) j hj
      omega

/-- Parts are laid into slots, one after the other. -/
def fill : List ByteArray → List Nat → List ByteArray → List ByteArray
  | out, i :: is, x :: xs => fill (out.set i x) is xs
  | out, _, _ => out
theorem getD_set_self {l : List ByteArray} {i : Nat} (h : i < l.length) (x : ByteArray) : nth (l.set i x) i = x := by
  unfold nth; rw [List.getD_eq_getElem?_getD, List.getElem?_set_self h]; rfl
theorem getD_set_ne {l : List ByteArray} {i j : Nat} (h : i ≠ j) (x : ByteArray) : nth (l.set i x) j = nth l j := by
  unfold nth; rw [List.getD_eq_getElem?_getD, List.getD_eq_getElem?_getD, List.getElem?_set_ne h]
theorem fill_next (parts : List ByteArray) (later : List (List ByteArray)) (xs : List ByteArray) : ∀ (out : List ByteArray) (room : List Nat), room.Nodup → (∀ i ∈ room, i < out.length) → (∀ i, i < out.length → (i ∈ room ↔ cand parts (nth out i) = true)) →
    room.Pairwise (pre later out) → (∀ x ∈ xs, x ∈ parts ∧ em x = false) → xs.length ≤ room.length → fill out room xs = nextGo parts later out xs := by
  induction xs with
  | nil => intro out room _ _ _ _ _ _; cases room <;> rfl
  | cons x xs ih =>
    intro out room hn hlt hc hp hx hl
    cases room with
    | nil => simp at hl
    | cons i room =>
      have hi := hlt i (by simp)
      have hci := (hc i hi).mp (by simp)
      have hpi := List.pairwise_cons.mp hp
      have hni := List.nodup_cons.mp hn
      have hb : pickB parts later out out.length = some i := by
        refine (pickB_best hci (fun j hj hne hcj => ?_) out.length (Nat.le_refl _)).1 hi
        have := (hc j hj).mpr hcj
        rcases List.mem_cons.mp this with e | hm
        · exact absurd e hne
        · exact hpi.1 j hm
      rw [fill, nextGo, hb]
      simp only
      have hset : ∀ j ∈ room, nth (out.set i x) j = nth out j := fun j hj => getD_set_ne (fun e => hni.1 (by rw [e]; exact hj)) x
      refine ih _ _ hni.2 (fun j hj => by simpa using hlt j (List.mem_cons_of_mem _ hj)) (fun j hj => ?_) ?_ (fun y hy => hx y (List.mem_cons_of_mem _ hy)) (by simpa using hl)
      · rw [List.length_set] at hj
        by_cases e : i = j
        · subst e
          rw [getD_set_self hi]
          obtain ⟨h1, h2⟩ := hx x (by simp)
          simp [cand, has_iff.mpr h1, h2, hni.1]
        · rw [getD_set_ne e, ← hc j hj]
          simp [Ne.symm e]
      · refine hpi.2.imp_of_mem ?_
        intro a b ha hb hab
        unfold pre at *
        rw [hset a ha, hset b hb]
        exact hab

def empties (s : List ByteArray) (k : Nat) : List Nat := (List.range k).filter fun i => em (nth s i)
def spares (s parts : List ByteArray) (k : Nat) : List Nat := (List.range k).filter fun i => !em (nth s i) && !has parts (nth s i)

theorem getD_mem {s : List ByteArray} {i : Nat} (h : i < s.length) : nth s i ∈ s := by
  rw [nth_at h]
  exact List.getElem_mem h
theorem setOk_ne {s : List ByteArray} (h : SetOk s) {i j : Nat} (hi : i < s.length) (hj : j < s.length) (hne : i ≠ j) (he : em (nth s i) = false) : nth s i ≠ nth s j := by
  have hp := List.pairwise_iff_getElem.mp h.2.2.2
  have e1 : nth s i = s[i] := nth_at hi
  have e2 : nth s j = s[j] := nth_at hj
  rw [e1] at he
  rw [e1, e2]
  rcases Nat.lt_or_ge i j with h1 | h1
  · exact hp i j hi hj h1 he
  · intro e
    exact hp j i hj hi (by omega) (e ▸ he) e.symm

theorem room_next {s parts : List ByteArray} {later : List (List ByteArray)} (hs : SetOk s) (hpa : PaOk parts) {R : List Nat} (hR : R.Perm (spares s parts s.length)) (hsort : R.Pairwise fun i j => better later (nth s j) (nth s i) = false) (hl : (missOf s parts).length ≤ (empties s s.length ++ R).length) :
    fill s (empties s s.length ++ R) (missOf s parts) = nextOf s parts later := by
  have hmR : ∀ i, i ∈ R ↔ i < s.length ∧ em (nth s i) = false ∧ nth s i ∉ parts := fun i => by
    rw [hR.mem_iff]
    simp [spares, has_false]
  have hmE : ∀ i, i ∈ empties s s.length ↔ i < s.length ∧ em (nth s i) = true := fun i => by simp [empties]
  have hnR : R.Nodup := hR.nodup_iff.mpr (List.nodup_range.filter _)
  have hnE : (empties s s.length).Nodup := List.nodup_range.filter _
  refine fill_next parts later _ s _ ?_ ?_ ?_ ?_ ?_ hl
  · rw [List.nodup_append]
    refine ⟨hnE, hnR, fun a ha b hb e => ?_⟩
    subst e
    have h1 := (hmE a).mp ha
    have h2 := (hmR a).mp hb
    rw [h1.2] at h2
    exact absurd h2.2.1 (by simp)
  · intro i hi
    rcases List.mem_append.mp hi with h | h
    · exact ((hmE i).mp h).1
    · exact ((hmR i).mp h).1
  · intro i hi
    rw [List.mem_append, hmE, hmR]
    unfold cand
    cases h1 : em (nth s i) <;> cases h2 : has parts (nth s i) <;> simp [hi, ← has_iff, h2]
  · rw [List.pairwise_append]
    refine ⟨?_, ?_, ?_⟩
    · have : (empties s s.length).Pairwise fun i j => i < j := List.pairwise_lt_range.filter _
      refine this.imp_of_mem ?_
      intro a b ha hb hab
      exact .inl ⟨((hmE a).mp ha).2, fun _ => hab⟩
    · have h2 : R.Pairwise fun i j => i ≠ j := hnR
      refine (hsort.and h2).imp_of_mem ?_
      rintro a b ha hb ⟨hab, hne⟩
      have ha' := (hmR a).mp ha
      have hb' := (hmR b).mp hb
      exact .inr ⟨ha'.2.1, hb'.2.1, better_total (setOk_ne hs ha'.1 hb'.1 hne ha'.2.1) hab⟩
    · intro a ha b hb
      refine .inl ⟨((hmE a).mp ha).2, fun h => ?_⟩
      rw [((hmR b).mp hb).2.1] at h
      cases h
  · intro x hx
    have h := List.mem_filter.mp hx
    exact ⟨h.1, key_not_em (hpa.1 x h.1)⟩

theorem nodup_sub {α : Type} (l : List α) : ∀ m : List α, l.Nodup → (∀ x ∈ l, x ∈ m) → l.length ≤ m.length := by
  induction l with
  | nil => intro m _ _; exact Nat.zero_le _
  | cons x l ih =>
    intro m hn hs
    obtain ⟨a, b, rfl⟩ := List.append_of_mem (hs x (by simp))
    have hn' := List.nodup_cons.mp hn
    have := ih (a ++ b) hn'.2 (fun y hy => by
      rcases List.mem_append.mp (hs y (List.mem_cons_of_mem _ hy)) with h | h
      · exact List.mem_append_left _ h
      · rcases List.mem_cons.mp h with e | h
        · subst e; exact absurd hy hn'.1
        · exact List.mem_append_right _ h)
    simp at this ⊢
    omega
/-- There is room for what is missing. -/
theorem room_enough {s parts : List ByteArray} (hs : SetOk s) (hpa : PaOk parts) (hl : parts.length ≤ s.length) {R : List Nat} (hR : R.Perm (spares s parts s.length)) : (missOf s parts).length ≤ (empties s s.length ++ R).length := by
  -- the slots that are not taken hold parts of the product, each of them once
  let keep := (List.range s.length).filter fun i => !em (nth s i) && has parts (nth s i)
  have h1 : (empties s s.length).length + (spares s parts s.length).length + keep.length = s.length := by
    have : ∀ l : List Nat, (l.filter fun i => em (nth s i)).length + (l.filter fun i => !em (nth s i) && !has parts (nth s i)).length + (l.filter fun i => !em (nth s i) && has parts (nth s i)).length = l.length := by
      intro l
      induction l with
      | nil => rfl
      | cons a l ih =>
        simp only [List.filter_cons]
        cases em (nth s a) <;> cases has parts (nth s a) <;> simp <;> omega
    have := this (List.range s.length)
    simpa [empties, spares, keep] using this
  have hndp : parts.Nodup := hpa.2.imp fun h e => by subst e; exact List.lt_irrefl _ h
  have h2 : (parts.filter fun x => has s x).length + (missOf s parts).length = parts.length := by
    have : ∀ l : List ByteArray, (l.filter fun x => has s x).length + (l.filter fun x => !has s x).length = l.length := by
      intro l
      induction l with
      | nil => rfl
      | cons a l ih =>
        simp only [List.filter_cons]
        cases has s a <;> simp <;> omega
    exact this parts
  -- the kept slots' parts are without repetition among the parts that are there
  have h3 : keep.length ≤ (parts.filter fun x => has s x).length := by
    have hm : (keep.map fun i => nth s i).length ≤ (parts.filter fun x => has s x).length := by
      refine nodup_sub _ _ ?_ ?_
      · rw [List.Nodup, List.pairwise_map]
        have hn : keep.Pairwise fun i j => i ≠ j := List.nodup_range.filter _
        refine hn.imp_of_mem ?_
        intro a b ha hb hne
        have ha' := List.mem_filter.mp ha
        have hb' := List.mem_filter.mp hb
        simp only [List.mem_range, Bool.and_eq_true, Bool.not_eq_eq_eq_not, Bool.not_true] at ha' hb'
        exact setOk_ne hs ha'.1 hb'.1 hne ha'.2.1
      · intro x hx
        obtain ⟨i, hi, rfl⟩ := List.mem_map.mp hx
        have hi' := List.mem_filter.mp hi
        simp only [List.mem_range, Bool.and_eq_true] at hi'
        exact List.mem_filter.mpr ⟨has_iff.mp hi'.2.2, has_iff.mpr (getD_mem hi'.1)⟩
    simpa using hm
  rw [List.length_append, hR.length_eq]
  omega
/-- The next setup is a right one. -/
theorem nextGo_ok {parts : List ByteArray} {later : List (List ByteArray)} (xs : List ByteArray) : ∀ out : List ByteArray, SetOk out → xs.Nodup → (∀ x ∈ xs, keyB x = true ∧ x ∉ out) → SetOk (nextGo parts later out xs) := by
  induction xs with
  | nil => intro out h _ _; exact h
  | cons x xs ih =>
    intro out h hn hx
    rw [nextGo]
    have hn' := List.nodup_cons.mp hn
    have hx0 := hx x (by simp)
    cases hb : pickB parts later out out.length with
    | none => exact ih out h hn'.2 fun y hy => hx y (List.mem_cons_of_mem _ hy)
    | some i =>
      have hi := (pickB_lt _ _ _ _ _ hb).1
      have hm : ∀ y, y ∈ out.set i x → y = x ∨ y ∈ out := fun y hy => by
        rcases List.mem_or_eq_of_mem_set hy with h | h
        · exact .inr h
        · exact .inl h
      refine ih _ ⟨?_, by rw [List.length_set]; exact h.2.1, ?_, ?_⟩ hn'.2 (fun y hy => ⟨(hx y (List.mem_cons_of_mem _ hy)).1, fun hc => ?_⟩)
      · intro e
        have := congrArg List.length e
        rw [List.length_set] at this
        exact h.1 (List.length_eq_zero_iff.mp (by simpa using this))
      · intro y hy
        rcases hm y hy with rfl | h2
        · exact .inr hx0.1
        · exact h.2.2.1 y h2
      · rw [List.pairwise_iff_getElem]
        intro a b ha hb hab he
        rw [List.length_set] at ha hb
        have hp := List.pairwise_iff_getElem.mp h.2.2.2 a b ha hb hab
        rw [List.getElem_set] at he ⊢
        rw [List.getElem_set]
        split at he
        · rename_i e
          subst e
          rw [if_pos rfl, if_neg (by omega)]
          exact fun e => hx0.2 (e ▸ List.getElem_mem hb)
        · rename_i e
          rw [if_neg e]
          split
          · exact fun e => hx0.2 (e ▸ List.getElem_mem ha)
          · exact hp he
      · rcases hm y hc with rfl | h2
        · exact hn'.1 hy
        · exact (hx y (List.mem_cons_of_mem _ hy)).2 h2
theorem missOf_nodup {s parts : List ByteArray} (hpa : PaOk parts) : (missOf s parts).Nodup := by
  have : parts.Nodup := hpa.2.imp fun h e => by subst e; exact List.lt_irrefl _ h
  exact this.filter _
theorem missOf_mem {s parts : List ByteArray} {x : ByteArray} (h : x ∈ missOf s parts) : x ∈ parts ∧ x ∉ s := by
  have h := List.mem_filter.mp h
  exact ⟨h.1, has_false.mp (by simpa using h.2)⟩
theorem nextOf_ok {s parts : List ByteArray} {later : List (List ByteArray)} (h : SetOk s) (hpa : PaOk parts) : SetOk (nextOf s parts later) :=
  nextGo_ok _ _ h (missOf_nodup hpa) fun x hx => ⟨hpa.1 x (missOf_mem hx).1, (missOf_mem hx).2⟩

/-- The setups for products in an order, and the loads of all. -/
def setupsOf : List ByteArray → List (List ByteArray) → List (List ByteArray)
  | _, [] => []
  | s, l :: r => nextOf s l r :: setupsOf (nextOf s l r) r
def sumOf : List ByteArray → List (List ByteArray) → Nat
  | _, [] => 0
  | s, x :: r => loadsOf s x + sumOf x r
def totalOf (s : List ByteArray) (p : List (List ByteArray)) : Nat := sumOf s (setupsOf s p)
theorem setupsOf_len (p : List (List ByteArray)) : ∀ s, (setupsOf s p).length = p.length := by
  induction p with
  | nil => intro s; rfl
  | cons l r ih => intro s; simp [setupsOf, ih]
/-- The setup before product k, and the one behind. -/
def upTo (s : List ByteArray) (p : List (List ByteArray)) : Nat → List ByteArray
  | 0 => s
  | k + 1 => nextOf (upTo s p k) (p.getD k []) (p.drop (k + 1))
theorem upTo_cons (s l : List ByteArray) (r : List (List ByteArray)) : ∀ k, upTo s (l :: r) (k + 1) = upTo (nextOf s l r) r k := by
  intro k
  induction k with
  | zero => rfl
  | succ k ih => rw [upTo, ih, upTo]; rfl
theorem setupsOf_map (p : List (List ByteArray)) : ∀ s, setupsOf s p = (List.range p.length).map fun k => upTo s p (k + 1) := by
  induction p with
  | nil => intro s; rfl
  | cons l r ih =>
    intro s
    rw [setupsOf, ih, List.length_cons, List.range_succ_eq_map, List.map_cons, List.map_map]
    congr 1
    refine List.map_congr_left fun k _ => ?_
    exact (upTo_cons s l r (k + 1)).symm
theorem upTo_ok {s : List ByteArray} {p : List (List ByteArray)} (h : SetOk s) (hp : ∀ l ∈ p, PaOk l) : ∀ k, k ≤ p.length → SetOk (upTo s p k) ∧ (upTo s p k).length = s.length := by
  intro k
  induction k with
  | zero => intro _; exact ⟨h, rfl⟩
  | succ k ih =>
    intro hk
    obtain ⟨a, b⟩ := ih (by omega)
    have hm : p.getD k [] ∈ p := by rw [List.getD_eq_getElem?_getD, List.getElem?_eq_getElem (show k < p.length by omega)]; exact List.getElem_mem _
    exact ⟨nextOf_ok a (hp _ hm), by rw [upTo, nextOf_length, b]⟩
end Go.Proofs.YtmjonmoagpkdiabGreatDoor
