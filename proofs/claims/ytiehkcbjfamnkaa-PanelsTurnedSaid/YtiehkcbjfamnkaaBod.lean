/-
  The walks of bodies: sizes, distances, the check, the search.
-/
import Derived.Test.YtiehkcbjfamnkaaBod2
import Derived.Test.YtiehkcbjfamnkaaShelf
import Derived.Deep.LoopGhost
namespace Go.Proofs.Ytiehkcbjfamnkaa
open Go.RowKit

set_option maxHeartbeats 400000 in
theorem turned_any (a b q : Int) (w : World) (hq : 0 ≤ q) : Calls Try.prog 103 #[.int .i64 a, .int .i64 b, .int .i64 q] w fun e w' => e = .returned (.tuple #[.int .i64 (turnW a b q), .int .i64 (turnH a b q)]) ∧ w = w' := by
  by_cases h : q % 2 = 1
  · have h1 : (q % 2 == 1) = true := by simpa using h
    have HW : Hid (turnW a b q = b) := by show turnW a b q = b; unfold turnW; rw [if_pos h]
    have HH : Hid (turnH a b q = a) := by show turnH a b q = a; unfold turnH; rw [if_pos h]
    clear h
    go_enter Try.func103, Try.ntmps103
    go_wp2_with fail
    go_ret2
    exact ⟨by rw [HW.out, HH.out]; rfl, rfl⟩
  · have h1 : (q % 2 == 1) = false := by simpa using h
    have HW : Hid (turnW a b q = a) := by show turnW a b q = a; unfold turnW; rw [if_neg h]
    have HH : Hid (turnH a b q = b) := by show turnH a b q = b; unfold turnH; rw [if_neg h]
    clear h
    go_enter Try.func103, Try.ntmps103
    go_wp2_with fail
    go_ret2
    exact ⟨by rw [HW.out, HH.out]; rfl, rfl⟩
set_option maxHeartbeats 400000 in
set_option maxHeartbeats 400000 in
theorem apart_any (a b c d : Int) (w : World) (ha : -10000000 ≤ a ∧ a ≤ 10000000) (hb : -10000000 ≤ b ∧ b ≤ 10000000) (hc : -10000000 ≤ c ∧ c ≤ 10000000) (hd : -10000000 ≤ d ∧ d ≤ 10000000) :
    Calls Try.prog 104 #[.agg #[.int .i64 a, .int .i64 b], .agg #[.int .i64 c, .int .i64 d]] w fun e w' => e = .returned (.int .i64 (max (a - d) (c - b))) ∧ Below w.heap.size w w' := by
  go_enter Try.func104, Try.ntmps104
  go_wp2_with fail

  go_ret
  exact ⟨rfl, ((Below.refl _ _).alloc (Nat.le_refl _) _).alloc (by simp) _⟩
set_option maxHeartbeats 400000 in
theorem cmpBo_any (p : ByteArray) (x y : Int) (t : ByteArray) (w : World) : Calls Try.prog 107 #[.agg #[.string p, .int .i64 x, .int .i64 y], .string t] w fun e w' => e = .returned (.int .i64 (Lib.compareBytes (bt p) (bt t))) ∧ Below w.heap.size w w' := by
  go_enter Try.func107, Try.ntmps107
  go_wp2_with fail
  refine (Try.strings_Compare _ _ _).mono ?_
  rintro e w' ⟨rfl, rfl⟩
  go_wp2_with fail
  go_ret
  exact ⟨rfl, (Below.refl _ _).alloc (Nat.le_refl _) _⟩

/-- What a search for a key says. -/
def Found {α : Type} (key : α → ByteArray) (l : List α) (t : ByteArray) (e : Ending) : Prop :=
  ∃ (i : Nat) (f : Bool), e = .returned (.tuple #[.int .i64 i, .bool f]) ∧ (f = true → ∃ h : i < l.length, bt (key l[i]) = bt t) ∧ (f = false → ∀ x ∈ l, bt (key x) ≠ bt t)

theorem rising_le {α : Type} {key : α → ByteArray} {l : List α} (h : Rising key l) {i j : Nat} (hij : i ≤ j) (hj : j < l.length) {t : List UInt8} (hlt : bt (key l[j]) < t) : bt (key (l[i]'(by omega))) < t := by
  rcases Nat.lt_or_ge i j with h1 | h1
  · exact List.lt_trans (h i j h1 hj) hlt
  · obtain rfl : i = j := by omega
    exact hlt
theorem bo_half (i j n : Nat) (hi : i ≤ n) (hj : j ≤ n) (hn : n ≤ 1000) : True := trivial

set_option maxHeartbeats 2000000 in
theorem searchBo_any (A : Option Addr) (c : Nat) (l : List Bo) (t : ByteArray) (w : World) (hA : BoAt w A l) (hl : l.length ≤ 1000) (hr : Rising Bo.part l) :
    Calls Try.prog 106 #[.slice A l.length c, .string t, .func (.func 107) #[] #[]] w fun e w' => Found Bo.part l t e ∧ Below w.heap.size w w' := by
  have HR := Lib.hid hr
  clear hr
  go_enter Try.func106, Try.ntmps106
  go_wp2_with fail
  go_loopg [9, 10] l.length (fun kx s9 s10 wr => ∃ lo hi : Nat, s9 = .int .i64 lo ∧ s10 = .int .i64 hi ∧ lo ≤ hi ∧ hi ≤ l.length ∧ hi - lo ≤ kx ∧ Hid (Below w.heap.size w wr) ∧
    Hid ((∀ j (h : j < l.length), j < lo → bt (l[j]'h).part < bt t) ∧ (∀ j (h : j < l.length), hi ≤ j → ¬ bt (l[j]'h).part < bt t)))
  case atStart => exact ⟨0, l.length, rfl, rfl, Nat.zero_le _, Nat.le_refl _, by omega, Below.refl _ _, fun j _ h => by omega, fun j h h' => by omega⟩
  case round =>
    obtain ⟨lo, hi, rfl, rfl, hlh, hin, hg, HB, HI⟩ := hrel
    by_cases hlt : lo < hi
    · have hm : (lo + hi) / 2 < l.length := by omega
      rcases hA with rfl | ⟨g, rfl, hrow⟩
      · simp at hm
      obtain ⟨c0, c1, c2⟩ := row_bo (hrow.below HB.out) hm
      have hgw : g < wr.heap.size := Nat.lt_of_lt_of_le hrow.1 HB.out.size
      obtain ⟨b, hbb⟩ : ∃ b, l[(lo + hi) / 2] = b := ⟨_, rfl⟩
      rw [hbb] at c0 c1 c2
      have HBB := Lib.hid hbb
      have HROW := Lib.hid hrow
      clear hbb hrow
      obtain ⟨p, x, y⟩ := b
      dsimp only at c0 c1 c2
      by_cases hc : Lib.compareBytes (bt p) (bt t) < 0
      · go_wp2_with fail
        refine (cmpBo_any p x y t _).mono ?_
        rintro e w' ⟨rfl, hb'⟩
        have HB' : Hid (Below w.heap.size w w') := HB.out.then_below hb' HB.out.size
        clear hb'
        go_wp2_with fail
        go_roundg (hi - ((lo + hi) / 2 + 1))
        case measure => omega
        case rel =>
          exact ⟨(lo + hi) / 2 + 1, hi, by rw [show ((lo : Int) + (hi : Int)) / 2 + 1 = (((lo + hi) / 2 + 1 : Nat) : Int) by omega], rfl, by omega, hin, Nat.le_refl _, HB', fun j h hj => rising_le HR.out (show j ≤ (lo + hi) / 2 by omega) hm (by rw [HBB.out]; exact (cmpB_lt _ _).mp hc), HI.out.2⟩
      · go_wp2_with fail
        refine (cmpBo_any p x y t _).mono ?_
        rintro e w' ⟨rfl, hb'⟩
        have HB' : Hid (Below w.heap.size w w') := HB.out.then_below hb' HB.out.size
        clear hb'
        go_wp2_with fail
        go_roundg ((lo + hi) / 2 - lo)
        case measure => omega
        case rel =>
          exact ⟨lo, (lo + hi) / 2, rfl, by rw [show ((lo : Int) + (hi : Int)) / 2 = (((lo + hi) / 2 : Nat) : Int) by omega], by omega, by omega, Nat.le_refl _, HB', HI.out.1, fun j h hj hh => absurd ((cmpB_lt (bt p) (bt t)).mpr (by have := rising_le HR.out hj h hh; rw [HBB.out] at this; exact this)) (by omega)⟩
    · obtain rfl : hi = lo := by omega
      by_cases hl2 : hi < l.length
      · rcases hA with rfl | ⟨g, rfl, hrow⟩
        · simp at hl2
        obtain ⟨c0, c1, c2⟩ := row_bo (hrow.below HB.out) hl2
        have hgw : g < wr.heap.size := Nat.lt_of_lt_of_le hrow.1 HB.out.size
        obtain ⟨b, hbb⟩ : ∃ b, l[hi] = b := ⟨_, rfl⟩
        rw [hbb] at c0 c1 c2
        have HBB := Lib.hid hbb
        clear hbb hrow
        obtain ⟨p, x, y⟩ := b
        dsimp only at c0 c1 c2
        cases hc : (Lib.compareBytes (bt p) (bt t) == 0)
        all_goals
          have HC := Lib.hid hc
          clear hc
          go_wp2_with fail
          refine (cmpBo_any p x y t _).mono ?_
          rintro e w' ⟨rfl, hb'⟩
          have hc := HC.out
          have HB' : Hid (Below w.heap.size w w') := HB.out.then_below hb' HB.out.size
          clear hb'
          go_wp2_with fail
          go_ret2
        · refine ⟨⟨hi, false, rfl, (fun h => by cases h), fun _ x hx e => ?_⟩, HB'.out⟩
          obtain ⟨j, hj, rfl⟩ := List.getElem_of_mem hx
          have hne : ¬ bt p = bt t := fun e => by
            have := (cmpB_eq (bt p) (bt t)).mpr e
            have h0 := HC.out
            simp [this] at h0
          have hge := HI.out.2 hi hl2 (Nat.le_refl _)
          rw [HBB.out] at hge
          rcases Nat.lt_trichotomy j hi with h1 | h1 | h1
          · have := HI.out.1 j hj h1
            rw [e] at this
            exact List.lt_irrefl _ this
          · subst h1
            rw [HBB.out] at e
            exact hne e
          · have := HR.out hi j h1 hj
            rw [HBB.out, e] at this
            exact hge this
        · refine ⟨⟨hi, true, rfl, fun _ => ⟨hl2, ?_⟩, (fun h => by cases h)⟩, HB'.out⟩
          rw [HBB.out]
          exact (cmpB_eq _ _).mp (by simpa using HC.out)
      · go_wp2_with fail
        go_ret2
        refine ⟨⟨hi, false, rfl, (fun h => by cases h), fun _ x hx e => ?_⟩, HB.out⟩
        obtain ⟨j, hj, rfl⟩ := List.getElem_of_mem hx
        have := HI.out.1 j hj (by omega)
        rw [e] at this
        exact List.lt_irrefl _ this
end Go.Proofs.Ytiehkcbjfamnkaa
