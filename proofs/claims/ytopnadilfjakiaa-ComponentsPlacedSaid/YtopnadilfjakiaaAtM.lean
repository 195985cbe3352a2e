/-
  Plain words and the search for the placement of a name.
-/
import Derived.Test.YtopnadilfjakiaaSpotR
import Derived.Test.YtopnadilfjakiaaPlaceAt
import Derived.Test.YtopnadilfjakiaaBod
import Derived.Test.YtopnadilfjakiaaPlacing
namespace Go.Proofs.Ytopnadilfjakiaa
open Go.RowKit

theorem PlacingAt.below {key : ByteArray} {W H : Int} {A : Option Addr} {n c k : Nat} {t : Sl} {v : Value} {w w' : World} (h : PlacingAt key W H A n c k t v w) (hb : Below w.heap.size w w') : PlacingAt key W H A n c k t v w' := by
  obtain ⟨h8, h5, h7, hp, e, hpb⟩ := h
  exact ⟨h8, h5, h7, hp, e, hpb.below hb⟩
theorem bt_eq_beq (a b : ByteArray) : (a.toList == b.toList) = decide (bt a = bt b) := by
  have : bt a = a.toList := by simp [bt, Lib.toList_data]
  have h2 : bt b = b.toList := by simp [bt, Lib.toList_data]
  rw [this, h2]
  rw [Bool.eq_iff_iff]
  simp
theorem plIdx_none (nm : ByteArray) : ∀ (l : List Pl) (k : Nat), (∀ p ∈ l, bt p.name ≠ bt nm) → plIdx nm l k = -1
  | [], _, _ => rfl
  | p :: l, k, h => by
    unfold plIdx
    rw [if_neg (by rw [bt_eq_beq]; simpa using h p (by simp))]
    exact plIdx_none nm l (k + 1) fun q hq => h q (by simp [hq])
theorem plIdx_at (nm : ByteArray) : ∀ (l : List Pl) (k i : Nat) (hi : i < l.length), Rising Pl.name l → bt l[i].name = bt nm → plIdx nm l k = (k + i : Nat)
  | [], _, _, hi, _, _ => by simp at hi
  | p :: l, k, 0, _, _, he => by
    unfold plIdx
    rw [if_pos (by rw [bt_eq_beq]; simpa using he)]
    rfl
  | p :: l, k, i + 1, hi, hr, he => by
    unfold plIdx
    have h0 := hr 0 (i + 1) (by omega) hi
    rw [if_neg]
    · rw [plIdx_at nm l (k + 1) i (by simpa using hi) (fun a b hab hb => hr (a + 1) (b + 1) (by omega) (by simp; omega)) he]
      congr 1
      omega
    · rw [bt_eq_beq]
      simp only [decide_eq_true_eq]
      intro e
      simp only [List.getElem_cons_zero] at h0
      rw [he, e] at h0
      exact List.lt_irrefl _ h0
theorem found_idx {nm : ByteArray} {l : List Pl} {e : Ending} (hr : Rising Pl.name l) (h : Found Pl.name l nm e) :
    (plIdx nm l 0 = -1 ∧ ∃ i : Nat, e = .returned (.tuple #[.int .i64 i, .bool false])) ∨ ∃ i : Nat, i < l.length ∧ plIdx nm l 0 = i ∧ e = .returned (.tuple #[.int .i64 i, .bool true]) := by
  obtain ⟨i, f, rfl, h1, h2⟩ := h
  cases f
  · exact .inl ⟨plIdx_none nm l 0 (h2 rfl), i, rfl⟩
  · obtain ⟨hi, he⟩ := h1 rfl
    exact .inr ⟨i, hi, by rw [plIdx_at nm l 0 i hi hr he]; simp, rfl⟩

set_option maxHeartbeats 400000 in
theorem cmpPl_any (p pp : ByteArray) (x y q : Int) (t : ByteArray) (w : World) : Calls Try.prog 29 #[.agg #[.string p, .string pp, .int .i64 x, .int .i64 y, .int .i64 q], .string t] w fun e w' => e = .returned (.int .i64 (Lib.compareBytes (bt p) (bt t))) ∧ Below w.heap.size w w' := by
  go_enter Try.func29, Try.ntmps29
  go_wp2_with fail
  refine (Try.strings_Compare _ _ _).mono ?_
  rintro e w' ⟨rfl, rfl⟩
  go_wp2_with fail
  go_ret
  exact ⟨rfl, (Below.refl _ _).alloc (Nat.le_refl _) _⟩

set_option maxHeartbeats 2000000 in
theorem searchPl_any (A : Option Addr) (c : Nat) (l : List Pl) (t : ByteArray) (w : World) (hA : PlAt w A l) (hl : l.length ≤ 1000) (hr : Rising Pl.name l) :
    Calls Try.prog 28 #[.slice A l.length c, .string t, .func (.func 29) #[] #[]] w fun e w' => Found Pl.name l t e ∧ Below w.heap.size w w' := by
  have HR := Lib.hid hr
  clear hr
  go_enter Try.func28, Try.ntmps28
  go_wp2_with fail
  go_loopg [9, 10] l.length (fun kx s9 s10 wr => ∃ lo hi : Nat, s9 = .int .i64 lo ∧ s10 = .int .i64 hi ∧ lo ≤ hi ∧ hi ≤ l.length ∧ hi - lo ≤ kx ∧ Hid (Below w.heap.size w wr) ∧
    Hid ((∀ j (h : j < l.length), j < lo → bt (l[j]'h).name < bt t) ∧ (∀ j (h : j < l.length), hi ≤ j → ¬ bt (l[j]'h).name < bt t)))
  case atStart => exact ⟨0, l.length, rfl, rfl, Nat.zero_le _, Nat.le_refl _, by omega, Below.refl _ _, fun j _ h => by omega, fun j h h' => by omega⟩
  case round =>
    obtain ⟨lo, hi, rfl, rfl, hlh, hin, hg, HB, HI⟩ := hrel
    by_cases hlt : lo < hi
    · have hm : (lo + hi) / 2 < l.length := by omega
      rcases hA with rfl | ⟨g, rfl, hrow⟩
      · simp at hm
      obtain ⟨c0, c1, c2, c3, c4⟩ := row_pl (hrow.below HB.out) hm
      have hgw : g < wr.heap.size := Nat.lt_of_lt_of_le hrow.1 HB.out.size
      obtain ⟨b, hbb⟩ : ∃ b, l[(lo + hi) / 2] = b := ⟨_, rfl⟩
      rw [hbb] at c0 c1 c2 c3 c4
      have HBB := Lib.hid hbb
      have HROW := Lib.hid hrow
      clear hbb hrow
      obtain ⟨p, pp, x, y, q⟩ := b
      dsimp only at c0 c1 c2 c3 c4
      by_cases hc : Lib.compareBytes (bt p) (bt t) < 0
      · go_wp2_with fail
        refine (cmpPl_any p pp x y q t _).mono ?_
        rintro e w' ⟨rfl, hb'⟩
        have HB' : Hid (Below w.heap.size w w') := HB.out.then_below hb' HB.out.size
        clear hb'
        go_wp2_with fail
        go_roundg (hi - ((lo + hi) / 2 + 1))
        case measure => omega
        case rel =>
          exact ⟨(lo + hi) / 2 + 1, hi, by rw [show ((lo : Int) + (hi : Int)) / 2 + 1 = (((lo + hi) / 2 + 1 : Nat) : Int) by omega], rfl, by omega, hin, Nat.le_refl _, HB', fun j h hj => rising_le HR.out (show j ≤ (lo + hi) / 2 by omega) hm (by rw [HBB.out]; exact (cmpB_lt _ _).mp hc), HI.out.2⟩
      · go_wp2_with fail
        refine (cmpPl_any p pp x y q t _).mono ?_
        rintro e w' ⟨rfl, hb'⟩
        have HB' : Hid (Below w.heap.size w w') := HB.out.then_below hb' HB.out.size
        clear hb'
        go_wp2_with fail
        go_roundg ((lo + hi) / 2 - lo)
        case measure => omega
        case rel =>
          exact ⟨lo, (lo + hi) / 2, rfl, by rw [show ((lo : Int) + (hi : Int)) / 2 = (((lo + hi) / 2 : Nat) : Int) by omega], by omega, by omega, Nat.le_refl _, HB', HI.out.1, fun j h hj hh => absurd ((cmpB_lt (bt p) (bt t)).mpr (by have := rising_le HR.out hj h hh; rw [HBB.out] at this; exact this)) (by omega)⟩
    · obtain rfl : hi = lo := by omega
      by_cases hl2 : hi < l.length
      · rcases hA with rfl | ⟨g, rfl, hrow⟩
        · simp at hl2
        obtain ⟨c0, c1, c2, c3, c4⟩ := row_pl (hrow.below HB.out) hl2
        have hgw : g < wr.heap.size := Nat.lt_of_lt_of_le hrow.1 HB.out.size
        obtain ⟨b, hbb⟩ : ∃ b, l[hi] = b := ⟨_, rfl⟩
        rw [hbb] at c0 c1 c2 c3 c4
        have HBB := Lib.hid hbb
        clear hbb hrow
        obtain ⟨p, pp, x, y, q⟩ := b
        dsimp only at c0 c1 c2 c3 c4
        cases hc : (Lib.compareBytes (bt p) (bt t) == 0)
        all_goals
          have HC := Lib.hid hc
          clear hc
          go_wp2_with fail
          refine (cmpPl_any p pp x y q t _).mono ?_
          rintro e w' ⟨rfl, hb'⟩
          have hc := HC.out
          have HB' : Hid (Below w.heap.size w w') := HB.out.then_below hb' HB.out.size
          clear hb'
          go_wp2_with fail
          go_ret2
        · refine ⟨⟨hi, false, rfl, (fun h => by cases h), fun _ x hx e => ?_⟩, HB'.out⟩
          obtain ⟨j, hj, rfl⟩ := List.getElem_of_mem hx
          have hne : ¬ bt p = bt t := fun e => by
            have := (cmpB_eq (bt p) (bt t)).mpr e
            have h0 := HC.out
            simp [this] at h0
          have hge := HI.out.2 hi hl2 (Nat.le_refl _)
          rw [HBB.out] at hge
          rcases Nat.lt_trichotomy j hi with h1 | h1 | h1
          · have := HI.out.1 j hj h1
            rw [e] at this
            exact List.lt_irrefl _ this
          · subst h1
            rw [HBB.out] at e
            exact hne e
          · have := HR.out hi j h1 hj
            rw [HBB.out, e] at this
            exact hge this
        · refine ⟨⟨hi, true, rfl, fun _ => ⟨hl2, ?_⟩, (fun h => by cases h)⟩, HB'.out⟩
          rw [HBB.out]
          exact (cmpB_eq _ _).mp (by simpa using HC.out)
      · go_wp2_with fail
        go_ret2
        refine ⟨⟨hi, false, rfl, (fun h => by cases h), fun _ x hx e => ?_⟩, HB.out⟩
        obtain ⟨j, hj, rfl⟩ := List.getElem_of_mem hx
        have := HI.out.1 j hj (by omega)
        rw [e] at this
        exact List.lt_irrefl _ this
end Go.Proofs.Ytopnadilfjakiaa
