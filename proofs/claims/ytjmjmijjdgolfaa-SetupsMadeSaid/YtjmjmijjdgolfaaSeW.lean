/-
  The maker of parts of products.
-/
import Derived.Test.YtjmjmijjdgolfaaSeV
namespace Go.Proofs.Ytjmjmijjdgolfaa
open Go.RowKit
set_option linter.unusedSimpArgs false
set_option linter.unusedVariables false

/-- Lists that are made, one by one. -/
def LsSt (base k : Nat) (us : List Value) (L : List (List ByteArray)) (v7 : Value) (wr : World) : Prop :=
  (k = 0 → v7 = .slice none 0 0) ∧ us.length = k ∧ L.length = k ∧ wr.ownsRow base 51 1 v7 k us ∧ ∀ j (h : j < L.length), ∃ u, us[j]? = some u ∧ ReadsF base encS u L[j] wr
section
variable {base k : Nat} {us : List Value} {L : List (List ByteArray)} {v7 : Value} {wr w' : World}
theorem LsSt.kept {sb : Nat} (h : LsSt base k us L v7 wr) (hk : Kept sb wr w') (hs : sb < base) : LsSt base k us L v7 w' := by
  obtain ⟨h1, h2, h3, h4, h5⟩ := h
  exact ⟨h1, h2, h3, kept_own h4 hk hs, fun j hj => by obtain ⟨u, a, b⟩ := h5 j hj; exact ⟨u, a, b.kept hk hs⟩⟩
theorem LsSt.below (h : LsSt base k us L v7 wr) (hb : Below wr.heap.size wr w') : LsSt base k us L v7 w' := by
  obtain ⟨h1, h2, h3, h4, h5⟩ := h
  exact ⟨h1, h2, h3, own_below h4 hb, fun j hj => by obtain ⟨u, a, b⟩ := h5 j hj; exact ⟨u, a, b.below hb⟩⟩
theorem LsSt.noStr (h : LsSt base k us L v7 wr) : ∀ g, v7.ownBlock = some g → ∀ x, wr.cell? ⟨g, 0, none⟩ ≠ some (.string x) := fun g e x hx => by
  obtain ⟨h1, h2, h3, h4, h5⟩ := h
  rcases Nat.eq_zero_or_pos k with h0 | h0
  · rw [h1 h0] at e
    simp [Value.ownBlock] at e
  · obtain ⟨u, a, A, c, b, _⟩ := h5 0 (by omega)
    have := h4.cells e 0 u a
    rw [b] at this
    have h9 : (⟨g, 0, none⟩ : Addr).add 0 = ⟨g, 0, none⟩ := rfl
    rw [h9, hx] at this
    cases this
theorem LsSt.next (h : LsSt base k us L v7 wr) {v7' u : Value} {l : List ByteArray} (hg : wr.grownBy w' v7.ownBlock) (hu : ReadsF base encS u l wr) (hown : w'.ownsRow base 51 1 v7' (k + 1) (us ++ [u])) : LsSt base (k + 1) (us ++ [u]) (L ++ [l]) v7' w' := by
  have hr := h.noStr
  obtain ⟨h1, h2, h3, h4, h5⟩ := h
  refine ⟨fun h => by omega, by simp [h2], by simp [h3], hown, fun j hj => ?_⟩
  rcases Nat.lt_or_ge j L.length with hlt | hge
  · obtain ⟨v, a, b⟩ := h5 j hlt
    refine ⟨v, by rw [List.getElem?_append_left (by omega)]; exact a, ?_⟩
    rw [List.getElem_append_left hlt]
    exact b.grownS hg hr
  · have hj2 : j = L.length := by simp at hj; omega
    subst hj2
    refine ⟨u, by rw [List.getElem?_append_right (by omega), h2, h3]; simp, ?_⟩
    rw [List.getElem_append_right (Nat.le_refl _)]
    simpa using hu.grownS hg hr
theorem LsSt.lists (h : LsSt base k us L v7 wr) : ListsF base v7 L wr := by
  obtain ⟨h1, h2, h3, h4, h5⟩ := h
  obtain ⟨A, c, e, hc, _⟩ := own_slice h4
  refine ⟨A, c, by rw [h3]; exact e, by rw [h3]; exact hc, ?_⟩
  rcases Nat.eq_zero_or_pos k with h0 | h0
  · exact .inl (List.length_eq_zero_iff.mp (by omega))
  · obtain ⟨g, cap, e2, hb, hl, _, _, hrd⟩ := own_read h4 h0
    rw [e] at e2
    cases e2
    refine .inr ⟨g, 0, rfl, hb, hl, fun j hj => ?_⟩
    obtain ⟨u, a, b⟩ := h5 j hj
    exact ⟨u, by rw [Nat.zero_add]; exact hrd j u a, b⟩
theorem LsSt.put {g cap i : Nat} (h : LsSt base k us L (.slice (some ⟨g, 0, none⟩) k cap) wr) (hi : i < k) {u : Value} {l : List ByteArray} (hu : ReadsF base encS u l wr) : LsSt base k (us.set i u) (L.set i l) (.slice (some ⟨g, 0, none⟩) k cap) (wr.setCell ⟨g, i, none⟩ u) := by
  have hr := h.noStr g rfl
  obtain ⟨h1, h2, h3, h4, h5⟩ := h
  have hg : wr.grownBy (wr.setCell ⟨g, i, none⟩ u) (some g) := ⟨rfl, rfl, rfl, by simp [World.setCell], fun j hj hne => Below.heap_setCell wr _ u j (fun e => hne (by rw [e]))⟩
  have hr' : ∀ g', some g = some g' → ∀ x, wr.cell? ⟨g', 0, none⟩ ≠ some (.string x) := fun g' e => by cases e; exact hr
  refine ⟨fun h => by omega, by simpa using h2, by simpa using h3, own_set h4 i u, fun j hj => ?_⟩
  rw [List.length_set] at hj
  by_cases e : i = j
  · subst e
    refine ⟨u, by rw [List.getElem?_set_self (by omega)], ?_⟩
    rw [List.getElem_set_self]
    exact hu.grownS hg hr'
  · obtain ⟨v, a, b⟩ := h5 j hj
    refine ⟨v, by rw [List.getElem?_set_ne e]; exact a, ?_⟩
    rw [List.getElem_set_ne e]
    exact b.grownS hg hr'
end

def PlsOf (sb b m : Nat) (w : World) (e : Ending) (w' : World) : Prop := ∃ (v : Value) (L : List (List ByteArray)), e = .returned v ∧ L.length ≤ m ∧ (∀ l ∈ L, l.length ≤ 7) ∧ Took sb b w w' ∧ ListsF w.heap.size v L w'
theorem cell_lit6 {w : World} {g : Nat} {a0 a1 a2 a3 a4 a5 : Value} {t : TypeId} (h : w.heap[g]? = some (.cells #[a0, a1, a2, a3, a4, a5] t (0, 0))) {i : Nat} (hi : i < 6) (hs : ∀ x ∈ [a0, a1, a2, a3, a4, a5], ∃ s, x = .string s) : ∃ s, w.cell? ⟨g, i, none⟩ = some (.string s) := by
  rw [cell_of_blk h]
  match i, hi with
  | 0, _ => obtain ⟨s, rfl⟩ := hs a0 (by simp); exact ⟨s, rfl⟩
  | 1, _ => obtain ⟨s, rfl⟩ := hs a1 (by simp); exact ⟨s, rfl⟩
  | 2, _ => obtain ⟨s, rfl⟩ := hs a2 (by simp); exact ⟨s, rfl⟩
  | 3, _ => obtain ⟨s, rfl⟩ := hs a3 (by simp); exact ⟨s, rfl⟩
  | 4, _ => obtain ⟨s, rfl⟩ := hs a4 (by simp); exact ⟨s, rfl⟩
  | 5, _ => obtain ⟨s, rfl⟩ := hs a5 (by simp); exact ⟨s, rfl⟩
def Keys6 (g : Nat) (w : World) : Prop := w.heap[g]? = some (.cells #[.string ⟨#[97]⟩, .string ⟨#[98]⟩, .string ⟨#[99]⟩, .string ⟨#[100]⟩, .string ⟨#[101]⟩, .string ⟨#[102]⟩] 9 (0, 0))

set_option maxRecDepth 100000 in
set_option maxHeartbeats 4000000 in
theorem plists_any (sb b n m : Nat) (w : World) (hn : n ≤ 10) (hm : m ≤ 10) (hb : b ≤ 800000) (hs : IsStream w sb b) :
    Calls Try.prog 26 #[.pointer (some ⟨sb, 0, none⟩), .int .i64 n, .int .i64 m] w (PlsOf sb (b + 100) m w) := by
  have hlt := hs.lt
  have CR := Lib.hid (range_any sb b 0 m w (by omega) (by omega) (by omega) (by omega) hs)
  go_enter Try.func26, Try.ntmps26
  go_wp2_with fail
  refine CR.out.mono ?_
  rintro e w0 ⟨z0, hz0, hz1, rfl, t0⟩
  obtain ⟨z, rfl⟩ := Int.eq_ofNat_of_zero_le hz0
  have hzm : z ≤ m := by omega
  have H0 : Hid (Took sb (b + 1) w w0 ∧ LsSt w.heap.size 0 [] [] (.slice none 0 0) w0) := ⟨t0, fun _ => rfl, rfl, rfl, World.ownsRow_nil _ _ _ _, fun j h => by simp at h⟩
  clear t0 CR hz0 hz1
  go_wp2_with fail
  go_loopw [7, 15] (fun v7 kk wr => ∃ (k : Nat) (us : List Value) (L : List (List ByteArray)), k ≤ z ∧ kk = .int .i64 k ∧ w.heap.size ≤ wr.heap.size ∧ Hid (Took sb (b + 1 + 6 * k) w wr ∧ LsSt w.heap.size k us L v7 wr ∧ ∀ l ∈ L, l.length ≤ 6)) (fun _ kk _ => z - (intOf kk).toNat)
  case atStart => exact ⟨0, [], [], by omega, rfl, H0.out.1.size, H0.out.1, H0.out.2, fun l hl => by simp at hl⟩
  case round =>
    clear H0
    obtain ⟨k, us, L, hk, rfl, hwz, HS⟩ := hrel
    obtain ⟨A7, c7, rfl, hc7, _⟩ := own_slice HS.out.2.1.2.2.2.1
    by_cases hlt2 : k < z
    · obtain ⟨wo, rfl⟩ : ∃ wo : World, wo = wr := ⟨_, rfl⟩
      have hsbo : sb < wo.heap.size := by omega
      have HK0 : Hid (Keys6 wo.heap.size (wo.alloc (.cells #[.string ⟨#[97]⟩, .string ⟨#[98]⟩, .string ⟨#[99]⟩, .string ⟨#[100]⟩, .string ⟨#[101]⟩, .string ⟨#[102]⟩] 9)) ∧ Took sb (b + 1 + 6 * k + 0) wo (wo.alloc (.cells #[.string ⟨#[97]⟩, .string ⟨#[98]⟩, .string ⟨#[99]⟩, .string ⟨#[100]⟩, .string ⟨#[101]⟩, .string ⟨#[102]⟩] 9)) ∧ (wo.alloc (.cells #[.string ⟨#[97]⟩, .string ⟨#[98]⟩, .string ⟨#[99]⟩, .string ⟨#[100]⟩, .string ⟨#[101]⟩, .string ⟨#[102]⟩] 9)).ownsRow (wo.heap.size + 1) 9 1 (.slice none 0 0) ([] : List ByteArray).length (([] : List ByteArray).map Value.string)) :=
        ⟨blk_new wo _ rfl, (Took.refl HS.out.1.1).alloc _, World.ownsRow_nil _ _ _ _⟩
      go_wp2_with fail
      go_loopw [8, 19] (fun v8 kk wq => ∃ (i : Nat) (l : List ByteArray), i ≤ 6 ∧ kk = .int .i64 i ∧ l.length ≤ i ∧ wo.heap.size + 1 ≤ wq.heap.size ∧ Hid (Keys6 wo.heap.size wq ∧ Took sb (b + 1 + 6 * k + i) wo wq ∧ wq.ownsRow (wo.heap.size + 1) 9 1 v8 l.length (l.map Value.string))) (fun _ kk _ => 6 - (intOf kk).toNat)
      case atStart => exact ⟨0, [], by omega, rfl, by simp, by simp, HK0⟩
      case round =>
        clear HK0
        obtain ⟨i, l, hi, rfl, hli, hqz, HI⟩ := hrel
        obtain ⟨A8, c8, rfl, hc8, _⟩ := own_slice HI.out.2.2
        by_cases hi6 : i < 6
        · obtain ⟨x, q1⟩ := cell_lit6 HI.out.1 hi6 (fun x hx => by simp at hx; rcases hx with rfl | rfl | rfl | rfl | rfl | rfl <;> exact ⟨_, rfl⟩)
          have hkl := lt_of_blk HI.out.1
          have i1 : (0 : Int) ≤ (i : Int) := by omega
          have i2 : (i : Int) < 6 := by omega
          have CF := Lib.hid (flip_any sb (b + 1 + 6 * k + i) 3 wr (by omega) (by omega) (by omega) HI.out.2.1.1)
          go_wp2_with fail
          refine CF.out.mono ?_
          rintro e w2 ⟨f, rfl, t2⟩
          have hne : wo.heap.size ≠ sb := by omega
          have H2 : Hid (Keys6 wo.heap.size w2 ∧ Took sb (b + 1 + 6 * k + (i + 1)) wo w2 ∧ w2.ownsRow (wo.heap.size + 1) 9 1 (.slice A8 l.length c8) l.length (l.map Value.string)) := ⟨t2.blk HI.out.1 hne, HI.out.2.1.trans t2, kept_own HI.out.2.2 t2.2 (by omega)⟩
          have hz2 : wo.heap.size + 1 ≤ w2.heap.size := Nat.le_trans hqz t2.size
          clear t2 CF HI q1
          cases f
          · go_wp2_with fail
            go_roundw
            case rel => exact ⟨i + 1, l, by omega, by go_num, by omega, hz2, H2⟩
            case measure => simp [intOf]; omega
          · by_cases hln : l.length < n
            · obtain ⟨i0, hi0, hz0, hzz1, hzz2⟩ := info_parts str_info9
              have HIF := Lib.hid (And.intro hi0 (And.intro hz0 (And.intro hzz1 hzz2)))
              clear hi0 hz0 hzz1 hzz2
              go_wp2_with (at_builtin; refine hold ?_)
              refine loose ?_
              refine wpList_append_own _ rfl _ _ 51 rfl (wo.heap.size + 1) 9 i0 _ 1 16 Try.underlying51 HIF.out.1 HIF.out.2.1 HIF.out.2.2.1 HIF.out.2.2.2 rfl (by omega) _ l.length (l.map Value.string) rfl (H2.out.2.2.alloc _) ⟨w2.heap.size, 0, none⟩ 1 1 [.string x] rfl rfl (cell_one_new _ _ _) (by intro u hu; simp at hu; subst hu; rfl) (by unfold maxLen; omega) (by omega) (by simp; omega) ?_
              intro v' w3 hown' hg' _
              have HF : Hid (Keys6 wo.heap.size w3 ∧ Took sb (b + 1 + 6 * k + (i + 1)) wo w3 ∧ w3.ownsRow (wo.heap.size + 1) 9 1 v' (l ++ [x]).length ((l ++ [x]).map Value.string)) := by
                have hr := own_row H2.out.2.2
                refine ⟨(hg'.block _ (by simp; omega) (fun e => by have := hr _ e.symm; omega)).trans (blk_alloc H2.out.1 _), (H2.out.2.1.alloc _).grown hsbo hg' (fun j e => by have := hr j e; omega), ?_⟩
                rw [List.length_append, List.map_append]
                exact hown'
              have hz3 : wo.heap.size + 1 ≤ w3.heap.size := by have := hg'.size; simp at this; omega
              clear hown' hg'
              go_wp2_with fail
              go_roundw
              case rel => exact ⟨i + 1, l ++ [x], by omega, by go_num, by simp; omega, hz3, HF⟩
              case measure => simp [intOf]; omega
            · go_wp2_with fail
              go_roundw
              case rel => exact ⟨i + 1, l, by omega, by go_num, by omega, hz2, H2⟩
              case measure => simp [intOf]; omega
        · obtain rfl : i = 6 := by omega
          have HL : Hid (Took sb (b + 1 + 6 * (k + 1)) w wr ∧ LsSt w.heap.size k us L (.slice A7 k c7) wr ∧ ReadsF w.heap.size encS (.slice A8 l.length c8) l wr) :=
            ⟨(HS.out.1.trans HI.out.2.1).more (by omega), HS.out.2.1.kept HI.out.2.1.2 (by omega), (own_strs HI.out.2.2).least (by omega)⟩
          obtain ⟨i0, hi0, hz0, hzz1, hzz2⟩ := info_parts lst_info
          have HIF := Lib.hid (And.intro hi0 (And.intro hz0 (And.intro hzz1 hzz2)))
          clear hi0 hz0 hzz1 hzz2 HI
          go_wp2_with (at_builtin; refine hold ?_)
          refine loose ?_
          refine wpList_append_own _ rfl _ _ 54 rfl w.heap.size 51 i0 _ 1 24 Try.underlying54 HIF.out.1 HIF.out.2.1 HIF.out.2.2.1 HIF.out.2.2.2 rfl (by omega) _ k us rfl (HL.out.2.1.2.2.2.1.alloc _) ⟨wr.heap.size, 0, none⟩ 1 1 [.slice A8 l.length c8] rfl rfl (cell_one_new _ _ _) (by intro u hu; simp at hu; subst hu; rfl) (by unfold maxLen; omega) (by omega) (by simp; omega) ?_
          intro v' w3 hown' hg' _
          have hal : Below wr.heap.size wr (wr.alloc (.cells #[.slice A8 l.length c8] 51)) := (Below.refl _ _).alloc (Nat.le_refl _) _
          have HF : Hid (Took sb (b + 1 + 6 * (k + 1)) w w3 ∧ LsSt w.heap.size (k + 1) (us ++ [.slice A8 l.length c8]) (L ++ [l]) v' w3 ∧ ∀ x ∈ L ++ [l], x.length ≤ 6) := by
            refine ⟨(HL.out.1.alloc _).grown hlt hg' (own_row HL.out.2.1.2.2.2.1), (HL.out.2.1.below hal).next hg' (HL.out.2.2.below hal) hown', fun x hx => ?_⟩
            rcases List.mem_append.mp hx with h | h
            · exact HS.out.2.2 x h
            · simp only [List.mem_singleton] at h
              subst h
              omega
          have hz3 := HF.out.1.size
          clear hown' hg' hal
          go_wp2_with fail
          go_roundw
          case rel => exact ⟨k + 1, _, _, by omega, by go_num, hz3, HF⟩
          case measure => simp [intOf]; omega
    · obtain rfl : k = z := by omega
      rcases Nat.eq_zero_or_pos k with h0 | h0
      · subst h0
        go_wp2_with fail
        go_ret
        exact ⟨_, L, rfl, by rw [HS.out.2.1.2.2.1]; omega, fun l hl => by have := HS.out.2.2 l hl; omega, HS.out.1.more (by omega), HS.out.2.1.lists⟩
      have CF := Lib.hid (flip_any sb (b + 1 + 6 * k) 15 wr (by omega) (by omega) (by omega) HS.out.1.1)
      have hd0 : decide ((0 : Int) < (k : Int)) = true := decide_eq_true (by omega)
      go_wp2_with fail
      refine CF.out.mono ?_
      rintro e w1 ⟨f, rfl, t1⟩
      have H1 : Hid (Took sb (b + 1 + 6 * k + 1) w w1 ∧ LsSt w.heap.size k us L (.slice A7 k c7) w1 ∧ ∀ l ∈ L, l.length ≤ 6) := ⟨HS.out.1.trans t1, HS.out.2.1.kept t1.2 hlt, HS.out.2.2⟩
      clear t1 CF HS
      cases f
      · go_wp2_with fail
        go_ret
        exact ⟨_, L, rfl, by rw [H1.out.2.1.2.2.1]; omega, fun l hl => by have := H1.out.2.2 l hl; omega, H1.out.1.more (by omega), H1.out.2.1.lists⟩
      · have CN := Lib.hid (next_any sb (b + 1 + 6 * k + 1) k w1 (by omega) (by omega) (by omega) H1.out.1.1)
        obtain ⟨g7, cap7, e7, hg7, _, _, _, _⟩ := own_read H1.out.2.1.2.2.2.1 h0
        cases e7
        go_wp2_with fail
        refine CN.out.mono ?_
        rintro e w2 ⟨q0, hq0, hq1, rfl, t2⟩
        obtain ⟨q, rfl⟩ := Int.eq_ofNat_of_zero_le hq0
        have hqk : q < k := by omega
        have H2 : Hid (Took sb (b + 1 + 6 * k + 2) w w2 ∧ LsSt w.heap.size k us L (.slice (some ⟨g7, 0, none⟩) k c7) w2 ∧ ∀ l ∈ L, l.length ≤ 6) := ⟨H1.out.1.trans t2, H1.out.2.1.kept t2.2 hlt, H1.out.2.2⟩
        clear t2 CN H1
        obtain ⟨u, hu1, hu2⟩ := H2.out.2.1.2.2.2.2 q (by rw [H2.out.2.1.2.2.1]; exact hqk)
        have hlq := H2.out.2.2 (L[q]'(by rw [H2.out.2.1.2.2.1]; exact hqk)) (List.getElem_mem _)
        generalize (L[q]'(by rw [H2.out.2.1.2.2.1]; exact hqk)) = l at *
        have HU := Lib.hid hu2
        obtain ⟨Au, cu, rfl, z1, z2⟩ := hu2
        clear z1 z2
        have q1 : w2.cell? ⟨g7, q, none⟩ = some (.slice Au l.length cu) := by
          obtain ⟨g', cap', hv, _, _, _, _, hrd⟩ := own_read H2.out.2.1.2.2.2.1 h0
          cases hv
          exact hrd q _ hu1
        have hgl : g7 < w2.heap.size := own_lt H2.out.2.1.2.2.2.1 g7 rfl
        have j3 : (0 : Int) ≤ (q : Int) := by omega
        have j4 : (q : Int) < (k : Int) := by omega
        have CC := Lib.hid (clone_any (by omega) HU.out)
        clear hu1
        go_wp2_with fail
        refine CC.out.mono ?_
        rintro e w3 ⟨u3, rfl, hb3, ho3⟩
        have H3 : Hid (Took sb (b + 1 + 6 * k + 2) w w3 ∧ LsSt w.heap.size k us L (.slice (some ⟨g7, 0, none⟩) k c7) w3 ∧ w3.ownsRow w2.heap.size 9 1 u3 l.length (l.map Value.string)) := ⟨H2.out.1.below hb3, H2.out.2.1.below hb3, ho3⟩
        have hz3 := hb3.size
        have hz2 := H2.out.1.size
        obtain ⟨A3, c3, rfl, _, _⟩ := own_slice ho3
        have CS := Lib.hid (some_lit sb (b + 1 + 6 * k + 2) [⟨#[97]⟩, ⟨#[]⟩, ⟨#[122, 122]⟩, ⟨#[65]⟩] w3 w3.heap.size 4 rfl (by omega) (by omega) rfl (by omega) H3.out.1.1)
        have HKA : Hid (Kept sb w2 w3) := Kept.of_below hb3
        have HQ2 := Lib.hid q1
        clear hb3 ho3 CC q1
        go_wp2_with fail
        refine CS.out.mono ?_
        rintro e w4 ⟨y, hy, rfl, t4⟩
        have H4 : Hid (Took sb (b + 1 + 6 * k + 3) w w4 ∧ LsSt w.heap.size k us L (.slice (some ⟨g7, 0, none⟩) k c7) w4 ∧ w4.ownsRow w2.heap.size 9 1 (.slice A3 l.length c3) l.length (l.map Value.string)) := ⟨H3.out.1.trans t4, H3.out.2.1.kept t4.2 hlt, kept_own H3.out.2.2 t4.2 (by omega)⟩
        have hz4 := t4.size
        have HKB : Hid (Kept sb w2 w4) := HKA.out.then_ t4.2
        clear t4 CS H3 hy HKA
        obtain ⟨i0, hi0, hz0, hzz1, hzz2⟩ := info_parts str_info9
        have HIF := Lib.hid (And.intro hi0 (And.intro hz0 (And.intro hzz1 hzz2)))
        clear hi0 hz0 hzz1 hzz2
        go_wp2_with (at_builtin; refine hold ?_)
        refine loose ?_
        refine wpList_append_own _ rfl _ _ 51 rfl w2.heap.size 9 i0 _ 1 16 Try.underlying51 HIF.out.1 HIF.out.2.1 HIF.out.2.2.1 HIF.out.2.2.2 rfl (by omega) _ l.length (l.map Value.string) rfl (H4.out.2.2.alloc _) ⟨w4.heap.size, 0, none⟩ 1 1 [.string y] rfl rfl (cell_one_new _ _ _) (by intro u hu; simp at hu; subst hu; rfl) (by unfold maxLen; omega) (by omega) (by simp; omega) ?_
        intro v' w5 hown' hg' _
        have hal : Below w4.heap.size w4 (w4.alloc (.cells #[.string y] 9)) := (Below.refl _ _).alloc (Nat.le_refl _) _
        have hr5 := own_row H4.out.2.2
        have hread : ReadsF w2.heap.size encS v' (l ++ [y]) w5 := by
          refine own_strs ?_
          rw [List.length_append, List.map_append]
          exact hown'
        have hbel : Below w2.heap.size w4 w5 := (hal.mono (by omega)).grown hg' (by simp; omega) (fun j e => hr5 j e)
        have HT5 : Hid (Took sb (b + 1 + 6 * k + 3) w w5) := (H4.out.1.alloc _).grown hlt hg' (fun j e => by have := hr5 j e; omega)
        have hk5 : Kept sb w2 w5 := by
          obtain ⟨o1, o2, o3⟩ := HKB.out.outer
          exact ⟨⟨hbel.os.trans o1, hbel.tape.trans o2, hbel.output.trans o3⟩, Nat.le_trans HKB.out.more hbel.size, fun i hi hne => (hbel.block i hi).trans (HKB.out.old i hi hne)⟩
        have HL5 : Hid (LsSt w.heap.size k us L (.slice (some ⟨g7, 0, none⟩) k c7) w5) := by
          exact H2.out.2.1.kept hk5 hlt
        have hz5 := HT5.out.size
        have hgl5 : g7 < w5.heap.size := own_lt HL5.out.2.2.2.1 g7 rfl
        have q1 : w5.cell? ⟨g7, q, none⟩ = some (.slice Au l.length cu) := (hk5.cell (p := ⟨g7, q, none⟩) hgl (by show g7 ≠ sb; omega)).trans HQ2.out
        have f1 : w5.frozen? ⟨g7, q, none⟩ = false := own_frozen HL5.out.2.2.2.1 q
        obtain ⟨A5, c5, rfl, z1, z2⟩ := own_slice hown'
        clear z1 z2
        have HF : Hid (Took sb (b + 100) w (w5.setCell ⟨g7, q, none⟩ (.slice A5 (l.length + 1) c5)) ∧ LsSt w.heap.size k (us.set q (.slice A5 (l.length + 1) c5)) (L.set q (l ++ [y])) (.slice (some ⟨g7, 0, none⟩) k c7) (w5.setCell ⟨g7, q, none⟩ (.slice A5 (l.length + 1) c5)) ∧ (L.set q (l ++ [y])).length ≤ m ∧ ∀ x ∈ L.set q (l ++ [y]), x.length ≤ 7) := by
          refine ⟨(HT5.out.more (by omega)).setCell hg7 hlt _, HL5.out.put hqk (hread.least (by omega)), by rw [List.length_set, HL5.out.2.2.1]; omega, fun x hx => ?_⟩
          rcases List.mem_or_eq_of_mem_set hx with h | h
          · have := H2.out.2.2 x h; omega
          · rw [h]; simp; omega
        clear hown' hg' hal hread hbel hr5 hk5
        go_wp2_with fail
        go_ret
        exact ⟨_, _, rfl, HF.out.2.2.1, HF.out.2.2.2, HF.out.1, HF.out.2.1.lists⟩
end Go.Proofs.Ytjmjmijjdgolfaa
