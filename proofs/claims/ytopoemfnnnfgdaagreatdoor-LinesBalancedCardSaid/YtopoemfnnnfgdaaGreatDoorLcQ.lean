/-
  The maker of machines: the walk.
-/
import Derived.Test.YtopoemfnnnfgdaaGreatDoorLcP
import Derived.Test.YtopoemfnnnfgdaaGreatDoorLcB
namespace Go.Proofs.YtopoemfnnnfgdaaGreatDoor
open Go.RowKit
set_option linter.unusedSimpArgs false
set_option linter.unusedVariables false

abbrev McZ (B : Nat) (W : World) := {x : Mc × Value // CanAt B x W}
def encMZ (B : Nat) (W : World) (x : McZ B W) : List Value := encMv x.1
theorem mz_typ {B : Nat} {W : World} (x : McZ B W) : (encMZ B W x).length = 5 := rfl
theorem mz_str0 {B : Nat} {W : World} (s : ByteArray) (x : McZ B W) : ∃ y, (encMZ B W x).set 0 (.string s) = encMZ B W y := ⟨⟨(⟨s, x.1.1.each, x.1.1.fixed, x.1.1.feed, x.1.1.can⟩, x.1.2), x.2⟩, rfl⟩
theorem mz_int1 {B : Nat} {W : World} (s : Int) (x : McZ B W) : ∃ y, (encMZ B W x).set 1 (.int .i64 s) = encMZ B W y := ⟨⟨(⟨x.1.1.key, s, x.1.1.fixed, x.1.1.feed, x.1.1.can⟩, x.1.2), x.2⟩, rfl⟩
theorem mz_int2 {B : Nat} {W : World} (s : Int) (x : McZ B W) : ∃ y, (encMZ B W x).set 2 (.int .i64 s) = encMZ B W y := ⟨⟨(⟨x.1.1.key, x.1.1.each, s, x.1.1.feed, x.1.1.can⟩, x.1.2), x.2⟩, rfl⟩
theorem mz_int3 {B : Nat} {W : World} (s : Int) (x : McZ B W) : ∃ y, (encMZ B W x).set 3 (.int .i64 s) = encMZ B W y := ⟨⟨(⟨x.1.1.key, x.1.1.each, x.1.1.fixed, s, x.1.1.can⟩, x.1.2), x.2⟩, rfl⟩
theorem mz_row {B : Nat} {W0 : World} {T k sb b g len cap base n i : Nat} {W : World} (h : RowI (encMZ B W0) T k sb b g len cap base n W) (hk : k = 5) (hi : i < len) :
    ∃ (s1 : ByteArray) (x y z : Int) (u : Value), W.cell? ⟨g, i * 5, none⟩ = some (.string s1) ∧ W.cell? ⟨g, i * 5 + 1, none⟩ = some (.int .i64 x) ∧ W.cell? ⟨g, i * 5 + 2, none⟩ = some (.int .i64 y) ∧ W.cell? ⟨g, i * 5 + 3, none⟩ = some (.int .i64 z) ∧ W.cell? ⟨g, i * 5 + 4, none⟩ = some u := by
  subst hk
  obtain ⟨p, hp⟩ := h.cell (fun _ => rfl) hi
  exact ⟨p.1.1.key, p.1.1.each, p.1.1.fixed, p.1.1.feed, p.1.2, hp 0 (by omega), hp 1 (by omega), hp 2 (by omega), hp 3 (by omega), hp 4 (by omega)⟩
theorem zlistM {α : Type} (P : α → Prop) (l : List α) (h : ∀ a ∈ l, P a) : ∃ lz : List {a // P a}, lz.map Subtype.val = l ∧ lz.length = l.length := by
  induction l with
  | nil => exact ⟨[], rfl, rfl⟩
  | cons a l ih =>
    obtain ⟨lz, e1, e2⟩ := ih (fun x hx => h x (List.mem_cons_of_mem _ hx))
    exact ⟨⟨a, h a List.mem_cons_self⟩ :: lz, by simp [e1], by simp [e2]⟩
theorem mzflat {B : Nat} {W : World} (lz : List (McZ B W)) : lz.flatMap (encMZ B W) = (lz.map Subtype.val).flatMap encMv := by
  induction lz with
  | nil => rfl
  | cons a l ih => rw [List.flatMap_cons, List.map_cons, List.flatMap_cons, ih]; rfl
theorem run_convRune (n : Int) (W : World) : (convert 21 9 (.int .i32 n)).run Tryz.prog W = .ok (.string (Utf8.encode n)) W := by
  have h1 : Tryz.prog.underlying 21 = some (.int .i32) := Tryz.underlying21
  have h2 : Tryz.prog.underlying 9 = some .string := Tryz.underlying9
  simp [convert, run_underlying h1, run_underlying h2, Conv.intToString]
/-- Machines that a stream makes. -/
def MachOf (sb b : Nat) (w : World) (e : Ending) (w' : World) : Prop :=
  ∃ (v : Value) (us : List (Mc × Value)), e = .returned v ∧ 1 ≤ us.length ∧ us.length ≤ 3 ∧ Took sb b w w' ∧ w'.ownsRow w.heap.size 57 5 v us.length (us.flatMap encMv) ∧ ∀ x ∈ us, Can7 w.heap.size x w'

set_option maxRecDepth 100000 in
set_option maxHeartbeats 8000000 in
theorem machines_any (sb b : Nat) (w : World) (hb : b ≤ 800000) (hs : IsStream w sb b) :
    Calls Tryz.prog 4 #[.pointer (some ⟨sb, 0, none⟩)] w (MachOf sb (b + 120) w) := by
  have hlt := hs.lt
  have HS0 := Lib.hid hs
  clear hs
  obtain ⟨i0, hi0, hz0, hzz1, hz20⟩ := info_parts str_info9
  have HIS := Lib.hid (And.intro hi0 (And.intro hz0 (And.intro hzz1 hz20)))
  obtain ⟨i1, hi1, hy0, hyy1, hy20⟩ := info_parts mach_info
  have HIM := Lib.hid (And.intro hi1 (And.intro hy0 (And.intro hyy1 hy20)))
  clear hi0 hz0 hzz1 hz20 hi1 hy0 hyy1 hy20
  go_enter Tryz.func4, Tryz.ntmps4
  go_wp2_with fail
  refine (range_any sb b 1 3 w (by omega) (by omega) (by omega) (by omega) HS0.out).mono ?_
  rintro e w1 ⟨m, hm0, hm1, rfl, t1⟩
  obtain ⟨m, rfl⟩ := Int.eq_ofNat_of_zero_le (show 0 ≤ m by omega)
  have T1 := Lib.hid t1
  have hz1 := t1.size
  clear t1
  go_wp2_with fail
  go_loopw [3, 11] (fun v kk wr => ∃ (k : Nat) (us : List (Mc × Value)), k ≤ m ∧ kk = .int .i64 k ∧ Hid (us.length = k) ∧ w.heap.size ≤ wr.heap.size ∧ Hid (MM w sb (b + 1 + 8 * k) v us wr)) (fun _ kk _ => m - (intOf kk).toNat)
  case atStart => exact ⟨0, [], by omega, rfl, rfl, hz1, T1.out, World.ownsRow_nil _ _ _ _, fun x hx => by simp at hx, List.Pairwise.nil⟩
  case round =>
    obtain ⟨k, us, hk, rfl, HLEN, hwz, HS⟩ := hrel
    have hrow := HS.out.row
    obtain ⟨A3, k3, rfl, hA3⟩ := own_form hrow
    have HA3 := Lib.hid hA3
    clear hA3 hrow
    rw [HLEN.out] at HS HA3 ⊢
    have hk3 : k ≤ 3 := by omega
    by_cases hkm : k < m
    · have hss : (Utf8.encode (49 + (k : Int))).size ≤ 4 := by
        have h3 : k = 0 ∨ k = 1 ∨ k = 2 := by omega
        rcases h3 with rfl | rfl | rfl <;> decide
      obtain ⟨sk, hsk⟩ : ∃ sk, Utf8.encode (49 + (k : Int)) = sk := ⟨_, rfl⟩
      rw [hsk] at hss
      have hcv : ∀ W : World, (convert 21 9 (.int .i32 (49 + (k : Int)))).run Tryz.prog W = .ok (.string sk) W := fun W => by rw [← hsk]; exact run_convRune _ W
      have hw3 : IntKind.i32.wrap (49 + (k : Int)) = 49 + (k : Int) := by rw [IntKind.wrap_i32]; omega
      clear hsk
      have HSS : Hid (1 + sk.size ≤ 100) := by show _ ≤ _; omega
      have hsz9 : ¬ (9223372036854775807 < 1 + sk.size) := by omega
      go_wp2_with fail
      refine (pick_lit sb (b + 1 + 8 * k) [1, 2, 3, 0] wr wr.heap.size 4 rfl (by omega) (by omega) rfl (by omega) HS.out.tk.1).mono ?_
      rintro e w2 ⟨each, _, rfl, t2⟩
      have hz2 := t2.size
      go_wp2_with fail
      refine (pick_lit sb (b + 1 + 8 * k + 1) [0, 1, 5, 20] w2 w2.heap.size 4 rfl (by omega) (by omega) rfl (by omega) t2.1).mono ?_
      rintro e w3 ⟨fixed, _, rfl, t3⟩
      have hz3 := t3.size
      go_wp2_with fail
      refine (pick_lit sb (b + 1 + 8 * k + 1 + 1) [1, 2, 3, 5] w3 w3.heap.size 4 rfl (by omega) (by omega) rfl (by omega) t3.1).mono ?_
      rintro e w4 ⟨feed, _, rfl, t4⟩
      have hz4 := t4.size
      have H4 := Lib.hid (HS.out.took ((t2.trans t3).trans t4) hlt)
      generalize (({ data := #[109] } : ByteArray) ++ sk) = key at *
      have HMI : Hid (MI w sb (b + 1 + 8 * k + 3 + 0) (.slice A3 k k3) us w4.heap.size key each fixed feed (.slice none 0 0) [] ((w4.alloc (.cells #[.string key, .int .i64 each, .int .i64 fixed, .int .i64 feed, .slice none 0 0] 57)).alloc (.cells #[.string ⟨#[97]⟩, .string ⟨#[98]⟩, .string ⟨#[99]⟩, .string ⟨#[100]⟩, .string ⟨#[101]⟩] 9))) :=
        ⟨(H4.out.alloc _).alloc _, blk_alloc (blk_new w4 _ rfl) _, blk_new _ _ (by simp), World.ownsRow_nil _ _ _ _, H4.out.tk.size, own_lt H4.out.row, fun x hx => own_lt (H4.out.cans x hx).2⟩
      clear t2 t3 t4 HS hcv hw3 hsz9 H4
      go_upto_region 7 with (fail)
      generalize (w4.alloc (.cells #[.string key, .int .i64 each, .int .i64 fixed, .int .i64 feed, .slice none 0 0] 57)).alloc (.cells #[.string ⟨#[97]⟩, .string ⟨#[98]⟩, .string ⟨#[99]⟩, .string ⟨#[100]⟩, .string ⟨#[101]⟩] 9) = w5 at *
      obtain ⟨p, hp⟩ : ∃ p, w4.heap.size = p := ⟨_, rfl⟩
      rw [hp] at HMI ⊢
      have hwp : w.heap.size ≤ p := by omega
      clear hp
      go_loopw [31] (fun kk wr => ∃ (i : Nat) (l : List ByteArray) (vc : Value), i ≤ 5 ∧ l.length ≤ i ∧ kk = .int .i64 i ∧ p < wr.heap.size ∧ Hid (MI w sb (b + 1 + 8 * k + 3 + i) (.slice A3 k k3) us p key each fixed feed vc l wr)) (fun kk _ => 5 - (intOf kk).toNat)
      case atStart => exact ⟨0, [], _, by omega, by simp, rfl, lt_of_blk HMI.out.box, HMI⟩
      case round =>
        clear HMI
        obtain ⟨i, l, vc, hi, hli, rfl, hpz, HM⟩ := hrel
        have hcan := HM.out.can
        obtain ⟨A4, k4, rfl, _⟩ := own_form hcan
        clear hcan
        by_cases hi5 : i < 5
        · have hsl : ∃ s : ByteArray, wr.cell? ⟨p + 1, i, none⟩ = some (.string s) := by
            rw [cell_of_blk HM.out.lit]
            have : i = 0 ∨ i = 1 ∨ i = 2 ∨ i = 3 ∨ i = 4 := by omega
            rcases this with rfl | rfl | rfl | rfl | rfl <;> exact ⟨_, rfl⟩
          obtain ⟨s, hsk⟩ := hsl
          have hll := lt_of_blk HM.out.lit
          go_wp2_with fail
          refine (flip_any sb (b + 1 + 8 * k + 3 + i) _ _ (by omega) (by omega) (by omega) HM.out.mm.tk.1).mono ?_
          rintro e w6 ⟨f, rfl, t6⟩
          have H6 := Lib.hid (HM.out.took t6 hlt)
          have hpz6 : p < w6.heap.size := lt_of_blk H6.out.box
          clear t6 HM hsk hll
          cases f
          · obtain ⟨_, _, _, _, p4⟩ := blk5 H6.out.box
            go_wp2_with (at_builtin; refine hold ?_)
            refine loose ?_
            refine wpList_append_own _ rfl _ _ 40 rfl (p + 2) 9 i0 _ 1 16 Tryz.underlying40 HIS.out.1 HIS.out.2.1 HIS.out.2.2.1 HIS.out.2.2.2 rfl (by omega) _ l.length (l.map Value.string) rfl (H6.out.can.alloc _) ⟨w6.heap.size, 0, none⟩ 1 1 [.string s] rfl rfl (cell_one_new _ _ _) (by intro u hu; simp at hu; subst hu; rfl) (by unfold maxLen; omega) (by omega) (by have := lt_of_blk H6.out.lit; simp; omega) ?_
            intro v' w7 hown' hg' _
            have hga : w6.grownBy (w6.alloc (.cells #[.string s] 9)) (Value.slice A4 l.length k4).ownBlock := ⟨rfl, rfl, rfl, by simp, fun j hj _ => Below.heap_alloc w6 _ j hj⟩
            have hg2 := hga.trans hg'
            have H7 := Lib.hid (H6.out.push hlt hown' hg2)
            have hb7 : w7.heap[p]? = some (.cells #[.string key, .int .i64 each, .int .i64 fixed, .int .i64 feed, .slice A4 l.length k4] 57 (0, 0)) := (hg2.block p hpz6 (fun e => by have := own_row H6.out.can p e.symm; omega)).trans H6.out.box
            have c7 := cell_of_blk hb7 4
            have f7 := frozen_of_blk hb7 4
            have l7 := lt_of_blk hb7
            simp at c7
            obtain ⟨A7, k7, rfl, _⟩ := own_form hown'
            have hz7 := lt_of_blk H7.out.box
            clear hown' hg' hg2 hga H6 p4 hb7
            go_wp2_with fail
            go_roundw
            case rel => exact ⟨i + 1, l ++ [s], _, by omega, by simp; omega, by go_num, hz7, H7⟩
            case measure => simp [intOf]; omega
          · go_wp2_with fail
            go_roundw
            case rel => exact ⟨i + 1, l, _, by omega, by omega, by go_num, hpz6, H6⟩
            case measure => simp [intOf]; omega
        · obtain rfl : i = 5 := by omega
          obtain ⟨p0, p1, p2, p3, p4⟩ := blk5 HM.out.box
          have hrow := HM.out.mm.row
          rw [HLEN.out] at hrow
          have hl6 : l.length ≤ 6 := by omega
          go_wp2_with (at_builtin; refine hold ?_)
          refine loose ?_
          refine wpList_append_own _ rfl _ _ 26 rfl w.heap.size 57 i1 _ 5 64 Tryz.underlying26 HIM.out.1 HIM.out.2.1 HIM.out.2.2.1 HIM.out.2.2.2 rfl (by omega) _ k (us.flatMap encMv) rfl (hrow.alloc _) ⟨wr.heap.size, 0, none⟩ 1 1 (encMv (⟨key, each, fixed, feed, l⟩, .slice A4 l.length k4)) rfl rfl ?c1 (by intro u hu; simp [encMv] at hu; rcases hu with rfl | rfl | rfl | rfl | rfl <;> rfl) (by unfold maxLen; omega) (by omega) (by simp; omega) ?_
          case c1 =>
            intro j u hu
            rw [addr_new, cell_of_blk (blk_new (g := wr.heap.size) _ _ rfl)]
            simpa [encMv] using hu
          intro v' w7 hown' hg' _
          have hga : wr.grownBy (wr.alloc (.cells #[.string key, .int .i64 each, .int .i64 fixed, .int .i64 feed, .slice A4 l.length k4] 57)) (Value.slice A3 k k3).ownBlock := ⟨rfl, rfl, rfl, by simp, fun j hj _ => Below.heap_alloc wr _ j hj⟩
          have hg2 := hga.trans hg'
          rw [← HLEN.out] at hown'
          have H8 : Hid (MM w sb (b + 1 + 8 * (k + 1)) v' (us ++ [(⟨key, each, fixed, feed, l⟩, .slice A4 l.length k4)]) w7) := (HM.out.done hlt hl6 hown' hg2).more (by omega)
          have HLN8 : Hid ((us ++ [((⟨key, each, fixed, feed, l⟩ : Mc), Value.slice A4 l.length k4)]).length = k + 1) := by show _ = _; rw [List.length_append, HLEN.out]; rfl
          have hz8 := H8.out.tk.size
          clear hown' hg' hg2 hga HM p0 p1 p2 p3 p4 hrow
          go_wp2_with fail
          go_roundw
          case rel => exact ⟨k + 1, us ++ [(⟨key, each, fixed, feed, l⟩, .slice A4 l.length k4)], by omega, by go_num, HLN8, hz8, H8⟩
          case measure => simp [intOf]; omega
    · obtain rfl : k = m := by omega
      obtain ⟨wo, hwo⟩ : ∃ wo : World, wo = wr := ⟨_, rfl⟩
      rw [← hwo] at HS hwz HA3 ⊢
      clear hwo
      obtain ⟨g, rfl, hgl, hgb⟩ := HA3.out (by omega)
      go_wp2_with fail
      refine (flip_any sb (b + 1 + 8 * k) _ _ (by omega) (by omega) (by omega) HS.out.tk.1).mono ?_
      rintro e w4 ⟨f, rfl, t4⟩
      have hsz4 := t4.size
      have H4 := Lib.hid (HS.out.took t4 hlt)
      clear t4 HS
      cases f
      · go_wp2_with fail
        go_ret
        have hrow := H4.out.row
        refine ⟨_, us, rfl, by rw [HLEN.out]; omega, by rw [HLEN.out]; omega, H4.out.tk.more (by omega), ?_, fun x hx => (H4.out.cans x hx).seven⟩
        rw [HLEN.out] at hrow ⊢
        exact hrow
      · go_wp2_with fail
        refine (next_any sb (b + 1 + 8 * k + 1) _ _ (by omega) (by omega) (by omega) H4.out.tk.1).mono ?_
        rintro e w5 ⟨x5, q0, q1, rfl, t5⟩
        obtain ⟨j, rfl⟩ := Int.eq_ofNat_of_zero_le q0
        have hj : j < k := by omega
        have hsz5 := t5.size
        have H5 := Lib.hid (H4.out.took t5 hlt)
        clear t5 H4
        have hg5 : g < w5.heap.size := by omega
        go_wp2_with fail
        refine (next_any sb (b + 1 + 8 * k + 1 + 1) _ _ (by omega) (by omega) (by omega) H5.out.tk.1).mono ?_
        rintro e w6 ⟨x, x0, x3, rfl, t6⟩
        have hsz6 := t6.size
        have H6 := Lib.hid (H5.out.took t6 hlt)
        clear t6 H5
        have hg6 : g < w6.heap.size := by omega
        have hx : x = 0 ∨ x = 1 ∨ x = 2 := by omega
        have hrow := H6.out.row
        rw [HLEN.out] at hrow
        obtain ⟨lz, hlz, hlzl⟩ := zlistM _ us H6.out.cans
        have HI0 : Hid (RowI (encMZ w.heap.size w6) 57 5 sb (b + 27 + 1) g k k3 w.heap.size 0 w6.drew) := ⟨H6.out.tk.1.drew.more (by omega), lz, by rw [hlzl, HLEN.out], by rw [mzflat, hlz]; exact hrow⟩
        have HFIN : Hid (∀ W : World, Kept2 sb g w6.drew W → ∀ l2 : List {x : Mc × Value // CanAt w.heap.size x w6}, ∀ x ∈ l2.map Subtype.val, CanAt w.heap.size x W) := fun W hk l2 x hx => by
          obtain ⟨y, _, rfl⟩ := List.mem_map.mp hx
          refine ⟨y.2.1, own_sameO y.2.2 (fun j hj => hk.old j (own_lt y.2.2 j hj) ?_ ?_)⟩
          · have := own_row y.2.2 j hj
            omega
          · rintro rfl
            exact own_apartM y.2.2 hrow (by decide) hj rfl
        clear hlz hlzl hrow x0 x3
        rcases hx with rfl | rfl | rfl
        · go_upto_region 19 with (fail)
          refine Rg.rgL (Kept2 sb g)
            [(fun vs u => vs 0 = .pointer (some ⟨g, j * 5, none⟩)), (fun vs u => vs 1 = .pointer (some ⟨g, j * 5, none⟩)), (fun vs u => vs 2 = .pointer (some ⟨sb, 0, none⟩)), (fun vs u => StrSl w6.heap.size 3 (vs 3) u), (fun vs u => ∃ s : ByteArray, vs 4 = .string s), (fun vs u => vs 5 = .pointer (some ⟨sb, 0, none⟩)), (fun vs u => vs 6 = .pointer (some ⟨g, j * 5, none⟩)), (fun vs u => vs 7 = .pointer (some ⟨g, j * 5, none⟩)), (fun vs u => vs 8 = .pointer (some ⟨g, j * 5 + 3, none⟩)), (fun vs u => ∃ x : Int, vs 9 = .int .i64 x), (fun vs u => IntSl w6.heap.size 3 (vs 10) u), (fun vs u => ∃ x : Int, vs 11 = .int .i64 x), (fun vs u => vs 12 = .pointer (some ⟨g, j * 5, none⟩)), (fun vs u => vs 13 = .pointer (some ⟨g, j * 5, none⟩)), (fun _ _ => True)]
            [[], [], [], [], [2, 3], [], [], [6], [6, 7], [6, 7, 8], [6, 7, 8, 9], [2, 3, 4, 5, 6, 7, 8, 9, 10], [0, 2, 3, 4, 5, 6, 7, 8, 9, 10, 11], [0, 2, 3, 4, 5, 6, 7, 8, 9, 10, 11, 12], [0, 2, 3, 4, 5, 6, 7, 8, 9, 10, 11, 12, 13]] [some 74, some 75, some 76, some 77, some 78, some 79, some 80, some 81, some 82, some 83, some 84, some 85, some 86, some 87, none, some 88, some 89, none] [] (RowI (encMZ w.heap.size w6) 57 5 sb (b+27+1) g k k3 w.heap.size) [[], [], [], [], [2, 3], [], [], [6], [6, 7], [6, 7, 8], [6, 7, 8, 9], [2, 3, 4, 5, 6, 7, 8, 9, 10], [0, 2, 3, 4, 5, 6, 7, 8, 9, 10, 11], [0, 2, 3, 4, 5, 6, 7, 8, 9, 10, 11, 12], [0, 2, 3, 4, 5, 6, 7, 8, 9, 10, 11, 12, 13], [0, 1, 2, 3, 4, 5, 6, 7, 8, 9, 10, 11, 12, 13, 14], [0, 1, 2, 3, 4, 5, 6, 7, 8, 9, 10, 11, 12, 13, 14, 15], [0, 1, 2, 3, 4, 5, 6, 7, 8, 9, 10, 11, 12, 13, 14, 15, 16]]
            (by kernel_rfl) (by decide) (by kernel_rfl) (by kernel_rfl) (by kernel_rfl) (by kernel_rfl) (by kernel_rfl) (fun _ => Kept2.same _ _ _) (fun _ _ _ h k => h.then_ k) (fun _ _ h => h.more) ?_ (HI0.out) ?_ ?_
          · intro t ht vs w w' h hE
            simp only [List.mem_cons, List.not_mem_nil, or_false] at ht
            rcases ht with rfl | rfl | rfl | rfl | rfl | rfl | rfl | rfl | rfl | rfl | rfl | rfl | rfl | rfl | rfl
            · exact h
            · exact h
            · exact h
            · exact h.kept2 hE (by omega) (by omega)
            · exact h
            · exact h
            · exact h
            · exact h
            · exact h
            · exact h
            · exact h.kept2 hE (by omega) (by omega)
            · exact h
            · exact h
            · exact h
            · exact h
          ·
            refine Rg.cons 0 1 rfl (Rg.plain rfl ?_) ?_
            · intro vs W n hn hI hG hT hF K hK
              simp only [Rg.putsD, List.getD_cons_zero, List.getD_cons_succ, Act.put, List.setIfInBounds_toArray, List.set_cons_zero, List.set_cons_succ] at hK ⊢
              have hn1 : n < 18 := hn
              clear hn
              clear hF
              have H := Lib.hid hK
              clear hK hT
              go_simp
              exact H.out _ _ (Kept2.same _ _ _) rfl (fun h => by cases h) hI.step
            refine Rg.cons 1 2 rfl (Rg.plain rfl ?_) ?_
            · intro vs W n hn hI hG hT hF K hK
              simp only [Rg.putsD, List.getD_cons_zero, List.getD_cons_succ, Act.put, List.setIfInBounds_toArray, List.set_cons_zero, List.set_cons_succ] at hK ⊢
              have hn1 : n < 18 := hn
              clear hn
              clear hF
              have H := Lib.hid hK
              clear hK hT
              go_simp
              exact H.out _ _ (Kept2.same _ _ _) rfl (fun h => by cases h) hI.step
            refine Rg.cons 2 3 rfl (Rg.plain rfl ?_) ?_
            · intro vs W n hn hI hG hT hF K hK
              simp only [Rg.putsD, List.getD_cons_zero, List.getD_cons_succ, Act.put, List.setIfInBounds_toArray, List.set_cons_zero, List.set_cons_succ] at hK ⊢
              have hn1 : n < 18 := hn
              clear hn
              clear hF
              have H := Lib.hid hK
              clear hK hT
              go_simp
              exact H.out _ _ (Kept2.same _ _ _) rfl (fun h => by cases h) hI.step
            refine Rg.cons 3 4 rfl (Rg.plain rfl ?_) ?_
            · intro vs W n hn hI hG hT hF K hK
              simp only [Rg.putsD, List.getD_cons_zero, List.getD_cons_succ, Act.put, List.setIfInBounds_toArray, List.set_cons_zero, List.set_cons_succ] at hK ⊢
              have hn1 : n < 18 := hn
              clear hn
              clear hF
              have H := Lib.hid hK
              clear hK hT
              go_simp
              exact H.out _ _ (Kept2.alloc _) (StrSl.new [⟨#[]⟩, ⟨#[109, 49]⟩, ⟨#[65]⟩] rfl hG.more) (fun h => by cases h) (hI.alloc _)
            refine Rg.cons 4 5 rfl (Rg.plain rfl ?_) ?_
            · intro vs W n hn hI hG hT hF K hK
              simp only [Rg.putsD, List.getD_cons_zero, List.getD_cons_succ, Act.put, List.setIfInBounds_toArray, List.set_cons_zero, List.set_cons_succ] at hK ⊢
              have hn1 : n < 18 := hn
              clear hn
              clear hF
              have t2 : vs 2 = .pointer (some ⟨sb, 0, none⟩) := hT 2 (by decide)
              have t3 : StrSl w6.heap.size 3 (vs 3) W := hT 3 (by decide)
              obtain ⟨b3, xs3, n3, c3, e3, k3⟩ := t3
              have N3 := Lib.hid (And.intro n3 k3)
              clear n3 k3
              simp only [e3] at hK
              simp only [t2] at hK
              have H := Lib.hid hK
              clear hK hT
              go_simp
              refine (some_blk N3.out.2 N3.out.1 (by decide) (by decide) (by omega) (by omega) hI.1).mono ?_
              rintro e w1 ⟨x, _, rfl, ht⟩
              exact H.out _ _ (.of_took ht) ⟨_, rfl⟩ (fun h => by cases h) (hI.took ht (by omega))
            refine Rg.cons 5 6 rfl (Rg.plain rfl ?_) ?_
            · intro vs W n hn hI hG hT hF K hK
              simp only [Rg.putsD, List.getD_cons_zero, List.getD_cons_succ, Act.put, List.setIfInBounds_toArray, List.set_cons_zero, List.set_cons_succ] at hK ⊢
              have hn1 : n < 18 := hn
              clear hn
              clear hF
              have H := Lib.hid hK
              clear hK hT
              go_simp
              exact H.out _ _ (Kept2.same _ _ _) rfl (fun h => by cases h) hI.step
            refine Rg.cons 6 7 rfl (Rg.plain rfl ?_) ?_
            · intro vs W n hn hI hG hT hF K hK
              simp only [Rg.putsD, List.getD_cons_zero, List.getD_cons_succ, Act.put, List.setIfInBounds_toArray, List.set_cons_zero, List.set_cons_succ] at hK ⊢
              have hn1 : n < 18 := hn
              clear hn
              clear hF
              have H := Lib.hid hK
              clear hK hT
              go_simp
              exact H.out _ _ (Kept2.same _ _ _) rfl (fun h => by cases h) hI.step
            refine Rg.cons 7 8 rfl (Rg.plain rfl ?_) ?_
            · intro vs W n hn hI hG hT hF K hK
              simp only [Rg.putsD, List.getD_cons_zero, List.getD_cons_succ, Act.put, List.setIfInBounds_toArray, List.set_cons_zero, List.set_cons_succ] at hK ⊢
              have hn1 : n < 18 := hn
              clear hn
              clear hF
              have t6 : vs 6 = .pointer (some ⟨g, j * 5, none⟩) := hT 6 (by decide)
              simp only [t6] at hK
              have H := Lib.hid hK
              clear hK hT
              go_simp
              exact H.out _ _ (Kept2.same _ _ _) rfl (fun h => by cases h) hI.step
            refine Rg.cons 8 9 rfl (Rg.plain rfl ?_) ?_
            · intro vs W n hn hI hG hT hF K hK
              simp only [Rg.putsD, List.getD_cons_zero, List.getD_cons_succ, Act.put, List.setIfInBounds_toArray, List.set_cons_zero, List.set_cons_succ] at hK ⊢
              have hn1 : n < 18 := hn
              clear hn
              clear hF
              have t7 : vs 7 = .pointer (some ⟨g, j * 5, none⟩) := hT 7 (by decide)
              simp only [t7] at hK
              have H := Lib.hid hK
              clear hK hT
              go_simp
              exact H.out _ _ (Kept2.same _ _ _) rfl (fun h => by cases h) hI.step
            refine Rg.cons 9 10 rfl (Rg.plain rfl ?_) ?_
            · intro vs W n hn hI hG hT hF K hK
              simp only [Rg.putsD, List.getD_cons_zero, List.getD_cons_succ, Act.put, List.setIfInBounds_toArray, List.set_cons_zero, List.set_cons_succ] at hK ⊢
              have hn1 : n < 18 := hn
              clear hn
              clear hF
              have t8 : vs 8 = .pointer (some ⟨g, j * 5 + 3, none⟩) := hT 8 (by decide)
              obtain ⟨z1, z2, z3, z4, z5, c0, c1, c2, c3, c4⟩ := mz_row hI rfl hj
              simp only [t8] at hK
              have H := Lib.hid hK
              clear hK hT
              go_simp
              exact H.out _ _ (Kept2.same _ _ _) ⟨_, rfl⟩ (fun h => by cases h) hI.step
            refine Rg.cons 10 11 rfl (Rg.plain rfl ?_) ?_
            · intro vs W n hn hI hG hT hF K hK
              simp only [Rg.putsD, List.getD_cons_zero, List.getD_cons_succ, Act.put, List.setIfInBounds_toArray, List.set_cons_zero, List.set_cons_succ] at hK ⊢
              have hn1 : n < 18 := hn
              clear hn
              clear hF
              have t9 : ∃ x : Int, vs 9 = .int .i64 x := hT 9 (by decide)
              obtain ⟨x9, e9⟩ := t9
              simp only [e9] at hK
              have H := Lib.hid hK
              clear hK hT
              go_simp
              exact H.out _ _ (Kept2.alloc _) (IntSl.new [x9, (-1), 101] rfl hG.more) (fun h => by cases h) (hI.alloc _)
            refine Rg.cons 11 12 rfl (Rg.plain rfl ?_) ?_
            · intro vs W n hn hI hG hT hF K hK
              simp only [Rg.putsD, List.getD_cons_zero, List.getD_cons_succ, Act.put, List.setIfInBounds_toArray, List.set_cons_zero, List.set_cons_succ] at hK ⊢
              have hn1 : n < 18 := hn
              clear hn
              clear hF
              have t5 : vs 5 = .pointer (some ⟨sb, 0, none⟩) := hT 5 (by decide)
              have t10 : IntSl w6.heap.size 3 (vs 10) W := hT 10 (by decide)
              obtain ⟨b10, xs10, n10, c10, e10, k10⟩ := t10
              have N10 := Lib.hid (And.intro n10 k10)
              clear n10 k10
              simp only [e10] at hK
              simp only [t5] at hK
              have H := Lib.hid hK
              clear hK hT
              go_simp
              refine (pick_blk N10.out.2 N10.out.1 (by decide) (by decide) (by omega) (by omega) hI.1).mono ?_
              rintro e w1 ⟨x, _, rfl, ht⟩
              exact H.out _ _ (.of_took ht) ⟨_, rfl⟩ (fun h => by cases h) (hI.took ht (by omega))
            refine Rg.cons 12 13 rfl (Rg.plain rfl ?_) ?_
            · intro vs W n hn hI hG hT hF K hK
              simp only [Rg.putsD, List.getD_cons_zero, List.getD_cons_succ, Act.put, List.setIfInBounds_toArray, List.set_cons_zero, List.set_cons_succ] at hK ⊢
              have hn1 : n < 18 := hn
              clear hn
              clear hF
              have t0 : vs 0 = .pointer (some ⟨g, j * 5, none⟩) := hT 0 (by decide)
              simp only [t0] at hK
              have H := Lib.hid hK
              clear hK hT
              go_simp
              exact H.out _ _ (Kept2.same _ _ _) rfl (fun h => by cases h) hI.step
            refine Rg.cons 13 14 rfl (Rg.plain rfl ?_) ?_
            · intro vs W n hn hI hG hT hF K hK
              simp only [Rg.putsD, List.getD_cons_zero, List.getD_cons_succ, Act.put, List.setIfInBounds_toArray, List.set_cons_zero, List.set_cons_succ] at hK ⊢
              have hn1 : n < 18 := hn
              clear hn
              clear hF
              have t12 : vs 12 = .pointer (some ⟨g, j * 5, none⟩) := hT 12 (by decide)
              simp only [t12] at hK
              have H := Lib.hid hK
              clear hK hT
              go_simp
              exact H.out _ _ (Kept2.same _ _ _) rfl (fun h => by cases h) hI.step
            refine Rg.cons 14 15 rfl (Rg.plain rfl ?_) ?_
            · intro vs W n hn hI hG hT hF K hK
              simp only [Rg.putsD, List.getD_cons_zero, List.getD_cons_succ, Act.put, List.setIfInBounds_toArray, List.set_cons_zero, List.set_cons_succ] at hK ⊢
              have hn1 : n < 18 := hn
              clear hn
              clear hF
              have t13 : vs 13 = .pointer (some ⟨g, j * 5, none⟩) := hT 13 (by decide)
              have t4 : ∃ s : ByteArray, vs 4 = .string s := hT 4 (by decide)
              obtain ⟨s4, e4⟩ := t4
              simp only [e4] at hK
              obtain ⟨z1, z2, z3, z4, z5, c0, c1, c2, c3, c4⟩ := mz_row hI rfl hj
              have fz := hI.frozen (j * 5)
              simp only [t13] at hK
              have H := Lib.hid hK
              clear hK hT
              go_simp
              exact H.out (.bool true) _ ((Kept2.same sb g W).store (p := ⟨g, _, none⟩) rfl _) trivial (fun h => by cases h) (hI.store (j := 0) mz_typ hj (by decide) _ (by omega) (mz_str0 _))
            exact Rg.nil
          · intro vs W hG hI hT hF
            have t0 : vs 0 = .pointer (some ⟨g, j * 5, none⟩) := hT 0 (by decide)
            have t1 : vs 1 = .pointer (some ⟨g, j * 5, none⟩) := hT 1 (by decide)
            have t2 : vs 2 = .pointer (some ⟨sb, 0, none⟩) := hT 2 (by decide)
            have t3 : StrSl w6.heap.size 3 (vs 3) W := hT 3 (by decide)
            have t4 : ∃ s : ByteArray, vs 4 = .string s := hT 4 (by decide)
            have t5 : vs 5 = .pointer (some ⟨sb, 0, none⟩) := hT 5 (by decide)
            have t6 : vs 6 = .pointer (some ⟨g, j * 5, none⟩) := hT 6 (by decide)
            have t7 : vs 7 = .pointer (some ⟨g, j * 5, none⟩) := hT 7 (by decide)
            have t8 : vs 8 = .pointer (some ⟨g, j * 5 + 3, none⟩) := hT 8 (by decide)
            have t9 : ∃ x : Int, vs 9 = .int .i64 x := hT 9 (by decide)
            have t10 : IntSl w6.heap.size 3 (vs 10) W := hT 10 (by decide)
            have t11 : ∃ x : Int, vs 11 = .int .i64 x := hT 11 (by decide)
            have t12 : vs 12 = .pointer (some ⟨g, j * 5, none⟩) := hT 12 (by decide)
            have t13 : vs 13 = .pointer (some ⟨g, j * 5, none⟩) := hT 13 (by decide)
            simp only [List.length_cons, List.length_nil, Nat.reduceAdd, List.range, List.range.loop, List.drop_succ_cons, List.drop_zero, Rg.putsD, List.getD_cons_zero, List.getD_cons_succ, Act.put, List.setIfInBounds_toArray, List.set_cons_zero, List.set_cons_succ, t0, t1, t2, t5, t6, t7, t8, t12, t13]
            clear hT t0 t1 t2 t5 t6 t7 t8 t12 t13
            obtain ⟨x11, e11⟩ := t11
            have hIv : RowI (encMZ w.heap.size w6) 57 5 sb (b + 27 + 1) g k k3 w.heap.size 15 W := hI
            obtain ⟨z1, z2, z3, z4, z5, c0, c1, c2, c3, c4⟩ := mz_row hIv rfl hj
            have fz := hIv.frozen (j * 5 + 3)
            have hst := hIv.store mz_typ hj (j := 3) (by decide) (.int .i64 x11) (by omega) (mz_int3 x11)
            have HW2 := Lib.hid (And.intro hst (And.intro (kept_of2 H6.out.tk.drew.2 hG (by omega)) (hG.store (p := ⟨g, j * 5 + 3, none⟩) rfl (.int .i64 x11))))
            have E11 := Lib.hid e11
            clear hst hI hIv hG hF e11 HI0
            simp only [E11.out]
            go_wp2_with fail
            go_ret
            obtain ⟨hs2, l2, hl2, ho2⟩ := HW2.out.1
            refine ⟨_, l2.map Subtype.val, rfl, by rw [List.length_map, hl2]; omega, by rw [List.length_map, hl2]; omega, ⟨hs2.more (by omega), HW2.out.2.1.store (.inr (by simp; omega)) _⟩, ?_, fun x hx => (HFIN.out _ HW2.out.2.2 l2 x hx).seven⟩
            rw [← mzflat, List.length_map, hl2]
            exact ho2
        · go_upto_region 21 with (fail)
          refine Rg.rgL (Kept2 sb g)
            [(fun vs u => vs 0 = .pointer (some ⟨g, j * 5, none⟩)), (fun vs u => vs 1 = .pointer (some ⟨g, j * 5, none⟩)), (fun vs u => vs 2 = .pointer (some ⟨sb, 0, none⟩)), (fun vs u => IntSl w6.heap.size 3 (vs 3) u), (fun vs u => ∃ x : Int, vs 4 = .int .i64 x), (fun vs u => vs 5 = .pointer (some ⟨sb, 0, none⟩)), (fun vs u => vs 6 = .pointer (some ⟨g, j * 5, none⟩)), (fun vs u => vs 7 = .pointer (some ⟨g, j * 5, none⟩)), (fun vs u => vs 8 = .pointer (some ⟨g, j * 5 + 2, none⟩)), (fun vs u => ∃ x : Int, vs 9 = .int .i64 x), (fun vs u => IntSl w6.heap.size 3 (vs 10) u), (fun vs u => ∃ x : Int, vs 11 = .int .i64 x), (fun vs u => vs 12 = .pointer (some ⟨g, j * 5, none⟩)), (fun vs u => vs 13 = .pointer (some ⟨g, j * 5 + 1, none⟩)), (fun _ _ => True)]
            [[], [], [], [], [2, 3], [], [], [6], [6, 7], [6, 7, 8], [6, 7, 8, 9], [2, 3, 4, 5, 6, 7, 8, 9, 10], [0, 2, 3, 4, 5, 6, 7, 8, 9, 10, 11], [0, 2, 3, 4, 5, 6, 7, 8, 9, 10, 11, 12], [0, 2, 3, 4, 5, 6, 7, 8, 9, 10, 11, 12, 13]] [some 92, some 93, some 94, some 95, some 96, some 97, some 98, some 99, some 100, some 101, some 102, some 103, some 104, some 105, none, some 106, some 107, none] [] (RowI (encMZ w.heap.size w6) 57 5 sb (b+27+1) g k k3 w.heap.size) [[], [], [], [], [2, 3], [], [], [6], [6, 7], [6, 7, 8], [6, 7, 8, 9], [2, 3, 4, 5, 6, 7, 8, 9, 10], [0, 2, 3, 4, 5, 6, 7, 8, 9, 10, 11], [0, 2, 3, 4, 5, 6, 7, 8, 9, 10, 11, 12], [0, 2, 3, 4, 5, 6, 7, 8, 9, 10, 11, 12, 13], [0, 1, 2, 3, 4, 5, 6, 7, 8, 9, 10, 11, 12, 13, 14], [0, 1, 2, 3, 4, 5, 6, 7, 8, 9, 10, 11, 12, 13, 14, 15], [0, 1, 2, 3, 4, 5, 6, 7, 8, 9, 10, 11, 12, 13, 14, 15, 16]]
            (by kernel_rfl) (by decide) (by kernel_rfl) (by kernel_rfl) (by kernel_rfl) (by kernel_rfl) (by kernel_rfl) (fun _ => Kept2.same _ _ _) (fun _ _ _ h k => h.then_ k) (fun _ _ h => h.more) ?_ (HI0.out) ?_ ?_
          · intro t ht vs w w' h hE
            simp only [List.mem_cons, List.not_mem_nil, or_false] at ht
            rcases ht with rfl | rfl | rfl | rfl | rfl | rfl | rfl | rfl | rfl | rfl | rfl | rfl | rfl | rfl | rfl
            · exact h
            · exact h
            · exact h
            · exact h.kept2 hE (by omega) (by omega)
            · exact h
            · exact h
            · exact h
            · exact h
            · exact h
            · exact h
            · exact h.kept2 hE (by omega) (by omega)
            · exact h
            · exact h
            · exact h
            · exact h
          ·
            refine Rg.cons 0 1 rfl (Rg.plain rfl ?_) ?_
            · intro vs W n hn hI hG hT hF K hK
              simp only [Rg.putsD, List.getD_cons_zero, List.getD_cons_succ, Act.put, List.setIfInBounds_toArray, List.set_cons_zero, List.set_cons_succ] at hK ⊢
              have hn1 : n < 18 := hn
              clear hn
              clear hF
              have H := Lib.hid hK
              clear hK hT
              go_simp
              exact H.out _ _ (Kept2.same _ _ _) rfl (fun h => by cases h) hI.step
            refine Rg.cons 1 2 rfl (Rg.plain rfl ?_) ?_
            · intro vs W n hn hI hG hT hF K hK
              simp only [Rg.putsD, List.getD_cons_zero, List.getD_cons_succ, Act.put, List.setIfInBounds_toArray, List.set_cons_zero, List.set_cons_succ] at hK ⊢
              have hn1 : n < 18 := hn
              clear hn
              clear hF
              have H := Lib.hid hK
              clear hK hT
              go_simp
              exact H.out _ _ (Kept2.same _ _ _) rfl (fun h => by cases h) hI.step
            refine Rg.cons 2 3 rfl (Rg.plain rfl ?_) ?_
            · intro vs W n hn hI hG hT hF K hK
              simp only [Rg.putsD, List.getD_cons_zero, List.getD_cons_succ, Act.put, List.setIfInBounds_toArray, List.set_cons_zero, List.set_cons_succ] at hK ⊢
              have hn1 : n < 18 := hn
              clear hn
              clear hF
              have H := Lib.hid hK
              clear hK hT
              go_simp
              exact H.out _ _ (Kept2.same _ _ _) rfl (fun h => by cases h) hI.step
            refine Rg.cons 3 4 rfl (Rg.plain rfl ?_) ?_
            · intro vs W n hn hI hG hT hF K hK
              simp only [Rg.putsD, List.getD_cons_zero, List.getD_cons_succ, Act.put, List.setIfInBounds_toArray, List.set_cons_zero, List.set_cons_succ] at hK ⊢
              have hn1 : n < 18 := hn
              clear hn
              clear hF
              have H := Lib.hid hK
              clear hK hT
              go_simp
              exact H.out _ _ (Kept2.alloc _) (IntSl.new [(-1), 10000000, 10000001] rfl hG.more) (fun h => by cases h) (hI.alloc _)
            refine Rg.cons 4 5 rfl (Rg.plain rfl ?_) ?_
            · intro vs W n hn hI hG hT hF K hK
              simp only [Rg.putsD, List.getD_cons_zero, List.getD_cons_succ, Act.put, List.setIfInBounds_toArray, List.set_cons_zero, List.set_cons_succ] at hK ⊢
              have hn1 : n < 18 := hn
              clear hn
              clear hF
              have t2 : vs 2 = .pointer (some ⟨sb, 0, none⟩) := hT 2 (by decide)
              have t3 : IntSl w6.heap.size 3 (vs 3) W := hT 3 (by decide)
              obtain ⟨b3, xs3, n3, c3, e3, k3⟩ := t3
              have N3 := Lib.hid (And.intro n3 k3)
              clear n3 k3
              simp only [e3] at hK
              simp only [t2] at hK
              have H := Lib.hid hK
              clear hK hT
              go_simp
              refine (pick_blk N3.out.2 N3.out.1 (by decide) (by decide) (by omega) (by omega) hI.1).mono ?_
              rintro e w1 ⟨x, _, rfl, ht⟩
              exact H.out _ _ (.of_took ht) ⟨_, rfl⟩ (fun h => by cases h) (hI.took ht (by omega))
            refine Rg.cons 5 6 rfl (Rg.plain rfl ?_) ?_
            · intro vs W n hn hI hG hT hF K hK
              simp only [Rg.putsD, List.getD_cons_zero, List.getD_cons_succ, Act.put, List.setIfInBounds_toArray, List.set_cons_zero, List.set_cons_succ] at hK ⊢
              have hn1 : n < 18 := hn
              clear hn
              clear hF
              have H := Lib.hid hK
              clear hK hT
              go_simp
              exact H.out _ _ (Kept2.same _ _ _) rfl (fun h => by cases h) hI.step
            refine Rg.cons 6 7 rfl (Rg.plain rfl ?_) ?_
            · intro vs W n hn hI hG hT hF K hK
              simp only [Rg.putsD, List.getD_cons_zero, List.getD_cons_succ, Act.put, List.setIfInBounds_toArray, List.set_cons_zero, List.set_cons_succ] at hK ⊢
              have hn1 : n < 18 := hn
              clear hn
              clear hF
              have H := Lib.hid hK
              clear hK hT
              go_simp
              exact H.out _ _ (Kept2.same _ _ _) rfl (fun h => by cases h) hI.step
            refine Rg.cons 7 8 rfl (Rg.plain rfl ?_) ?_
            · intro vs W n hn hI hG hT hF K hK
              simp only [Rg.putsD, List.getD_cons_zero, List.getD_cons_succ, Act.put, List.setIfInBounds_toArray, List.set_cons_zero, List.set_cons_succ] at hK ⊢
              have hn1 : n < 18 := hn
              clear hn
              clear hF
              have t6 : vs 6 = .pointer (some ⟨g, j * 5, none⟩) := hT 6 (by decide)
              simp only [t6] at hK
              have H := Lib.hid hK
              clear hK hT
              go_simp
              exact H.out _ _ (Kept2.same _ _ _) rfl (fun h => by cases h) hI.step
            refine Rg.cons 8 9 rfl (Rg.plain rfl ?_) ?_
            · intro vs W n hn hI hG hT hF K hK
              simp only [Rg.putsD, List.getD_cons_zero, List.getD_cons_succ, Act.put, List.setIfInBounds_toArray, List.set_cons_zero, List.set_cons_succ] at hK ⊢
              have hn1 : n < 18 := hn
              clear hn
              clear hF
              have t7 : vs 7 = .pointer (some ⟨g, j * 5, none⟩) := hT 7 (by decide)
              simp only [t7] at hK
              have H := Lib.hid hK
              clear hK hT
              go_simp
              exact H.out _ _ (Kept2.same _ _ _) rfl (fun h => by cases h) hI.step
            refine Rg.cons 9 10 rfl (Rg.plain rfl ?_) ?_
            · intro vs W n hn hI hG hT hF K hK
              simp only [Rg.putsD, List.getD_cons_zero, List.getD_cons_succ, Act.put, List.setIfInBounds_toArray, List.set_cons_zero, List.set_cons_succ] at hK ⊢
              have hn1 : n < 18 := hn
              clear hn
              clear hF
              have t8 : vs 8 = .pointer (some ⟨g, j * 5 + 2, none⟩) := hT 8 (by decide)
              obtain ⟨z1, z2, z3, z4, z5, c0, c1, c2, c3, c4⟩ := mz_row hI rfl hj
              simp only [t8] at hK
              have H := Lib.hid hK
              clear hK hT
              go_simp
              exact H.out _ _ (Kept2.same _ _ _) ⟨_, rfl⟩ (fun h => by cases h) hI.step
            refine Rg.cons 10 11 rfl (Rg.plain rfl ?_) ?_
            · intro vs W n hn hI hG hT hF K hK
              simp only [Rg.putsD, List.getD_cons_zero, List.getD_cons_succ, Act.put, List.setIfInBounds_toArray, List.set_cons_zero, List.set_cons_succ] at hK ⊢
              have hn1 : n < 18 := hn
              clear hn
              clear hF
              have t9 : ∃ x : Int, vs 9 = .int .i64 x := hT 9 (by decide)
              obtain ⟨x9, e9⟩ := t9
              simp only [e9] at hK
              have H := Lib.hid hK
              clear hK hT
              go_simp
              exact H.out _ _ (Kept2.alloc _) (IntSl.new [x9, (-1), 10000001] rfl hG.more) (fun h => by cases h) (hI.alloc _)
            refine Rg.cons 11 12 rfl (Rg.plain rfl ?_) ?_
            · intro vs W n hn hI hG hT hF K hK
              simp only [Rg.putsD, List.getD_cons_zero, List.getD_cons_succ, Act.put, List.setIfInBounds_toArray, List.set_cons_zero, List.set_cons_succ] at hK ⊢
              have hn1 : n < 18 := hn
              clear hn
              clear hF
              have t5 : vs 5 = .pointer (some ⟨sb, 0, none⟩) := hT 5 (by decide)
              have t10 : IntSl w6.heap.size 3 (vs 10) W := hT 10 (by decide)
              obtain ⟨b10, xs10, n10, c10, e10, k10⟩ := t10
              have N10 := Lib.hid (And.intro n10 k10)
              clear n10 k10
              simp only [e10] at hK
              simp only [t5] at hK
              have H := Lib.hid hK
              clear hK hT
              go_simp
              refine (pick_blk N10.out.2 N10.out.1 (by decide) (by decide) (by omega) (by omega) hI.1).mono ?_
              rintro e w1 ⟨x, _, rfl, ht⟩
              exact H.out _ _ (.of_took ht) ⟨_, rfl⟩ (fun h => by cases h) (hI.took ht (by omega))
            refine Rg.cons 12 13 rfl (Rg.plain rfl ?_) ?_
            · intro vs W n hn hI hG hT hF K hK
              simp only [Rg.putsD, List.getD_cons_zero, List.getD_cons_succ, Act.put, List.setIfInBounds_toArray, List.set_cons_zero, List.set_cons_succ] at hK ⊢
              have hn1 : n < 18 := hn
              clear hn
              clear hF
              have t0 : vs 0 = .pointer (some ⟨g, j * 5, none⟩) := hT 0 (by decide)
              simp only [t0] at hK
              have H := Lib.hid hK
              clear hK hT
              go_simp
              exact H.out _ _ (Kept2.same _ _ _) rfl (fun h => by cases h) hI.step
            refine Rg.cons 13 14 rfl (Rg.plain rfl ?_) ?_
            · intro vs W n hn hI hG hT hF K hK
              simp only [Rg.putsD, List.getD_cons_zero, List.getD_cons_succ, Act.put, List.setIfInBounds_toArray, List.set_cons_zero, List.set_cons_succ] at hK ⊢
              have hn1 : n < 18 := hn
              clear hn
              clear hF
              have t12 : vs 12 = .pointer (some ⟨g, j * 5, none⟩) := hT 12 (by decide)
              simp only [t12] at hK
              have H := Lib.hid hK
              clear hK hT
              go_simp
              exact H.out _ _ (Kept2.same _ _ _) rfl (fun h => by cases h) hI.step
            refine Rg.cons 14 15 rfl (Rg.plain rfl ?_) ?_
            · intro vs W n hn hI hG hT hF K hK
              simp only [Rg.putsD, List.getD_cons_zero, List.getD_cons_succ, Act.put, List.setIfInBounds_toArray, List.set_cons_zero, List.set_cons_succ] at hK ⊢
              have hn1 : n < 18 := hn
              clear hn
              clear hF
              have t13 : vs 13 = .pointer (some ⟨g, j * 5 + 1, none⟩) := hT 13 (by decide)
              have t4 : ∃ x : Int, vs 4 = .int .i64 x := hT 4 (by decide)
              obtain ⟨x4, e4⟩ := t4
              simp only [e4] at hK
              obtain ⟨z1, z2, z3, z4, z5, c0, c1, c2, c3, c4⟩ := mz_row hI rfl hj
              have fz := hI.frozen (j * 5 + 1)
              simp only [t13] at hK
              have H := Lib.hid hK
              clear hK hT
              go_simp
              exact H.out (.bool true) _ ((Kept2.same sb g W).store (p := ⟨g, _, none⟩) rfl _) trivial (fun h => by cases h) (hI.store (j := 1) mz_typ hj (by decide) _ (by omega) (mz_int1 _))
            exact Rg.nil
          · intro vs W hG hI hT hF
            have t0 : vs 0 = .pointer (some ⟨g, j * 5, none⟩) := hT 0 (by decide)
            have t1 : vs 1 = .pointer (some ⟨g, j * 5, none⟩) := hT 1 (by decide)
            have t2 : vs 2 = .pointer (some ⟨sb, 0, none⟩) := hT 2 (by decide)
            have t3 : IntSl w6.heap.size 3 (vs 3) W := hT 3 (by decide)
            have t4 : ∃ x : Int, vs 4 = .int .i64 x := hT 4 (by decide)
            have t5 : vs 5 = .pointer (some ⟨sb, 0, none⟩) := hT 5 (by decide)
            have t6 : vs 6 = .pointer (some ⟨g, j * 5, none⟩) := hT 6 (by decide)
            have t7 : vs 7 = .pointer (some ⟨g, j * 5, none⟩) := hT 7 (by decide)
            have t8 : vs 8 = .pointer (some ⟨g, j * 5 + 2, none⟩) := hT 8 (by decide)
            have t9 : ∃ x : Int, vs 9 = .int .i64 x := hT 9 (by decide)
            have t10 : IntSl w6.heap.size 3 (vs 10) W := hT 10 (by decide)
            have t11 : ∃ x : Int, vs 11 = .int .i64 x := hT 11 (by decide)
            have t12 : vs 12 = .pointer (some ⟨g, j * 5, none⟩) := hT 12 (by decide)
            have t13 : vs 13 = .pointer (some ⟨g, j * 5 + 1, none⟩) := hT 13 (by decide)
            simp only [List.length_cons, List.length_nil, Nat.reduceAdd, List.range, List.range.loop, List.drop_succ_cons, List.drop_zero, Rg.putsD, List.getD_cons_zero, List.getD_cons_succ, Act.put, List.setIfInBounds_toArray, List.set_cons_zero, List.set_cons_succ, t0, t1, t2, t5, t6, t7, t8, t12, t13]
            clear hT t0 t1 t2 t5 t6 t7 t8 t12 t13
            obtain ⟨x11, e11⟩ := t11
            have hIv : RowI (encMZ w.heap.size w6) 57 5 sb (b + 27 + 1) g k k3 w.heap.size 15 W := hI
            obtain ⟨z1, z2, z3, z4, z5, c0, c1, c2, c3, c4⟩ := mz_row hIv rfl hj
            have fz := hIv.frozen (j * 5 + 2)
            have hst := hIv.store mz_typ hj (j := 2) (by decide) (.int .i64 x11) (by omega) (mz_int2 x11)
            have HW2 := Lib.hid (And.intro hst (And.intro (kept_of2 H6.out.tk.drew.2 hG (by omega)) (hG.store (p := ⟨g, j * 5 + 2, none⟩) rfl (.int .i64 x11))))
            have E11 := Lib.hid e11
            clear hst hI hIv hG hF e11 HI0
            simp only [E11.out]
            go_wp2_with fail
            go_ret
            obtain ⟨hs2, l2, hl2, ho2⟩ := HW2.out.1
            refine ⟨_, l2.map Subtype.val, rfl, by rw [List.length_map, hl2]; omega, by rw [List.length_map, hl2]; omega, ⟨hs2.more (by omega), HW2.out.2.1.store (.inr (by simp; omega)) _⟩, ?_, fun x hx => (HFIN.out _ HW2.out.2.2 l2 x hx).seven⟩
            rw [← mzflat, List.length_map, hl2]
            exact ho2
        · obtain ⟨hjl, hrow⟩ : ∃ h : j < us.length, w6.ownsRow w.heap.size 57 5 (.slice (some ⟨g, 0, none⟩) k k3) k (us.flatMap encMv) := ⟨by rw [HLEN.out]; exact hj, by have := H6.out.row; rw [HLEN.out] at this; exact this⟩
          obtain ⟨g9, k9, hv9, _, hgl6, _, _, hrd⟩ := own_read hrow (by omega)
          cases hv9
          have hca := H6.out.cans us[j] (List.getElem_mem hjl)
          have hq4 := hrd (j * 5 + 4) us[j].2 ((flatK_at encMv 5 (fun _ => rfl) us j hjl 4 (by omega)).trans rfl)
          have HUJ : Hid (∃ x, us[j] = x) := ⟨_, rfl⟩
          obtain ⟨xj, hxj⟩ := HUJ.out
          rw [hxj] at hca hq4
          have HXJ := Lib.hid hxj
          obtain ⟨⟨key, each, fixed, feed, can⟩, uj⟩ := xj
          obtain ⟨hc6, hcan⟩ := hca
          dsimp only at hc6 hcan hq4
          obtain ⟨A4, c4, rfl, _⟩ := own_form hcan
          obtain ⟨row, hro⟩ : ∃ row, (Value.slice A4 can.length c4).ownBlock = row := ⟨_, rfl⟩
          have HROW := Lib.hid hro
          have HRw : Hid (∀ i, row = some i → w.heap.size ≤ i ∧ i < w6.heap.size ∧ i ≠ g) := fun i e => by
            have e2 : (Value.slice A4 can.length c4).ownBlock = some i := hro.trans e
            refine ⟨own_row hcan i e2, own_lt hcan i e2, ?_⟩
            rintro rfl
            exact own_apartM hcan hrow (by decide) e2 rfl
          have hgs : g ≠ sb := by omega
          have HC4 : Hid (∀ W, KG sb row w6.drew W → W.cell? ⟨g, j * 5 + 4, none⟩ = some (.slice A4 can.length c4) ∧ W.frozen? ⟨g, j * 5 + 4, none⟩ = false ∧ g < W.heap.size ∧ W.ownsRow w.heap.size 57 5 (.slice (some ⟨g, 0, none⟩) k k3) k (us.flatMap encMv)) := fun W hG => by
            have hb : W.heap[g]? = w6.heap[g]? := hG.old g hg6 hgs (fun e => (HRw.out g e).2.2 rfl)
            have ho : W.ownsRow w.heap.size 57 5 (.slice (some ⟨g, 0, none⟩) k k3) k (us.flatMap encMv) := own_sameO hrow (fun i hi => by
              have : g = i := by simpa [Value.ownBlock] using hi
              subst this
              exact hb)
            refine ⟨?_, own_frozen ho _, Nat.lt_of_lt_of_le hg6 hG.more, ho⟩
            unfold World.cell? at hq4 ⊢
            rw [hb]
            exact hq4
          have HO : Hid (IsStream w6.drew sb (b + 28 + 0) ∧ w6.drew.ownsRow w.heap.size 9 1 (.slice A4 can.length c4) can.length (can.map Value.string)) := ⟨H6.out.tk.1.drew.more (by omega), hcan.drew⟩
          have hwz6 := H6.out.tk.size
          clear hcan hq4 hrd hrow hro hxj HI0 HFIN
          go_upto_region 17 with (fail)
          refine Rg.rgS 9 [0] (KG sb row) (Kept sb) (fun a b => a.grownBy b row)
            [(fun vs u => vs 0 = .pointer (some ⟨g, j * 5, none⟩)), (fun vs u => vs 1 = .pointer (some ⟨g, j * 5, none⟩)), (fun vs u => vs 2 = .pointer (some ⟨g, j * 5, none⟩)), (fun vs u => vs 3 = .pointer (some ⟨g, j * 5 + 4, none⟩)), (fun vs u => vs 4 = .slice A4 can.length c4), (fun vs u => vs 5 = .pointer (some ⟨sb, 0, none⟩)), (fun vs u => StrSl w6.heap.size 3 (vs 6) u), (fun vs u => ∃ s : ByteArray, vs 7 = .string s), (fun vs u => ∃ (q : Nat) (s : ByteArray), vs 8 = .slice (some ⟨q, 0, none⟩) 1 1 ∧ w6.heap.size ≤ q ∧ u.heap[q]? = some (.cells #[.string s] 9 (0, 0))), (fun vs u => ∃ (A : Option Addr) (c9 : Nat) (s : ByteArray), vs 9 = .slice A (can.length + 1) c9 ∧ u.ownsRow w.heap.size 9 1 (.slice A (can.length + 1) c9) (can.length + 1) (can.map Value.string ++ [.string s]))]
            [[], [], [1], [1, 2], [1, 2, 3], [], [], [5, 6], [5, 6, 7], [1, 2, 3, 4, 5, 6, 7, 8]] [some 60, some 61, some 62, some 63, some 64, some 65, some 66, some 67, some 68, some 69, some 70, some 71, none] [] (fun n W => IsStream W sb (b + 28 + n) ∧ W.ownsRow w.heap.size 9 1 (.slice A4 can.length c4) can.length (can.map Value.string)) [[], [], [1], [1, 2], [1, 2, 3], [], [], [5, 6], [5, 6, 7], [1, 2, 3, 4, 5, 6, 7, 8], [0, 1, 2, 3, 4, 5, 6, 7, 8, 9], [0, 1, 2, 3, 4, 5, 6, 7, 8, 9, 10], [0, 1, 2, 3, 4, 5, 6, 7, 8, 9, 10, 11]]
            (by kernel_rfl) (by decide) (by kernel_rfl) (by kernel_rfl) (by kernel_rfl) (by kernel_rfl) (by kernel_rfl) (fun _ => KG.refl _ _ _) (fun _ _ _ h k => h.trans k) (fun _ _ h => h.more) (fun _ _ h => KG.of_kept h) (fun _ _ h => KG.of_grown h) (by decide) ?_ ?_ HO.out ?_ ?_
          · intro j hj vs w w' h hE
            match j, hj, h with
            | 0, _, h => exact h
            | 1, _, h => exact h
            | 2, _, h => exact h
            | 3, _, h => exact h
            | 4, _, h => exact h
            | 5, _, h => exact h
            | 6, _, h =>
              have h : StrSl w6.heap.size 3 (vs 6) w := h
              show StrSl w6.heap.size 3 (vs 6) w'
              exact h.kept hE (by omega)
            | 7, _, h => exact h
            | 8, _, h =>
              have h : ∃ (q : Nat) (s : ByteArray), vs 8 = .slice (some ⟨q, 0, none⟩) 1 1 ∧ w6.heap.size ≤ q ∧ w.heap[q]? = some (.cells #[.string s] 9 (0, 0)) := h
              show ∃ (q : Nat) (s : ByteArray), vs 8 = .slice (some ⟨q, 0, none⟩) 1 1 ∧ w6.heap.size ≤ q ∧ w'.heap[q]? = some (.cells #[.string s] 9 (0, 0))
              obtain ⟨q, s, e, hq, k⟩ := h
              exact ⟨q, s, e, hq, hE.blk k (by omega)⟩
            | 9, hj, _ => exact absurd rfl hj
            | (j + 10), _, h => exact h
          · intro j hj hc vs w w' h hE
            match j, hj, hc, h with
            | 0, _, _, h => exact h
            | 1, _, _, h => exact h
            | 2, _, _, h => exact h
            | 3, _, _, h => exact h
            | 4, _, _, h => exact h
            | 5, _, _, h => exact h
            | 6, _, _, h =>
              have h : StrSl w6.heap.size 3 (vs 6) w := h
              show StrSl w6.heap.size 3 (vs 6) w'
              exact h.grown hE (fun i e => (HRw.out i e).2.1)
            | 7, _, _, h => exact h
            | 8, _, _, h =>
              have h : ∃ (q : Nat) (s : ByteArray), vs 8 = .slice (some ⟨q, 0, none⟩) 1 1 ∧ w6.heap.size ≤ q ∧ w.heap[q]? = some (.cells #[.string s] 9 (0, 0)) := h
              show ∃ (q : Nat) (s : ByteArray), vs 8 = .slice (some ⟨q, 0, none⟩) 1 1 ∧ w6.heap.size ≤ q ∧ w'.heap[q]? = some (.cells #[.string s] 9 (0, 0))
              obtain ⟨q, s, e, hq, k⟩ := h
              exact ⟨q, s, e, hq, (hE.block q (lt_of_blk k) (fun e => by have := (HRw.out q e.symm).2.1; omega)).trans k⟩
            | 9, hj, _, _ => exact absurd rfl hj
            | (j + 10), _, _, h => exact h
          ·
            refine Rg.cons 0 1 rfl (Rg.plain rfl ?_) ?_
            · intro vs W n hn hI hG hT hF K hK
              simp only [Rg.putsD, List.getD_cons_zero, List.getD_cons_succ, Act.put, List.setIfInBounds_toArray, List.set_cons_zero, List.set_cons_succ] at hK ⊢
              have hn1 : n < 13 := hn
              clear hn
              clear hF
              have H := Lib.hid hK
              clear hK hT
              go_simp
              exact H.out _ _ rfl rfl (fun h => by cases h) ⟨hI.1.more (by omega), hI.2⟩
            refine Rg.cons 1 2 rfl (Rg.plain rfl ?_) ?_
            · intro vs W n hn hI hG hT hF K hK
              simp only [Rg.putsD, List.getD_cons_zero, List.getD_cons_succ, Act.put, List.setIfInBounds_toArray, List.set_cons_zero, List.set_cons_succ] at hK ⊢
              have hn1 : n < 13 := hn
              clear hn
              clear hF
              have H := Lib.hid hK
              clear hK hT
              go_simp
              exact H.out _ _ (Kept.same _ _) rfl (fun h => by cases h) ⟨hI.1.more (by omega), hI.2⟩
            refine Rg.cons 2 3 rfl (Rg.plain rfl ?_) ?_
            · intro vs W n hn hI hG hT hF K hK
              simp only [Rg.putsD, List.getD_cons_zero, List.getD_cons_succ, Act.put, List.setIfInBounds_toArray, List.set_cons_zero, List.set_cons_succ] at hK ⊢
              have hn1 : n < 13 := hn
              clear hn
              clear hF
              have t1 : vs 1 = .pointer (some ⟨g, j * 5, none⟩) := hT 1 (by decide)
              simp only [t1] at hK
              have H := Lib.hid hK
              clear hK hT
              go_simp
              exact H.out _ _ (Kept.same _ _) rfl (fun h => by cases h) ⟨hI.1.more (by omega), hI.2⟩
            refine Rg.cons 3 4 rfl (Rg.plain rfl ?_) ?_
            · intro vs W n hn hI hG hT hF K hK
              simp only [Rg.putsD, List.getD_cons_zero, List.getD_cons_succ, Act.put, List.setIfInBounds_toArray, List.set_cons_zero, List.set_cons_succ] at hK ⊢
              have hn1 : n < 13 := hn
              clear hn
              clear hF
              have t1 : vs 1 = .pointer (some ⟨g, j * 5, none⟩) := hT 1 (by decide)
              have t2 : vs 2 = .pointer (some ⟨g, j * 5, none⟩) := hT 2 (by decide)
              simp only [t1, t2] at hK
              have H := Lib.hid hK
              clear hK hT
              go_simp
              exact H.out _ _ (Kept.same _ _) rfl (fun h => by cases h) ⟨hI.1.more (by omega), hI.2⟩
            refine Rg.cons 4 5 rfl (Rg.plain rfl ?_) ?_
            · intro vs W n hn hI hG hT hF K hK
              simp only [Rg.putsD, List.getD_cons_zero, List.getD_cons_succ, Act.put, List.setIfInBounds_toArray, List.set_cons_zero, List.set_cons_succ] at hK ⊢
              have hn1 : n < 13 := hn
              clear hn
              clear hF
              have t1 : vs 1 = .pointer (some ⟨g, j * 5, none⟩) := hT 1 (by decide)
              have t2 : vs 2 = .pointer (some ⟨g, j * 5, none⟩) := hT 2 (by decide)
              have t3 : vs 3 = .pointer (some ⟨g, j * 5 + 4, none⟩) := hT 3 (by decide)
              have c0 := (HC4.out W hG).1
              simp only [t1, t2, t3] at hK
              have H := Lib.hid hK
              clear hK hT
              go_simp
              exact H.out _ _ (Kept.same _ _) rfl (fun h => by cases h) ⟨hI.1.more (by omega), hI.2⟩
            refine Rg.cons 5 6 rfl (Rg.plain rfl ?_) ?_
            · intro vs W n hn hI hG hT hF K hK
              simp only [Rg.putsD, List.getD_cons_zero, List.getD_cons_succ, Act.put, List.setIfInBounds_toArray, List.set_cons_zero, List.set_cons_succ] at hK ⊢
              have hn1 : n < 13 := hn
              clear hn
              clear hF
              have H := Lib.hid hK
              clear hK hT
              go_simp
              exact H.out _ _ (Kept.same _ _) rfl (fun h => by cases h) ⟨hI.1.more (by omega), hI.2⟩
            refine Rg.cons 6 7 rfl (Rg.plain rfl ?_) ?_
            · intro vs W n hn hI hG hT hF K hK
              simp only [Rg.putsD, List.getD_cons_zero, List.getD_cons_succ, Act.put, List.setIfInBounds_toArray, List.set_cons_zero, List.set_cons_succ] at hK ⊢
              have hn1 : n < 13 := hn
              clear hn
              clear hF
              have H := Lib.hid hK
              clear hK hT
              go_simp
              exact H.out _ _ (Kept.of_below ((Below.refl _ _).alloc (Nat.le_refl _) _)) (StrSl.new [⟨#[97]⟩, ⟨#[122, 122]⟩, ⟨#[]⟩] rfl hG.more) (fun h => by cases h) ⟨(hI.1.alloc _).more (by omega), hI.2.alloc _⟩
            refine Rg.cons 7 8 rfl (Rg.plain rfl ?_) ?_
            · intro vs W n hn hI hG hT hF K hK
              simp only [Rg.putsD, List.getD_cons_zero, List.getD_cons_succ, Act.put, List.setIfInBounds_toArray, List.set_cons_zero, List.set_cons_succ] at hK ⊢
              have hn1 : n < 13 := hn
              clear hn
              clear hF
              have t5 : vs 5 = .pointer (some ⟨sb, 0, none⟩) := hT 5 (by decide)
              have t6 : StrSl w6.heap.size 3 (vs 6) W := hT 6 (by decide)
              obtain ⟨b6, xs6, n6, c6, e6, k6⟩ := t6
              have N6 := Lib.hid (And.intro n6 k6)
              clear n6 k6
              simp only [e6] at hK
              simp only [t5] at hK
              have H := Lib.hid hK
              clear hK hT
              go_simp
              refine (some_blk N6.out.2 N6.out.1 (by decide) (by decide) (by omega) (by omega) hI.1).mono ?_
              rintro e w1 ⟨x, _, rfl, ht⟩
              exact H.out _ _ ht.2 ⟨_, rfl⟩ (fun h => by cases h) ⟨ht.1.more (by omega), kept_own hI.2 ht.2 (by omega)⟩
            refine Rg.cons 8 9 rfl (Rg.plain rfl ?_) ?_
            · intro vs W n hn hI hG hT hF K hK
              simp only [Rg.putsD, List.getD_cons_zero, List.getD_cons_succ, Act.put, List.setIfInBounds_toArray, List.set_cons_zero, List.set_cons_succ] at hK ⊢
              have hn1 : n < 13 := hn
              clear hn
              clear hF
              have t5 : vs 5 = .pointer (some ⟨sb, 0, none⟩) := hT 5 (by decide)
              have t6 : StrSl w6.heap.size 3 (vs 6) W := hT 6 (by decide)
              have t7 : ∃ s : ByteArray, vs 7 = .string s := hT 7 (by decide)
              obtain ⟨s7, e7⟩ := t7
              simp only [e7] at hK
              have hsz := hG.more
              simp only [t5] at hK
              have H := Lib.hid hK
              clear hK hT
              go_simp
              exact H.out _ _ (Kept.of_below ((Below.refl _ _).alloc (Nat.le_refl _) _)) (show ∃ (q : Nat) (s : ByteArray), _ = _ ∧ _ ∧ _ = _ from ⟨_, s7, rfl, hsz, blk_new W _ rfl⟩) (fun h => by cases h) ⟨(hI.1.alloc _).more (by omega), hI.2.alloc _⟩
            refine Rg.cons 9 10 rfl (Rg.plain rfl ?_) ?_
            · intro vs W n hn hI hG hT hF K hK
              simp only [Rg.putsD, List.getD_cons_zero, List.getD_cons_succ, Act.put, List.setIfInBounds_toArray, List.set_cons_zero, List.set_cons_succ] at hK ⊢
              have hn1 : n < 13 := hn
              clear hn
              clear hF
              have t1 : vs 1 = .pointer (some ⟨g, j * 5, none⟩) := hT 1 (by decide)
              have t2 : vs 2 = .pointer (some ⟨g, j * 5, none⟩) := hT 2 (by decide)
              have t3 : vs 3 = .pointer (some ⟨g, j * 5 + 4, none⟩) := hT 3 (by decide)
              have t4 : vs 4 = .slice A4 can.length c4 := hT 4 (by decide)
              have t5 : vs 5 = .pointer (some ⟨sb, 0, none⟩) := hT 5 (by decide)
              have t6 : StrSl w6.heap.size 3 (vs 6) W := hT 6 (by decide)
              have t7 : ∃ s : ByteArray, vs 7 = .string s := hT 7 (by decide)
              have t8 : ∃ (q : Nat) (s : ByteArray), vs 8 = .slice (some ⟨q, 0, none⟩) 1 1 ∧ w6.heap.size ≤ q ∧ W.heap[q]? = some (.cells #[.string s] 9 (0, 0)) := hT 8 (by decide)
              obtain ⟨bq, sq, e8, hbq, k8⟩ := t8
              simp only [e8] at hK
              have hsz : w6.heap.size ≤ W.heap.size := hG.more
              simp only [t1, t2, t3, t4, t5] at hK
              have H := Lib.hid hK
              clear hK hT
              simp only [t1, t2, t3, t4, t5, e8]
              refine wp_append_keep _ _ _ 40 rfl w.heap.size 9 i0 _ 1 16 Tryz.underlying40 HIS.out.1 HIS.out.2.1 HIS.out.2.2.1 HIS.out.2.2.2 rfl (by omega) (.slice A4 can.length c4) can.length (can.map Value.string) rfl hI.2 ⟨bq, 0, none⟩ 1 1 [.string sq] rfl rfl (fun j u hu => by rw [addr_new, cell_of_blk k8]; simpa using hu) (by intro u hu; simp at hu; subst hu; rfl) (by unfold maxLen; omega) (by omega) (by omega) ?_
              intro v' w2 hown' hg' hk'
              obtain ⟨Av', cv', rfl, _⟩ := own_form hown'
              rw [HROW.out] at hg'
              exact H.out _ _ hg' ⟨_, _, sq, rfl, hown'⟩ (fun h => by cases h) ⟨(hI.1.grown hg' (fun i e => by have := (HRw.out i e).1; omega)).more (by omega), hk'⟩
            exact Rg.nil
          · intro vs W hG hI hT hF
            have t0 : vs 0 = .pointer (some ⟨g, j * 5, none⟩) := hT 0 (by decide)
            have t1 : vs 1 = .pointer (some ⟨g, j * 5, none⟩) := hT 1 (by decide)
            have t2 : vs 2 = .pointer (some ⟨g, j * 5, none⟩) := hT 2 (by decide)
            have t3 : vs 3 = .pointer (some ⟨g, j * 5 + 4, none⟩) := hT 3 (by decide)
            have t4 : vs 4 = .slice A4 can.length c4 := hT 4 (by decide)
            have t5 : vs 5 = .pointer (some ⟨sb, 0, none⟩) := hT 5 (by decide)
            have t6 : StrSl w6.heap.size 3 (vs 6) W := hT 6 (by decide)
            have t7 : ∃ s : ByteArray, vs 7 = .string s := hT 7 (by decide)
            have t8 : ∃ (q : Nat) (s : ByteArray), vs 8 = .slice (some ⟨q, 0, none⟩) 1 1 ∧ w6.heap.size ≤ q ∧ W.heap[q]? = some (.cells #[.string s] 9 (0, 0)) := hT 8 (by decide)
            have t9 : ∃ (A : Option Addr) (c9 : Nat) (s : ByteArray), vs 9 = .slice A (can.length + 1) c9 ∧ W.ownsRow w.heap.size 9 1 (.slice A (can.length + 1) c9) (can.length + 1) (can.map Value.string ++ [.string s]) := hT 9 (by decide)
            simp only [List.length_cons, List.length_nil, Nat.reduceAdd, List.range, List.range.loop, List.drop_succ_cons, List.drop_zero, Rg.putsD, List.getD_cons_zero, List.getD_cons_succ, Act.put, List.setIfInBounds_toArray, List.set_cons_zero, List.set_cons_succ, t0, t1, t2, t3, t4, t5]
            clear hT t0 t1 t2 t3 t4 t5
            obtain ⟨A9, c9, s9, e9, own9⟩ := t9
            obtain ⟨cg, fg, lg, og⟩ := HC4.out W hG
            have hI2 : IsStream W sb (b + 28 + 10) ∧ W.ownsRow w.heap.size 9 1 (.slice A4 can.length c4) can.length (can.map Value.string) := hI
            have HF : Hid (MachOf sb (b + 120) w (.returned (.slice (some ⟨g, 0, none⟩) k k3)) (W.setCell ⟨g, j * 5 + 4, none⟩ (.slice A9 (can.length + 1) c9))) := by
              have hset := own_set og (j * 5 + 4) (.slice A9 (can.length + 1) c9)
              rw [flatK_set (enc := encMv) (k := 5) (fun _ => rfl) us j hjl 4 (by omega) (.slice A9 (can.length + 1) c9) ((⟨key, each, fixed, feed, can ++ [s9]⟩ : Mc), .slice A9 (can.length + 1) c9) (by rw [HXJ.out]; rfl)] at hset
              have hoff : ∀ {v : Value} {n : Nat} {xs : List Value}, W.ownsRow w.heap.size 9 1 v n xs → (W.setCell ⟨g, j * 5 + 4, none⟩ (.slice A9 (can.length + 1) c9)).ownsRow w.heap.size 9 1 v n xs := fun h => own_sameO h (fun i hi => Below.heap_setCell W _ _ i (by
                rintro rfl
                exact own_apartM h og (by decide) hi rfl))
              refine ⟨_, us.set j ((⟨key, each, fixed, feed, can ++ [s9]⟩ : Mc), .slice A9 (can.length + 1) c9), rfl, by rw [List.length_set, HLEN.out]; omega, by rw [List.length_set, HLEN.out]; omega, ⟨(hI2.1.more (by omega)).setCell (by show sb < g; omega) _, (kept_ofG H6.out.tk.drew.2 hG (fun i e => (HRw.out i e).1)).store (.inr hgb) _⟩, ?_, ?_⟩
              · rw [List.length_set, HLEN.out]
                exact hset
              · intro x hx
                rcases List.mem_or_eq_of_mem_set hx with hx | rfl
                · obtain ⟨i, hi, rfl⟩ := List.getElem_of_mem hx
                  by_cases e : i = j
                  · subst e
                    rw [HXJ.out]
                    exact ⟨by show can.length ≤ 7; omega, hoff hI2.2⟩
                  · have hci := H6.out.cans us[i] (List.getElem_mem hi)
                    refine ⟨by have := hci.1; omega, hoff (own_sameO hci.2 (fun q hq => ?_))⟩
                    refine hG.old q (own_lt hci.2 q hq) (by have := own_row hci.2 q hq; omega) (fun er => ?_)
                    have hap := List.pairwise_iff_getElem.mp H6.out.apart
                    have e4 : us[j].2.ownBlock = some q := by rw [HXJ.out]; exact HROW.out.trans er
                    rcases Nat.lt_or_gt_of_ne e with h | h
                    · exact hap i j hi hjl h q hq e4
                    · exact hap j i hjl hi h q e4 hq
                · refine ⟨by show (can ++ [s9]).length ≤ 7; simp; omega, hoff ?_⟩
                  show W.ownsRow _ _ _ _ (can ++ [s9]).length ((can ++ [s9]).map Value.string)
                  rw [List.length_append, List.map_append]
                  exact own9
            have E9 := Lib.hid e9
            clear hF hI hI2 hG own9 t6 t7 t8 e9 og
            simp only [E9.out]
            go_wp2_with fail
            go_ret
            exact HF.out
end Go.Proofs.YtopoemfnnnfgdaaGreatDoor
