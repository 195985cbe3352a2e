/-
  The walks of Crowded with errors, and of Beyond.
-/
import Derived.Test.YtiehkcbjfamnkaaCrowd2
namespace Go.Proofs.Ytiehkcbjfamnkaa
open Go.RowKit

set_option maxHeartbeats 1000000 in
theorem crowded_bad (key : ByteArray) (W H : Int) (A : Option Addr) (c : Nat) (l : List Pl) (hl : l.length ≤ 4611686018427387904) (B : Option Addr) (d : Nat) (b : List Bo) (hbl : b.length ≤ 4611686018427387904) (gap : Int) (w : World) (hA : PlAt w A l) (hB : BoAt w B b) (k : Int) (hk : distErr key W H l b gap = k) (hE : ¬ k = 0) :
    Calls Try.prog 38 #[prod key W H A l.length c, .slice B b.length d, .int .i64 gap] w fun e w' => e = .returned (.tuple #[.slice none 0 0, .int .i64 k]) ∧ Below w.heap.size w w' := by
  have CD := Lib.hid (fun W' (h1 : PlAt W' A l) (h2 : BoAt W' B b) => checkDistance_any key W H A c l hl B d b hbl gap W' h1 h2)
  rw [hk] at CD
  have h1 : (k != 0) = true := by simpa using hE
  clear hk hE
  go_enter Try.func38, Try.ntmps38
  go_wp2_with fail
  refine (CD.out _ (hA.below ((Below.refl _ _).alloc (Nat.le_refl _) _)) (hB.below ((Below.refl _ _).alloc (Nat.le_refl _) _))).mono ?_
  rintro e w1 ⟨rfl, hb1⟩
  have HB1 := Lib.hid (((Below.refl w.heap.size w).alloc (Nat.le_refl _) _).then_below hb1)
  clear hb1
  go_wp2_with fail
  go_ret2
  exact ⟨rfl, HB1.out⟩
set_option maxHeartbeats 1000000 in
theorem beyond_bad (key : ByteArray) (W H : Int) (A : Option Addr) (c : Nat) (l : List Pl) (hl : l.length ≤ 4611686018427387904) (B : Option Addr) (d : Nat) (b : List Bo) (hbl : b.length ≤ 4611686018427387904) (gap : Int) (w : World) (hA : PlAt w A l) (hB : BoAt w B b) (k : Int) (hk : distErr key W H l b gap = k) (hE : ¬ k = 0) :
    Calls Try.prog 39 #[prod key W H A l.length c, .slice B b.length d, .int .i64 gap] w fun e w' => e = .returned (.tuple #[.slice none 0 0, .int .i64 k]) ∧ Below w.heap.size w w' := by
  have CD := Lib.hid (fun W' (h1 : PlAt W' A l) (h2 : BoAt W' B b) => checkDistance_any key W H A c l hl B d b hbl gap W' h1 h2)
  rw [hk] at CD
  have h1 : (k != 0) = true := by simpa using hE
  clear hk hE
  go_enter Try.func39, Try.ntmps39
  go_wp2_with fail
  refine (CD.out _ (hA.below ((Below.refl _ _).alloc (Nat.le_refl _) _)) (hB.below ((Below.refl _ _).alloc (Nat.le_refl _) _))).mono ?_
  rintro e w1 ⟨rfl, hb1⟩
  have HB1 := Lib.hid (((Below.refl w.heap.size w).alloc (Nat.le_refl _) _).then_below hb1)
  clear hb1
  go_wp2_with fail
  go_ret2
  exact ⟨rfl, HB1.out⟩

def bey (W H e : Int) (M : List (ByteArray × Ar)) (k : Nat) : List ByteArray := ((M.take k).filter fun p => beyOf W H e p.2).map fun p => p.1
theorem bey_len (W H e : Int) (M : List (ByteArray × Ar)) (k : Nat) : (bey W H e M k).length ≤ k := by
  unfold bey
  rw [List.length_map]
  exact Nat.le_trans (List.length_filter_le _ _) (by rw [List.length_take]; omega)
theorem bey_next (W H e : Int) (M : List (ByteArray × Ar)) {k : Nat} (h : k < M.length) : bey W H e M (k + 1) = bey W H e M k ++ (if beyOf W H e M[k].2 then [M[k].1] else []) := by
  unfold bey
  rw [List.take_succ_eq_append_getElem h, List.filter_append, List.map_append]
  cases h2 : beyOf W H e M[k].2 <;> simp [List.filter_cons, h2]

attribute [local go_sem] run_min_int4

set_option maxRecDepth 100000 in
set_option maxHeartbeats 4000000 in
theorem beyond_ok (key : ByteArray) (W H : Int) (A : Option Addr) (c : Nat) (l : List Pl) (B : Option Addr) (d : Nat) (b : List Bo) (gap : Int) (w : World) (hA : PlAt w A l) (hB : BoAt w B b) (hE : distErr key W H l b gap = 0) :
    Calls Try.prog 39 #[prod key W H A l.length c, .slice B b.length d, .int .i64 gap] w fun e w' => ∃ v, e = .returned (.tuple #[v, .int .i64 0]) ∧ Below w.heap.size w w' ∧
      w'.ownsRow w.heap.size 9 1 v (beyond b W H gap l).length (flatS (beyond b W H gap l)) := by
  have hd := dist_ok hE
  have hlen := hd.len
  have hblen := hd.blen
  obtain ⟨hg0, hg1⟩ := hd.gap
  obtain ⟨hw0, hw1⟩ := hd.w
  obtain ⟨hh0, hh1⟩ := hd.h
  have CD := Lib.hid (fun W' (h1 : PlAt W' A l) (h2 : BoAt W' B b) => checkDistance_any key W H A c l (by omega) B d b (by omega) gap W' h1 h2)
  have CA := Lib.hid (fun W' (h1 : PlAt W' A l) (h2 : BoAt W' B b) => bodyAreas_any key W H A c l hlen (fun p hp => ⟨(hd.pl p hp).1, (hd.pl p hp).2.1, (hd.pl p hp).2.2.1⟩) B d b (by omega) hd.bo hd.rise W' h1 h2)
  have HD := Lib.hid (arB_areas hd)
  have hal : (areasOf b l).length ≤ 1000 := Nat.le_trans (areas_len b l) hlen
  have hMn : namesOf b l = (l.filterMap (nameBox b)).map Prod.fst := rfl
  have hMa : areasOf b l = (l.filterMap (nameBox b)).map Prod.snd := rfl
  have hBY : beyond b W H gap l = bey W H gap (l.filterMap (nameBox b)) (l.filterMap (nameBox b)).length := by unfold bey; rw [List.take_length]; rfl
  generalize l.filterMap (nameBox b) = M at *
  rw [hMn, hMa] at CA
  rw [hMa] at HD hal
  have HBY := Lib.hid hBY
  rw [hE] at CD
  clear hE hd hMn hMa hBY
  rw [List.length_map] at hal
  go_enter Try.func39, Try.ntmps39
  go_wp2_with fail
  refine (CD.out _ (hA.below ((Below.refl _ _).alloc (Nat.le_refl _) _)) (hB.below ((Below.refl _ _).alloc (Nat.le_refl _) _))).mono ?_
  rintro e w1 ⟨rfl, hb1⟩
  have hB1 : Below w.heap.size w w1 := ((Below.refl _ _).alloc (Nat.le_refl _) _).then_below hb1
  have hkp := blk_below hb1 (blk_new w _ rfl)
  obtain ⟨c0, c1, c2, c3⟩ := blk4 hkp
  have hs1 := hb1.size
  have hlt1 : w.heap.size < w1.heap.size := by simp at hs1; omega
  have HB1 := Lib.hid (And.intro hB1 hkp)
  clear hb1 hB1 hs1 hkp
  go_wp2_with fail
  refine (CA.out _ (hA.below HB1.out.1) (hB.below HB1.out.1)).mono ?_
  simp only [List.length_map]
  rintro e w2 ⟨v1, v2, rfl, hb2, o1, o2⟩
  have hBW : Below w.heap.size w w2 := HB1.out.1.then_below hb2 HB1.out.1.size
  have hkp2 := blk_below hb2 HB1.out.2
  obtain ⟨A1, k1, rfl, hA1⟩ := own_form o1
  obtain ⟨A2, k2, rfl, hA2⟩ := own_form o2
  have hs2 : w.heap.size < w2.heap.size := Nat.lt_of_lt_of_le hlt1 hb2.size
  have HO := Lib.hid (And.intro o1 (And.intro o2 (And.intro hBW (And.intro hA1 (And.intro hA2 hkp2)))))
  clear o1 o2 hb2 hBW hA1 hA2 c0 c1 c2 c3 hkp2 HB1
  go_wp2_with fail
  go_loopw [11, 29] (fun v kk wr => ∃ k : Nat, k ≤ M.length ∧ kk = .int .i64 k ∧ Hid (Below w2.heap.size w2 wr ∧ wr.ownsRow w2.heap.size 9 1 v (bey W H gap M k).length (flatS (bey W H gap M k)))) (fun _ kk _ => M.length - (intOf kk).toNat)
  case atStart => exact ⟨0, by omega, rfl, Below.refl _ _, World.ownsRow_nil _ _ _ _⟩
  case round =>
    obtain ⟨k, hk, rfl, HS⟩ := hrel
    obtain ⟨A3, k3, rfl, _⟩ := own_form HS.out.2
    by_cases hlt : k < M.length
    · obtain ⟨p, hp⟩ : ∃ p, M[k] = p := ⟨_, rfl⟩
      obtain ⟨gn, rfl, hgn, _⟩ := HO.out.2.2.2.1 (by omega)
      obtain ⟨ga, rfl, hga, _⟩ := HO.out.2.2.2.2.1 (by omega)
      have hab : arB p.2 := HD.out p.2 (by rw [← hp]; exact List.mem_map.mpr ⟨_, List.getElem_mem hlt, rfl⟩)
      have hlnA : LineAt w2 ga (flatA (M.map Prod.snd)) := by
        obtain ⟨g', _, hv, _, hlt', _, _, hrd⟩ := own_read HO.out.2.1 (by omega)
        simp only [Value.slice.injEq, Option.some.injEq, Addr.mk.injEq, and_true, true_and] at hv
        obtain ⟨rfl, rfl⟩ := hv
        exact ⟨hlt', hrd⟩
      have hlnN : LineAt w2 gn (flatS (M.map Prod.fst)) := by
        obtain ⟨g', _, hv, _, hlt', _, _, hrd⟩ := own_read HO.out.1 (by omega)
        simp only [Value.slice.injEq, Option.some.injEq, Addr.mk.injEq, and_true, true_and] at hv
        obtain ⟨rfl, rfl⟩ := hv
        exact ⟨hlt', hrd⟩
      obtain ⟨p0, p1, p2, p3⟩ := row_ar (hlnA.below HS.out.1) (show k < (M.map Prod.snd).length by simpa using hlt)
      have q0 := row_str (hlnN.below HS.out.1) (show k < (M.map Prod.fst).length by simpa using hlt)
      rw [List.getD_eq_getElem?_getD, List.getElem?_map, List.getElem?_eq_getElem hlt] at q0
      simp only [List.getElem_map, Option.map_some, Option.getD_some] at p0 p1 p2 p3 q0
      rw [hp] at p0 p1 p2 p3 q0
      have hnx := bey_next W H gap M hlt
      rw [hp] at hnx
      have hbl := bey_len W H gap M k
      obtain ⟨c0, c1, c2, c3⟩ := blk4 (blk_below HS.out.1 HO.out.2.2.2.2.2)
      have hswr := HS.out.1.size
      have hwr : w.heap.size < wr.heap.size := by omega
      have hga2 : ga < wr.heap.size := by omega
      have hgn2 : gn < wr.heap.size := by omega
      have HNX := Lib.hid hnx
      obtain ⟨⟨b0, b1⟩, ⟨b2, b3⟩, ⟨b4, b5⟩, b6, b7⟩ := hab
      clear hp hlnA hlnN hnx
      obtain ⟨nm, axf, axt, ayf, ayt⟩ := p
      dsimp only at *
      have HNB : Hid (beyOf W H gap ⟨axf, axt, ayf, ayt⟩ = decide (mn4 axf ayf (2 * W - axt) (2 * H - ayt) < 2 * gap)) := rfl
      by_cases hbe : mn4 axf ayf (2 * W - axt) (2 * H - ayt) < 2 * gap
      · have HT : Hid (bey W H gap M (k + 1) = bey W H gap M k ++ [nm]) := HNX.out.trans (by rw [HNB.out]; simp only [hbe, decide_true, if_true])
        go_wp2_with (at_builtin; refine hold ?_)
        refine loose ?_
        obtain ⟨i0, hi, hz0, hz1, hz2⟩ := info_parts str_info9
        refine wpList_append_own _ rfl _ _ 83 rfl w2.heap.size 9 i0 _ 1 16 Try.underlying83 hi hz0 hz1 hz2 rfl (by omega) _ (bey W H gap M k).length (flatS (bey W H gap M k)) rfl ((HS.out.2.alloc _).alloc _) ⟨wr.heap.size + 1, 0, none⟩ 1 1 (encS nm) rfl rfl ?c1 (by intro u hu; simp [encS] at hu; subst hu; rfl) ?c2 ?c3 (by simp; omega) ?_
        case c1 =>
          intro j u hu
          rw [addr_new, cell_of_blk (blk_new (g := wr.heap.size + 1) _ _ (by simp))]
          simpa [encS] using hu
        case c2 => unfold maxLen; omega
        case c3 => omega
        intro v' w' hown' hg' _
        have HF : Hid (Below w2.heap.size w2 w' ∧ w'.ownsRow w2.heap.size 9 1 v' (bey W H gap M (k + 1)).length (flatS (bey W H gap M (k + 1)))) := by
          refine ⟨((HS.out.1.alloc HS.out.1.size _).alloc (by simp; omega) _).grown hg' (by simp; omega) (fun j e => own_row HS.out.2 j e), ?_⟩
          rw [HT.out, List.length_append]
          have e1 : flatS (bey W H gap M k ++ [nm]) = flatS (bey W H gap M k) ++ encS nm := by simp [flatS]
          rw [e1]
          exact hown'
        clear hown' hg' hi hz0 hz1 hz2
        go_wp2_with fail
        go_roundw
        case rel => exact ⟨k + 1, by omega, by go_num, HF⟩
        case measure => simp [intOf]; omega
      · have HT : Hid (bey W H gap M (k + 1) = bey W H gap M k) := HNX.out.trans (by rw [HNB.out]; simp only [hbe, decide_false, Bool.false_eq_true, if_false, List.append_nil])
        go_wp2_with fail
        go_roundw
        case rel => exact ⟨k + 1, by omega, by go_num, by rw [HT.out]; exact ⟨HS.out.1.alloc HS.out.1.size _, HS.out.2.alloc _⟩⟩
        case measure => simp [intOf]; omega
    · obtain rfl : k = M.length := by omega
      go_wp2_with fail
      go_ret2
      have hs := HO.out.2.2.1.size
      refine ⟨_, rfl, HO.out.2.2.1.then_below HS.out.1 hs, ?_⟩
      rw [HBY.out]
      exact own_mono HS.out.2 hs
end Go.Proofs.Ytiehkcbjfamnkaa
