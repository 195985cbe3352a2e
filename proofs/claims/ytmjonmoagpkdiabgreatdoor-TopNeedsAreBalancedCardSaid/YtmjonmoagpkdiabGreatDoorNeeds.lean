/-
  The walk of Needs.
-/
import Derived.Test.YtmjonmoagpkdiabGreatDoorLmA
import Derived.Test.YtmjonmoagpkdiabGreatDoorShelf
import Derived.Sort.OwnSorted
import Derived.Deep.Onto
namespace Go.Proofs.YtmjonmoagpkdiabGreatDoor
open Go.RowKit
open Go.Sort (Holds putRow grow)

/-- A slice of strings of one's own, sorted by the library. -/
theorem sortStr_any (v : Value) (ss : List (List UInt8)) (B : Nat) (w : World) (hown : w.ownsRow B 9 1 v ss.length (ss.map encStr)) (hB : B ≤ w.heap.size) (hlt : ss.length < 4611686018427387904) :
    Calls Tryz.prog 13 #[v] w fun e w' => e = .returned (.tuple #[]) ∧ Below B w w' ∧ w'.ownsRow B 9 1 v ss.length ((ss.mergeSort fun x y => decide (x ≤ y)).map encStr) := by
  rcases hown.2 with ⟨rfl, h0⟩ | ⟨g, cap, cur, rfl, hb, hc, h1, h2, h3, h4⟩
  · refine (Tryz.slices_Sort_string_none none 0 w).mono ?_
    rintro e w' ⟨rfl, rfl⟩
    refine ⟨rfl, Below.refl _ _, ?_⟩
    have : ss = [] := List.length_eq_zero_iff.mp h0
    subst this
    simpa using hown
  · refine (Tryz.slices_Sort_string g 0 cap ss w (holds_of_block hc (by simpa using h4)) (lt_of_blk hc) hlt).mono ?_
    rintro e w' ⟨rfl, n, os, rfl⟩
    refine ⟨rfl, ?_, ?_⟩
    · exact (Below.refl B w).grown (grownBy_sorted _) hB (by rintro k rfl'; cases rfl'; exact hb)
    · exact ownsRow_sorted (by simp) hb hc h1 h2 h3

def partOf (p : Pl) : List UInt8 := p.part.data.toList
theorem str_back (s : ByteArray) : (⟨s.data.toList.toArray⟩ : ByteArray) = s := by simp
theorem str_info : (Tryz.prog.info? 9).map (fun i => (i.zero, i.size, i.bytes)) = some (some (.string ⟨#[]⟩), 1, 16) := by kernel_rfl
theorem need_info : (Tryz.prog.info? 36).map (fun i => (i.zero, i.size, i.bytes)) = some (some (.agg #[.string ⟨#[]⟩, .int .i64 0]), 2, 24) := by kernel_rfl

/-- The needs of parts in their order. -/
def addNeed (acc : List (List UInt8 × Int)) (s : List UInt8) : List (List UInt8 × Int) :=
  match acc.getLast? with
  | none => [(s, 1)]
  | some (t, m) => if t = s then acc.dropLast ++ [(s, m + 1)] else acc ++ [(s, 1)]
def needsOf (ss : List (List UInt8)) : List (List UInt8 × Int) := ss.foldl addNeed []
def flatN (l : List (List UInt8 × Int)) : List Value := l.flatMap fun x => [encStr x.1, .int .i64 x.2]

theorem prodErr_len {key : ByteArray} {W H : Int} {l : List Pl} (h : prodErr key W H l = 0) : l.length ≤ 1000 := by
  unfold prodErr at h
  split at h
  · cases h
  · split at h
    · cases h
    · split at h
      · cases h
      · omega


theorem needsOf_snoc (ss : List (List UInt8)) (s : List UInt8) : needsOf (ss ++ [s]) = addNeed (needsOf ss) s := by simp [needsOf, List.foldl_append]
theorem needsOf_form (r : List (List UInt8)) : ∀ s, ∃ (acc : List (List UInt8 × Int)) (m : Int), needsOf ((s :: r).reverse) = acc ++ [(s, m)] ∧ 1 ≤ m ∧ m ≤ r.length + 1 := by
  induction r with
  | nil => intro s; exact ⟨[], 1, rfl, by omega, by simp⟩
  | cons t r ih =>
    intro s
    obtain ⟨acc, m, h, h1, h2⟩ := ih t
    rw [List.reverse_cons, needsOf_snoc, h]
    by_cases e : t = s
    · refine ⟨acc, m + 1, ?_, by omega, by simp; omega⟩
      simp [addNeed, e]
    · refine ⟨acc ++ [(t, m)], 1, ?_, by omega, by simp; omega⟩
      simp [addNeed, e]
theorem needsOf_last (ts : List (List UInt8)) (k : Nat) (h : k < ts.length) : ∃ (acc : List (List UInt8 × Int)) (m : Int), needsOf (ts.take (k + 1)) = acc ++ [(ts[k], m)] ∧ 1 ≤ m ∧ m ≤ (k : Int) + 1 := by
  have e : ts.take (k + 1) = (ts[k] :: (ts.take k).reverse).reverse := by
    rw [List.reverse_cons, List.reverse_reverse, List.take_succ_eq_append_getElem h]
  rw [e]
  obtain ⟨acc, m, h1, h2, h3⟩ := needsOf_form (ts.take k).reverse ts[k]
  refine ⟨acc, m, h1, h2, ?_⟩
  simp at h3
  omega
theorem needsOf_next (ts : List (List UInt8)) (k : Nat) (h : k < ts.length) : needsOf (ts.take (k + 1)) = addNeed (needsOf (ts.take k)) ts[k] := by
  rw [List.take_succ_eq_append_getElem h, needsOf_snoc]

theorem addNeed_len (acc : List (List UInt8 × Int)) (s : List UInt8) : (addNeed acc s).length ≤ acc.length + 1 := by
  unfold addNeed
  split
  · simp
  · split <;> simp
theorem needsOf_len (ss : List (List UInt8)) : (needsOf ss).length ≤ ss.length := by
  have : ∀ (ss : List (List UInt8)) (acc : List (List UInt8 × Int)), (ss.foldl addNeed acc).length ≤ acc.length + ss.length := by
    intro ss
    induction ss with
    | nil => intro acc; simp
    | cons s ss ih => intro acc; have := ih (addNeed acc s); have := addNeed_len acc s; simp; omega
  simpa [needsOf] using this ss []
theorem flatN_snoc (acc : List (List UInt8 × Int)) (x : List UInt8) (m : Int) : flatN (acc ++ [(x, m)]) = flatN acc ++ [encStr x, .int .i64 m] := by simp [flatN]
theorem flatN_len (acc : List (List UInt8 × Int)) : (flatN acc).length = acc.length * 2 := by
  induction acc with
  | nil => rfl
  | cons p l ih => simp only [flatN, List.flatMap_cons, List.length_append] at ih ⊢; simp [ih]; omega
theorem flatN_set (acc : List (List UInt8 × Int)) (x : List UInt8) (m m' : Int) : (flatN (acc ++ [(x, m)])).set (acc.length * 2 + 1) (.int .i64 m') = flatN (acc ++ [(x, m')]) := by
  rw [flatN_snoc, flatN_snoc, List.set_append_right _ _ (by rw [flatN_len]; omega), flatN_len]
  simp
theorem flatN_get (acc : List (List UInt8 × Int)) (x : List UInt8) (m : Int) : (flatN (acc ++ [(x, m)]))[acc.length * 2 + 1]? = some (.int .i64 m) := by
  rw [flatN_snoc, List.getElem?_append_right (by rw [flatN_len]; omega), flatN_len]
  simp

set_option maxHeartbeats 2000000 in
theorem needs_any (key : ByteArray) (W H : Int) (A : Option Addr) (c : Nat) (l : List Pl) (hl : l.length ≤ 4611686018427387904) (w : World) (hA : PlAt w A l) (hE : prodErr key W H l = 0) :
    Calls Tryz.prog 5 #[prod key W H A l.length c] w fun e w' => ∃ v, e = .returned (.tuple #[v, .int .i64 0]) ∧ Below w.heap.size w w' ∧
      w'.ownsRow w.heap.size 36 2 v (needsOf ((l.map partOf).mergeSort fun x y => decide (x ≤ y))).length (flatN (needsOf ((l.map partOf).mergeSort fun x y => decide (x ≤ y)))) := by
  have h1000 : l.length ≤ 1000 := prodErr_len hE
  have HE := Lib.hid hE
  clear hE
  go_enter Tryz.func5, Tryz.ntmps5
  go_wp2_with fail
  refine (checkProduct_any key W H A c l hl _ (hA.below ((Below.refl _ _).alloc (Nat.le_refl _) _))).mono ?_
  rw [HE.out]
  rintro e w1 ⟨rfl, hb1⟩
  have hA1 : PlAt w1 A l := (hA.below ((Below.refl _ _).alloc (Nat.le_refl _) _)).below hb1
  obtain ⟨b0, b1, b2, b3⟩ := blk4 (blk_below hb1 (blk_new w _ rfl))
  have HBW : Hid (Below w.heap.size w w1) := ((Below.refl _ _).alloc (Nat.le_refl _) _).then_below hb1
  have hw1 : w.heap.size < w1.heap.size := Nat.lt_of_lt_of_le (by simp) hb1.size
  clear hb1 hA
  go_wp2_with fail
  go_loopw [5, 19] (fun v5 kk wr => ∃ k : Nat, k ≤ l.length ∧ kk = .int .i64 k ∧ Below w1.heap.size w1 wr ∧ wr.ownsRow w1.heap.size 9 1 v5 k ((l.map fun p => encStr (partOf p)).take k)) (fun _ kk _ => l.length - (intOf kk).toNat)
  case atStart => exact ⟨0, by omega, rfl, Below.refl _ _, World.ownsRow_nil _ _ _ _⟩
  case round =>
    obtain ⟨k, hk, rfl, hb, hown⟩ := hrel
    have HOWN := Lib.hid hown
    clear hown
    by_cases hlt : k < l.length
    · obtain ⟨p, hp⟩ : ∃ p, l[k] = p := ⟨_, rfl⟩
      rcases hA1 with rfl | ⟨g, rfl, hrow⟩
      · simp at hlt
      obtain ⟨p0, p1, p2, p3, p4⟩ := row_pl (hrow.below hb) hlt
      rw [hp] at p0 p1 p2 p3 p4
      have hT : (l.map fun p => encStr (partOf p)).take k ++ [Value.string p.part] = (l.map fun p => encStr (partOf p)).take (k + 1) := by
        rw [List.take_succ_eq_append_getElem (by simpa using hlt)]
        simp [hp, partOf]
      have HT := Lib.hid hT
      have HROW := Lib.hid hrow
      obtain ⟨nm, pt, x, y, q⟩ := p
      dsimp only at p0 p1 p2 p3 p4
      have hg1 : g < wr.heap.size := Nat.lt_of_lt_of_le hrow.1 hb.size
      clear hT hrow hp
      obtain ⟨i0, hi, hz0, hz1, hz2⟩ := info_parts str_info
      have HI := Lib.hid (And.intro hi (And.intro hz0 (And.intro hz1 hz2)))
      clear hi hz0 hz1 hz2
      go_wp2_with (at_builtin; refine hold ?_)
      refine loose ?_
      refine wpList_append_own _ rfl _ _ 34 rfl w1.heap.size 9 i0 _ 1 16 Tryz.underlying34 HI.out.1 HI.out.2.1 HI.out.2.2.1 HI.out.2.2.2 rfl (by omega) _ k ((l.map fun p => encStr (partOf p)).take k) rfl ((HOWN.out.alloc _).alloc _) ⟨wr.heap.size + 1, 0, none⟩ 1 1 [.string pt] rfl rfl ?c1 (by intro u hu; simp at hu; subst hu; rfl) ?c2 ?c3 ?c4 ?_
      case c1 =>
        intro j u hu
        cases j with
        | zero =>
          simp at hu
          subst hu
          exact (blk_cell0 (blk_new (wr.alloc _) _ (by simp)))
        | succ j => simp at hu
      case c2 => unfold maxLen; omega
      case c3 => omega
      case c4 => simp; have := hb.size; omega
      intro v' w' hown' hg' _
      have HB' : Hid (Below w1.heap.size w1 w') := ((hb.alloc hb.size _).alloc (by simp; have := hb.size; omega) _).grown hg' (by simp; have := hb.size; omega) (fun j hj => (HOWN.out.lt j hj).1)
      have HOWN' : Hid (w'.ownsRow w1.heap.size 9 1 v' (k + 1) ((l.map fun p => encStr (partOf p)).take (k + 1))) := by
        have := HT.out
        show World.ownsRow _ _ _ _ _ _ _
        rw [← this]
        exact hown'
      clear hown' hg'
      go_wp2_with fail
      go_roundw
      case rel => exact ⟨k + 1, by omega, by go_num, HB'.out, HOWN'.out⟩
      case measure => simp [intOf]; omega
    · have hk2 : k = l.length := by omega
      subst hk2
      have hlen : (l.map partOf).length = l.length := by simp
      have hown : wr.ownsRow w1.heap.size 9 1 u5 (l.map partOf).length ((l.map partOf).map encStr) := by
        have := HOWN.out
        rw [List.take_of_length_le (by simp)] at this
        simpa [List.map_map, Function.comp_def] using this
      obtain ⟨A5, c5, rfl, hA5⟩ := own_form hown
      obtain ⟨ts, hts⟩ : ∃ ts, ((l.map partOf).mergeSort fun x y => decide (x ≤ y)) = ts := ⟨_, rfl⟩
      have hS := sortStr_any _ (l.map partOf) w1.heap.size wr hown hb.size (by omega)
      rw [hts, hlen] at hS
      have htl : ts.length = l.length := by rw [← hts]; simp
      have HTS := Lib.hid hts
      have HS := Lib.hid hS
      have HHL := Lib.hid hlen
      clear hown hts hS HOWN hlt hk hlen
      have HTL := Lib.hid htl
      clear htl
      have HA5 := Lib.hid hA5
      clear hA5
      go_wp2_with fail
      refine HS.out.mono ?_
      rintro e w2 ⟨rfl, hb2, hown2⟩
      go_wp2_with fail
      go_loopw [8, 33] (fun v8 kk wq => ∃ k : Nat, k ≤ l.length ∧ kk = .int .i64 k ∧ Below w2.heap.size w2 wq ∧ wq.ownsRow w2.heap.size 36 2 v8 (needsOf (ts.take k)).length (flatN (needsOf (ts.take k)))) (fun _ kk _ => l.length - (intOf kk).toNat)
      case atStart => exact ⟨0, by omega, rfl, Below.refl _ _, World.ownsRow_nil _ _ _ _⟩
      case round =>
        obtain ⟨k, hk, rfl, hbq, hnq⟩ := hrel
        have HNQ := Lib.hid hnq
        clear hnq
        by_cases hlt : k < l.length
        · have hkt : k < ts.length := by rw [HTL.out]; exact hlt
          obtain ⟨gp, rfl, hgp, hgb⟩ := HA5.out (by rw [HHL.out]; omega)
          have hgp2 : gp < w2.heap.size := Nat.lt_of_lt_of_le hgp hb2.size
          have hgpq : gp < wr.heap.size := Nat.lt_of_lt_of_le hgp2 hbq.size
          have hcl : ∀ j (h : j < l.length), wr.cell? ⟨gp, j, none⟩ = some (.string ⟨(ts[j]'(by rw [HTL.out]; exact h)).toArray⟩) := fun j h =>
            (hbq.cell (p := ⟨gp, j, none⟩) hgp2).trans ((hown2.cellAt j (by omega)).trans (by rw [List.getElem?_map, List.getElem?_eq_getElem (by rw [HTL.out]; exact h)]; rfl))
          have HNX0 := Lib.hid (needsOf_next ts k hkt)
          have hlen0 : (needsOf (ts.take k)).length ≤ 1000 := Nat.le_trans (needsOf_len _) (by rw [List.length_take]; omega)
          have ck := hcl k hlt
          have HCL := Lib.hid hcl
          clear hcl
          obtain ⟨sk, hsk⟩ : ∃ s : ByteArray, (⟨(ts[k]'hkt).toArray⟩ : ByteArray) = s := ⟨_, rfl⟩
          rw [hsk] at ck
          have HSK := Lib.hid hsk
          clear hsk
          by_cases hk0 : k = 0
          · have HNX : Hid (needsOf (ts.take (k + 1)) = needsOf (ts.take k) ++ [(ts[k]'hkt, 0 + 1)]) := by
              refine HNX0.out.trans ?_
              subst hk0
              rfl
            have hd0 : ((k : Int) == 0) = true := by subst hk0; rfl
            clear hk0
            generalize needsOf (ts.take k) = acc0 at *
            obtain ⟨i0, hi, hz0, hz1, hz2⟩ := info_parts need_info
            have HI := Lib.hid (And.intro hi (And.intro hz0 (And.intro hz1 hz2)))
            clear hi hz0 hz1 hz2
            obtain ⟨A8, c8, rfl, hA8⟩ := own_form HNQ.out
            clear hA8
            go_wp2_with (at_builtin; refine hold ?_)
            refine loose ?_
            refine wpList_append_own _ rfl _ _ 30 rfl w2.heap.size 36 i0 _ 2 24 Tryz.underlying30 HI.out.1 HI.out.2.1 HI.out.2.2.1 HI.out.2.2.2 rfl (by omega) _ acc0.length (flatN acc0) rfl (HNQ.out.alloc _) ⟨wr.heap.size, 0, none⟩ 1 1 [encStr (ts[k]'hkt), .int .i64 0] rfl rfl ?c1 (by intro u hu; simp at hu; rcases hu with rfl | rfl <;> rfl) ?c2 ?c3 ?c4 ?_
            case c1 =>
              intro j u hu
              rw [addr_new, cell_of_blk (blk_new wr _ rfl), ← HSK.out]
              simpa using hu
            case c2 => unfold maxLen; omega
            case c3 => omega
            case c4 => simp; have := hbq.size; omega
            intro v' w' hown' hg' _
            have HB2 : Hid (Below w2.heap.size w2 w') := (hbq.alloc hbq.size _).grown hg' (by simp; have := hbq.size; omega) (fun j hj => (HNQ.out.lt j hj).1)
            have HN : Hid (w'.ownsRow w2.heap.size 36 2 v' (acc0.length + 1) (flatN (acc0 ++ [(ts[k]'hkt, 0)]))) := by
              show World.ownsRow _ _ _ _ _ _ _
              rw [flatN_snoc]
              exact hown'
            have hgrow := hg'.size
            clear hown' hg'
            obtain ⟨g2, cap2, rfl, hgb2, hg2, hcap2, _, hrd⟩ := own_read HN.out (by omega)
            have hfr := own_frozen HN.out (acc0.length * 2 + 1)
            have hld := hrd _ _ (flatN_get acc0 (ts[k]'hkt) 0)
            have HN2 : Hid ((w'.setCell ⟨g2, acc0.length * 2 + 1, none⟩ (.int .i64 (0 + 1))).ownsRow w2.heap.size 36 2 (.slice (some ⟨g2, 0, none⟩) (acc0.length + 1) cap2) (acc0.length + 1) (flatN (acc0 ++ [(ts[k]'hkt, 0 + 1)]))) := by
              have := own_set HN.out (acc0.length * 2 + 1) (.int .i64 (0 + 1))
              rw [flatN_set] at this
              exact this
            clear hrd
            go_wp2_with fail
            go_roundw
            case rel => exact ⟨k + 1, by omega, by go_num, HB2.out.setCell hgb2 _, by rw [HNX.out, List.length_append]; exact HN2.out⟩
            case measure => simp [intOf]; omega
          · obtain ⟨acc1, m, hform, hm1, hm2⟩ := needsOf_last ts (k - 1) (by omega)
            have hkk : k - 1 + 1 = k := by omega
            rw [hkk] at hform
            obtain ⟨sp, hsp⟩ : ∃ s : ByteArray, (⟨(ts[k - 1]'(by omega)).toArray⟩ : ByteArray) = s := ⟨_, rfl⟩
            have cp := HCL.out (k - 1) (by omega)
            rw [hsp] at cp
            have hd0 : ((k : Int) == 0) = false := beq_eq_false_iff_ne.mpr (by omega)
            have hkp : 0 < k := by omega
            have es : sk.toList = ts[k]'hkt := by rw [← HSK.out]; simp [Lib.toList_data]
            have ep : sp.toList = ts[k - 1]'(by omega) := by rw [← hsp]; simp [Lib.toList_data]
            cases hq : (sk.toList == sp.toList)
            · have HNX : Hid (needsOf (ts.take (k + 1)) = needsOf (ts.take k) ++ [(ts[k]'hkt, 0 + 1)]) := by
                refine HNX0.out.trans ?_
                rw [hform]
                rw [es, ep] at hq
                have hne : ¬ ts[k - 1]'(by omega) = ts[k]'hkt := fun e => by rw [e] at hq; simp at hq
                simp [addNeed, hne]
              have HQ := Lib.hid hq
              clear hform hm1 hm2 hkk hsp es ep hk0
              generalize needsOf (ts.take k) = acc0 at *
              obtain ⟨i0, hi, hz0, hz1, hz2⟩ := info_parts need_info
              have HI := Lib.hid (And.intro hi (And.intro hz0 (And.intro hz1 hz2)))
              clear hi hz0 hz1 hz2
              obtain ⟨A8, c8, rfl, hA8⟩ := own_form HNQ.out
              clear hA8
              go_wp2_with (at_builtin; refine hold ?_)
              refine loose ?_
              refine wpList_append_own _ rfl _ _ 30 rfl w2.heap.size 36 i0 _ 2 24 Tryz.underlying30 HI.out.1 HI.out.2.1 HI.out.2.2.1 HI.out.2.2.2 rfl (by omega) _ acc0.length (flatN acc0) rfl (HNQ.out.alloc _) ⟨wr.heap.size, 0, none⟩ 1 1 [encStr (ts[k]'hkt), .int .i64 0] rfl rfl ?c1 (by intro u hu; simp at hu; rcases hu with rfl | rfl <;> rfl) ?c2 ?c3 ?c4 ?_
              case c1 =>
                intro j u hu
                rw [addr_new, cell_of_blk (blk_new wr _ rfl), ← HSK.out]
                simpa using hu
              case c2 => unfold maxLen; omega
              case c3 => omega
              case c4 => simp; have := hbq.size; omega
              intro v' w' hown' hg' _
              have HB2 : Hid (Below w2.heap.size w2 w') := (hbq.alloc hbq.size _).grown hg' (by simp; have := hbq.size; omega) (fun j hj => (HNQ.out.lt j hj).1)
              have HN : Hid (w'.ownsRow w2.heap.size 36 2 v' (acc0.length + 1) (flatN (acc0 ++ [(ts[k]'hkt, 0)]))) := by
                show World.ownsRow _ _ _ _ _ _ _
                rw [flatN_snoc]
                exact hown'
              have hgrow := hg'.size
              clear hown' hg'
              obtain ⟨g2, cap2, rfl, hgb2, hg2, hcap2, _, hrd⟩ := own_read HN.out (by omega)
              have hfr := own_frozen HN.out (acc0.length * 2 + 1)
              have hld := hrd _ _ (flatN_get acc0 (ts[k]'hkt) 0)
              have HN2 : Hid ((w'.setCell ⟨g2, acc0.length * 2 + 1, none⟩ (.int .i64 (0 + 1))).ownsRow w2.heap.size 36 2 (.slice (some ⟨g2, 0, none⟩) (acc0.length + 1) cap2) (acc0.length + 1) (flatN (acc0 ++ [(ts[k]'hkt, 0 + 1)]))) := by
                have := own_set HN.out (acc0.length * 2 + 1) (.int .i64 (0 + 1))
                rw [flatN_set] at this
                exact this
              clear hrd
              go_wp2_with fail
              go_roundw
              case rel => exact ⟨k + 1, by omega, by go_num, HB2.out.setCell hgb2 _, by rw [HNX.out, List.length_append]; exact HN2.out⟩
              case measure => simp [intOf]; omega
            · have heq : ts[k - 1]'(by omega) = ts[k]'hkt := by
                rw [es, ep] at hq
                simpa using (beq_iff_eq.mp hq).symm
              have HNX : Hid (needsOf (ts.take (k + 1)) = acc1 ++ [(ts[k]'hkt, m + 1)]) := by
                refine HNX0.out.trans ?_
                rw [hform]
                simp [addNeed, heq]
              have HN : Hid (wr.ownsRow w2.heap.size 36 2 u8 (acc1.length + 1) (flatN (acc1 ++ [(ts[k]'hkt, m)]))) := by
                have := HNQ.out
                rw [hform, heq] at this
                show World.ownsRow _ _ _ _ _ _ _
                simpa using this
              have hm3 : m ≤ 1001 := by omega
              have HB2 : Hid (Below w2.heap.size w2 wr) := hbq
              have hla : acc1.length ≤ 1000 := by rw [hform] at hlen0; simp at hlen0; omega
              clear hform hm2 hkk hsp es ep hk0 heq
              obtain ⟨g2, cap2, rfl, hgb2, hg2, hcap2, _, hrd⟩ := own_read HN.out (by omega)
              have hfr := own_frozen HN.out (acc1.length * 2 + 1)
              have hld := hrd _ _ (flatN_get acc1 (ts[k]'hkt) m)
              have HN2 : Hid ((wr.setCell ⟨g2, acc1.length * 2 + 1, none⟩ (.int .i64 (m + 1))).ownsRow w2.heap.size 36 2 (.slice (some ⟨g2, 0, none⟩) (acc1.length + 1) cap2) (acc1.length + 1) (flatN (acc1 ++ [(ts[k]'hkt, m + 1)]))) := by
                have := own_set HN.out (acc1.length * 2 + 1) (.int .i64 (m + 1))
                rw [flatN_set] at this
                exact this
              clear hrd
              go_wp2_with fail
              go_roundw
              case rel => exact ⟨k + 1, by omega, by go_num, HB2.out.setCell hgb2 _, by rw [HNX.out, List.length_append]; exact HN2.out⟩
              case measure => simp [intOf]; omega
        · have hk2 : k = l.length := by omega
          subst hk2
          have HFIN : Hid (ts.take l.length = ts) := List.take_of_length_le (by rw [HTL.out]; exact Nat.le_refl _)
          have HOUT : Hid (Below w.heap.size w wr) := (HBW.out.then_below (hb.trans hb2) HBW.out.size).then_below hbq (Nat.le_trans HBW.out.size ((hb.trans hb2).size))
          have HROW2 : Hid (wr.ownsRow w.heap.size 36 2 u8 (needsOf ts).length (flatN (needsOf ts))) := by
            have := HNQ.out
            rw [HFIN.out] at this
            exact this.mono (Nat.le_trans HBW.out.size ((hb.trans hb2).size))
          go_wp2_with fail
          rw [HTS.out]
          refine bodyPost_ret (v := .tuple #[u8, .int .i64 0]) (by unfold results; simp only [Tryz.results5]; go_simp) rfl ⟨u8, rfl, HOUT.out, HROW2.out⟩
end Go.Proofs.YtmjonmoagpkdiabGreatDoor
