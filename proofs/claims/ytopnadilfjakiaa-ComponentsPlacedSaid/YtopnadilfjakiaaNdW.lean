/-
  The walks of the reference's needs.
-/
import Derived.Test.YtopnadilfjakiaaNdR
import Derived.Test.YtopnadilfjakiaaSpotR
namespace Go.Proofs.Ytopnadilfjakiaa
open Go.RowKit Go.WideMaps Go.Maps

/-- What stands while the map is ranged over. -/
def NdSt (w : World) (B n : Nat) (D : DataW Unit) (parts : List (List UInt8)) (left : Lit → Bool) (cnt : Nat) (out : List (List UInt8 × Int)) (v : Value) (wr : World) : Prop :=
  wr.ranges Try.prog 9 (plainElem Try.prog 3) B w.heap.size n D left cnt ∧ Below w.heap.size w wr ∧ wr.ownsRow (w.heap.size + 1) 60 2 v out.length (out.flatMap encNd) ∧ OutIs parts left out

set_option maxHeartbeats 1000000 in
theorem insNone_any (p : Option Addr) (c : Nat) (f : Value) (w : World) : Calls Try.prog 81 #[.slice p 0 c, .int .i64 0, .int .i64 0, f] w fun e w' => e = .returned (.tuple #[]) ∧ w = w' := by
  go_enter Try.func81, Try.ntmps81
  go_wp2_with fail
  refine wp_loop_rounds 1 ?_
  rw [rounds_succ]
  go_wp2_with fail
  go_end0
  exact ⟨rfl, rfl⟩
set_option maxHeartbeats 1000000 in
theorem pdqNone_any (p : Option Addr) (c : Nat) (lim : Int) (f : Value) (w : World) : Calls Try.prog 73 #[.slice p 0 c, .int .i64 0, .int .i64 0, .int .i64 lim, f] w fun e w' => e = .returned (.tuple #[]) ∧ w = w' := by
  go_enter Try.func73, Try.ntmps73
  go_wp2_with fail
  refine wp_loop_rounds 1 ?_
  rw [rounds_succ]
  go_wp2_with fail
  refine (insNone_any _ _ _ _).mono ?_
  rintro e w' ⟨rfl, rfl⟩
  go_wp2_with fail
  ((try simp only [Exit.inBlock, Exit.then]); refine bodyPost_ret (results_none rfl _ _ _) rfl ?_)
  exact ⟨rfl, rfl⟩
set_option maxHeartbeats 1000000 in
theorem sortNone_any (p : Option Addr) (c : Nat) (f : Value) (w : World) : Calls Try.prog 51 #[.slice p 0 c, f] w fun e w' => e = .returned (.tuple #[]) ∧ w = w' := by
  go_enter Try.func51, Try.ntmps51
  go_wp2_with fail
  refine (Try.bits_Len 0 _ (by omega) (by omega)).mono ?_
  rintro e w' ⟨rfl, rfl⟩
  go_wp2_with fail
  refine (pdqNone_any _ _ _ _ _).mono ?_
  rintro e w' ⟨rfl, rfl⟩
  go_wp2_with fail
  go_end0
  exact ⟨rfl, rfl⟩

set_option maxRecDepth 100000 in
set_option maxHeartbeats 4000000 in
theorem needsOfMap_any (B n : Nat) (D : DataW Unit) (parts : List (List UInt8)) (w : World) (hown : w.ownsMap Try.prog 9 (plainElem Try.prog 3) B n D) (hD : MapIs D parts) (hn : n ≤ 12) :
    Calls Try.prog 37 #[.map (some B)] w fun e w' => ∃ v, e = .returned v ∧ Below w.heap.size w w' ∧ ReadsF w.heap.size encNd v (needsOf (parts.mergeSort fun x y => decide (x ≤ y))) w' := by
  have HD := Lib.hid hD
  have hsz := hown.size_le
  have hB := hown.lt
  clear hD
  go_enter Try.func37, Try.ntmps37
  go_wp2_with (at_range; refine hold ?_)
  refine loose ?_
  refine wpList_range_own _ rfl _ 85 rfl 9 3 lawStr Try.underlying85 _ B n D rfl hown ?_
  intro w0 hrg0 hg0 hs0
  have H0 : Hid (NdSt w B n D parts (has D) (size D) [] (.slice none 0 0) w0) := ⟨hrg0, (Below.refl _ w).grown hg0 (Nat.le_refl _) (fun j hj => by cases hj), World.ownsRow_nil _ _ _ _, outIs_start HD.out⟩
  have hc0 : ([] : List (List UInt8 × Int)).length + size D ≤ n := by simpa using hsz
  have hz0 : w.heap.size < w0.heap.size := by omega
  clear hrg0 hg0 hs0 hown hsz
  go_wp2_with fail
  go_frame
  go_loopw [3] (fun v wr => ∃ (left : Lit → Bool) (cnt : Nat) (out : List (List UInt8 × Int)), out.length + cnt ≤ n ∧ w.heap.size < wr.heap.size ∧ Hid (NdSt w B n D parts left cnt out v wr)) (fun _ wr => wr.rangeLeft B w.heap.size)
  case atStart => exact ⟨_, _, [], hc0, hz0, H0⟩
  case round =>
    clear hc0 hz0 H0
    obtain ⟨left, cnt, out, hcn, hz, HS⟩ := hrel
    obtain ⟨A3, k3, rfl, _⟩ := own_form HS.out.2.2.1
    go_wp2_with (at_next; refine hold ?_)
    refine loose ?_
    refine wpList_next_ranges _ rfl _ rfl 9 lawStr (plainElem Try.prog 3) Value.string (Value.int .i64) (fun key kl h => by obtain ⟨s, e, _⟩ := plainStr_inv h; exact ⟨s, e⟩) (fun v y h => by obtain ⟨a, e, _⟩ := plainElem_int_inv Try.underlying3 h; exact ⟨a, e⟩) B w.heap.size n D left cnt rfl HS.out.1 ?_ ?_
    · intro hc0 hl0
      have HL := Lib.hid hl0
      clear hl0
      rcases Nat.eq_zero_or_pos out.length with h0 | h0
      · obtain rfl : out = [] := List.length_eq_zero_iff.mp h0
        have HE := Lib.hid (outIs_end (out' := []) HS.out.2.2.2 HL.out (List.Perm.refl _) List.Pairwise.nil)
        clear h0
        go_wp2_with fail
        refine (sortNone_any _ _ _ _).mono ?_
        rintro e w' ⟨rfl, rfl⟩
        go_wp2_with fail
        go_ret
        refine ⟨_, rfl, HS.out.2.1, ?_⟩
        rw [← HE.out]
        exact ⟨A3, k3, rfl, .inl rfl⟩
      · have CS := Lib.hid (sortNeed_any _ out (w.heap.size + 1) wr HS.out.2.2.1 (by omega) (by omega) h0)
        clear h0
        go_wp2_with fail
        refine CS.out.mono ?_
        rintro e w' ⟨rfl, hb, out', hp, hpw, hown⟩
        have HE := Lib.hid (outIs_end HS.out.2.2.2 HL.out hp hpw)
        have HF : Hid (w'.ownsRow (w.heap.size + 1) 60 2 (.slice A3 out.length k3) out.length (out'.flatMap encNd) ∧ out.length = out'.length) := ⟨hown, hp.length_eq.symm⟩
        have HB : Hid (Below w.heap.size w w') := HS.out.2.1.trans (hb.mono (by omega))
        clear hb hp hpw hown CS
        go_wp2_with fail
        go_ret
        refine ⟨_, rfl, HB.out, ?_⟩
        rw [← HE.out]
        have hro := HF.out.1
        rw [HF.out.2] at hro ⊢
        exact (readsF_own hro).least (by omega)
    · intro x c kl y w1 cnt1 hkx hlk hRv hat hrg1 hlt hg1 hs1 hen
      obtain ⟨s', es, rfl⟩ := plainStr_inv hkx
      cases es
      obtain ⟨c', ec, rfl, hwc⟩ := plainElem_int_inv Try.underlying3 hRv
      cases ec
      have hmem := HS.out.2.2.2.1 _ hlk
      have hc : c = (parts.count x.data.toList : Int) := by
        have h1 := hat .nil
        rw [HD.out.2, if_pos hmem] at h1
        simpa using h1.symm
      have HO := Lib.hid (outIs_step HS.out.2.2.2 hlk hc)
      have HW : Hid (w1.ranges Try.prog 9 (plainElem Try.prog 3) B w.heap.size n D (fun z => left z && !z.sameKey (.string x.data.toList)) cnt1 ∧ Below w.heap.size w w1 ∧ w1.ownsRow (w.heap.size + 1) 60 2 (.slice A3 out.length k3) out.length (out.flatMap encNd)) :=
        ⟨hrg1, HS.out.2.1.grown hg1 HS.out.2.1.size (fun j hj => by cases hj; exact Nat.le_refl _), HS.out.2.2.1.kept hg1 (.inr (fun e => row_ne_low HS.out.2.2.1 (Nat.lt_succ_self _) e.symm))⟩
      have hz1 : w.heap.size < w1.heap.size := by omega
      have HLE := Lib.hid (hrg1.left_eq)
      have HLO := Lib.hid (HS.out.1.left_eq)
      clear hkx hlk hRv hat hrg1 hg1 hs1 hwc hmem hc HS
      go_wp2_with (at_builtin; refine hold ?_)
      refine loose ?_
      obtain ⟨i0, hi0, hz0, hzz1, hz2⟩ := info_parts need_info
      refine wpList_append_own _ rfl _ _ 36 rfl (w.heap.size + 1) 60 i0 _ 2 24 Try.underlying36 hi0 hz0 hzz1 hz2 rfl (by omega) _ out.length (out.flatMap encNd) rfl (HW.out.2.2.alloc _) ⟨w1.heap.size, 0, none⟩ 1 1 [.string x, .int .i64 c] rfl rfl ?_ (by intro u hu; simp at hu; rcases hu with rfl | rfl <;> rfl) (by unfold maxLen; omega) (by omega) (by simp; omega) ?_
      · intro q u hu
        rw [addr_new, cell_of_blk (blk_new (g := w1.heap.size) _ _ rfl)]
        simpa using hu
      intro v' w' hown' hg' _
      have hsz' := hg'.size
      simp at hsz'
      have hrw := HW.out.2.2.alloc (.cells #[.string x, .int .i64 c] 60)
      have hkr := (HW.out.1.alloc (.cells #[.string x, .int .i64 c] 60)).kept hg' (row_ne_low hrw (by omega)) (row_ne_low hrw (Nat.lt_succ_self _))
      have HF : Hid (NdSt w B n D parts (fun z => left z && !z.sameKey (.string x.data.toList)) cnt1 (out ++ [(x.data.toList, c)]) v' w') := by
        refine ⟨hkr, (HW.out.2.1.alloc HW.out.2.1.size _).grown hg' (by simp; omega) (fun q e => by have := own_row hrw q e; omega), ?_, HO.out⟩
        have e1 : (out ++ [(x.data.toList, c)]).flatMap encNd = out.flatMap encNd ++ [.string x, .int .i64 c] := by rw [List.flatMap_append]; simp [encNd, encStr]
        rw [e1, List.length_append]
        exact hown'
      have HL2 : Hid (w'.rangeLeft B w.heap.size = cnt1) := hkr.left_eq
      have hzw : w.heap.size < w'.heap.size := by omega
      clear hown' hg' hi0 hz0 hzz1 hz2 hrw hkr hen
      go_wp2_with fail
      go_roundw
      case rel => exact ⟨_, cnt1, _, by rw [List.length_append]; simp; omega, hzw, HF⟩
      case measure => rw [HL2.out, HLO.out]; exact hlt

set_option maxRecDepth 100000 in
set_option maxHeartbeats 800000 in
theorem needsR_any (key : ByteArray) (W H : Int) (A : Option Addr) (c : Nat) (l : List Pl) (w : World) (hA : PlAt w A l) (hE : prodErr key W H l = 0) (hl : l.length ≤ 12) :
    Calls Try.prog 16 #[prod key W H A l.length c] w fun e w' => ∃ v, e = .returned v ∧ Below w.heap.size w w' ∧ ReadsF w.heap.size encNd v (needsOf ((l.map partOf).mergeSort fun x y => decide (x ≤ y))) w' := by
  have HK : Hid (∀ p ∈ l, p.part.size ≤ maxLen) := fun p hp => by
    obtain ⟨_, _, _, _, h, _⟩ := prodErr_ok hE
    have := h p hp
    simp only [Bool.and_eq_true] at this
    exact key_size this.1.2
  have hmm := @run_makeMap Try.prog
  clear hE
  go_enter Try.func16, Try.ntmps16
  go_wp2_with fail
  have H0 : Hid (Below w.heap.size w ((w.alloc (Obj.cells #[.string key, .int .i64 W, .int .i64 H, .slice A l.length c] 28)).alloc (.map #[] 0)) ∧ ∃ D, ((w.alloc (Obj.cells #[.string key, .int .i64 W, .int .i64 H, .slice A l.length c] 28)).alloc (.map #[] 0)).ownsMap Try.prog 9 (plainElem Try.prog 3) (w.heap.size + 1) 0 D ∧ MapIs D ((l.map partOf).take 0)) := by
    refine ⟨((Below.refl _ _).alloc (Nat.le_refl _) _).alloc (by simp) _, .map [], ?_, mapIs_nil⟩
    have := World.ownsMap_made (H := Unit) (w.alloc (Obj.cells #[.string key, .int .i64 W, .int .i64 H, .slice A l.length c] 28)) Try.prog 9 (plainElem Try.prog 3)
    simpa using this
  clear hmm
  go_loopw [10] (fun kk wr => ∃ k : Nat, k ≤ l.length ∧ kk = .int .i64 k ∧ w.heap.size < wr.heap.size ∧ Hid (Below w.heap.size w wr ∧ ∃ D, wr.ownsMap Try.prog 9 (plainElem Try.prog 3) (w.heap.size + 1) k D ∧ MapIs D ((l.map partOf).take k))) (fun kk _ => l.length - (intOf kk).toNat)
  case atStart => exact ⟨0, by omega, rfl, by simp; omega, H0⟩
  case round =>
    obtain ⟨k, hk, rfl, hz, HS⟩ := hrel
    by_cases hlt : k < l.length
    · obtain ⟨p, hp⟩ : ∃ p, l[k] = p := ⟨_, rfl⟩
      have hps := HK.out p (by rw [← hp]; exact List.getElem_mem hlt)
      have hnx : (l.map partOf).take (k + 1) = (l.map partOf).take k ++ [partOf p] := by
        rw [List.take_succ_eq_append_getElem (by simpa using hlt)]
        simp [hp]
      rcases hA with rfl | ⟨g, rfl, hrow⟩
      · simp at hlt
      have hr2 := hrow.below HS.out.1
      obtain ⟨q0, q1, q2, q3, q4⟩ := row_pl hr2 hlt
      rw [hp] at q0 q1 q2 q3 q4
      have hg := hr2.1
      have HROW := Lib.hid hrow
      have HNX := Lib.hid hnx
      have HPS := Lib.hid hps
      clear hp hps hnx hrow hr2
      obtain ⟨pn, pp, px, py, pq⟩ := p
      dsimp only at q0 q1 q2 q3 q4
      have i1 : (0 : Int) ≤ (k : Int) := by omega
      have i2 : (k : Int) < (l.length : Int) := by omega
      obtain ⟨D, hown, hD⟩ := HS.out.2
      have HOW := Lib.hid (hown.alloc (Obj.cells #[.string pn, .string pp, .int .i64 px, .int .i64 py, .int .i64 pq] 50))
      have HDD := Lib.hid hD
      clear hown hD
      go_wp2_with (at_lookup; refine hold ?_)
      refine loose ?_
      refine wpList_lookup_own_int _ rfl _ _ 85 rfl 9 3 .i64 lawStr Try.underlying85 Try.underlying3 (zeroInt _) (w.heap.size + 1) k D rfl HOW.out _ _ rfl (keyOf_string_mk Try.underlying9 HPS.out) ?_
      intro c hat _
      have hcc := mapIs_count HDD.out hat
      have hc0 : 0 ≤ c := by omega
      have hc1 : c ≤ 1000 := by
        have h1 := List.count_le_length (a := pp.data.toList) (l := (l.map partOf).take k)
        rw [List.length_take, List.length_map] at h1
        omega
      have HCC := Lib.hid (mapIs_put HDD.out hcc)
      clear hat hcc
      go_wp2_with (at_mapUpdate; refine hold ?_)
      refine loose ?_
      refine wpList_mapUpdate_own _ rfl _ _ _ 85 rfl 9 3 lawStr Try.underlying85 _ (w.heap.size + 1) k D rfl HOW.out (by unfold maxLen; omega) _ _ _ rfl rfl (keyOf_string_mk Try.underlying9 HPS.out) _ [] (plainElem_int Try.underlying3 (wf_small (c := c + 1) (by omega) (by omega))) ?_
      intro w2 hown2 hgrow2
      have hsz2 := hgrow2.size
      simp at hsz2
      have HF : Hid (Below w.heap.size w w2 ∧ ∃ D, w2.ownsMap Try.prog 9 (plainElem Try.prog 3) (w.heap.size + 1) (k + 1) D ∧ MapIs D ((l.map partOf).take (k + 1))) := by
        refine ⟨(HS.out.1.alloc HS.out.1.size _).grown hgrow2 (by simp; omega) (fun j hj => by cases hj; omega), _, hown2, ?_⟩
        rw [HNX.out]
        exact HCC.out
      have hz2 : w.heap.size < w2.heap.size := by omega
      clear hown2 hgrow2
      go_wp2_with fail
      go_roundw
      case rel => exact ⟨k + 1, by omega, by go_num, hz2, HF⟩
      case measure => simp [intOf]; omega
    · obtain rfl : k = l.length := by omega
      obtain ⟨D, hown, hD⟩ := HS.out.2
      rw [List.take_of_length_le (by simp)] at hD
      have CN := Lib.hid (needsOfMap_any (w.heap.size + 1) l.length D (l.map partOf) wr hown hD hl)
      clear hown hD
      go_wp2_with fail
      refine CN.out.mono ?_
      rintro e w2 ⟨v, rfl, hb, hr⟩
      have HF : Hid (Below w.heap.size w w2 ∧ ReadsF w.heap.size encNd v (needsOf ((l.map partOf).mergeSort fun x y => decide (x ≤ y))) w2) := ⟨HS.out.1.then_below hb HS.out.1.size, hr.least (by omega)⟩
      clear hb hr CN
      go_wp2_with fail
      go_ret
      exact ⟨_, rfl, HF.out.1, HF.out.2⟩
end Go.Proofs.Ytopnadilfjakiaa
