/-
  The walk of the law TopNeedsAreBalanced.
-/
import Derived.Test.YtmjonmoagpkdiabGreatDoorLmG
import Derived.Test.YtmjonmoagpkdiabGreatDoorToH
import Derived.Test.YtmjonmoagpkdiabGreatDoorToR
import Derived.Test.YtmjonmoagpkdiabGreatDoorLbY
import Derived.Test.YtmjonmoagpkdiabGreatDoorLcI
import Derived.Test.YtmjonmoagpkdiabGreatDoorLbS
namespace Go.Proofs.YtmjonmoagpkdiabGreatDoor
open Go.RowKit
set_option linter.unusedSimpArgs false
set_option linter.unusedVariables false

theorem Tz.kept {sb : Nat} {W W' : World} (h : Tz W) (hk : Kept sb W W') (hs : 1 < sb) : Tz W' :=
  ⟨Nat.lt_of_lt_of_le h.1 hk.more, fun j hj => (hk.cell (p := ⟨1, j, none⟩) h.1 (by show 1 ≠ sb; omega)).trans (h.2 j hj)⟩
/-- The needs, and what the walk goes on with. -/
structure T6 (wo : World) (sb gp : Nat) (v2 : Value) (ns : List Nd) (key : ByteArray) (W H : Int) (A : Option Addr) (n c : Nat) (U : World) : Prop where
  tk : Took sb 1300 wo U
  ns : Reads encD v2 ns U
  bx : U.heap[gp]? = some (.cells #[.string key, .int .i64 W, .int .i64 H, .slice A n c] 28 (0, 0))
  tz : Tz U
theorem T6.then_ {wo : World} {sb gp : Nat} {v2 : Value} {ns : List Nd} {key : ByteArray} {W H : Int} {A : Option Addr} {n c : Nat} {U U' : World} (h : T6 wo sb gp v2 ns key W H A n c U) (hb : Below U.heap.size U U') : T6 wo sb gp v2 ns key W H A n c U' :=
  ⟨h.tk.below hb, h.ns.below hb, blk_below hb h.bx, h.tz.below hb⟩
theorem cans_take {ns : List Nd} {t : Nat} (h : t < ns.length) : cans (ns.take (t + 1)) = cans (ns.take t) ++ [ns[t].part] := by
  unfold cans
  rw [List.take_succ_eq_append_getElem h, List.map_append]
  rfl
theorem cans_len (ns : List Nd) : (cans ns).length = ns.length := by unfold cans; rw [List.length_map]

set_option maxRecDepth 100000 in
set_option maxHeartbeats 16000000 in
theorem lawT_any (A0 : Option Addr) (n c0 : Nat) (w : World) (hc : n ≤ c0) (hm : c0 ≤ 9223372036854775807) (hA : IntsAt w A0 n w.heap.size) (hT : Tz w) :
    Calls Tryz.prog 3 #[.slice A0 n c0] w fun e w' => e = .returned (.bool true) ∧ Below w.heap.size w w' := by
  have hs0 : IsStream (w.alloc (.cells #[.slice A0 n c0, .int .i64 0] 25)) w.heap.size 0 := by
    refine ⟨A0, n, c0, 0, hc, hm, Nat.le_refl _, blk_new w _ rfl, fun hn => ?_⟩
    obtain ⟨ad, e, h1, h2, h3⟩ := hA hn
    refine ⟨ad, e, by simp; omega, h2, fun k hk => ?_⟩
    obtain ⟨x, hx⟩ := h3 k hk
    exact ⟨x, ((((Below.refl w.heap.size w).alloc (Nat.le_refl _) _).cell (by rw [addr_block]; exact h1))).trans hx⟩
  have h1w : 1 < w.heap.size := hT.1
  obtain ⟨wo, hwo⟩ : ∃ wo, wo = w.alloc (.cells #[.slice A0 n c0, .int .i64 0] 25) := ⟨_, rfl⟩
  have HWO : Hid (Below w.heap.size w wo ∧ w.heap.size < wo.heap.size) := ⟨by rw [hwo]; exact (Below.refl _ _).alloc (Nat.le_refl _) _, by rw [hwo]; simp⟩
  have HW := Lib.hid hwo
  rw [← hwo] at hs0
  clear hwo
  have H0 : Hid (Took w.heap.size 0 wo wo ∧ Tz wo) := ⟨Took.refl hs0, hT.below HWO.out.1⟩
  have hwz := HWO.out.2
  have HKB : Hid (∀ W, Kept w.heap.size wo W → Below w.heap.size w W) := fun W h => kept_belowL rfl (by rw [HW.out] at h; exact h)
  clear hT hs0 hA
  go_enter Tryz.func3, Tryz.ntmps3
  go_upto_region 2 with (fail)
  rw [← HW.out]
  go_wp2_with fail
  refine (rightProd_any w.heap.size 0 wo (by omega) H0.out.1.1).mono ?_
  rintro e w1 ⟨key, Wd, Hg, A, c, l, rfl, hE, h5, hP, t1⟩
  have HE := Lib.hid (And.intro hE h5)
  have hl5 := h5
  have H1 : Hid (Took w.heap.size 1200 wo w1 ∧ PlAt w1 A l ∧ Tz w1) := ⟨t1.more (by omega), hP, H0.out.2.kept t1.2 h1w⟩
  have H2 : Hid (Took w.heap.size 1200 wo (w1.alloc (.cells #[.string key, .int .i64 Wd, .int .i64 Hg, .slice A l.length c] 28)) ∧ PlAt (w1.alloc (.cells #[.string key, .int .i64 Wd, .int .i64 Hg, .slice A l.length c] 28)) A l ∧ Tz (w1.alloc (.cells #[.string key, .int .i64 Wd, .int .i64 Hg, .slice A l.length c] 28)) ∧ (w1.alloc (.cells #[.string key, .int .i64 Wd, .int .i64 Hg, .slice A l.length c] 28)).heap[w1.heap.size]? = some (.cells #[.string key, .int .i64 Wd, .int .i64 Hg, .slice A l.length c] 28 (0, 0))) :=
    ⟨H1.out.1.alloc _, H1.out.2.1.below ((Below.refl _ _).alloc (Nat.le_refl _) _), H1.out.2.2.below ((Below.refl _ _).alloc (Nat.le_refl _) _), blk_new w1 _ rfl⟩
  clear hE h5 hP t1 H1 H0
  go_upto_region 3 with (fail)
  generalize w1.alloc (.cells #[.string key, .int .i64 Wd, .int .i64 Hg, .slice A l.length c] 28) = w2 at *
  obtain ⟨gp, hgp⟩ : ∃ gp, w1.heap.size = gp := ⟨_, rfl⟩
  rw [hgp] at H2 ⊢
  clear hgp
  obtain ⟨p0, p1, p2, p3⟩ := blk4 H2.out.2.2.2
  have lp := lt_of_blk H2.out.2.2.2
  have CN := needs_any key Wd Hg A c l (by omega) w2 H2.out.2.1 HE.out.1
  rw [show ((l.map partOf).mergeSort fun x y => decide (x ≤ y)) = ptsL l from rfl, flatN_nds, show (needsOf (ptsL l)).length = (nds (needsOf (ptsL l))).length from (List.length_map _).symm, show nds (needsOf (ptsL l)) = needNd l from rfl] at CN
  have HN := Lib.hid CN
  have HNR := Lib.hid (needNd_ok HE.out.1 HE.out.2)
  have HSU : Hid (sumM (needNd l) = l.length) := needNd_sum l
  generalize needNd l = ns at *
  clear CN
  go_wp2_with fail
  refine HN.out.mono ?_
  rintro e w3 ⟨v2, rfl, b3, o3⟩
  obtain ⟨A2, c2, rfl, _⟩ := own_form o3
  have H3 : Hid (T6 wo w.heap.size gp (.slice A2 ns.length c2) ns key Wd Hg A l.length c w3) := ⟨(H2.out.1.below b3).more (by omega), reads_own o3, blk_below b3 H2.out.2.2.2, H2.out.2.2.1.below b3⟩
  have hnf := HNR.out.few
  have hz3 := H3.out.tk.size
  clear HN b3 o3 H2 p0 p1 p2 p3 lp
  obtain ⟨i0, hi0, hz0, hzz1, hz20⟩ := info_parts str_info9
  have HIS := Lib.hid (And.intro hi0 (And.intro hz0 (And.intro hzz1 hz20)))
  clear hi0 hz0 hzz1 hz20
  go_wp2_with fail
  go_loopw [7, 31] (fun v7 kk wr => ∃ t : Nat, t ≤ ns.length ∧ kk = .int .i64 t ∧ Hid (Below w3.heap.size w3 wr ∧ wr.ownsRow w3.heap.size 9 1 v7 t ((cans (ns.take t)).map Value.string))) (fun _ kk _ => ns.length - (intOf kk).toNat)
  case atStart => exact ⟨0, by omega, rfl, Below.refl _ _, World.ownsRow_nil _ _ _ _⟩
  case round =>
    obtain ⟨t, ht, rfl, HS⟩ := hrel
    obtain ⟨A7, c7, rfl, hA7⟩ := own_form HS.out.2
    have hsz := HS.out.1.size
    by_cases htl : t < ns.length
    · obtain ⟨g2, e2, hg2, n0, n1⟩ := readsD_at (H3.out.ns.below HS.out.1) htl
      cases e2
      have HCT := Lib.hid (cans_take htl)
      generalize ns[t] = nd at *
      obtain ⟨part, many⟩ := nd
      dsimp only at n0 n1 HCT
      have i1 : (0 : Int) ≤ (t : Int) := by omega
      have i2 : (t : Int) < (ns.length : Int) := by omega
      have H5 : Hid (Below w3.heap.size w3 (wr.alloc (.cells #[.string part, .int .i64 many] 36)) ∧ (wr.alloc (.cells #[.string part, .int .i64 many] 36)).ownsRow w3.heap.size 9 1 (.slice A7 t c7) t ((cans (ns.take t)).map Value.string) ∧ (wr.alloc (.cells #[.string part, .int .i64 many] 36)).heap[wr.heap.size]? = some (.cells #[.string part, .int .i64 many] 36 (0, 0))) := ⟨HS.out.1.alloc hsz _, HS.out.2.alloc _, blk_new wr _ rfl⟩
      go_upto_region 8 with (fail)
      generalize wr.alloc (.cells #[.string part, .int .i64 many] 36) = w5 at *
      obtain ⟨gx, hgx⟩ : ∃ gx, wr.heap.size = gx := ⟨_, rfl⟩
      rw [hgx] at H5 ⊢
      clear hgx n0 n1 HS hA7
      obtain ⟨p0, p1, _, _⟩ := blk2 H5.out.2.2
      have pl := lt_of_blk H5.out.2.2
      have hz5 := H5.out.1.size
      go_wp2_with (at_builtin; refine hold ?_)
      refine loose ?_
      refine wpList_append_own _ rfl _ _ 34 rfl w3.heap.size 9 i0 _ 1 16 Tryz.underlying34 HIS.out.1 HIS.out.2.1 HIS.out.2.2.1 HIS.out.2.2.2 rfl (by omega) _ t ((cans (ns.take t)).map Value.string) rfl (H5.out.2.1.alloc _) ⟨w5.heap.size, 0, none⟩ 1 1 [.string part] rfl rfl (cell_one_new _ _ _) (by intro u hu; simp at hu; subst hu; rfl) (by unfold maxLen; omega) (by omega) (by simp; omega) ?_
      intro v' w6 hown' hg' _
      have H6 : Hid (Below w3.heap.size w3 w6 ∧ w6.ownsRow w3.heap.size 9 1 v' (t + 1) ((cans (ns.take (t + 1))).map Value.string)) := by
        refine ⟨(H5.out.1.alloc hz5 _).grown hg' (by simp; omega) (own_row H5.out.2.1), ?_⟩
        rw [HCT.out, List.map_append]
        exact hown'
      clear hown' hg' H5 p0 p1 pl
      go_wp2_with fail
      go_roundw
      case rel => exact ⟨t + 1, by omega, by go_num, H6⟩
      case measure => simp [intOf] <;> omega
    · obtain rfl : t = ns.length := by omega
      have i1 : ¬ (ns.length : Int) < (ns.length : Int) := by omega
      have hcanR := HS.out.2
      rw [List.take_of_length_le (Nat.le_refl _)] at hcanR
      have H4 : Hid (T6 wo w.heap.size gp (.slice A2 ns.length c2) ns key Wd Hg A l.length c wr ∧ ReadsF 0 encS (.slice A7 ns.length c7) (cans ns) wr) := ⟨H3.out.then_ HS.out.1, by
        have h := readsF_own (enc := encS) (l := cans ns) (T := 9) (size := 1) (v := .slice A7 ns.length c7) (by rw [cans_len, show (cans ns).flatMap encS = (cans ns).map Value.string from flatS_map _]; exact hcanR)
        exact h.least (Nat.zero_le _)⟩
      have H5 : Hid (T6 wo w.heap.size gp (.slice A2 ns.length c2) ns key Wd Hg A l.length c (wr.alloc (.cells #[.string ⟨#[109, 49]⟩, .int .i64 1, .int .i64 0, .int .i64 10, .slice A7 ns.length c7, .string ⟨#[109, 50]⟩, .int .i64 1, .int .i64 0, .int .i64 10, .slice A7 ns.length c7] 38)) ∧ MsF 0 (.slice (some ⟨wr.heap.size, 0, none⟩) 2 2) (ms2 ns) (wr.alloc (.cells #[.string ⟨#[109, 49]⟩, .int .i64 1, .int .i64 0, .int .i64 10, .slice A7 ns.length c7, .string ⟨#[109, 50]⟩, .int .i64 1, .int .i64 0, .int .i64 10, .slice A7 ns.length c7] 38))) := by
        have hb := (Below.refl wr.heap.size wr).alloc (Nat.le_refl _) (.cells #[.string ⟨#[109, 49]⟩, .int .i64 1, .int .i64 0, .int .i64 10, .slice A7 ns.length c7, .string ⟨#[109, 50]⟩, .int .i64 1, .int .i64 0, .int .i64 10, .slice A7 ns.length c7] 38)
        have hnb := blk_new wr (.cells #[.string ⟨#[109, 49]⟩, .int .i64 1, .int .i64 0, .int .i64 10, .slice A7 ns.length c7, .string ⟨#[109, 50]⟩, .int .i64 1, .int .i64 0, .int .i64 10, .slice A7 ns.length c7] 38) rfl
        have hr := H4.out.2.below hb
        refine ⟨H4.out.1.then_ hb, ⟨_, _, rfl, by simp [ms2], .inr ⟨wr.heap.size, rfl, by simp, fun j hj => ?_⟩⟩⟩
        have hj2 : j = 0 ∨ j = 1 := by simp [ms2] at hj; omega
        rcases hj2 with rfl | rfl
        · exact ⟨by rw [cell_of_blk hnb]; rfl, by rw [cell_of_blk hnb]; rfl, by rw [cell_of_blk hnb]; rfl, by rw [cell_of_blk hnb]; rfl, _, by rw [cell_of_blk hnb]; rfl, hr⟩
        · exact ⟨by rw [cell_of_blk hnb]; rfl, by rw [cell_of_blk hnb]; rfl, by rw [cell_of_blk hnb]; rfl, by rw [cell_of_blk hnb]; rfl, _, by rw [cell_of_blk hnb]; rfl, hr⟩
      clear H3 HS H4 hcanR
      go_upto_region 11 with (fail)
      generalize wr.alloc (.cells #[.string ⟨#[109, 49]⟩, .int .i64 1, .int .i64 0, .int .i64 10, .slice A7 ns.length c7, .string ⟨#[109, 50]⟩, .int .i64 1, .int .i64 0, .int .i64 10, .slice A7 ns.length c7] 38) = w5 at *
      obtain ⟨gm, hgm⟩ : ∃ g, wr.heap.size = g := ⟨_, rfl⟩
      rw [hgm] at H5 ⊢
      clear hgm
      obtain ⟨b, hb, hbl, hbr⟩ := HNR.out.bal
      have hE0 : balErr (ms2 ns) ns = 0 := by unfold balErr; rw [if_pos HNR.out.both, if_neg (by omega)]
      obtain ⟨e1, e2, e3⟩ := bV_good (ms := ms2 ns) (ns := ns) hE0
      obtain ⟨f1, f2, f3⟩ := bal_some hb
      have hp0 : allErr (ms2 ns) ns (toZ b) = 0 := by
        unfold allErr thenL
        rw [if_pos HNR.out.both]
        exact HNR.out.plan hbl hbr
      have hsum := cy2_sum hbl hbr
      have hpos := cy2_pos (b := b) HNR.out
      have hbd := bound_two hbl hbr ⟨hpos.1.1, hpos.2.1⟩
      have hc7 : ∀ m ∈ ms2 ns, m.can.length ≤ 1000000 := fun m hm => by
        have hcl := cans_len ns
        simp only [ms2, List.mem_cons, List.not_mem_nil, or_false] at hm
        rcases hm with rfl | rfl <;> (show (cans ns).length ≤ 1000000; omega)
      have hms2 : (ms2 ns).length ≤ 1000000 := by simp [ms2]
      have C1 := Lib.hid (fun (U : World) (h1 : MsF 0 (.slice (some ⟨gm, 0, none⟩) 2 2) (ms2 ns) U) (h : T6 wo w.heap.size gp (.slice A2 ns.length c2) ns key Wd Hg A l.length c U) => balanceL_any (ms2 ns) ns hms2 hc7 (by omega) h1 h.ns h.tz)
      have C2 := Lib.hid (fun (v : Value) (U : World) (h1 : MsF 0 (.slice (some ⟨gm, 0, none⟩) 2 2) (ms2 ns) U) (h : T6 wo w.heap.size gp (.slice A2 ns.length c2) ns key Wd Hg A l.length c U) (h3 : Reads encN v (toZ b) U) => cycles_any (ms2 ns) ns (toZ b) hms2 hc7 (by omega) (by rw [toZ_len]; omega) h1 h.ns h3)
      have C3 := Lib.hid (fun (U : World) (h1 : MsF 0 (.slice (some ⟨gm, 0, none⟩) 2 2) (ms2 ns) U) (h : T6 wo w.heap.size gp (.slice A2 ns.length c2) ns key Wd Hg A l.length c U) => bound_any (ms2 ns) ns hms2 hc7 (by omega) h1 h.ns)
      rw [e1, e2, e3, f1, f2, f3, hE0, mx_two] at C1
      rw [hp0, show cyV (ms2 ns) ns (toZ b) = cyL (ms2 ns) ns (toZ b) from if_pos hp0, cyL_two] at C2
      rw [show bdV (ms2 ns) ns = bdC (ms2 ns) ns from if_pos HNR.out.both, HNR.out.both] at C3
      rw [HSU.out] at hsum
      generalize bdC (ms2 ns) ns = bd at *
      generalize ms2 ns = ms at *
      generalize (cy2 b ns).1 = y0 at *
      generalize (cy2 b ns).2 = y1 at *
      obtain ⟨x, hx⟩ : ∃ x, max y0 y1 = x := ⟨_, rfl⟩
      rw [hx] at C1 hbd
      have HX := Lib.hid (And.intro hx hsum)
      obtain ⟨hpos1, hpos2⟩ := hpos
      have hlb : b.length ≤ 1000 := by omega
      clear hx hsum e1 e2 e3 f1 f2 f3 hE0 hp0 hb hc7 hms2 hbr HNR
      go_wp2_with fail
      refine (C1.out _ H5.out.2 H5.out.1).mono ?_
      rintro e w6 ⟨vp, rfl, rp, b6⟩
      have H6 := Lib.hid (And.intro (H5.out.1.then_ b6) (And.intro (H5.out.2.below b6) rp))
      clear b6 rp H5 C1
      obtain ⟨Ap, cp, rfl, _⟩ := H6.out.2.2
      go_wp2_with fail
      refine (C2.out _ _ H6.out.2.1 H6.out.1 H6.out.2.2).mono ?_
      rintro e w7 ⟨vc, rfl, rc, b7⟩
      have H7 := Lib.hid (And.intro (H6.out.1.then_ b7) (And.intro (H6.out.2.1.below b7) rc))
      clear b7 rc H6 C2
      obtain ⟨Ac, cc, rfl, hcr⟩ := H7.out.2.2
      obtain ⟨gc, rfl, hrow⟩ : ∃ gc : Nat, Ac = some ⟨gc, 0, none⟩ ∧ LineAt w7 gc ([y0, y1].flatMap encN) := by
        rcases hcr with h | ⟨g, e, h⟩
        · cases h
        · exact ⟨g, e, h⟩
      clear hcr hrow
      go_wp2_with fail
      refine (C3.out _ H7.out.2.1 H7.out.1).mono ?_
      rintro e w8 ⟨rfl, b8⟩
      have H8 : Hid (T6 wo w.heap.size gp (.slice A2 ns.length c2) ns key Wd Hg A l.length c w8 ∧ Reads encN (.slice (some ⟨gc, 0, none⟩) 2 cc) [y0, y1] w8) := ⟨H7.out.1.then_ b8, H7.out.2.2.below b8⟩
      clear b8 H7 C3
      have HROW : Hid (∀ U : World, Below w8.heap.size w8 U → U.cell? ⟨gc, 0, none⟩ = some (.int .i64 y0) ∧ U.cell? ⟨gc, 1, none⟩ = some (.int .i64 y1) ∧ gc < U.heap.size) := fun U hU => by
        obtain ⟨A', c', e, h⟩ := H8.out.2.below hU
        cases e
        rcases h with h | ⟨g, e, h⟩
        · cases h
        · cases e
          exact ⟨row_n h (k := 0) (by show 0 < 2; omega), row_n h (k := 1) (by show 1 < 2; omega), h.1⟩
      go_upto_region 16 with (fail)
      have hw18 : IntKind.i64.wrap (y0 + y1) = (l.length : Int) := by rw [HX.out.2]; exact IntWalk.i64_in _ (by omega)
      have HW18 := Lib.hid hw18
      clear hw18
      refine Rg.rgL (fun a b => Below a.heap.size a b)
        [(fun vs u => vs 0 = .int .i64 0), (fun vs u => vs 1 = .bool true), (fun vs u => vs 2 = .bool true), (fun vs u => vs 3 = .int .i64 0), (fun vs u => vs 4 = .bool true), (fun vs u => vs 5 = .bool true), (fun vs u => vs 6 = .bool true), (fun vs u => vs 7 = .slice (some ⟨gc, 0, none⟩) 2 cc), (fun vs u => vs 8 = .int .i64 2), (fun vs u => vs 9 = .bool true), (fun vs u => vs 10 = .bool true), (fun vs u => vs 11 = .bool true), (fun vs u => vs 12 = .slice (some ⟨gc, 0, none⟩) 2 cc), (fun vs u => vs 13 = .pointer (some ⟨gc, 0, none⟩)), (fun vs u => vs 14 = .int .i64 y0), (fun vs u => vs 15 = .slice (some ⟨gc, 0, none⟩) 2 cc), (fun vs u => vs 16 = .pointer (some ⟨gc, 1, none⟩)), (fun vs u => vs 17 = .int .i64 y1), (fun vs u => vs 18 = .int .i64 l.length), (fun vs u => vs 19 = .pointer (some ⟨gp, 3, none⟩)), (fun vs u => vs 20 = .slice A l.length c), (fun vs u => vs 21 = .int .i64 l.length), (fun vs u => vs 22 = .bool true), (fun vs u => vs 23 = .bool true), (fun vs u => vs 24 = .bool true), (fun vs u => vs 25 = .slice (some ⟨gc, 0, none⟩) 2 cc), (fun vs u => vs 26 = .pointer (some ⟨gc, 0, none⟩)), (fun vs u => vs 27 = .int .i64 y0), (fun vs u => vs 28 = .slice (some ⟨gc, 0, none⟩) 2 cc), (fun vs u => vs 29 = .pointer (some ⟨gc, 1, none⟩)), (fun vs u => vs 30 = .int .i64 y1), (fun vs u => vs 31 = .int .i64 x), (fun vs u => vs 32 = .int .i64 x), (fun vs u => vs 33 = .bool true), (fun vs u => vs 34 = .bool true), (fun vs u => vs 35 = .bool true), (fun vs u => vs 36 = .int .i64 bd), (fun vs u => vs 37 = .int .i64 x)]
        [[], [0], [0, 1], [0, 1, 2], [0, 1, 2, 3], [0, 1, 2, 3, 4], [0, 1, 2, 3, 4, 5], [0, 1, 2, 3, 4, 5, 6], [0, 1, 2, 3, 4, 5, 6, 7], [0, 1, 2, 3, 4, 5, 6, 7, 8], [0, 1, 2, 3, 4, 5, 6, 7, 8, 9], [0, 1, 2, 3, 4, 5, 6, 7, 8, 9, 10], [0, 1, 2, 3, 4, 5, 6, 7, 8, 9, 10, 11], [0, 1, 2, 3, 4, 5, 6, 7, 8, 9, 10, 11, 12], [0, 1, 2, 3, 4, 5, 6, 7, 8, 9, 10, 11, 12, 13], [0, 1, 2, 3, 4, 5, 6, 7, 8, 9, 10, 11], [0, 1, 2, 3, 4, 5, 6, 7, 8, 9, 10, 11, 15], [0, 1, 2, 3, 4, 5, 6, 7, 8, 9, 10, 11, 15, 16], [0, 1, 2, 3, 4, 5, 6, 7, 8, 9, 10, 11, 12, 13, 14, 15, 16, 17], [0, 1, 2, 3, 4, 5, 6, 7, 8, 9, 10, 11], [0, 1, 2, 3, 4, 5, 6, 7, 8, 9, 10, 11, 19], [0, 1, 2, 3, 4, 5, 6, 7, 8, 9, 10, 11, 19, 20], [0, 1, 2, 3, 4, 5, 6, 7, 8, 9, 10, 11, 12, 13, 14, 15, 16, 17, 18, 19, 20, 21], [0, 1, 2, 3, 4, 5, 6, 7, 8, 9, 10, 11, 12, 13, 14, 15, 16, 17, 18, 19, 20, 21, 22], [0, 1, 2, 3, 4, 5, 6, 7, 8, 9, 10, 11, 12, 13, 14, 15, 16, 17, 18, 19, 20, 21, 22, 23], [0, 1, 2, 3, 4, 5, 6, 7, 8, 9, 10, 11, 12, 13, 14, 15, 16, 17, 18, 19, 20, 21, 22, 23, 24], [0, 1, 2, 3, 4, 5, 6, 7, 8, 9, 10, 11, 12, 13, 14, 15, 16, 17, 18, 19, 20, 21, 22, 23, 24, 25], [0, 1, 2, 3, 4, 5, 6, 7, 8, 9, 10, 11, 12, 13, 14, 15, 16, 17, 18, 19, 20, 21, 22, 23, 24, 25, 26], [0, 1, 2, 3, 4, 5, 6, 7, 8, 9, 10, 11, 12, 13, 14, 15, 16, 17, 18, 19, 20, 21, 22, 23, 24], [0, 1, 2, 3, 4, 5, 6, 7, 8, 9, 10, 11, 12, 13, 14, 15, 16, 17, 18, 19, 20, 21, 22, 23, 24, 28], [0, 1, 2, 3, 4, 5, 6, 7, 8, 9, 10, 11, 12, 13, 14, 15, 16, 17, 18, 19, 20, 21, 22, 23, 24, 28, 29], [0, 1, 2, 3, 4, 5, 6, 7, 8, 9, 10, 11, 12, 13, 14, 15, 16, 17, 18, 19, 20, 21, 22, 23, 24, 25, 26, 27, 28, 29, 30], [0, 1, 2, 3, 4, 5, 6, 7, 8, 9, 10, 11, 12, 13, 14, 15, 16, 17, 18, 19, 20, 21, 22, 23, 24], [0, 1, 2, 3, 4, 5, 6, 7, 8, 9, 10, 11, 12, 13, 14, 15, 16, 17, 18, 19, 20, 21, 22, 23, 24, 25, 26, 27, 28, 29, 30, 31, 32], [0, 1, 2, 3, 4, 5, 6, 7, 8, 9, 10, 11, 12, 13, 14, 15, 16, 17, 18, 19, 20, 21, 22, 23, 24, 25, 26, 27, 28, 29, 30, 31, 32, 33], [0, 1, 2, 3, 4, 5, 6, 7, 8, 9, 10, 11, 12, 13, 14, 15, 16, 17, 18, 19, 20, 21, 22, 23, 24, 25, 26, 27, 28, 29, 30, 31, 32, 33, 34], [0, 1, 2, 3, 4, 5, 6, 7, 8, 9, 10, 11, 12, 13, 14, 15, 16, 17, 18, 19, 20, 21, 22, 23, 24, 25, 26, 27, 28, 29, 30, 31, 32, 33, 34, 35], [0, 1, 2, 3, 4, 5, 6, 7, 8, 9, 10, 11, 12, 13, 14, 15, 16, 17, 18, 19, 20, 21, 22, 23, 24, 25, 26, 27, 28, 29, 30, 31, 32, 33, 34, 35]] [some 77, some 78, some 79, some 80, some 81, some 82, some 83, some 84, some 85, some 86, some 87, some 88, some 89, some 90, some 91, some 92, some 93, some 94, some 95, some 96, some 97, some 98, some 99, some 100, some 101, some 102, some 103, some 104, some 105, some 106, some 107, some 108, some 109, some 110, some 111, some 112, some 113, some 114, some 115, some 116, some 117, some 118, some 119, some 2] [] (fun _ _ => True) [[], [0], [0, 1], [0, 1, 2], [0, 1, 2, 3], [0, 1, 2, 3, 4], [0, 1, 2, 3, 4, 5], [0, 1, 2, 3, 4, 5, 6], [0, 1, 2, 3, 4, 5, 6, 7], [0, 1, 2, 3, 4, 5, 6, 7, 8], [0, 1, 2, 3, 4, 5, 6, 7, 8, 9], [0, 1, 2, 3, 4, 5, 6, 7, 8, 9, 10], [0, 1, 2, 3, 4, 5, 6, 7, 8, 9, 10, 11], [0, 1, 2, 3, 4, 5, 6, 7, 8, 9, 10, 11, 12], [0, 1, 2, 3, 4, 5, 6, 7, 8, 9, 10, 11, 12, 13], [0, 1, 2, 3, 4, 5, 6, 7, 8, 9, 10, 11], [0, 1, 2, 3, 4, 5, 6, 7, 8, 9, 10, 11, 15], [0, 1, 2, 3, 4, 5, 6, 7, 8, 9, 10, 11, 15, 16], [0, 1, 2, 3, 4, 5, 6, 7, 8, 9, 10, 11, 12, 13, 14, 15, 16, 17], [0, 1, 2, 3, 4, 5, 6, 7, 8, 9, 10, 11], [0, 1, 2, 3, 4, 5, 6, 7, 8, 9, 10, 11, 19], [0, 1, 2, 3, 4, 5, 6, 7, 8, 9, 10, 11, 19, 20], [0, 1, 2, 3, 4, 5, 6, 7, 8, 9, 10, 11, 12, 13, 14, 15, 16, 17, 18, 19, 20, 21], [0, 1, 2, 3, 4, 5, 6, 7, 8, 9, 10, 11, 12, 13, 14, 15, 16, 17, 18, 19, 20, 21, 22], [0, 1, 2, 3, 4, 5, 6, 7, 8, 9, 10, 11, 12, 13, 14, 15, 16, 17, 18, 19, 20, 21, 22, 23], [0, 1, 2, 3, 4, 5, 6, 7, 8, 9, 10, 11, 12, 13, 14, 15, 16, 17, 18, 19, 20, 21, 22, 23, 24], [0, 1, 2, 3, 4, 5, 6, 7, 8, 9, 10, 11, 12, 13, 14, 15, 16, 17, 18, 19, 20, 21, 22, 23, 24, 25], [0, 1, 2, 3, 4, 5, 6, 7, 8, 9, 10, 11, 12, 13, 14, 15, 16, 17, 18, 19, 20, 21, 22, 23, 24, 25, 26], [0, 1, 2, 3, 4, 5, 6, 7, 8, 9, 10, 11, 12, 13, 14, 15, 16, 17, 18, 19, 20, 21, 22, 23, 24], [0, 1, 2, 3, 4, 5, 6, 7, 8, 9, 10, 11, 12, 13, 14, 15, 16, 17, 18, 19, 20, 21, 22, 23, 24, 28], [0, 1, 2, 3, 4, 5, 6, 7, 8, 9, 10, 11, 12, 13, 14, 15, 16, 17, 18, 19, 20, 21, 22, 23, 24, 28, 29], [0, 1, 2, 3, 4, 5, 6, 7, 8, 9, 10, 11, 12, 13, 14, 15, 16, 17, 18, 19, 20, 21, 22, 23, 24, 25, 26, 27, 28, 29, 30], [0, 1, 2, 3, 4, 5, 6, 7, 8, 9, 10, 11, 12, 13, 14, 15, 16, 17, 18, 19, 20, 21, 22, 23, 24], [0, 1, 2, 3, 4, 5, 6, 7, 8, 9, 10, 11, 12, 13, 14, 15, 16, 17, 18, 19, 20, 21, 22, 23, 24, 25, 26, 27, 28, 29, 30, 31, 32], [0, 1, 2, 3, 4, 5, 6, 7, 8, 9, 10, 11, 12, 13, 14, 15, 16, 17, 18, 19, 20, 21, 22, 23, 24, 25, 26, 27, 28, 29, 30, 31, 32, 33], [0, 1, 2, 3, 4, 5, 6, 7, 8, 9, 10, 11, 12, 13, 14, 15, 16, 17, 18, 19, 20, 21, 22, 23, 24, 25, 26, 27, 28, 29, 30, 31, 32, 33, 34], [0, 1, 2, 3, 4, 5, 6, 7, 8, 9, 10, 11, 12, 13, 14, 15, 16, 17, 18, 19, 20, 21, 22, 23, 24, 25, 26, 27, 28, 29, 30, 31, 32, 33, 34, 35], [0, 1, 2, 3, 4, 5, 6, 7, 8, 9, 10, 11, 12, 13, 14, 15, 16, 17, 18, 19, 20, 21, 22, 23, 24, 25, 26, 27, 28, 29, 30, 31, 32, 33, 34, 35], [0, 1, 2, 3, 4, 5, 6, 7, 8, 9, 10, 11, 12, 13, 14, 15, 16, 17, 18, 19, 20, 21, 22, 23, 24, 25, 26, 27, 28, 29, 30, 31, 32, 33, 34, 35, 36, 37], [0, 1, 2, 3, 4, 5, 6, 7, 8, 9, 10, 11, 12, 13, 14, 15, 16, 17, 18, 19, 20, 21, 22, 23, 24, 25, 26, 27, 28, 29, 30, 31, 32, 33, 34, 35, 36, 37, 38], [0, 1, 2, 3, 4, 5, 6, 7, 8, 9, 10, 11, 12, 13, 14, 15, 16, 17, 18, 19, 20, 21, 22, 23, 24, 25, 26, 27, 28, 29, 30, 31, 32, 33, 34, 35, 36, 37, 38, 39], [0, 1, 2, 3, 4, 5, 6, 7, 8, 9, 10, 11, 12, 13, 14, 15, 16, 17, 18, 19, 20, 21, 22, 23, 24, 25, 26, 27, 28, 29, 30, 31, 32, 33, 34, 35, 36, 37, 38, 39, 40], [0, 1, 2, 3, 4, 5, 6, 7, 8, 9, 10, 11, 12, 13, 14, 15, 16, 17, 18, 19, 20, 21, 22, 23, 24, 25, 26, 27, 28, 29, 30, 31, 32, 33, 34, 35, 36, 37, 38, 39, 40, 41], [0, 1, 2, 3, 4, 5, 6, 7, 8, 9, 10, 11, 12, 13, 14, 15, 16, 17, 18, 19, 20, 21, 22, 23, 24, 25, 26, 27, 28, 29, 30, 31, 32, 33, 34, 35, 36, 37, 38, 39, 40, 41, 42]]
        (by kernel_rfl) (by decide) (by kernel_rfl) (by kernel_rfl) (by kernel_rfl) (by kernel_rfl) (by kernel_rfl) (fun _ => Below.refl _ _) (fun _ _ _ h k => h.ext k) (fun _ _ h => h.size) ?_ trivial ?_ ?_
      · intro t ht vs w w' h hE
        simp only [List.mem_cons, List.not_mem_nil, or_false] at ht
        rcases ht with rfl | rfl | rfl | rfl | rfl | rfl | rfl | rfl | rfl | rfl | rfl | rfl | rfl | rfl | rfl | rfl | rfl | rfl | rfl | rfl | rfl | rfl | rfl | rfl | rfl | rfl | rfl | rfl | rfl | rfl | rfl | rfl | rfl | rfl | rfl | rfl | rfl | rfl
        · exact h
        · exact h
        · exact h
        · exact h
        · exact h
        · exact h
        · exact h
        · exact h
        · exact h
        · exact h
        · exact h
        · exact h
        · exact h
        · exact h
        · exact h
        · exact h
        · exact h
        · exact h
        · exact h
        · exact h
        · exact h
        · exact h
        · exact h
        · exact h
        · exact h
        · exact h
        · exact h
        · exact h
        · exact h
        · exact h
        · exact h
        · exact h
        · exact h
        · exact h
        · exact h
        · exact h
        · exact h
        · exact h
      ·
        refine Rg.cons 0 1 rfl (Rg.plain rfl ?_) ?_
        · intro vs W n hn hI hG hT hF K hK
          simp only [Rg.putsD, List.getD_cons_zero, List.getD_cons_succ, Act.put, List.setIfInBounds_toArray, List.set_cons_zero, List.set_cons_succ] at hK ⊢
          clear hn
          clear hF hI
          have H := Lib.hid hK
          clear hK hT
          go_simp
          exact H.out _ _ (Below.refl _ _) rfl (fun h => by cases h) trivial
        refine Rg.cons 1 2 rfl (Rg.plain rfl ?_) ?_
        · intro vs W n hn hI hG hT hF K hK
          simp only [Rg.putsD, List.getD_cons_zero, List.getD_cons_succ, Act.put, List.setIfInBounds_toArray, List.set_cons_zero, List.set_cons_succ] at hK ⊢
          clear hn
          clear hF hI
          have t0 : vs 0 = .int .i64 0 := hT 0 (by decide)
          simp only [t0] at hK
          have H := Lib.hid hK
          clear hK hT
          go_simp
          exact H.out _ _ (Below.refl _ _) rfl (fun h => by cases h) trivial
        refine Rg.cons 2 3 rfl (Rg.plain rfl ?_) ?_
        · intro vs W n hn hI hG hT hF K hK
          simp only [Rg.putsD, List.getD_cons_zero, List.getD_cons_succ, Act.put, List.setIfInBounds_toArray, List.set_cons_zero, List.set_cons_succ] at hK ⊢
          clear hn
          clear hF hI
          have t0 : vs 0 = .int .i64 0 := hT 0 (by decide)
          have t1 : vs 1 = .bool true := hT 1 (by decide)
          simp only [t0, t1] at hK
          have H := Lib.hid hK
          clear hK hT
          go_simp
          exact H.out _ _ (Below.refl _ _) rfl (fun h => by cases h) trivial
        refine Rg.cons 3 4 rfl (Rg.guarded ?_ ?_) ?_
        · intro vs W hT
          have tg : vs 2 = .bool true := hT 2 (by decide)
          simp only [Rg.putsD, List.getD_cons_zero, List.getD_cons_succ, Act.put, List.setIfInBounds_toArray, List.set_cons_zero, List.set_cons_succ, tg]
          rfl
        · intro vs W n hn hI hG hT hF K hK
          simp only [Rg.putsD, List.getD_cons_zero, List.getD_cons_succ, Act.put, List.setIfInBounds_toArray, List.set_cons_zero, List.set_cons_succ] at hK ⊢
          clear hn
          clear hF hI
          have t0 : vs 0 = .int .i64 0 := hT 0 (by decide)
          have t1 : vs 1 = .bool true := hT 1 (by decide)
          have t2 : vs 2 = .bool true := hT 2 (by decide)
          simp only [t0, t1, t2] at hK
          have H := Lib.hid hK
          clear hK hT
          go_simp
          exact H.out _ _ (Below.refl _ _) rfl (fun h => by cases h) trivial
        refine Rg.cons 4 5 rfl (Rg.guarded ?_ ?_) ?_
        · intro vs W hT
          have tg : vs 2 = .bool true := hT 2 (by decide)
          simp only [Rg.putsD, List.getD_cons_zero, List.getD_cons_succ, Act.put, List.setIfInBounds_toArray, List.set_cons_zero, List.set_cons_succ, tg]
          rfl
        · intro vs W n hn hI hG hT hF K hK
          simp only [Rg.putsD, List.getD_cons_zero, List.getD_cons_succ, Act.put, List.setIfInBounds_toArray, List.set_cons_zero, List.set_cons_succ] at hK ⊢
          clear hn
          clear hF hI
          have t0 : vs 0 = .int .i64 0 := hT 0 (by decide)
          have t1 : vs 1 = .bool true := hT 1 (by decide)
          have t2 : vs 2 = .bool true := hT 2 (by decide)
          have t3 : vs 3 = .int .i64 0 := hT 3 (by decide)
          simp only [t0, t1, t2, t3] at hK
          have H := Lib.hid hK
          clear hK hT
          go_simp
          exact H.out _ _ (Below.refl _ _) rfl (fun h => by cases h) trivial
        refine Rg.cons 5 6 rfl (Rg.plain rfl ?_) ?_
        · intro vs W n hn hI hG hT hF K hK
          simp only [Rg.putsD, List.getD_cons_zero, List.getD_cons_succ, Act.put, List.setIfInBounds_toArray, List.set_cons_zero, List.set_cons_succ] at hK ⊢
          clear hn
          clear hF hI
          have t0 : vs 0 = .int .i64 0 := hT 0 (by decide)
          have t1 : vs 1 = .bool true := hT 1 (by decide)
          have t2 : vs 2 = .bool true := hT 2 (by decide)
          have t3 : vs 3 = .int .i64 0 := hT 3 (by decide)
          have t4 : vs 4 = .bool true := hT 4 (by decide)
          simp only [t0, t1, t2, t3, t4] at hK
          have H := Lib.hid hK
          clear hK hT
          go_simp
          exact H.out _ _ (Below.refl _ _) rfl (fun h => by cases h) trivial
        refine Rg.cons 6 7 rfl (Rg.plain rfl ?_) ?_
        · intro vs W n hn hI hG hT hF K hK
          simp only [Rg.putsD, List.getD_cons_zero, List.getD_cons_succ, Act.put, List.setIfInBounds_toArray, List.set_cons_zero, List.set_cons_succ] at hK ⊢
          clear hn
          clear hF hI
          have t0 : vs 0 = .int .i64 0 := hT 0 (by decide)
          have t1 : vs 1 = .bool true := hT 1 (by decide)
          have t2 : vs 2 = .bool true := hT 2 (by decide)
          have t3 : vs 3 = .int .i64 0 := hT 3 (by decide)
          have t4 : vs 4 = .bool true := hT 4 (by decide)
          have t5 : vs 5 = .bool true := hT 5 (by decide)
          simp only [t0, t1, t2, t3, t4, t5] at hK
          have H := Lib.hid hK
          clear hK hT
          go_simp
          exact H.out _ _ (Below.refl _ _) rfl (fun h => by cases h) trivial
        refine Rg.cons 7 8 rfl (Rg.guarded ?_ ?_) ?_
        · intro vs W hT
          have tg : vs 6 = .bool true := hT 6 (by decide)
          simp only [Rg.putsD, List.getD_cons_zero, List.getD_cons_succ, Act.put, List.setIfInBounds_toArray, List.set_cons_zero, List.set_cons_succ, tg]
          rfl
        · intro vs W n hn hI hG hT hF K hK
          simp only [Rg.putsD, List.getD_cons_zero, List.getD_cons_succ, Act.put, List.setIfInBounds_toArray, List.set_cons_zero, List.set_cons_succ] at hK ⊢
          clear hn
          clear hF hI
          have t0 : vs 0 = .int .i64 0 := hT 0 (by decide)
          have t1 : vs 1 = .bool true := hT 1 (by decide)
          have t2 : vs 2 = .bool true := hT 2 (by decide)
          have t3 : vs 3 = .int .i64 0 := hT 3 (by decide)
          have t4 : vs 4 = .bool true := hT 4 (by decide)
          have t5 : vs 5 = .bool true := hT 5 (by decide)
          have t6 : vs 6 = .bool true := hT 6 (by decide)
          simp only [t0, t1, t2, t3, t4, t5, t6] at hK
          have H := Lib.hid hK
          clear hK hT
          go_simp
          exact H.out _ _ (Below.refl _ _) rfl (fun h => by cases h) trivial
        refine Rg.cons 8 9 rfl (Rg.guarded ?_ ?_) ?_
        · intro vs W hT
          have tg : vs 6 = .bool true := hT 6 (by decide)
          simp only [Rg.putsD, List.getD_cons_zero, List.getD_cons_succ, Act.put, List.setIfInBounds_toArray, List.set_cons_zero, List.set_cons_succ, tg]
          rfl
        · intro vs W n hn hI hG hT hF K hK
          simp only [Rg.putsD, List.getD_cons_zero, List.getD_cons_succ, Act.put, List.setIfInBounds_toArray, List.set_cons_zero, List.set_cons_succ] at hK ⊢
          clear hn
          clear hF hI
          have t0 : vs 0 = .int .i64 0 := hT 0 (by decide)
          have t1 : vs 1 = .bool true := hT 1 (by decide)
          have t2 : vs 2 = .bool true := hT 2 (by decide)
          have t3 : vs 3 = .int .i64 0 := hT 3 (by decide)
          have t4 : vs 4 = .bool true := hT 4 (by decide)
          have t5 : vs 5 = .bool true := hT 5 (by decide)
          have t6 : vs 6 = .bool true := hT 6 (by decide)
          have t7 : vs 7 = .slice (some ⟨gc, 0, none⟩) 2 cc := hT 7 (by decide)
          simp only [t0, t1, t2, t3, t4, t5, t6, t7] at hK
          have H := Lib.hid hK
          clear hK hT
          go_simp
          exact H.out _ _ (Below.refl _ _) rfl (fun h => by cases h) trivial
        refine Rg.cons 9 10 rfl (Rg.guarded ?_ ?_) ?_
        · intro vs W hT
          have tg : vs 6 = .bool true := hT 6 (by decide)
          simp only [Rg.putsD, List.getD_cons_zero, List.getD_cons_succ, Act.put, List.setIfInBounds_toArray, List.set_cons_zero, List.set_cons_succ, tg]
          rfl
        · intro vs W n hn hI hG hT hF K hK
          simp only [Rg.putsD, List.getD_cons_zero, List.getD_cons_succ, Act.put, List.setIfInBounds_toArray, List.set_cons_zero, List.set_cons_succ] at hK ⊢
          clear hn
          clear hF hI
          have t0 : vs 0 = .int .i64 0 := hT 0 (by decide)
          have t1 : vs 1 = .bool true := hT 1 (by decide)
          have t2 : vs 2 = .bool true := hT 2 (by decide)
          have t3 : vs 3 = .int .i64 0 := hT 3 (by decide)
          have t4 : vs 4 = .bool true := hT 4 (by decide)
          have t5 : vs 5 = .bool true := hT 5 (by decide)
          have t6 : vs 6 = .bool true := hT 6 (by decide)
          have t7 : vs 7 = .slice (some ⟨gc, 0, none⟩) 2 cc := hT 7 (by decide)
          have t8 : vs 8 = .int .i64 2 := hT 8 (by decide)
          simp only [t0, t1, t2, t3, t4, t5, t6, t7, t8] at hK
          have H := Lib.hid hK
          clear hK hT
          go_simp
          exact H.out _ _ (Below.refl _ _) rfl (fun h => by cases h) trivial
        refine Rg.cons 10 11 rfl (Rg.plain rfl ?_) ?_
        · intro vs W n hn hI hG hT hF K hK
          simp only [Rg.putsD, List.getD_cons_zero, List.getD_cons_succ, Act.put, List.setIfInBounds_toArray, List.set_cons_zero, List.set_cons_succ] at hK ⊢
          clear hn
          clear hF hI
          have t0 : vs 0 = .int .i64 0 := hT 0 (by decide)
          have t1 : vs 1 = .bool true := hT 1 (by decide)
          have t2 : vs 2 = .bool true := hT 2 (by decide)
          have t3 : vs 3 = .int .i64 0 := hT 3 (by decide)
          have t4 : vs 4 = .bool true := hT 4 (by decide)
          have t5 : vs 5 = .bool true := hT 5 (by decide)
          have t6 : vs 6 = .bool true := hT 6 (by decide)
          have t7 : vs 7 = .slice (some ⟨gc, 0, none⟩) 2 cc := hT 7 (by decide)
          have t8 : vs 8 = .int .i64 2 := hT 8 (by decide)
          have t9 : vs 9 = .bool true := hT 9 (by decide)
          simp only [t0, t1, t2, t3, t4, t5, t6, t7, t8, t9] at hK
          have H := Lib.hid hK
          clear hK hT
          go_simp
          exact H.out _ _ (Below.refl _ _) rfl (fun h => by cases h) trivial
        refine Rg.cons 11 12 rfl (Rg.plain rfl ?_) ?_
        · intro vs W n hn hI hG hT hF K hK
          simp only [Rg.putsD, List.getD_cons_zero, List.getD_cons_succ, Act.put, List.setIfInBounds_toArray, List.set_cons_zero, List.set_cons_succ] at hK ⊢
          clear hn
          clear hF hI
          have t0 : vs 0 = .int .i64 0 := hT 0 (by decide)
          have t1 : vs 1 = .bool true := hT 1 (by decide)
          have t2 : vs 2 = .bool true := hT 2 (by decide)
          have t3 : vs 3 = .int .i64 0 := hT 3 (by decide)
          have t4 : vs 4 = .bool true := hT 4 (by decide)
          have t5 : vs 5 = .bool true := hT 5 (by decide)
          have t6 : vs 6 = .bool true := hT 6 (by decide)
          have t7 : vs 7 = .slice (some ⟨gc, 0, none⟩) 2 cc := hT 7 (by decide)
          have t8 : vs 8 = .int .i64 2 := hT 8 (by decide)
          have t9 : vs 9 = .bool true := hT 9 (by decide)
          have t10 : vs 10 = .bool true := hT 10 (by decide)
          simp only [t0, t1, t2, t3, t4, t5, t6, t7, t8, t9, t10] at hK
          have H := Lib.hid hK
          clear hK hT
          go_simp
          exact H.out _ _ (Below.refl _ _) rfl (fun h => by cases h) trivial
        refine Rg.cons 12 13 rfl (Rg.guarded ?_ ?_) ?_
        · intro vs W hT
          have tg : vs 11 = .bool true := hT 11 (by decide)
          simp only [Rg.putsD, List.getD_cons_zero, List.getD_cons_succ, Act.put, List.setIfInBounds_toArray, List.set_cons_zero, List.set_cons_succ, tg]
          rfl
        · intro vs W n hn hI hG hT hF K hK
          simp only [Rg.putsD, List.getD_cons_zero, List.getD_cons_succ, Act.put, List.setIfInBounds_toArray, List.set_cons_zero, List.set_cons_succ] at hK ⊢
          clear hn
          clear hF hI
          have t0 : vs 0 = .int .i64 0 := hT 0 (by decide)
          have t1 : vs 1 = .bool true := hT 1 (by decide)
          have t2 : vs 2 = .bool true := hT 2 (by decide)
          have t3 : vs 3 = .int .i64 0 := hT 3 (by decide)
          have t4 : vs 4 = .bool true := hT 4 (by decide)
          have t5 : vs 5 = .bool true := hT 5 (by decide)
          have t6 : vs 6 = .bool true := hT 6 (by decide)
          have t7 : vs 7 = .slice (some ⟨gc, 0, none⟩) 2 cc := hT 7 (by decide)
          have t8 : vs 8 = .int .i64 2 := hT 8 (by decide)
          have t9 : vs 9 = .bool true := hT 9 (by decide)
          have t10 : vs 10 = .bool true := hT 10 (by decide)
          have t11 : vs 11 = .bool true := hT 11 (by decide)
          simp only [t0, t1, t2, t3, t4, t5, t6, t7, t8, t9, t10, t11] at hK
          have H := Lib.hid hK
          clear hK hT
          go_simp
          exact H.out _ _ (Below.refl _ _) rfl (fun h => by cases h) trivial
        refine Rg.cons 13 14 rfl (Rg.guarded ?_ ?_) ?_
        · intro vs W hT
          have tg : vs 11 = .bool true := hT 11 (by decide)
          simp only [Rg.putsD, List.getD_cons_zero, List.getD_cons_succ, Act.put, List.setIfInBounds_toArray, List.set_cons_zero, List.set_cons_succ, tg]
          rfl
        · intro vs W n hn hI hG hT hF K hK
          simp only [Rg.putsD, List.getD_cons_zero, List.getD_cons_succ, Act.put, List.setIfInBounds_toArray, List.set_cons_zero, List.set_cons_succ] at hK ⊢
          clear hn
          clear hF hI
          have t0 : vs 0 = .int .i64 0 := hT 0 (by decide)
          have t1 : vs 1 = .bool true := hT 1 (by decide)
          have t2 : vs 2 = .bool true := hT 2 (by decide)
          have t3 : vs 3 = .int .i64 0 := hT 3 (by decide)
          have t4 : vs 4 = .bool true := hT 4 (by decide)
          have t5 : vs 5 = .bool true := hT 5 (by decide)
          have t6 : vs 6 = .bool true := hT 6 (by decide)
          have t7 : vs 7 = .slice (some ⟨gc, 0, none⟩) 2 cc := hT 7 (by decide)
          have t8 : vs 8 = .int .i64 2 := hT 8 (by decide)
          have t9 : vs 9 = .bool true := hT 9 (by decide)
          have t10 : vs 10 = .bool true := hT 10 (by decide)
          have t11 : vs 11 = .bool true := hT 11 (by decide)
          have t12 : vs 12 = .slice (some ⟨gc, 0, none⟩) 2 cc := hT 12 (by decide)
          simp only [t0, t1, t2, t3, t4, t5, t6, t7, t8, t9, t10, t11, t12] at hK
          have H := Lib.hid hK
          clear hK hT
          go_simp
          exact H.out _ _ (Below.refl _ _) rfl (fun h => by cases h) trivial
        refine Rg.cons 14 15 rfl (Rg.guarded ?_ ?_) ?_
        · intro vs W hT
          have tg : vs 11 = .bool true := hT 11 (by decide)
          simp only [Rg.putsD, List.getD_cons_zero, List.getD_cons_succ, Act.put, List.setIfInBounds_toArray, List.set_cons_zero, List.set_cons_succ, tg]
          rfl
        · intro vs W n hn hI hG hT hF K hK
          simp only [Rg.putsD, List.getD_cons_zero, List.getD_cons_succ, Act.put, List.setIfInBounds_toArray, List.set_cons_zero, List.set_cons_succ] at hK ⊢
          clear hn
          clear hF hI
          have t0 : vs 0 = .int .i64 0 := hT 0 (by decide)
          have t1 : vs 1 = .bool true := hT 1 (by decide)
          have t2 : vs 2 = .bool true := hT 2 (by decide)
          have t3 : vs 3 = .int .i64 0 := hT 3 (by decide)
          have t4 : vs 4 = .bool true := hT 4 (by decide)
          have t5 : vs 5 = .bool true := hT 5 (by decide)
          have t6 : vs 6 = .bool true := hT 6 (by decide)
          have t7 : vs 7 = .slice (some ⟨gc, 0, none⟩) 2 cc := hT 7 (by decide)
          have t8 : vs 8 = .int .i64 2 := hT 8 (by decide)
          have t9 : vs 9 = .bool true := hT 9 (by decide)
          have t10 : vs 10 = .bool true := hT 10 (by decide)
          have t11 : vs 11 = .bool true := hT 11 (by decide)
          have t12 : vs 12 = .slice (some ⟨gc, 0, none⟩) 2 cc := hT 12 (by decide)
          have t13 : vs 13 = .pointer (some ⟨gc, 0, none⟩) := hT 13 (by decide)
          obtain ⟨c0', c1', l1'⟩ := HROW.out W ((Below.refl w8.heap.size w8).drew.then_below hG (Nat.le_refl _))
          simp only [t0, t1, t2, t3, t4, t5, t6, t7, t8, t9, t10, t11, t12, t13] at hK
          have H := Lib.hid hK
          clear hK hT
          go_simp
          exact H.out _ _ (Below.refl _ _) rfl (fun h => by cases h) trivial
        refine Rg.cons 15 16 rfl (Rg.guarded ?_ ?_) ?_
        · intro vs W hT
          have tg : vs 11 = .bool true := hT 11 (by decide)
          simp only [Rg.putsD, List.getD_cons_zero, List.getD_cons_succ, Act.put, List.setIfInBounds_toArray, List.set_cons_zero, List.set_cons_succ, tg]
          rfl
        · intro vs W n hn hI hG hT hF K hK
          simp only [Rg.putsD, List.getD_cons_zero, List.getD_cons_succ, Act.put, List.setIfInBounds_toArray, List.set_cons_zero, List.set_cons_succ] at hK ⊢
          clear hn
          clear hF hI
          have t0 : vs 0 = .int .i64 0 := hT 0 (by decide)
          have t1 : vs 1 = .bool true := hT 1 (by decide)
          have t2 : vs 2 = .bool true := hT 2 (by decide)
          have t3 : vs 3 = .int .i64 0 := hT 3 (by decide)
          have t4 : vs 4 = .bool true := hT 4 (by decide)
          have t5 : vs 5 = .bool true := hT 5 (by decide)
          have t6 : vs 6 = .bool true := hT 6 (by decide)
          have t7 : vs 7 = .slice (some ⟨gc, 0, none⟩) 2 cc := hT 7 (by decide)
          have t8 : vs 8 = .int .i64 2 := hT 8 (by decide)
          have t9 : vs 9 = .bool true := hT 9 (by decide)
          have t10 : vs 10 = .bool true := hT 10 (by decide)
          have t11 : vs 11 = .bool true := hT 11 (by decide)
          simp only [t0, t1, t2, t3, t4, t5, t6, t7, t8, t9, t10, t11] at hK
          have H := Lib.hid hK
          clear hK hT
          go_simp
          exact H.out _ _ (Below.refl _ _) rfl (fun h => by cases h) trivial
        refine Rg.cons 16 17 rfl (Rg.guarded ?_ ?_) ?_
        · intro vs W hT
          have tg : vs 11 = .bool true := hT 11 (by decide)
          simp only [Rg.putsD, List.getD_cons_zero, List.getD_cons_succ, Act.put, List.setIfInBounds_toArray, List.set_cons_zero, List.set_cons_succ, tg]
          rfl
        · intro vs W n hn hI hG hT hF K hK
          simp only [Rg.putsD, List.getD_cons_zero, List.getD_cons_succ, Act.put, List.setIfInBounds_toArray, List.set_cons_zero, List.set_cons_succ] at hK ⊢
          clear hn
          clear hF hI
          have t0 : vs 0 = .int .i64 0 := hT 0 (by decide)
          have t1 : vs 1 = .bool true := hT 1 (by decide)
          have t2 : vs 2 = .bool true := hT 2 (by decide)
          have t3 : vs 3 = .int .i64 0 := hT 3 (by decide)
          have t4 : vs 4 = .bool true := hT 4 (by decide)
          have t5 : vs 5 = .bool true := hT 5 (by decide)
          have t6 : vs 6 = .bool true := hT 6 (by decide)
          have t7 : vs 7 = .slice (some ⟨gc, 0, none⟩) 2 cc := hT 7 (by decide)
          have t8 : vs 8 = .int .i64 2 := hT 8 (by decide)
          have t9 : vs 9 = .bool true := hT 9 (by decide)
          have t10 : vs 10 = .bool true := hT 10 (by decide)
          have t11 : vs 11 = .bool true := hT 11 (by decide)
          have t15 : vs 15 = .slice (some ⟨gc, 0, none⟩) 2 cc := hT 15 (by decide)
          simp only [t0, t1, t2, t3, t4, t5, t6, t7, t8, t9, t10, t11, t15] at hK
          have H := Lib.hid hK
          clear hK hT
          go_simp
          exact H.out _ _ (Below.refl _ _) rfl (fun h => by cases h) trivial
        refine Rg.cons 17 18 rfl (Rg.guarded ?_ ?_) ?_
        · intro vs W hT
          have tg : vs 11 = .bool true := hT 11 (by decide)
          simp only [Rg.putsD, List.getD_cons_zero, List.getD_cons_succ, Act.put, List.setIfInBounds_toArray, List.set_cons_zero, List.set_cons_succ, tg]
          rfl
        · intro vs W n hn hI hG hT hF K hK
          simp only [Rg.putsD, List.getD_cons_zero, List.getD_cons_succ, Act.put, List.setIfInBounds_toArray, List.set_cons_zero, List.set_cons_succ] at hK ⊢
          clear hn
          clear hF hI
          have t0 : vs 0 = .int .i64 0 := hT 0 (by decide)
          have t1 : vs 1 = .bool true := hT 1 (by decide)
          have t2 : vs 2 = .bool true := hT 2 (by decide)
          have t3 : vs 3 = .int .i64 0 := hT 3 (by decide)
          have t4 : vs 4 = .bool true := hT 4 (by decide)
          have t5 : vs 5 = .bool true := hT 5 (by decide)
          have t6 : vs 6 = .bool true := hT 6 (by decide)
          have t7 : vs 7 = .slice (some ⟨gc, 0, none⟩) 2 cc := hT 7 (by decide)
          have t8 : vs 8 = .int .i64 2 := hT 8 (by decide)
          have t9 : vs 9 = .bool true := hT 9 (by decide)
          have t10 : vs 10 = .bool true := hT 10 (by decide)
          have t11 : vs 11 = .bool true := hT 11 (by decide)
          have t15 : vs 15 = .slice (some ⟨gc, 0, none⟩) 2 cc := hT 15 (by decide)
          have t16 : vs 16 = .pointer (some ⟨gc, 1, none⟩) := hT 16 (by decide)
          obtain ⟨c0', c1', l1'⟩ := HROW.out W ((Below.refl w8.heap.size w8).drew.then_below hG (Nat.le_refl _))
          simp only [t0, t1, t2, t3, t4, t5, t6, t7, t8, t9, t10, t11, t15, t16] at hK
          have H := Lib.hid hK
          clear hK hT
          go_simp
          exact H.out _ _ (Below.refl _ _) rfl (fun h => by cases h) trivial
        refine Rg.cons 18 19 rfl (Rg.guarded ?_ ?_) ?_
        · intro vs W hT
          have tg : vs 11 = .bool true := hT 11 (by decide)
          simp only [Rg.putsD, List.getD_cons_zero, List.getD_cons_succ, Act.put, List.setIfInBounds_toArray, List.set_cons_zero, List.set_cons_succ, tg]
          rfl
        · intro vs W n hn hI hG hT hF K hK
          simp only [Rg.putsD, List.getD_cons_zero, List.getD_cons_succ, Act.put, List.setIfInBounds_toArray, List.set_cons_zero, List.set_cons_succ] at hK ⊢
          clear hn
          clear hF hI
          have t0 : vs 0 = .int .i64 0 := hT 0 (by decide)
          have t1 : vs 1 = .bool true := hT 1 (by decide)
          have t2 : vs 2 = .bool true := hT 2 (by decide)
          have t3 : vs 3 = .int .i64 0 := hT 3 (by decide)
          have t4 : vs 4 = .bool true := hT 4 (by decide)
          have t5 : vs 5 = .bool true := hT 5 (by decide)
          have t6 : vs 6 = .bool true := hT 6 (by decide)
          have t7 : vs 7 = .slice (some ⟨gc, 0, none⟩) 2 cc := hT 7 (by decide)
          have t8 : vs 8 = .int .i64 2 := hT 8 (by decide)
          have t9 : vs 9 = .bool true := hT 9 (by decide)
          have t10 : vs 10 = .bool true := hT 10 (by decide)
          have t11 : vs 11 = .bool true := hT 11 (by decide)
          have t12 : vs 12 = .slice (some ⟨gc, 0, none⟩) 2 cc := hT 12 (by decide)
          have t13 : vs 13 = .pointer (some ⟨gc, 0, none⟩) := hT 13 (by decide)
          have t14 : vs 14 = .int .i64 y0 := hT 14 (by decide)
          have t15 : vs 15 = .slice (some ⟨gc, 0, none⟩) 2 cc := hT 15 (by decide)
          have t16 : vs 16 = .pointer (some ⟨gc, 1, none⟩) := hT 16 (by decide)
          have t17 : vs 17 = .int .i64 y1 := hT 17 (by decide)
          simp only [t0, t1, t2, t3, t4, t5, t6, t7, t8, t9, t10, t11, t12, t13, t14, t15, t16, t17] at hK
          have H := Lib.hid hK
          clear hK hT
          go_simp
          rw [HW18.out]
          exact H.out _ _ (Below.refl _ _) rfl (fun h => by cases h) trivial
        refine Rg.cons 19 20 rfl (Rg.guarded ?_ ?_) ?_
        · intro vs W hT
          have tg : vs 11 = .bool true := hT 11 (by decide)
          simp only [Rg.putsD, List.getD_cons_zero, List.getD_cons_succ, Act.put, List.setIfInBounds_toArray, List.set_cons_zero, List.set_cons_succ, tg]
          rfl
        · intro vs W n hn hI hG hT hF K hK
          simp only [Rg.putsD, List.getD_cons_zero, List.getD_cons_succ, Act.put, List.setIfInBounds_toArray, List.set_cons_zero, List.set_cons_succ] at hK ⊢
          clear hn
          clear hF hI
          have t0 : vs 0 = .int .i64 0 := hT 0 (by decide)
          have t1 : vs 1 = .bool true := hT 1 (by decide)
          have t2 : vs 2 = .bool true := hT 2 (by decide)
          have t3 : vs 3 = .int .i64 0 := hT 3 (by decide)
          have t4 : vs 4 = .bool true := hT 4 (by decide)
          have t5 : vs 5 = .bool true := hT 5 (by decide)
          have t6 : vs 6 = .bool true := hT 6 (by decide)
          have t7 : vs 7 = .slice (some ⟨gc, 0, none⟩) 2 cc := hT 7 (by decide)
          have t8 : vs 8 = .int .i64 2 := hT 8 (by decide)
          have t9 : vs 9 = .bool true := hT 9 (by decide)
          have t10 : vs 10 = .bool true := hT 10 (by decide)
          have t11 : vs 11 = .bool true := hT 11 (by decide)
          simp only [t0, t1, t2, t3, t4, t5, t6, t7, t8, t9, t10, t11] at hK
          have H := Lib.hid hK
          clear hK hT
          go_simp
          exact H.out _ _ (Below.refl _ _) rfl (fun h => by cases h) trivial
        refine Rg.cons 20 21 rfl (Rg.guarded ?_ ?_) ?_
        · intro vs W hT
          have tg : vs 11 = .bool true := hT 11 (by decide)
          simp only [Rg.putsD, List.getD_cons_zero, List.getD_cons_succ, Act.put, List.setIfInBounds_toArray, List.set_cons_zero, List.set_cons_succ, tg]
          rfl
        · intro vs W n hn hI hG hT hF K hK
          simp only [Rg.putsD, List.getD_cons_zero, List.getD_cons_succ, Act.put, List.setIfInBounds_toArray, List.set_cons_zero, List.set_cons_succ] at hK ⊢
          clear hn
          clear hF hI
          have t0 : vs 0 = .int .i64 0 := hT 0 (by decide)
          have t1 : vs 1 = .bool true := hT 1 (by decide)
          have t2 : vs 2 = .bool true := hT 2 (by decide)
          have t3 : vs 3 = .int .i64 0 := hT 3 (by decide)
          have t4 : vs 4 = .bool true := hT 4 (by decide)
          have t5 : vs 5 = .bool true := hT 5 (by decide)
          have t6 : vs 6 = .bool true := hT 6 (by decide)
          have t7 : vs 7 = .slice (some ⟨gc, 0, none⟩) 2 cc := hT 7 (by decide)
          have t8 : vs 8 = .int .i64 2 := hT 8 (by decide)
          have t9 : vs 9 = .bool true := hT 9 (by decide)
          have t10 : vs 10 = .bool true := hT 10 (by decide)
          have t11 : vs 11 = .bool true := hT 11 (by decide)
          have t19 : vs 19 = .pointer (some ⟨gp, 3, none⟩) := hT 19 (by decide)
          obtain ⟨d0, d1, d2, d3⟩ := blk4 (blk_below hG H8.out.1.bx)
          have l8 := lt_of_blk (blk_below hG H8.out.1.bx)
          simp only [t0, t1, t2, t3, t4, t5, t6, t7, t8, t9, t10, t11, t19] at hK
          have H := Lib.hid hK
          clear hK hT
          go_simp
          exact H.out _ _ (Below.refl _ _) rfl (fun h => by cases h) trivial
        refine Rg.cons 21 22 rfl (Rg.guarded ?_ ?_) ?_
        · intro vs W hT
          have tg : vs 11 = .bool true := hT 11 (by decide)
          simp only [Rg.putsD, List.getD_cons_zero, List.getD_cons_succ, Act.put, List.setIfInBounds_toArray, List.set_cons_zero, List.set_cons_succ, tg]
          rfl
        · intro vs W n hn hI hG hT hF K hK
          simp only [Rg.putsD, List.getD_cons_zero, List.getD_cons_succ, Act.put, List.setIfInBounds_toArray, List.set_cons_zero, List.set_cons_succ] at hK ⊢
          clear hn
          clear hF hI
          have t0 : vs 0 = .int .i64 0 := hT 0 (by decide)
          have t1 : vs 1 = .bool true := hT 1 (by decide)
          have t2 : vs 2 = .bool true := hT 2 (by decide)
          have t3 : vs 3 = .int .i64 0 := hT 3 (by decide)
          have t4 : vs 4 = .bool true := hT 4 (by decide)
          have t5 : vs 5 = .bool true := hT 5 (by decide)
          have t6 : vs 6 = .bool true := hT 6 (by decide)
          have t7 : vs 7 = .slice (some ⟨gc, 0, none⟩) 2 cc := hT 7 (by decide)
          have t8 : vs 8 = .int .i64 2 := hT 8 (by decide)
          have t9 : vs 9 = .bool true := hT 9 (by decide)
          have t10 : vs 10 = .bool true := hT 10 (by decide)
          have t11 : vs 11 = .bool true := hT 11 (by decide)
          have t19 : vs 19 = .pointer (some ⟨gp, 3, none⟩) := hT 19 (by decide)
          have t20 : vs 20 = .slice A l.length c := hT 20 (by decide)
          simp only [t0, t1, t2, t3, t4, t5, t6, t7, t8, t9, t10, t11, t19, t20] at hK
          have H := Lib.hid hK
          clear hK hT
          go_simp
          exact H.out _ _ (Below.refl _ _) rfl (fun h => by cases h) trivial
        refine Rg.cons 22 23 rfl (Rg.guarded ?_ ?_) ?_
        · intro vs W hT
          have tg : vs 11 = .bool true := hT 11 (by decide)
          simp only [Rg.putsD, List.getD_cons_zero, List.getD_cons_succ, Act.put, List.setIfInBounds_toArray, List.set_cons_zero, List.set_cons_succ, tg]
          rfl
        · intro vs W n hn hI hG hT hF K hK
          simp only [Rg.putsD, List.getD_cons_zero, List.getD_cons_succ, Act.put, List.setIfInBounds_toArray, List.set_cons_zero, List.set_cons_succ] at hK ⊢
          clear hn
          clear hF hI
          have t0 : vs 0 = .int .i64 0 := hT 0 (by decide)
          have t1 : vs 1 = .bool true := hT 1 (by decide)
          have t2 : vs 2 = .bool true := hT 2 (by decide)
          have t3 : vs 3 = .int .i64 0 := hT 3 (by decide)
          have t4 : vs 4 = .bool true := hT 4 (by decide)
          have t5 : vs 5 = .bool true := hT 5 (by decide)
          have t6 : vs 6 = .bool true := hT 6 (by decide)
          have t7 : vs 7 = .slice (some ⟨gc, 0, none⟩) 2 cc := hT 7 (by decide)
          have t8 : vs 8 = .int .i64 2 := hT 8 (by decide)
          have t9 : vs 9 = .bool true := hT 9 (by decide)
          have t10 : vs 10 = .bool true := hT 10 (by decide)
          have t11 : vs 11 = .bool true := hT 11 (by decide)
          have t12 : vs 12 = .slice (some ⟨gc, 0, none⟩) 2 cc := hT 12 (by decide)
          have t13 : vs 13 = .pointer (some ⟨gc, 0, none⟩) := hT 13 (by decide)
          have t14 : vs 14 = .int .i64 y0 := hT 14 (by decide)
          have t15 : vs 15 = .slice (some ⟨gc, 0, none⟩) 2 cc := hT 15 (by decide)
          have t16 : vs 16 = .pointer (some ⟨gc, 1, none⟩) := hT 16 (by decide)
          have t17 : vs 17 = .int .i64 y1 := hT 17 (by decide)
          have t18 : vs 18 = .int .i64 l.length := hT 18 (by decide)
          have t19 : vs 19 = .pointer (some ⟨gp, 3, none⟩) := hT 19 (by decide)
          have t20 : vs 20 = .slice A l.length c := hT 20 (by decide)
          have t21 : vs 21 = .int .i64 l.length := hT 21 (by decide)
          simp only [t0, t1, t2, t3, t4, t5, t6, t7, t8, t9, t10, t11, t12, t13, t14, t15, t16, t17, t18, t19, t20, t21] at hK
          have H := Lib.hid hK
          clear hK hT
          go_simp
          exact H.out _ _ (Below.refl _ _) rfl (fun h => by cases h) trivial
        refine Rg.cons 23 24 rfl (Rg.plain rfl ?_) ?_
        · intro vs W n hn hI hG hT hF K hK
          simp only [Rg.putsD, List.getD_cons_zero, List.getD_cons_succ, Act.put, List.setIfInBounds_toArray, List.set_cons_zero, List.set_cons_succ] at hK ⊢
          clear hn
          clear hF hI
          have t0 : vs 0 = .int .i64 0 := hT 0 (by decide)
          have t1 : vs 1 = .bool true := hT 1 (by decide)
          have t2 : vs 2 = .bool true := hT 2 (by decide)
          have t3 : vs 3 = .int .i64 0 := hT 3 (by decide)
          have t4 : vs 4 = .bool true := hT 4 (by decide)
          have t5 : vs 5 = .bool true := hT 5 (by decide)
          have t6 : vs 6 = .bool true := hT 6 (by decide)
          have t7 : vs 7 = .slice (some ⟨gc, 0, none⟩) 2 cc := hT 7 (by decide)
          have t8 : vs 8 = .int .i64 2 := hT 8 (by decide)
          have t9 : vs 9 = .bool true := hT 9 (by decide)
          have t10 : vs 10 = .bool true := hT 10 (by decide)
          have t11 : vs 11 = .bool true := hT 11 (by decide)
          have t12 : vs 12 = .slice (some ⟨gc, 0, none⟩) 2 cc := hT 12 (by decide)
          have t13 : vs 13 = .pointer (some ⟨gc, 0, none⟩) := hT 13 (by decide)
          have t14 : vs 14 = .int .i64 y0 := hT 14 (by decide)
          have t15 : vs 15 = .slice (some ⟨gc, 0, none⟩) 2 cc := hT 15 (by decide)
          have t16 : vs 16 = .pointer (some ⟨gc, 1, none⟩) := hT 16 (by decide)
          have t17 : vs 17 = .int .i64 y1 := hT 17 (by decide)
          have t18 : vs 18 = .int .i64 l.length := hT 18 (by decide)
          have t19 : vs 19 = .pointer (some ⟨gp, 3, none⟩) := hT 19 (by decide)
          have t20 : vs 20 = .slice A l.length c := hT 20 (by decide)
          have t21 : vs 21 = .int .i64 l.length := hT 21 (by decide)
          have t22 : vs 22 = .bool true := hT 22 (by decide)
          simp only [t0, t1, t2, t3, t4, t5, t6, t7, t8, t9, t10, t11, t12, t13, t14, t15, t16, t17, t18, t19, t20, t21, t22] at hK
          have H := Lib.hid hK
          clear hK hT
          go_simp
          exact H.out _ _ (Below.refl _ _) rfl (fun h => by cases h) trivial
        refine Rg.cons 24 25 rfl (Rg.plain rfl ?_) ?_
        · intro vs W n hn hI hG hT hF K hK
          simp only [Rg.putsD, List.getD_cons_zero, List.getD_cons_succ, Act.put, List.setIfInBounds_toArray, List.set_cons_zero, List.set_cons_succ] at hK ⊢
          clear hn
          clear hF hI
          have t0 : vs 0 = .int .i64 0 := hT 0 (by decide)
          have t1 : vs 1 = .bool true := hT 1 (by decide)
          have t2 : vs 2 = .bool true := hT 2 (by decide)
          have t3 : vs 3 = .int .i64 0 := hT 3 (by decide)
          have t4 : vs 4 = .bool true := hT 4 (by decide)
          have t5 : vs 5 = .bool true := hT 5 (by decide)
          have t6 : vs 6 = .bool true := hT 6 (by decide)
          have t7 : vs 7 = .slice (some ⟨gc, 0, none⟩) 2 cc := hT 7 (by decide)
          have t8 : vs 8 = .int .i64 2 := hT 8 (by decide)
          have t9 : vs 9 = .bool true := hT 9 (by decide)
          have t10 : vs 10 = .bool true := hT 10 (by decide)
          have t11 : vs 11 = .bool true := hT 11 (by decide)
          have t12 : vs 12 = .slice (some ⟨gc, 0, none⟩) 2 cc := hT 12 (by decide)
          have t13 : vs 13 = .pointer (some ⟨gc, 0, none⟩) := hT 13 (by decide)
          have t14 : vs 14 = .int .i64 y0 := hT 14 (by decide)
          have t15 : vs 15 = .slice (some ⟨gc, 0, none⟩) 2 cc := hT 15 (by decide)
          have t16 : vs 16 = .pointer (some ⟨gc, 1, none⟩) := hT 16 (by decide)
          have t17 : vs 17 = .int .i64 y1 := hT 17 (by decide)
          have t18 : vs 18 = .int .i64 l.length := hT 18 (by decide)
          have t19 : vs 19 = .pointer (some ⟨gp, 3, none⟩) := hT 19 (by decide)
          have t20 : vs 20 = .slice A l.length c := hT 20 (by decide)
          have t21 : vs 21 = .int .i64 l.length := hT 21 (by decide)
          have t22 : vs 22 = .bool true := hT 22 (by decide)
          have t23 : vs 23 = .bool true := hT 23 (by decide)
          simp only [t0, t1, t2, t3, t4, t5, t6, t7, t8, t9, t10, t11, t12, t13, t14, t15, t16, t17, t18, t19, t20, t21, t22, t23] at hK
          have H := Lib.hid hK
          clear hK hT
          go_simp
          exact H.out _ _ (Below.refl _ _) rfl (fun h => by cases h) trivial
        refine Rg.cons 25 26 rfl (Rg.guarded ?_ ?_) ?_
        · intro vs W hT
          have tg : vs 24 = .bool true := hT 24 (by decide)
          simp only [Rg.putsD, List.getD_cons_zero, List.getD_cons_succ, Act.put, List.setIfInBounds_toArray, List.set_cons_zero, List.set_cons_succ, tg]
          rfl
        · intro vs W n hn hI hG hT hF K hK
          simp only [Rg.putsD, List.getD_cons_zero, List.getD_cons_succ, Act.put, List.setIfInBounds_toArray, List.set_cons_zero, List.set_cons_succ] at hK ⊢
          clear hn
          clear hF hI
          have t0 : vs 0 = .int .i64 0 := hT 0 (by decide)
          have t1 : vs 1 = .bool true := hT 1 (by decide)
          have t2 : vs 2 = .bool true := hT 2 (by decide)
          have t3 : vs 3 = .int .i64 0 := hT 3 (by decide)
          have t4 : vs 4 = .bool true := hT 4 (by decide)
          have t5 : vs 5 = .bool true := hT 5 (by decide)
          have t6 : vs 6 = .bool true := hT 6 (by decide)
          have t7 : vs 7 = .slice (some ⟨gc, 0, none⟩) 2 cc := hT 7 (by decide)
          have t8 : vs 8 = .int .i64 2 := hT 8 (by decide)
          have t9 : vs 9 = .bool true := hT 9 (by decide)
          have t10 : vs 10 = .bool true := hT 10 (by decide)
          have t11 : vs 11 = .bool true := hT 11 (by decide)
          have t12 : vs 12 = .slice (some ⟨gc, 0, none⟩) 2 cc := hT 12 (by decide)
          have t13 : vs 13 = .pointer (some ⟨gc, 0, none⟩) := hT 13 (by decide)
          have t14 : vs 14 = .int .i64 y0 := hT 14 (by decide)
          have t15 : vs 15 = .slice (some ⟨gc, 0, none⟩) 2 cc := hT 15 (by decide)
          have t16 : vs 16 = .pointer (some ⟨gc, 1, none⟩) := hT 16 (by decide)
          have t17 : vs 17 = .int .i64 y1 := hT 17 (by decide)
          have t18 : vs 18 = .int .i64 l.length := hT 18 (by decide)
          have t19 : vs 19 = .pointer (some ⟨gp, 3, none⟩) := hT 19 (by decide)
          have t20 : vs 20 = .slice A l.length c := hT 20 (by decide)
          have t21 : vs 21 = .int .i64 l.length := hT 21 (by decide)
          have t22 : vs 22 = .bool true := hT 22 (by decide)
          have t23 : vs 23 = .bool true := hT 23 (by decide)
          have t24 : vs 24 = .bool true := hT 24 (by decide)
          simp only [t0, t1, t2, t3, t4, t5, t6, t7, t8, t9, t10, t11, t12, t13, t14, t15, t16, t17, t18, t19, t20, t21, t22, t23, t24] at hK
          have H := Lib.hid hK
          clear hK hT
          go_simp
          exact H.out _ _ (Below.refl _ _) rfl (fun h => by cases h) trivial
        refine Rg.cons 26 27 rfl (Rg.guarded ?_ ?_) ?_
        · intro vs W hT
          have tg : vs 24 = .bool true := hT 24 (by decide)
          simp only [Rg.putsD, List.getD_cons_zero, List.getD_cons_succ, Act.put, List.setIfInBounds_toArray, List.set_cons_zero, List.set_cons_succ, tg]
          rfl
        · intro vs W n hn hI hG hT hF K hK
          simp only [Rg.putsD, List.getD_cons_zero, List.getD_cons_succ, Act.put, List.setIfInBounds_toArray, List.set_cons_zero, List.set_cons_succ] at hK ⊢
          clear hn
          clear hF hI
          have t0 : vs 0 = .int .i64 0 := hT 0 (by decide)
          have t1 : vs 1 = .bool true := hT 1 (by decide)
          have t2 : vs 2 = .bool true := hT 2 (by decide)
          have t3 : vs 3 = .int .i64 0 := hT 3 (by decide)
          have t4 : vs 4 = .bool true := hT 4 (by decide)
          have t5 : vs 5 = .bool true := hT 5 (by decide)
          have t6 : vs 6 = .bool true := hT 6 (by decide)
          have t7 : vs 7 = .slice (some ⟨gc, 0, none⟩) 2 cc := hT 7 (by decide)
          have t8 : vs 8 = .int .i64 2 := hT 8 (by decide)
          have t9 : vs 9 = .bool true := hT 9 (by decide)
          have t10 : vs 10 = .bool true := hT 10 (by decide)
          have t11 : vs 11 = .bool true := hT 11 (by decide)
          have t12 : vs 12 = .slice (some ⟨gc, 0, none⟩) 2 cc := hT 12 (by decide)
          have t13 : vs 13 = .pointer (some ⟨gc, 0, none⟩) := hT 13 (by decide)
          have t14 : vs 14 = .int .i64 y0 := hT 14 (by decide)
          have t15 : vs 15 = .slice (some ⟨gc, 0, none⟩) 2 cc := hT 15 (by decide)
          have t16 : vs 16 = .pointer (some ⟨gc, 1, none⟩) := hT 16 (by decide)
          have t17 : vs 17 = .int .i64 y1 := hT 17 (by decide)
          have t18 : vs 18 = .int .i64 l.length := hT 18 (by decide)
          have t19 : vs 19 = .pointer (some ⟨gp, 3, none⟩) := hT 19 (by decide)
          have t20 : vs 20 = .slice A l.length c := hT 20 (by decide)
          have t21 : vs 21 = .int .i64 l.length := hT 21 (by decide)
          have t22 : vs 22 = .bool true := hT 22 (by decide)
          have t23 : vs 23 = .bool true := hT 23 (by decide)
          have t24 : vs 24 = .bool true := hT 24 (by decide)
          have t25 : vs 25 = .slice (some ⟨gc, 0, none⟩) 2 cc := hT 25 (by decide)
          simp only [t0, t1, t2, t3, t4, t5, t6, t7, t8, t9, t10, t11, t12, t13, t14, t15, t16, t17, t18, t19, t20, t21, t22, t23, t24, t25] at hK
          have H := Lib.hid hK
          clear hK hT
          go_simp
          exact H.out _ _ (Below.refl _ _) rfl (fun h => by cases h) trivial
        refine Rg.cons 27 28 rfl (Rg.guarded ?_ ?_) ?_
        · intro vs W hT
          have tg : vs 24 = .bool true := hT 24 (by decide)
          simp only [Rg.putsD, List.getD_cons_zero, List.getD_cons_succ, Act.put, List.setIfInBounds_toArray, List.set_cons_zero, List.set_cons_succ, tg]
          rfl
        · intro vs W n hn hI hG hT hF K hK
          simp only [Rg.putsD, List.getD_cons_zero, List.getD_cons_succ, Act.put, List.setIfInBounds_toArray, List.set_cons_zero, List.set_cons_succ] at hK ⊢
          clear hn
          clear hF hI
          have t0 : vs 0 = .int .i64 0 := hT 0 (by decide)
          have t1 : vs 1 = .bool true := hT 1 (by decide)
          have t2 : vs 2 = .bool true := hT 2 (by decide)
          have t3 : vs 3 = .int .i64 0 := hT 3 (by decide)
          have t4 : vs 4 = .bool true := hT 4 (by decide)
          have t5 : vs 5 = .bool true := hT 5 (by decide)
          have t6 : vs 6 = .bool true := hT 6 (by decide)
          have t7 : vs 7 = .slice (some ⟨gc, 0, none⟩) 2 cc := hT 7 (by decide)
          have t8 : vs 8 = .int .i64 2 := hT 8 (by decide)
          have t9 : vs 9 = .bool true := hT 9 (by decide)
          have t10 : vs 10 = .bool true := hT 10 (by decide)
          have t11 : vs 11 = .bool true := hT 11 (by decide)
          have t12 : vs 12 = .slice (some ⟨gc, 0, none⟩) 2 cc := hT 12 (by decide)
          have t13 : vs 13 = .pointer (some ⟨gc, 0, none⟩) := hT 13 (by decide)
          have t14 : vs 14 = .int .i64 y0 := hT 14 (by decide)
          have t15 : vs 15 = .slice (some ⟨gc, 0, none⟩) 2 cc := hT 15 (by decide)
          have t16 : vs 16 = .pointer (some ⟨gc, 1, none⟩) := hT 16 (by decide)
          have t17 : vs 17 = .int .i64 y1 := hT 17 (by decide)
          have t18 : vs 18 = .int .i64 l.length := hT 18 (by decide)
          have t19 : vs 19 = .pointer (some ⟨gp, 3, none⟩) := hT 19 (by decide)
          have t20 : vs 20 = .slice A l.length c := hT 20 (by decide)
          have t21 : vs 21 = .int .i64 l.length := hT 21 (by decide)
          have t22 : vs 22 = .bool true := hT 22 (by decide)
          have t23 : vs 23 = .bool true := hT 23 (by decide)
          have t24 : vs 24 = .bool true := hT 24 (by decide)
          have t25 : vs 25 = .slice (some ⟨gc, 0, none⟩) 2 cc := hT 25 (by decide)
          have t26 : vs 26 = .pointer (some ⟨gc, 0, none⟩) := hT 26 (by decide)
          obtain ⟨c0', c1', l1'⟩ := HROW.out W ((Below.refl w8.heap.size w8).drew.then_below hG (Nat.le_refl _))
          simp only [t0, t1, t2, t3, t4, t5, t6, t7, t8, t9, t10, t11, t12, t13, t14, t15, t16, t17, t18, t19, t20, t21, t22, t23, t24, t25, t26] at hK
          have H := Lib.hid hK
          clear hK hT
          go_simp
          exact H.out _ _ (Below.refl _ _) rfl (fun h => by cases h) trivial
        refine Rg.cons 28 29 rfl (Rg.guarded ?_ ?_) ?_
        · intro vs W hT
          have tg : vs 24 = .bool true := hT 24 (by decide)
          simp only [Rg.putsD, List.getD_cons_zero, List.getD_cons_succ, Act.put, List.setIfInBounds_toArray, List.set_cons_zero, List.set_cons_succ, tg]
          rfl
        · intro vs W n hn hI hG hT hF K hK
          simp only [Rg.putsD, List.getD_cons_zero, List.getD_cons_succ, Act.put, List.setIfInBounds_toArray, List.set_cons_zero, List.set_cons_succ] at hK ⊢
          clear hn
          clear hF hI
          have t0 : vs 0 = .int .i64 0 := hT 0 (by decide)
          have t1 : vs 1 = .bool true := hT 1 (by decide)
          have t2 : vs 2 = .bool true := hT 2 (by decide)
          have t3 : vs 3 = .int .i64 0 := hT 3 (by decide)
          have t4 : vs 4 = .bool true := hT 4 (by decide)
          have t5 : vs 5 = .bool true := hT 5 (by decide)
          have t6 : vs 6 = .bool true := hT 6 (by decide)
          have t7 : vs 7 = .slice (some ⟨gc, 0, none⟩) 2 cc := hT 7 (by decide)
          have t8 : vs 8 = .int .i64 2 := hT 8 (by decide)
          have t9 : vs 9 = .bool true := hT 9 (by decide)
          have t10 : vs 10 = .bool true := hT 10 (by decide)
          have t11 : vs 11 = .bool true := hT 11 (by decide)
          have t12 : vs 12 = .slice (some ⟨gc, 0, none⟩) 2 cc := hT 12 (by decide)
          have t13 : vs 13 = .pointer (some ⟨gc, 0, none⟩) := hT 13 (by decide)
          have t14 : vs 14 = .int .i64 y0 := hT 14 (by decide)
          have t15 : vs 15 = .slice (some ⟨gc, 0, none⟩) 2 cc := hT 15 (by decide)
          have t16 : vs 16 = .pointer (some ⟨gc, 1, none⟩) := hT 16 (by decide)
          have t17 : vs 17 = .int .i64 y1 := hT 17 (by decide)
          have t18 : vs 18 = .int .i64 l.length := hT 18 (by decide)
          have t19 : vs 19 = .pointer (some ⟨gp, 3, none⟩) := hT 19 (by decide)
          have t20 : vs 20 = .slice A l.length c := hT 20 (by decide)
          have t21 : vs 21 = .int .i64 l.length := hT 21 (by decide)
          have t22 : vs 22 = .bool true := hT 22 (by decide)
          have t23 : vs 23 = .bool true := hT 23 (by decide)
          have t24 : vs 24 = .bool true := hT 24 (by decide)
          simp only [t0, t1, t2, t3, t4, t5, t6, t7, t8, t9, t10, t11, t12, t13, t14, t15, t16, t17, t18, t19, t20, t21, t22, t23, t24] at hK
          have H := Lib.hid hK
          clear hK hT
          go_simp
          exact H.out _ _ (Below.refl _ _) rfl (fun h => by cases h) trivial
        refine Rg.cons 29 30 rfl (Rg.guarded ?_ ?_) ?_
        · intro vs W hT
          have tg : vs 24 = .bool true := hT 24 (by decide)
          simp only [Rg.putsD, List.getD_cons_zero, List.getD_cons_succ, Act.put, List.setIfInBounds_toArray, List.set_cons_zero, List.set_cons_succ, tg]
          rfl
        · intro vs W n hn hI hG hT hF K hK
          simp only [Rg.putsD, List.getD_cons_zero, List.getD_cons_succ, Act.put, List.setIfInBounds_toArray, List.set_cons_zero, List.set_cons_succ] at hK ⊢
          clear hn
          clear hF hI
          have t0 : vs 0 = .int .i64 0 := hT 0 (by decide)
          have t1 : vs 1 = .bool true := hT 1 (by decide)
          have t2 : vs 2 = .bool true := hT 2 (by decide)
          have t3 : vs 3 = .int .i64 0 := hT 3 (by decide)
          have t4 : vs 4 = .bool true := hT 4 (by decide)
          have t5 : vs 5 = .bool true := hT 5 (by decide)
          have t6 : vs 6 = .bool true := hT 6 (by decide)
          have t7 : vs 7 = .slice (some ⟨gc, 0, none⟩) 2 cc := hT 7 (by decide)
          have t8 : vs 8 = .int .i64 2 := hT 8 (by decide)
          have t9 : vs 9 = .bool true := hT 9 (by decide)
          have t10 : vs 10 = .bool true := hT 10 (by decide)
          have t11 : vs 11 = .bool true := hT 11 (by decide)
          have t12 : vs 12 = .slice (some ⟨gc, 0, none⟩) 2 cc := hT 12 (by decide)
          have t13 : vs 13 = .pointer (some ⟨gc, 0, none⟩) := hT 13 (by decide)
          have t14 : vs 14 = .int .i64 y0 := hT 14 (by decide)
          have t15 : vs 15 = .slice (some ⟨gc, 0, none⟩) 2 cc := hT 15 (by decide)
          have t16 : vs 16 = .pointer (some ⟨gc, 1, none⟩) := hT 16 (by decide)
          have t17 : vs 17 = .int .i64 y1 := hT 17 (by decide)
          have t18 : vs 18 = .int .i64 l.length := hT 18 (by decide)
          have t19 : vs 19 = .pointer (some ⟨gp, 3, none⟩) := hT 19 (by decide)
          have t20 : vs 20 = .slice A l.length c := hT 20 (by decide)
          have t21 : vs 21 = .int .i64 l.length := hT 21 (by decide)
          have t22 : vs 22 = .bool true := hT 22 (by decide)
          have t23 : vs 23 = .bool true := hT 23 (by decide)
          have t24 : vs 24 = .bool true := hT 24 (by decide)
          have t28 : vs 28 = .slice (some ⟨gc, 0, none⟩) 2 cc := hT 28 (by decide)
          simp only [t0, t1, t2, t3, t4, t5, t6, t7, t8, t9, t10, t11, t12, t13, t14, t15, t16, t17, t18, t19, t20, t21, t22, t23, t24, t28] at hK
          have H := Lib.hid hK
          clear hK hT
          go_simp
          exact H.out _ _ (Below.refl _ _) rfl (fun h => by cases h) trivial
        refine Rg.cons 30 31 rfl (Rg.guarded ?_ ?_) ?_
        · intro vs W hT
          have tg : vs 24 = .bool true := hT 24 (by decide)
          simp only [Rg.putsD, List.getD_cons_zero, List.getD_cons_succ, Act.put, List.setIfInBounds_toArray, List.set_cons_zero, List.set_cons_succ, tg]
          rfl
        · intro vs W n hn hI hG hT hF K hK
          simp only [Rg.putsD, List.getD_cons_zero, List.getD_cons_succ, Act.put, List.setIfInBounds_toArray, List.set_cons_zero, List.set_cons_succ] at hK ⊢
          clear hn
          clear hF hI
          have t0 : vs 0 = .int .i64 0 := hT 0 (by decide)
          have t1 : vs 1 = .bool true := hT 1 (by decide)
          have t2 : vs 2 = .bool true := hT 2 (by decide)
          have t3 : vs 3 = .int .i64 0 := hT 3 (by decide)
          have t4 : vs 4 = .bool true := hT 4 (by decide)
          have t5 : vs 5 = .bool true := hT 5 (by decide)
          have t6 : vs 6 = .bool true := hT 6 (by decide)
          have t7 : vs 7 = .slice (some ⟨gc, 0, none⟩) 2 cc := hT 7 (by decide)
          have t8 : vs 8 = .int .i64 2 := hT 8 (by decide)
          have t9 : vs 9 = .bool true := hT 9 (by decide)
          have t10 : vs 10 = .bool true := hT 10 (by decide)
          have t11 : vs 11 = .bool true := hT 11 (by decide)
          have t12 : vs 12 = .slice (some ⟨gc, 0, none⟩) 2 cc := hT 12 (by decide)
          have t13 : vs 13 = .pointer (some ⟨gc, 0, none⟩) := hT 13 (by decide)
          have t14 : vs 14 = .int .i64 y0 := hT 14 (by decide)
          have t15 : vs 15 = .slice (some ⟨gc, 0, none⟩) 2 cc := hT 15 (by decide)
          have t16 : vs 16 = .pointer (some ⟨gc, 1, none⟩) := hT 16 (by decide)
          have t17 : vs 17 = .int .i64 y1 := hT 17 (by decide)
          have t18 : vs 18 = .int .i64 l.length := hT 18 (by decide)
          have t19 : vs 19 = .pointer (some ⟨gp, 3, none⟩) := hT 19 (by decide)
          have t20 : vs 20 = .slice A l.length c := hT 20 (by decide)
          have t21 : vs 21 = .int .i64 l.length := hT 21 (by decide)
          have t22 : vs 22 = .bool true := hT 22 (by decide)
          have t23 : vs 23 = .bool true := hT 23 (by decide)
          have t24 : vs 24 = .bool true := hT 24 (by decide)
          have t28 : vs 28 = .slice (some ⟨gc, 0, none⟩) 2 cc := hT 28 (by decide)
          have t29 : vs 29 = .pointer (some ⟨gc, 1, none⟩) := hT 29 (by decide)
          obtain ⟨c0', c1', l1'⟩ := HROW.out W ((Below.refl w8.heap.size w8).drew.then_below hG (Nat.le_refl _))
          simp only [t0, t1, t2, t3, t4, t5, t6, t7, t8, t9, t10, t11, t12, t13, t14, t15, t16, t17, t18, t19, t20, t21, t22, t23, t24, t28, t29] at hK
          have H := Lib.hid hK
          clear hK hT
          go_simp
          exact H.out _ _ (Below.refl _ _) rfl (fun h => by cases h) trivial
        refine Rg.cons 31 32 rfl (Rg.guarded ?_ ?_) ?_
        · intro vs W hT
          have tg : vs 24 = .bool true := hT 24 (by decide)
          simp only [Rg.putsD, List.getD_cons_zero, List.getD_cons_succ, Act.put, List.setIfInBounds_toArray, List.set_cons_zero, List.set_cons_succ, tg]
          rfl
        · intro vs W n hn hI hG hT hF K hK
          simp only [Rg.putsD, List.getD_cons_zero, List.getD_cons_succ, Act.put, List.setIfInBounds_toArray, List.set_cons_zero, List.set_cons_succ] at hK ⊢
          clear hn
          clear hF hI
          have t0 : vs 0 = .int .i64 0 := hT 0 (by decide)
          have t1 : vs 1 = .bool true := hT 1 (by decide)
          have t2 : vs 2 = .bool true := hT 2 (by decide)
          have t3 : vs 3 = .int .i64 0 := hT 3 (by decide)
          have t4 : vs 4 = .bool true := hT 4 (by decide)
          have t5 : vs 5 = .bool true := hT 5 (by decide)
          have t6 : vs 6 = .bool true := hT 6 (by decide)
          have t7 : vs 7 = .slice (some ⟨gc, 0, none⟩) 2 cc := hT 7 (by decide)
          have t8 : vs 8 = .int .i64 2 := hT 8 (by decide)
          have t9 : vs 9 = .bool true := hT 9 (by decide)
          have t10 : vs 10 = .bool true := hT 10 (by decide)
          have t11 : vs 11 = .bool true := hT 11 (by decide)
          have t12 : vs 12 = .slice (some ⟨gc, 0, none⟩) 2 cc := hT 12 (by decide)
          have t13 : vs 13 = .pointer (some ⟨gc, 0, none⟩) := hT 13 (by decide)
          have t14 : vs 14 = .int .i64 y0 := hT 14 (by decide)
          have t15 : vs 15 = .slice (some ⟨gc, 0, none⟩) 2 cc := hT 15 (by decide)
          have t16 : vs 16 = .pointer (some ⟨gc, 1, none⟩) := hT 16 (by decide)
          have t17 : vs 17 = .int .i64 y1 := hT 17 (by decide)
          have t18 : vs 18 = .int .i64 l.length := hT 18 (by decide)
          have t19 : vs 19 = .pointer (some ⟨gp, 3, none⟩) := hT 19 (by decide)
          have t20 : vs 20 = .slice A l.length c := hT 20 (by decide)
          have t21 : vs 21 = .int .i64 l.length := hT 21 (by decide)
          have t22 : vs 22 = .bool true := hT 22 (by decide)
          have t23 : vs 23 = .bool true := hT 23 (by decide)
          have t24 : vs 24 = .bool true := hT 24 (by decide)
          have t25 : vs 25 = .slice (some ⟨gc, 0, none⟩) 2 cc := hT 25 (by decide)
          have t26 : vs 26 = .pointer (some ⟨gc, 0, none⟩) := hT 26 (by decide)
          have t27 : vs 27 = .int .i64 y0 := hT 27 (by decide)
          have t28 : vs 28 = .slice (some ⟨gc, 0, none⟩) 2 cc := hT 28 (by decide)
          have t29 : vs 29 = .pointer (some ⟨gc, 1, none⟩) := hT 29 (by decide)
          have t30 : vs 30 = .int .i64 y1 := hT 30 (by decide)
          simp only [t0, t1, t2, t3, t4, t5, t6, t7, t8, t9, t10, t11, t12, t13, t14, t15, t16, t17, t18, t19, t20, t21, t22, t23, t24, t25, t26, t27, t28, t29, t30] at hK
          have H := Lib.hid hK
          clear hK hT
          go_simp
          rw [HX.out.1]
          exact H.out _ _ (Below.refl _ _) rfl (fun h => by cases h) trivial
        refine Rg.cons 32 33 rfl (Rg.guarded ?_ ?_) ?_
        · intro vs W hT
          have tg : vs 24 = .bool true := hT 24 (by decide)
          simp only [Rg.putsD, List.getD_cons_zero, List.getD_cons_succ, Act.put, List.setIfInBounds_toArray, List.set_cons_zero, List.set_cons_succ, tg]
          rfl
        · intro vs W n hn hI hG hT hF K hK
          simp only [Rg.putsD, List.getD_cons_zero, List.getD_cons_succ, Act.put, List.setIfInBounds_toArray, List.set_cons_zero, List.set_cons_succ] at hK ⊢
          clear hn
          clear hF hI
          have t0 : vs 0 = .int .i64 0 := hT 0 (by decide)
          have t1 : vs 1 = .bool true := hT 1 (by decide)
          have t2 : vs 2 = .bool true := hT 2 (by decide)
          have t3 : vs 3 = .int .i64 0 := hT 3 (by decide)
          have t4 : vs 4 = .bool true := hT 4 (by decide)
          have t5 : vs 5 = .bool true := hT 5 (by decide)
          have t6 : vs 6 = .bool true := hT 6 (by decide)
          have t7 : vs 7 = .slice (some ⟨gc, 0, none⟩) 2 cc := hT 7 (by decide)
          have t8 : vs 8 = .int .i64 2 := hT 8 (by decide)
          have t9 : vs 9 = .bool true := hT 9 (by decide)
          have t10 : vs 10 = .bool true := hT 10 (by decide)
          have t11 : vs 11 = .bool true := hT 11 (by decide)
          have t12 : vs 12 = .slice (some ⟨gc, 0, none⟩) 2 cc := hT 12 (by decide)
          have t13 : vs 13 = .pointer (some ⟨gc, 0, none⟩) := hT 13 (by decide)
          have t14 : vs 14 = .int .i64 y0 := hT 14 (by decide)
          have t15 : vs 15 = .slice (some ⟨gc, 0, none⟩) 2 cc := hT 15 (by decide)
          have t16 : vs 16 = .pointer (some ⟨gc, 1, none⟩) := hT 16 (by decide)
          have t17 : vs 17 = .int .i64 y1 := hT 17 (by decide)
          have t18 : vs 18 = .int .i64 l.length := hT 18 (by decide)
          have t19 : vs 19 = .pointer (some ⟨gp, 3, none⟩) := hT 19 (by decide)
          have t20 : vs 20 = .slice A l.length c := hT 20 (by decide)
          have t21 : vs 21 = .int .i64 l.length := hT 21 (by decide)
          have t22 : vs 22 = .bool true := hT 22 (by decide)
          have t23 : vs 23 = .bool true := hT 23 (by decide)
          have t24 : vs 24 = .bool true := hT 24 (by decide)
          simp only [t0, t1, t2, t3, t4, t5, t6, t7, t8, t9, t10, t11, t12, t13, t14, t15, t16, t17, t18, t19, t20, t21, t22, t23, t24] at hK
          have H := Lib.hid hK
          clear hK hT
          go_simp
          exact H.out _ _ (Below.refl _ _) rfl (fun h => by cases h) trivial
        refine Rg.cons 33 34 rfl (Rg.guarded ?_ ?_) ?_
        · intro vs W hT
          have tg : vs 24 = .bool true := hT 24 (by decide)
          simp only [Rg.putsD, List.getD_cons_zero, List.getD_cons_succ, Act.put, List.setIfInBounds_toArray, List.set_cons_zero, List.set_cons_succ, tg]
          rfl
        · intro vs W n hn hI hG hT hF K hK
          simp only [Rg.putsD, List.getD_cons_zero, List.getD_cons_succ, Act.put, List.setIfInBounds_toArray, List.set_cons_zero, List.set_cons_succ] at hK ⊢
          clear hn
          clear hF hI
          have t0 : vs 0 = .int .i64 0 := hT 0 (by decide)
          have t1 : vs 1 = .bool true := hT 1 (by decide)
          have t2 : vs 2 = .bool true := hT 2 (by decide)
          have t3 : vs 3 = .int .i64 0 := hT 3 (by decide)
          have t4 : vs 4 = .bool true := hT 4 (by decide)
          have t5 : vs 5 = .bool true := hT 5 (by decide)
          have t6 : vs 6 = .bool true := hT 6 (by decide)
          have t7 : vs 7 = .slice (some ⟨gc, 0, none⟩) 2 cc := hT 7 (by decide)
          have t8 : vs 8 = .int .i64 2 := hT 8 (by decide)
          have t9 : vs 9 = .bool true := hT 9 (by decide)
          have t10 : vs 10 = .bool true := hT 10 (by decide)
          have t11 : vs 11 = .bool true := hT 11 (by decide)
          have t12 : vs 12 = .slice (some ⟨gc, 0, none⟩) 2 cc := hT 12 (by decide)
          have t13 : vs 13 = .pointer (some ⟨gc, 0, none⟩) := hT 13 (by decide)
          have t14 : vs 14 = .int .i64 y0 := hT 14 (by decide)
          have t15 : vs 15 = .slice (some ⟨gc, 0, none⟩) 2 cc := hT 15 (by decide)
          have t16 : vs 16 = .pointer (some ⟨gc, 1, none⟩) := hT 16 (by decide)
          have t17 : vs 17 = .int .i64 y1 := hT 17 (by decide)
          have t18 : vs 18 = .int .i64 l.length := hT 18 (by decide)
          have t19 : vs 19 = .pointer (some ⟨gp, 3, none⟩) := hT 19 (by decide)
          have t20 : vs 20 = .slice A l.length c := hT 20 (by decide)
          have t21 : vs 21 = .int .i64 l.length := hT 21 (by decide)
          have t22 : vs 22 = .bool true := hT 22 (by decide)
          have t23 : vs 23 = .bool true := hT 23 (by decide)
          have t24 : vs 24 = .bool true := hT 24 (by decide)
          have t25 : vs 25 = .slice (some ⟨gc, 0, none⟩) 2 cc := hT 25 (by decide)
          have t26 : vs 26 = .pointer (some ⟨gc, 0, none⟩) := hT 26 (by decide)
          have t27 : vs 27 = .int .i64 y0 := hT 27 (by decide)
          have t28 : vs 28 = .slice (some ⟨gc, 0, none⟩) 2 cc := hT 28 (by decide)
          have t29 : vs 29 = .pointer (some ⟨gc, 1, none⟩) := hT 29 (by decide)
          have t30 : vs 30 = .int .i64 y1 := hT 30 (by decide)
          have t31 : vs 31 = .int .i64 x := hT 31 (by decide)
          have t32 : vs 32 = .int .i64 x := hT 32 (by decide)
          simp only [t0, t1, t2, t3, t4, t5, t6, t7, t8, t9, t10, t11, t12, t13, t14, t15, t16, t17, t18, t19, t20, t21, t22, t23, t24, t25, t26, t27, t28, t29, t30, t31, t32] at hK
          have H := Lib.hid hK
          clear hK hT
          go_simp
          exact H.out _ _ (Below.refl _ _) rfl (fun h => by cases h) trivial
        refine Rg.cons 34 35 rfl (Rg.plain rfl ?_) ?_
        · intro vs W n hn hI hG hT hF K hK
          simp only [Rg.putsD, List.getD_cons_zero, List.getD_cons_succ, Act.put, List.setIfInBounds_toArray, List.set_cons_zero, List.set_cons_succ] at hK ⊢
          clear hn
          clear hF hI
          have t0 : vs 0 = .int .i64 0 := hT 0 (by decide)
          have t1 : vs 1 = .bool true := hT 1 (by decide)
          have t2 : vs 2 = .bool true := hT 2 (by decide)
          have t3 : vs 3 = .int .i64 0 := hT 3 (by decide)
          have t4 : vs 4 = .bool true := hT 4 (by decide)
          have t5 : vs 5 = .bool true := hT 5 (by decide)
          have t6 : vs 6 = .bool true := hT 6 (by decide)
          have t7 : vs 7 = .slice (some ⟨gc, 0, none⟩) 2 cc := hT 7 (by decide)
          have t8 : vs 8 = .int .i64 2 := hT 8 (by decide)
          have t9 : vs 9 = .bool true := hT 9 (by decide)
          have t10 : vs 10 = .bool true := hT 10 (by decide)
          have t11 : vs 11 = .bool true := hT 11 (by decide)
          have t12 : vs 12 = .slice (some ⟨gc, 0, none⟩) 2 cc := hT 12 (by decide)
          have t13 : vs 13 = .pointer (some ⟨gc, 0, none⟩) := hT 13 (by decide)
          have t14 : vs 14 = .int .i64 y0 := hT 14 (by decide)
          have t15 : vs 15 = .slice (some ⟨gc, 0, none⟩) 2 cc := hT 15 (by decide)
          have t16 : vs 16 = .pointer (some ⟨gc, 1, none⟩) := hT 16 (by decide)
          have t17 : vs 17 = .int .i64 y1 := hT 17 (by decide)
          have t18 : vs 18 = .int .i64 l.length := hT 18 (by decide)
          have t19 : vs 19 = .pointer (some ⟨gp, 3, none⟩) := hT 19 (by decide)
          have t20 : vs 20 = .slice A l.length c := hT 20 (by decide)
          have t21 : vs 21 = .int .i64 l.length := hT 21 (by decide)
          have t22 : vs 22 = .bool true := hT 22 (by decide)
          have t23 : vs 23 = .bool true := hT 23 (by decide)
          have t24 : vs 24 = .bool true := hT 24 (by decide)
          have t25 : vs 25 = .slice (some ⟨gc, 0, none⟩) 2 cc := hT 25 (by decide)
          have t26 : vs 26 = .pointer (some ⟨gc, 0, none⟩) := hT 26 (by decide)
          have t27 : vs 27 = .int .i64 y0 := hT 27 (by decide)
          have t28 : vs 28 = .slice (some ⟨gc, 0, none⟩) 2 cc := hT 28 (by decide)
          have t29 : vs 29 = .pointer (some ⟨gc, 1, none⟩) := hT 29 (by decide)
          have t30 : vs 30 = .int .i64 y1 := hT 30 (by decide)
          have t31 : vs 31 = .int .i64 x := hT 31 (by decide)
          have t32 : vs 32 = .int .i64 x := hT 32 (by decide)
          have t33 : vs 33 = .bool true := hT 33 (by decide)
          simp only [t0, t1, t2, t3, t4, t5, t6, t7, t8, t9, t10, t11, t12, t13, t14, t15, t16, t17, t18, t19, t20, t21, t22, t23, t24, t25, t26, t27, t28, t29, t30, t31, t32, t33] at hK
          have H := Lib.hid hK
          clear hK hT
          go_simp
          exact H.out _ _ (Below.refl _ _) rfl (fun h => by cases h) trivial
        refine Rg.cons 35 36 rfl (Rg.plain rfl ?_) ?_
        · intro vs W n hn hI hG hT hF K hK
          simp only [Rg.putsD, List.getD_cons_zero, List.getD_cons_succ, Act.put, List.setIfInBounds_toArray, List.set_cons_zero, List.set_cons_succ] at hK ⊢
          clear hn
          clear hF hI
          have t0 : vs 0 = .int .i64 0 := hT 0 (by decide)
          have t1 : vs 1 = .bool true := hT 1 (by decide)
          have t2 : vs 2 = .bool true := hT 2 (by decide)
          have t3 : vs 3 = .int .i64 0 := hT 3 (by decide)
          have t4 : vs 4 = .bool true := hT 4 (by decide)
          have t5 : vs 5 = .bool true := hT 5 (by decide)
          have t6 : vs 6 = .bool true := hT 6 (by decide)
          have t7 : vs 7 = .slice (some ⟨gc, 0, none⟩) 2 cc := hT 7 (by decide)
          have t8 : vs 8 = .int .i64 2 := hT 8 (by decide)
          have t9 : vs 9 = .bool true := hT 9 (by decide)
          have t10 : vs 10 = .bool true := hT 10 (by decide)
          have t11 : vs 11 = .bool true := hT 11 (by decide)
          have t12 : vs 12 = .slice (some ⟨gc, 0, none⟩) 2 cc := hT 12 (by decide)
          have t13 : vs 13 = .pointer (some ⟨gc, 0, none⟩) := hT 13 (by decide)
          have t14 : vs 14 = .int .i64 y0 := hT 14 (by decide)
          have t15 : vs 15 = .slice (some ⟨gc, 0, none⟩) 2 cc := hT 15 (by decide)
          have t16 : vs 16 = .pointer (some ⟨gc, 1, none⟩) := hT 16 (by decide)
          have t17 : vs 17 = .int .i64 y1 := hT 17 (by decide)
          have t18 : vs 18 = .int .i64 l.length := hT 18 (by decide)
          have t19 : vs 19 = .pointer (some ⟨gp, 3, none⟩) := hT 19 (by decide)
          have t20 : vs 20 = .slice A l.length c := hT 20 (by decide)
          have t21 : vs 21 = .int .i64 l.length := hT 21 (by decide)
          have t22 : vs 22 = .bool true := hT 22 (by decide)
          have t23 : vs 23 = .bool true := hT 23 (by decide)
          have t24 : vs 24 = .bool true := hT 24 (by decide)
          have t25 : vs 25 = .slice (some ⟨gc, 0, none⟩) 2 cc := hT 25 (by decide)
          have t26 : vs 26 = .pointer (some ⟨gc, 0, none⟩) := hT 26 (by decide)
          have t27 : vs 27 = .int .i64 y0 := hT 27 (by decide)
          have t28 : vs 28 = .slice (some ⟨gc, 0, none⟩) 2 cc := hT 28 (by decide)
          have t29 : vs 29 = .pointer (some ⟨gc, 1, none⟩) := hT 29 (by decide)
          have t30 : vs 30 = .int .i64 y1 := hT 30 (by decide)
          have t31 : vs 31 = .int .i64 x := hT 31 (by decide)
          have t32 : vs 32 = .int .i64 x := hT 32 (by decide)
          have t33 : vs 33 = .bool true := hT 33 (by decide)
          have t34 : vs 34 = .bool true := hT 34 (by decide)
          simp only [t0, t1, t2, t3, t4, t5, t6, t7, t8, t9, t10, t11, t12, t13, t14, t15, t16, t17, t18, t19, t20, t21, t22, t23, t24, t25, t26, t27, t28, t29, t30, t31, t32, t33, t34] at hK
          have H := Lib.hid hK
          clear hK hT
          go_simp
          exact H.out _ _ (Below.refl _ _) rfl (fun h => by cases h) trivial
        refine Rg.cons 36 37 rfl (Rg.guarded ?_ ?_) ?_
        · intro vs W hT
          have tg : vs 35 = .bool true := hT 35 (by decide)
          simp only [Rg.putsD, List.getD_cons_zero, List.getD_cons_succ, Act.put, List.setIfInBounds_toArray, List.set_cons_zero, List.set_cons_succ, tg]
          rfl
        · intro vs W n hn hI hG hT hF K hK
          simp only [Rg.putsD, List.getD_cons_zero, List.getD_cons_succ, Act.put, List.setIfInBounds_toArray, List.set_cons_zero, List.set_cons_succ] at hK ⊢
          clear hn
          clear hF hI
          have t0 : vs 0 = .int .i64 0 := hT 0 (by decide)
          have t1 : vs 1 = .bool true := hT 1 (by decide)
          have t2 : vs 2 = .bool true := hT 2 (by decide)
          have t3 : vs 3 = .int .i64 0 := hT 3 (by decide)
          have t4 : vs 4 = .bool true := hT 4 (by decide)
          have t5 : vs 5 = .bool true := hT 5 (by decide)
          have t6 : vs 6 = .bool true := hT 6 (by decide)
          have t7 : vs 7 = .slice (some ⟨gc, 0, none⟩) 2 cc := hT 7 (by decide)
          have t8 : vs 8 = .int .i64 2 := hT 8 (by decide)
          have t9 : vs 9 = .bool true := hT 9 (by decide)
          have t10 : vs 10 = .bool true := hT 10 (by decide)
          have t11 : vs 11 = .bool true := hT 11 (by decide)
          have t12 : vs 12 = .slice (some ⟨gc, 0, none⟩) 2 cc := hT 12 (by decide)
          have t13 : vs 13 = .pointer (some ⟨gc, 0, none⟩) := hT 13 (by decide)
          have t14 : vs 14 = .int .i64 y0 := hT 14 (by decide)
          have t15 : vs 15 = .slice (some ⟨gc, 0, none⟩) 2 cc := hT 15 (by decide)
          have t16 : vs 16 = .pointer (some ⟨gc, 1, none⟩) := hT 16 (by decide)
          have t17 : vs 17 = .int .i64 y1 := hT 17 (by decide)
          have t18 : vs 18 = .int .i64 l.length := hT 18 (by decide)
          have t19 : vs 19 = .pointer (some ⟨gp, 3, none⟩) := hT 19 (by decide)
          have t20 : vs 20 = .slice A l.length c := hT 20 (by decide)
          have t21 : vs 21 = .int .i64 l.length := hT 21 (by decide)
          have t22 : vs 22 = .bool true := hT 22 (by decide)
          have t23 : vs 23 = .bool true := hT 23 (by decide)
          have t24 : vs 24 = .bool true := hT 24 (by decide)
          have t25 : vs 25 = .slice (some ⟨gc, 0, none⟩) 2 cc := hT 25 (by decide)
          have t26 : vs 26 = .pointer (some ⟨gc, 0, none⟩) := hT 26 (by decide)
          have t27 : vs 27 = .int .i64 y0 := hT 27 (by decide)
          have t28 : vs 28 = .slice (some ⟨gc, 0, none⟩) 2 cc := hT 28 (by decide)
          have t29 : vs 29 = .pointer (some ⟨gc, 1, none⟩) := hT 29 (by decide)
          have t30 : vs 30 = .int .i64 y1 := hT 30 (by decide)
          have t31 : vs 31 = .int .i64 x := hT 31 (by decide)
          have t32 : vs 32 = .int .i64 x := hT 32 (by decide)
          have t33 : vs 33 = .bool true := hT 33 (by decide)
          have t34 : vs 34 = .bool true := hT 34 (by decide)
          have t35 : vs 35 = .bool true := hT 35 (by decide)
          simp only [t0, t1, t2, t3, t4, t5, t6, t7, t8, t9, t10, t11, t12, t13, t14, t15, t16, t17, t18, t19, t20, t21, t22, t23, t24, t25, t26, t27, t28, t29, t30, t31, t32, t33, t34, t35] at hK
          have H := Lib.hid hK
          clear hK hT
          go_simp
          exact H.out _ _ (Below.refl _ _) rfl (fun h => by cases h) trivial
        refine Rg.cons 37 38 rfl (Rg.guarded ?_ ?_) ?_
        · intro vs W hT
          have tg : vs 35 = .bool true := hT 35 (by decide)
          simp only [Rg.putsD, List.getD_cons_zero, List.getD_cons_succ, Act.put, List.setIfInBounds_toArray, List.set_cons_zero, List.set_cons_succ, tg]
          rfl
        · intro vs W n hn hI hG hT hF K hK
          simp only [Rg.putsD, List.getD_cons_zero, List.getD_cons_succ, Act.put, List.setIfInBounds_toArray, List.set_cons_zero, List.set_cons_succ] at hK ⊢
          clear hn
          clear hF hI
          have t0 : vs 0 = .int .i64 0 := hT 0 (by decide)
          have t1 : vs 1 = .bool true := hT 1 (by decide)
          have t2 : vs 2 = .bool true := hT 2 (by decide)
          have t3 : vs 3 = .int .i64 0 := hT 3 (by decide)
          have t4 : vs 4 = .bool true := hT 4 (by decide)
          have t5 : vs 5 = .bool true := hT 5 (by decide)
          have t6 : vs 6 = .bool true := hT 6 (by decide)
          have t7 : vs 7 = .slice (some ⟨gc, 0, none⟩) 2 cc := hT 7 (by decide)
          have t8 : vs 8 = .int .i64 2 := hT 8 (by decide)
          have t9 : vs 9 = .bool true := hT 9 (by decide)
          have t10 : vs 10 = .bool true := hT 10 (by decide)
          have t11 : vs 11 = .bool true := hT 11 (by decide)
          have t12 : vs 12 = .slice (some ⟨gc, 0, none⟩) 2 cc := hT 12 (by decide)
          have t13 : vs 13 = .pointer (some ⟨gc, 0, none⟩) := hT 13 (by decide)
          have t14 : vs 14 = .int .i64 y0 := hT 14 (by decide)
          have t15 : vs 15 = .slice (some ⟨gc, 0, none⟩) 2 cc := hT 15 (by decide)
          have t16 : vs 16 = .pointer (some ⟨gc, 1, none⟩) := hT 16 (by decide)
          have t17 : vs 17 = .int .i64 y1 := hT 17 (by decide)
          have t18 : vs 18 = .int .i64 l.length := hT 18 (by decide)
          have t19 : vs 19 = .pointer (some ⟨gp, 3, none⟩) := hT 19 (by decide)
          have t20 : vs 20 = .slice A l.length c := hT 20 (by decide)
          have t21 : vs 21 = .int .i64 l.length := hT 21 (by decide)
          have t22 : vs 22 = .bool true := hT 22 (by decide)
          have t23 : vs 23 = .bool true := hT 23 (by decide)
          have t24 : vs 24 = .bool true := hT 24 (by decide)
          have t25 : vs 25 = .slice (some ⟨gc, 0, none⟩) 2 cc := hT 25 (by decide)
          have t26 : vs 26 = .pointer (some ⟨gc, 0, none⟩) := hT 26 (by decide)
          have t27 : vs 27 = .int .i64 y0 := hT 27 (by decide)
          have t28 : vs 28 = .slice (some ⟨gc, 0, none⟩) 2 cc := hT 28 (by decide)
          have t29 : vs 29 = .pointer (some ⟨gc, 1, none⟩) := hT 29 (by decide)
          have t30 : vs 30 = .int .i64 y1 := hT 30 (by decide)
          have t31 : vs 31 = .int .i64 x := hT 31 (by decide)
          have t32 : vs 32 = .int .i64 x := hT 32 (by decide)
          have t33 : vs 33 = .bool true := hT 33 (by decide)
          have t34 : vs 34 = .bool true := hT 34 (by decide)
          have t35 : vs 35 = .bool true := hT 35 (by decide)
          simp only [t0, t1, t2, t3, t4, t5, t6, t7, t8, t9, t10, t11, t12, t13, t14, t15, t16, t17, t18, t19, t20, t21, t22, t23, t24, t25, t26, t27, t28, t29, t30, t31, t32, t33, t34, t35] at hK
          have H := Lib.hid hK
          clear hK hT
          go_simp
          exact H.out _ _ (Below.refl _ _) rfl (fun h => by cases h) trivial
        exact Rg.nil
      · intro vs W hG hI hT hF
        have t0 : vs 0 = .int .i64 0 := hT 0 (by decide)
        have t1 : vs 1 = .bool true := hT 1 (by decide)
        have t2 : vs 2 = .bool true := hT 2 (by decide)
        have t3 : vs 3 = .int .i64 0 := hT 3 (by decide)
        have t4 : vs 4 = .bool true := hT 4 (by decide)
        have t5 : vs 5 = .bool true := hT 5 (by decide)
        have t6 : vs 6 = .bool true := hT 6 (by decide)
        have t7 : vs 7 = .slice (some ⟨gc, 0, none⟩) 2 cc := hT 7 (by decide)
        have t8 : vs 8 = .int .i64 2 := hT 8 (by decide)
        have t9 : vs 9 = .bool true := hT 9 (by decide)
        have t10 : vs 10 = .bool true := hT 10 (by decide)
        have t11 : vs 11 = .bool true := hT 11 (by decide)
        have t12 : vs 12 = .slice (some ⟨gc, 0, none⟩) 2 cc := hT 12 (by decide)
        have t13 : vs 13 = .pointer (some ⟨gc, 0, none⟩) := hT 13 (by decide)
        have t14 : vs 14 = .int .i64 y0 := hT 14 (by decide)
        have t15 : vs 15 = .slice (some ⟨gc, 0, none⟩) 2 cc := hT 15 (by decide)
        have t16 : vs 16 = .pointer (some ⟨gc, 1, none⟩) := hT 16 (by decide)
        have t17 : vs 17 = .int .i64 y1 := hT 17 (by decide)
        have t18 : vs 18 = .int .i64 l.length := hT 18 (by decide)
        have t19 : vs 19 = .pointer (some ⟨gp, 3, none⟩) := hT 19 (by decide)
        have t20 : vs 20 = .slice A l.length c := hT 20 (by decide)
        have t21 : vs 21 = .int .i64 l.length := hT 21 (by decide)
        have t22 : vs 22 = .bool true := hT 22 (by decide)
        have t23 : vs 23 = .bool true := hT 23 (by decide)
        have t24 : vs 24 = .bool true := hT 24 (by decide)
        have t25 : vs 25 = .slice (some ⟨gc, 0, none⟩) 2 cc := hT 25 (by decide)
        have t26 : vs 26 = .pointer (some ⟨gc, 0, none⟩) := hT 26 (by decide)
        have t27 : vs 27 = .int .i64 y0 := hT 27 (by decide)
        have t28 : vs 28 = .slice (some ⟨gc, 0, none⟩) 2 cc := hT 28 (by decide)
        have t29 : vs 29 = .pointer (some ⟨gc, 1, none⟩) := hT 29 (by decide)
        have t30 : vs 30 = .int .i64 y1 := hT 30 (by decide)
        have t31 : vs 31 = .int .i64 x := hT 31 (by decide)
        have t32 : vs 32 = .int .i64 x := hT 32 (by decide)
        have t33 : vs 33 = .bool true := hT 33 (by decide)
        have t34 : vs 34 = .bool true := hT 34 (by decide)
        have t35 : vs 35 = .bool true := hT 35 (by decide)
        have t36 : vs 36 = .int .i64 bd := hT 36 (by decide)
        have t37 : vs 37 = .int .i64 x := hT 37 (by decide)
        simp only [List.length_cons, List.length_nil, Nat.reduceAdd, List.range, List.range.loop, List.drop_succ_cons, List.drop_zero, Rg.putsD, List.getD_cons_zero, List.getD_cons_succ, Act.put, List.setIfInBounds_toArray, List.set_cons_zero, List.set_cons_succ, t0, t1, t2, t3, t4, t5, t6, t7, t8, t9, t10, t11, t12, t13, t14, t15, t16, t17, t18, t19, t20, t21, t22, t23, t24, t25, t26, t27, t28, t29, t30, t31, t32, t33, t34, t35, t36, t37]
        clear hT t0 t1 t2 t3 t4 t5 t6 t7 t8 t9 t10 t11 t12 t13 t14 t15 t16 t17 t18 t19 t20 t21 t22 t23 t24 t25 t26 t27 t28 t29 t30 t31 t32 t33 t34 t35 t36 t37
        have H9 := Lib.hid (H8.out.1.then_ ((Below.refl w8.heap.size w8).drew.then_below hG (Nat.le_refl _)))
        clear hF hI hG H8 HROW
        have hle : bd ≤ x := hbd
        go_wp2_with fail
        refine (h10_any _).mono ?_
        rintro e w9 ⟨rfl, b9⟩
        have H10 := Lib.hid (H9.out.then_ b9)
        clear b9 H9
        go_wp2_with fail
        go_ret
        exact ⟨rfl, HKB.out _ H10.out.tk.2⟩
end Go.Proofs.YtmjonmoagpkdiabGreatDoor
