/-
  The maker of plans.
-/
import Derived.Test.YtjmjmijjdgolfaaLcP
import Derived.Test.YtjmjmijjdgolfaaLcF
import Derived.Test.YtjmjmijjdgolfaaSeA
namespace Go.Proofs.Ytjmjmijjdgolfaa
open Go.RowKit
set_option linter.unusedSimpArgs false
set_option linter.unusedVariables false

/-- Machines in rows of their own. -/
structure MsB (B : Nat) (v : Value) (us : List (Mc × Value)) (W : World) : Prop where
  row : W.ownsRow B 85 5 v us.length (us.flatMap encMv)
  cans : ∀ x ∈ us, Can7 B x W
theorem MsB.kept {B sb : Nat} {v : Value} {us : List (Mc × Value)} {W W' : World} (h : MsB B v us W) (hk : Kept sb W W') (hs : sb < B) : MsB B v us W' :=
  ⟨kept_own h.row hk hs, fun x hx => ⟨(h.cans x hx).1, kept_own (h.cans x hx).2 hk hs⟩⟩
theorem MsB.below {B : Nat} {v : Value} {us : List (Mc × Value)} {W W' : World} (h : MsB B v us W) (hb : Below W.heap.size W W') : MsB B v us W' :=
  ⟨own_below h.row hb, fun x hx => ⟨(h.cans x hx).1, own_below (h.cans x hx).2 hb⟩⟩
theorem flatS_eq (l : List ByteArray) : l.flatMap encS = l.map Value.string := flatS_map l
theorem MsB.msF {B : Nat} {v : Value} {us : List (Mc × Value)} {W : World} (h : MsB B v us W) : MsF B v (us.map Prod.fst) W := by
  obtain ⟨A, c, rfl, hA⟩ := own_form h.row
  have hlen : (us.map Prod.fst).length = us.length := List.length_map _
  rcases Nat.eq_zero_or_pos us.length with h0 | h0
  · refine ⟨A, c, by rw [hlen], ?_, .inl (by rw [List.length_eq_zero_iff.mp h0]; rfl)⟩
    rw [hlen, h0]
    exact Nat.zero_le _
  · obtain ⟨g, cap, hv, _, hlt, hc, _, hrd⟩ := own_read h.row h0
    cases hv
    refine ⟨_, c, by rw [hlen], by rw [hlen]; exact hc, .inr ⟨g, rfl, hlt, fun j hj => ?_⟩⟩
    have hju : j < us.length := by rw [← hlen]; exact hj
    have e := fun i (hi : i < 5) => flatK_at encMv 5 (fun _ => rfl) us j hju i hi
    rw [List.getElem_map]
    have hca := (h.cans us[j] (List.getElem_mem hju)).2
    refine ⟨hrd _ _ (e 0 (by omega)), hrd _ _ (e 1 (by omega)), hrd _ _ (e 2 (by omega)), hrd _ _ (e 3 (by omega)), us[j].2, hrd _ _ (e 4 (by omega)), ?_⟩
    refine readsF_own (T := 9) (size := 1) ?_
    rw [flatS_eq]
    exact hca
theorem MsB.len {B : Nat} {v : Value} {us : List (Mc × Value)} {W : World} (h : MsB B v us W) : ∀ m ∈ us.map Prod.fst, m.can.length ≤ 7 := fun m hm => by
  obtain ⟨x, hx, rfl⟩ := List.mem_map.mp hm
  exact (h.cans x hx).1

/-- A plan that a stream makes. -/
def PlanOf (sb b n : Nat) (w : World) (e : Ending) (w' : World) : Prop :=
  ∃ (v : Value) (l : List Int), e = .returned v ∧ l.length ≤ n ∧ Took sb b w w' ∧ w'.ownsRow w.heap.size 3 1 v l.length (l.map (Value.int .i64))

set_option maxRecDepth 100000 in
set_option maxHeartbeats 8000000 in
theorem linePlan_any (sb b B B2 : Nat) (us : List (Mc × Value)) (ns : List Nd) (v1 v2 : Value) (w : World) (hb : b ≤ 800000) (hB : sb < B) (hB2 : sb < B2) (hu1 : 1 ≤ us.length) (hu3 : us.length ≤ 3) (hn5 : ns.length ≤ 5) (hs : IsStream w sb b) (h1 : MsB B v1 us w) (h2 : w.ownsRow B2 90 2 v2 ns.length (ns.flatMap encD)) :
    Calls Try.prog 8 #[.pointer (some ⟨sb, 0, none⟩), v1, v2] w (PlanOf sb (b + 20) 6 w) := by
  have hlt := hs.lt
  have HS0 := Lib.hid hs
  have HR := Lib.hid (And.intro h1 h2)
  obtain ⟨i0, hi0, hz0, hzz1, hz20⟩ := info_parts int_infoN
  have HI := Lib.hid (And.intro hi0 (And.intro hz0 (And.intro hzz1 hz20)))
  have hmf := h1.msF
  obtain ⟨A1, c1, e1, hc1, _⟩ := hmf
  rw [List.length_map] at e1 hc1
  subst e1
  obtain ⟨A2, c2, rfl, _⟩ := own_form h2
  have HMS : Hid (∀ W, Kept sb w W → MsF B (.slice A1 us.length c1) (us.map Prod.fst) W) := fun W hk => (h1.kept hk hB).msF
  have HNS : Hid (∀ W, Kept sb w W → Reads encD (.slice A2 ns.length c2) ns W) := fun W hk => reads_own (kept_own h2 hk hB2)
  have HL7 : Hid (∀ m ∈ us.map Prod.fst, m.can.length ≤ 7) := h1.len
  have HML : Hid ((us.map Prod.fst).length = us.length) := List.length_map _
  generalize us.map Prod.fst = ms at *
  obtain ⟨nm, hn⟩ : ∃ nm, us.length = nm := ⟨_, rfl⟩
  rw [hn] at HMS HML hu1 hu3 ⊢
  clear hi0 hz0 hzz1 hz20 hs h1 h2 HR hn hc1
  go_enter Try.func8, Try.ntmps8
  go_wp2_with fail
  go_loopw [7, 15] (fun v7 kk wr => ∃ (t : Nat) (l : List Int), t ≤ ns.length ∧ kk = .int .i64 t ∧ l.length = t ∧ w.heap.size ≤ wr.heap.size ∧ Hid (Took sb (b + t) w wr ∧ wr.ownsRow w.heap.size 3 1 v7 l.length (l.map (Value.int .i64)))) (fun _ kk _ => ns.length - (intOf kk).toNat)
  case atStart => exact ⟨0, [], by omega, rfl, rfl, Nat.le_refl _, Took.refl HS0.out, World.ownsRow_nil _ _ _ _⟩
  case round =>
    obtain ⟨t, l, ht, rfl, rfl, hwz, HS⟩ := hrel
    obtain ⟨A7, c7, rfl, _⟩ := own_form HS.out.2
    by_cases htl : l.length < ns.length
    · obtain ⟨g2, e2, hg2, n0, n1⟩ := readsD_at (HNS.out wr HS.out.1.2) htl
      cases e2
      generalize ns[l.length] = nd at *
      obtain ⟨part, many⟩ := nd
      dsimp only at n0 n1
      have i1 : (0 : Int) ≤ (l.length : Int) := by omega
      have i2 : (l.length : Int) < (ns.length : Int) := by omega
      have HX : Hid (Took sb (b + l.length) w (wr.alloc (.cells #[.string part, .int .i64 many] 90)) ∧ (wr.alloc (.cells #[.string part, .int .i64 many] 90)).ownsRow w.heap.size 3 1 (.slice A7 l.length c7) l.length (l.map (Value.int .i64)) ∧ (wr.alloc (.cells #[.string part, .int .i64 many] 90)).heap[wr.heap.size]? = some (.cells #[.string part, .int .i64 many] 90 (0, 0))) := ⟨HS.out.1.alloc _, HS.out.2.alloc _, blk_new wr _ rfl⟩
      go_upto_region 5 with (fail)
      generalize wr.alloc (.cells #[.string part, .int .i64 many] 90) = wx at *
      obtain ⟨gx, hgx⟩ : ∃ gx, wr.heap.size = gx := ⟨_, rfl⟩
      rw [hgx] at HX hwz ⊢
      clear hgx n0 n1 HS hg2
      go_wp2_with fail
      refine (next_any sb (b + l.length) _ _ (by omega) (by omega) (by omega) HX.out.1.1).mono ?_
      rintro e w3 ⟨x, hx0, hx1, rfl, t3⟩
      obtain ⟨y, rfl⟩ := Int.eq_ofNat_of_zero_le hx0
      have hy : y ≤ 10 := by omega
      have H3 : Hid (Took sb (b + l.length + 1) w w3 ∧ w3.ownsRow w.heap.size 3 1 (.slice A7 l.length c7) l.length (l.map (Value.int .i64)) ∧ w3.heap[gx]? = some (.cells #[.string part, .int .i64 many] 90 (0, 0))) := ⟨HX.out.1.trans t3, kept_own HX.out.2.1 t3.2 hlt, t3.blk HX.out.2.2 (by omega)⟩
      clear t3 HX hx0 hx1
      go_wp2_with fail
      go_loopw [10, 26] (fun v10 kk wr => ∃ (i y : Nat), i ≤ nm ∧ y ≤ 10 ∧ kk = .int .i64 i ∧ v10 = .int .i64 y ∧ Hid (Below w3.heap.size w3 wr)) (fun _ kk _ => nm - (intOf kk).toNat)
      case atStart => exact ⟨0, y, by omega, hy, rfl, rfl, Below.refl _ _⟩
      case round =>
        obtain ⟨i, y, hi, hy, rfl, rfl, HB⟩ := hrel
        by_cases hin : i < nm
        · obtain ⟨q, hq0, hqn⟩ : ∃ q : Nat, ((y : Int) + (i : Int)) % (nm : Int) = (q : Int) ∧ q < nm := ⟨(y + i) % nm, by push_cast; rfl, Nat.mod_lt _ (by omega)⟩
          have hqm : q < ms.length := by rw [HML.out]; exact hqn
          have hkw := H3.out.1.2.then_ (Kept.of_below HB.out)
          have hmsf := HMS.out wr hkw
          rw [← HML.out] at hmsf
          obtain ⟨g1, e1, hg1, _, _, _, _, u4, q4, hu4⟩ := hmsf.at_ hqm
          cases e1
          obtain ⟨A4, c4, rfl, hc4, hr4⟩ := hu4
          have hl7 := HL7.out ms[q] (List.getElem_mem hqm)
          generalize ms[q].can = can at *
          have HU : Hid (ReadsF B encS (.slice A4 can.length c4) can wr) := ⟨A4, c4, rfl, hc4, hr4⟩
          have hbx := blk_below HB.out H3.out.2.2
          have hgxl := lt_of_blk hbx
          obtain ⟨r0, _⟩ := blk2c hbx
          have i3 : (0 : Int) ≤ (q : Int) := by omega
          have i4 : (q : Int) < (nm : Int) := by omega
          have hi0' : ¬ (nm : Int) = 0 := by omega
          have hzw := HB.out.size
          clear hkw hmsf hr4 hbx
          go_upto_region 10 with (fail)
          rw [hq0]
          clear hq0 hi0'
          refine Rg.rgL (fun a b => Below a.heap.size a b)
            [(fun vs u => vs 0 = .slice (some ⟨g1, 0, none⟩) nm c1), (fun vs u => vs 1 = .int .i64 q), (fun vs u => vs 2 = .pointer (some ⟨g1, q * 5, none⟩)), (fun vs u => vs 3 = .pointer (some ⟨g1, q * 5 + 4, none⟩)), (fun vs u => vs 4 = .slice A4 can.length c4), (fun vs u => vs 5 = .pointer (some ⟨gx, 0, none⟩)), (fun vs u => vs 6 = .string part)]
            [[], [], [0, 1], [0, 1, 2], [0, 1, 2, 3], [], [5]] [some 35, some 36, some 37, some 38, some 39, some 40, some 41, some 42] [] (fun _ _ => True) [[], [], [0, 1], [0, 1, 2], [0, 1, 2, 3], [], [5], [0, 1, 2, 3, 4, 5, 6]]
            (by kernel_rfl) (by decide) (by kernel_rfl) (by kernel_rfl) (by kernel_rfl) (by kernel_rfl) (by kernel_rfl) (fun _ => Below.refl _ _) (fun _ _ _ h k => h.ext k) (fun _ _ h => h.size) ?_ trivial ?_ ?_
          · intro t ht vs w w' h hE
            simp only [List.mem_cons, List.not_mem_nil, or_false] at ht
            rcases ht with rfl | rfl | rfl | rfl | rfl | rfl | rfl
            · exact h
            · exact h
            · exact h
            · exact h
            · exact h
            · exact h
            · exact h
          ·
            refine Rg.cons 0 1 rfl (Rg.plain rfl ?_) ?_
            · intro vs W n hn hI hG hT hF K hK
              simp only [Rg.putsD, List.getD_cons_zero, List.getD_cons_succ, Act.put, List.setIfInBounds_toArray, List.set_cons_zero, List.set_cons_succ] at hK ⊢
              clear hn
              clear hF hI
              have H := Lib.hid hK
              clear hK hT
              go_simp
              exact H.out _ _ (Below.refl _ _) rfl (fun h => by cases h) trivial
            refine Rg.cons 1 2 rfl (Rg.plain rfl ?_) ?_
            · intro vs W n hn hI hG hT hF K hK
              simp only [Rg.putsD, List.getD_cons_zero, List.getD_cons_succ, Act.put, List.setIfInBounds_toArray, List.set_cons_zero, List.set_cons_succ] at hK ⊢
              clear hn
              clear hF hI
              have H := Lib.hid hK
              clear hK hT
              go_simp
              exact H.out _ _ (Below.refl _ _) rfl (fun h => by cases h) trivial
            refine Rg.cons 2 3 rfl (Rg.plain rfl ?_) ?_
            · intro vs W n hn hI hG hT hF K hK
              simp only [Rg.putsD, List.getD_cons_zero, List.getD_cons_succ, Act.put, List.setIfInBounds_toArray, List.set_cons_zero, List.set_cons_succ] at hK ⊢
              clear hn
              clear hF hI
              have t0 : vs 0 = .slice (some ⟨g1, 0, none⟩) nm c1 := hT 0 (by decide)
              have t1 : vs 1 = .int .i64 q := hT 1 (by decide)
              simp only [t0, t1] at hK
              have H := Lib.hid hK
              clear hK hT
              go_simp
              exact H.out _ _ (Below.refl _ _) rfl (fun h => by cases h) trivial
            refine Rg.cons 3 4 rfl (Rg.plain rfl ?_) ?_
            · intro vs W n hn hI hG hT hF K hK
              simp only [Rg.putsD, List.getD_cons_zero, List.getD_cons_succ, Act.put, List.setIfInBounds_toArray, List.set_cons_zero, List.set_cons_succ] at hK ⊢
              clear hn
              clear hF hI
              have t0 : vs 0 = .slice (some ⟨g1, 0, none⟩) nm c1 := hT 0 (by decide)
              have t1 : vs 1 = .int .i64 q := hT 1 (by decide)
              have t2 : vs 2 = .pointer (some ⟨g1, q * 5, none⟩) := hT 2 (by decide)
              simp only [t0, t1, t2] at hK
              have H := Lib.hid hK
              clear hK hT
              go_simp
              exact H.out _ _ (Below.refl _ _) rfl (fun h => by cases h) trivial
            refine Rg.cons 4 5 rfl (Rg.plain rfl ?_) ?_
            · intro vs W n hn hI hG hT hF K hK
              simp only [Rg.putsD, List.getD_cons_zero, List.getD_cons_succ, Act.put, List.setIfInBounds_toArray, List.set_cons_zero, List.set_cons_succ] at hK ⊢
              clear hn
              clear hF hI
              have t0 : vs 0 = .slice (some ⟨g1, 0, none⟩) nm c1 := hT 0 (by decide)
              have t1 : vs 1 = .int .i64 q := hT 1 (by decide)
              have t2 : vs 2 = .pointer (some ⟨g1, q * 5, none⟩) := hT 2 (by decide)
              have t3 : vs 3 = .pointer (some ⟨g1, q * 5 + 4, none⟩) := hT 3 (by decide)
              have c0 := (hG.cell (p := ⟨g1, q * 5 + 4, none⟩) hg1).trans q4
              simp only [t0, t1, t2, t3] at hK
              have H := Lib.hid hK
              clear hK hT
              go_simp
              exact H.out _ _ (Below.refl _ _) rfl (fun h => by cases h) trivial
            refine Rg.cons 5 6 rfl (Rg.plain rfl ?_) ?_
            · intro vs W n hn hI hG hT hF K hK
              simp only [Rg.putsD, List.getD_cons_zero, List.getD_cons_succ, Act.put, List.setIfInBounds_toArray, List.set_cons_zero, List.set_cons_succ] at hK ⊢
              clear hn
              clear hF hI
              have H := Lib.hid hK
              clear hK hT
              go_simp
              exact H.out _ _ (Below.refl _ _) rfl (fun h => by cases h) trivial
            refine Rg.cons 6 7 rfl (Rg.plain rfl ?_) ?_
            · intro vs W n hn hI hG hT hF K hK
              simp only [Rg.putsD, List.getD_cons_zero, List.getD_cons_succ, Act.put, List.setIfInBounds_toArray, List.set_cons_zero, List.set_cons_succ] at hK ⊢
              clear hn
              clear hF hI
              have t5 : vs 5 = .pointer (some ⟨gx, 0, none⟩) := hT 5 (by decide)
              have c0 := (hG.cell (p := ⟨gx, 0, none⟩) hgxl).trans r0
              simp only [t5] at hK
              have H := Lib.hid hK
              clear hK hT
              go_simp
              exact H.out _ _ (Below.refl _ _) rfl (fun h => by cases h) trivial
            exact Rg.nil
          · intro vs W hG hI hT hF
            have t0 : vs 0 = .slice (some ⟨g1, 0, none⟩) nm c1 := hT 0 (by decide)
            have t1 : vs 1 = .int .i64 q := hT 1 (by decide)
            have t2 : vs 2 = .pointer (some ⟨g1, q * 5, none⟩) := hT 2 (by decide)
            have t3 : vs 3 = .pointer (some ⟨g1, q * 5 + 4, none⟩) := hT 3 (by decide)
            have t4 : vs 4 = .slice A4 can.length c4 := hT 4 (by decide)
            have t5 : vs 5 = .pointer (some ⟨gx, 0, none⟩) := hT 5 (by decide)
            have t6 : vs 6 = .string part := hT 6 (by decide)
            simp only [List.length_cons, List.length_nil, Nat.reduceAdd, List.range, List.range.loop, List.drop_succ_cons, List.drop_zero, Rg.putsD, List.getD_cons_zero, List.getD_cons_succ, Act.put, List.setIfInBounds_toArray, List.set_cons_zero, List.set_cons_succ, t0, t1, t2, t3, t4, t5, t6]
            clear hT t0 t1 t2 t3 t4 t5 t6
            have hGW : Below wr.heap.size wr W := (Below.refl _ _).drew.then_below hG (Nat.le_refl _)
            have HBW := Lib.hid (HB.out.then_below hGW hzw)
            have CP := Lib.hid (contains_any part can.length (Nat.le_refl _) (by omega) (HU.out.below hGW) c4)
            clear hF hI hG hGW r0 q4 HU HB
            generalize has (can.take can.length) part = f at *
            cases f
            · go_wp2_with fail
              refine CP.out.mono ?_
              rintro e w5 ⟨rfl, rfl⟩
              go_wp2_with fail
              go_roundw
              case rel => exact ⟨i + 1, y, by omega, hy, by go_num, rfl, HBW⟩
              case measure => simp [intOf]; omega
            · have HB5 : Hid (Took sb (b + l.length + 1) w W ∧ W.ownsRow w.heap.size 3 1 (.slice A7 l.length c7) l.length (l.map (Value.int .i64))) := ⟨H3.out.1.below HBW.out, own_below H3.out.2.1 HBW.out⟩
              go_wp2_with fail
              refine CP.out.mono ?_
              rintro e w5 ⟨rfl, rfl⟩
              clear HBW H3 CP
              have hz5 := HB5.out.1.size
              go_wp2_with (at_builtin; refine hold ?_)
              refine loose ?_
              refine wpList_append_own _ rfl _ _ 22 rfl w.heap.size 3 i0 _ 1 8 Try.underlying22 HI.out.1 HI.out.2.1 HI.out.2.2.1 HI.out.2.2.2 rfl (by omega) _ l.length (l.map (Value.int .i64)) rfl (HB5.out.2.alloc _) ⟨W.heap.size, 0, none⟩ 1 1 [.int .i64 (q : Nat)] rfl rfl (cell_one_new _ _ _) (by intro u hu; simp at hu; subst hu; rfl) (by unfold maxLen; omega) (by omega) (by simp; omega) ?_
              intro v' w9 hown' hg' _
              have H9 : Hid (Took sb (b + (l.length + 1)) w w9 ∧ w9.ownsRow w.heap.size 3 1 v' (l ++ [((q : Nat) : Int)]).length ((l ++ [((q : Nat) : Int)]).map (Value.int .i64))) := by
                refine ⟨(HB5.out.1.alloc _).grown hlt hg' (own_row HB5.out.2), ?_⟩
                rw [List.length_append, List.map_append]
                exact hown'
              have hz9 := H9.out.1.size
              clear hown' hg' HB5
              go_wp2_with fail
              go_roundw
              case rel => exact ⟨l.length + 1, l ++ [((q : Nat) : Int)], by omega, by go_num, by simp, hz9, H9⟩
              case measure => simp [intOf]; omega
        · have HB5 : Hid (Took sb (b + l.length + 1) w wr ∧ wr.ownsRow w.heap.size 3 1 (.slice A7 l.length c7) l.length (l.map (Value.int .i64))) := ⟨H3.out.1.below HB.out, own_below H3.out.2.1 HB.out⟩
          clear HB H3
          have hz5 := HB5.out.1.size
          go_wp2_with (at_builtin; refine hold ?_)
          refine loose ?_
          refine wpList_append_own _ rfl _ _ 22 rfl w.heap.size 3 i0 _ 1 8 Try.underlying22 HI.out.1 HI.out.2.1 HI.out.2.2.1 HI.out.2.2.2 rfl (by omega) _ l.length (l.map (Value.int .i64)) rfl (HB5.out.2.alloc _) ⟨wr.heap.size, 0, none⟩ 1 1 [.int .i64 (y : Nat)] rfl rfl (cell_one_new _ _ _) (by intro u hu; simp at hu; subst hu; rfl) (by unfold maxLen; omega) (by omega) (by simp; omega) ?_
          intro v' w9 hown' hg' _
          have H9 : Hid (Took sb (b + (l.length + 1)) w w9 ∧ w9.ownsRow w.heap.size 3 1 v' (l ++ [((y : Nat) : Int)]).length ((l ++ [((y : Nat) : Int)]).map (Value.int .i64))) := by
            refine ⟨(HB5.out.1.alloc _).grown hlt hg' (own_row HB5.out.2), ?_⟩
            rw [List.length_append, List.map_append]
            exact hown'
          have hz9 := H9.out.1.size
          clear hown' hg' HB5
          go_wp2_with fail
          go_roundw
          case rel => exact ⟨l.length + 1, l ++ [((y : Nat) : Int)], by omega, by go_num, by simp, hz9, H9⟩
          case measure => simp [intOf]; omega
    · have htn : l.length = ns.length := by omega
      have HS2 : Hid (Took sb (b + 5) w wr ∧ wr.ownsRow w.heap.size 3 1 (.slice A7 l.length c7) l.length (l.map (Value.int .i64))) := ⟨HS.out.1.more (by omega), HS.out.2⟩
      have hl5 : l.length ≤ 5 := by omega
      clear HS htn
      go_wp2_with fail
      refine (flip_any sb (b + 5) _ _ (by omega) (by omega) (by omega) HS2.out.1.1).mono ?_
      rintro e w4 ⟨f, rfl, t4⟩
      have H4 : Hid (Took sb (b + 5 + 1) w w4 ∧ w4.ownsRow w.heap.size 3 1 (.slice A7 l.length c7) l.length (l.map (Value.int .i64))) := ⟨HS2.out.1.trans t4, kept_own HS2.out.2 t4.2 hlt⟩
      clear t4 HS2
      cases f
      · go_wp2_with fail
        go_ret
        exact ⟨_, l, rfl, by omega, H4.out.1.more (by omega), H4.out.2⟩
      · go_wp2_with fail
        refine (pick_lit sb (b + 5 + 1) [0, -1, (nm : Int)] w4 w4.heap.size 3 rfl (by omega) (by omega) rfl (by omega) H4.out.1.1).mono ?_
        rintro e w5 ⟨x, _, rfl, t5⟩
        have H5 : Hid (Took sb (b + 5 + 1 + 1) w w5 ∧ w5.ownsRow w.heap.size 3 1 (.slice A7 l.length c7) l.length (l.map (Value.int .i64))) := ⟨H4.out.1.trans t5, kept_own H4.out.2 t5.2 hlt⟩
        have hz5 := H5.out.1.size
        clear t5 H4
        go_wp2_with (at_builtin; refine hold ?_)
        refine loose ?_
        refine wpList_append_own _ rfl _ _ 22 rfl w.heap.size 3 i0 _ 1 8 Try.underlying22 HI.out.1 HI.out.2.1 HI.out.2.2.1 HI.out.2.2.2 rfl (by omega) _ l.length (l.map (Value.int .i64)) rfl (H5.out.2.alloc _) ⟨w5.heap.size, 0, none⟩ 1 1 [.int .i64 x] rfl rfl (cell_one_new _ _ _) (by intro u hu; simp at hu; subst hu; rfl) (by unfold maxLen; omega) (by omega) (by simp; omega) ?_
        intro v' w9 hown' hg' _
        have H9 : Hid (Took sb (b + 20) w w9 ∧ w9.ownsRow w.heap.size 3 1 v' (l ++ [x]).length ((l ++ [x]).map (Value.int .i64))) := by
          refine ⟨((H5.out.1.alloc _).grown hlt hg' (own_row H5.out.2)).more (by omega), ?_⟩
          rw [List.length_append, List.map_append]
          exact hown'
        obtain ⟨A9, c9, rfl, _⟩ := own_form hown'
        clear hown' hg' H5
        go_wp2_with fail
        go_ret
        exact ⟨_, l ++ [x], rfl, by simp; omega, H9.out.1, H9.out.2⟩
end Go.Proofs.Ytjmjmijjdgolfaa
