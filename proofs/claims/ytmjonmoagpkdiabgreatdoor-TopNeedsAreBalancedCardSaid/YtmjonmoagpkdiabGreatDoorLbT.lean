/-
  By how much each need makes the cycle of each machine longer: rows of numbers.
-/
import Derived.Test.YtmjonmoagpkdiabGreatDoorLbS
import Derived.Test.YtmjonmoagpkdiabGreatDoorLmB
import Derived.Test.YtmjonmoagpkdiabGreatDoorLcP
namespace Go.Proofs.YtmjonmoagpkdiabGreatDoor
open Go.RowKit
set_option linter.unusedSimpArgs false
set_option linter.unusedVariables false

theorem int_infoR : (Tryz.prog.info? 22).map (fun i => (i.zero, i.size, i.bytes)) = some (some (.slice none 0 0), 1, 24) := by kernel_rfl
theorem oSlice {w : World} {base : Nat} {e : TypeId} {size n : Nat} {v : Value} {xs : List Value} (h : w.ownsRow base e size v n xs) : ∃ A c, v = .slice A n c ∧ n ≤ c ∧ ((∃ b : Nat, A = some ⟨b, 0, none⟩) ∨ (A = none ∧ n = 0 ∧ c = 0)) := by
  rcases h.2 with ⟨rfl, rfl⟩ | ⟨g, cap, cur, rfl, hb, hc, h1, h2, _⟩
  · exact ⟨none, 0, rfl, Nat.le_refl _, .inr ⟨rfl, rfl, rfl⟩⟩
  · exact ⟨_, cap, rfl, h1, .inl ⟨g, rfl⟩⟩
/-- Rows of numbers that are gathered in a row. -/
structure LgA (base k : Nat) (us : List Value) (L : List (List Int)) (v : Value) (w : World) : Prop where
  ul : us.length = k
  ll : L.length = k
  own : w.ownsRow base 22 1 v k us
  rows : ∀ j (h : j < L.length), ∃ u, us[j]? = some u ∧ w.ownsRow base 3 1 u L[j].length (L[j].map (Value.int .i64))
theorem LgA.below {base k : Nat} {us : List Value} {L : List (List Int)} {v : Value} {w w' : World} (h : LgA base k us L v w) (hb : Below w.heap.size w w') : LgA base k us L v w' :=
  ⟨h.ul, h.ll, own_below h.own hb, fun j hj => by obtain ⟨u, a, b⟩ := h.rows j hj; exact ⟨u, a, own_below b hb⟩⟩
theorem LgA.push {base k : Nat} {us : List Value} {L : List (List Int)} {v : Value} {w : World} (h : LgA base k us L v w) {v' u : Value} {x : List Int} {w' : World} (hx : w.ownsRow base 3 1 u x.length (x.map (Value.int .i64)))
    (hown : w'.ownsRow base 22 1 v' (k + 1) (us ++ [u])) (hg : w.grownBy w' v.ownBlock) : LgA base (k + 1) (us ++ [u]) (L ++ [x]) v' w' := by
  have hul := h.ul
  have hll := h.ll
  have hk : ∀ {u : Value} {x : List Int}, w.ownsRow base 3 1 u x.length (x.map (Value.int .i64)) → w'.ownsRow base 3 1 u x.length (x.map (Value.int .i64)) := fun {u x} hr =>
    own_sameO hr (fun j hj => hg.block j (own_lt hr j hj) (fun e => own_apartM hr h.own (by decide) hj e.symm))
  refine ⟨by simp [hul], by simp [hll], hown, fun j hj => ?_⟩
  rw [List.length_append, List.length_singleton] at hj
  by_cases h1 : j < L.length
  · obtain ⟨u0, a, b⟩ := h.rows j h1
    refine ⟨u0, by rw [List.getElem?_append_left (by omega)]; exact a, ?_⟩
    rw [List.getElem_append_left h1]
    exact hk b
  · obtain rfl : j = L.length := by omega
    refine ⟨u, by rw [List.getElem?_append_right (by omega)]; simp [hul, hll], ?_⟩
    rw [List.getElem_append_right (by omega)]
    simpa using hk hx
/-- What is read of rows of numbers. -/
def LgR (v : Value) (L : List (List Int)) (w : World) : Prop :=
  ∃ A c, v = .slice A L.length c ∧ L.length ≤ c ∧ ∀ j (h : j < L.length), ∃ (g : Nat) (B : Option Addr) (d : Nat), A = some ⟨g, 0, none⟩ ∧ g < w.heap.size ∧ w.cell? ⟨g, j, none⟩ = some (.slice B L[j].length d) ∧ L[j].length ≤ d ∧ ((∃ b : Nat, B = some ⟨b, 0, none⟩) ∨ (B = none ∧ L[j].length = 0 ∧ d = 0)) ∧ Reads encN (.slice B L[j].length d) L[j] w
theorem LgR.below {v : Value} {L : List (List Int)} {w w' : World} (h : LgR v L w) (hb : Below w.heap.size w w') : LgR v L w' := by
  obtain ⟨A, c, rfl, hc, h⟩ := h
  refine ⟨A, c, rfl, hc, fun j hj => ?_⟩
  obtain ⟨g, B, d, rfl, h0, h1, h2, h3, h4⟩ := h j hj
  exact ⟨g, B, d, rfl, Nat.lt_of_lt_of_le h0 hb.size, (hb.cell (p := ⟨g, j, none⟩) h0).trans h1, h2, h3, h4.below hb⟩
theorem LgA.toR {base k : Nat} {us : List Value} {L : List (List Int)} {v : Value} {w : World} (h : LgA base k us L v w) : LgR v L w := by
  have hul := h.ul
  have hll := h.ll
  obtain ⟨A, c, rfl, hc, hA⟩ := oSlice h.own
  refine ⟨A, c, by rw [hll], by omega, fun j hj => ?_⟩
  obtain ⟨u, a, b⟩ := h.rows j hj
  obtain ⟨g, cap, e, _, hlt, _, _, hrd⟩ := own_read h.own (by omega)
  injection e with e1 e2 e3
  subst e1
  obtain ⟨B, d, rfl, hd, hB⟩ := oSlice b
  exact ⟨g, B, d, rfl, hlt, hrd j _ a, hd, hB, readsN_own b⟩
def rowL (ms : List Mc) (ns : List Nd) (k : Nat) : List Int := (List.range ns.length).map (lo ms ns k)
def rowsL (ms : List Mc) (ns : List Nd) : List (List Int) := (List.range ms.length).map (rowL ms ns)
theorem rowL_len (ms : List Mc) (ns : List Nd) (k : Nat) : (rowL ms ns k).length = ns.length := by simp [rowL]
theorem rowsL_len (ms : List Mc) (ns : List Nd) : (rowsL ms ns).length = ms.length := by simp [rowsL]
theorem rowL_at (ms : List Mc) (ns : List Nd) (k : Nat) {i : Nat} (h : i < (rowL ms ns k).length) : (rowL ms ns k)[i] = lo ms ns k i := by simp [rowL]
theorem rowsL_at (ms : List Mc) (ns : List Nd) {k : Nat} (h : k < (rowsL ms ns).length) : (rowsL ms ns)[k] = rowL ms ns k := by simp [rowsL]

set_option maxRecDepth 100000 in
set_option maxHeartbeats 8000000 in
theorem lengthening_any {base : Nat} (ms : List Mc) (ns : List Nd) (hm : MsOk ms) (hn : NsOk ns) {v1 v2 : Value} {w : World} (h1 : MsF base v1 ms w) (h2 : Reads encD v2 ns w) :
    Calls Tryz.prog 37 #[v1, v2] w fun e w' => ∃ v, e = .returned v ∧ LgR v (rowsL ms ns) w' ∧ Below w.heap.size w w' := by
  have HR := Lib.hid (And.intro h1 h2)
  obtain ⟨A1, c1, rfl, hc1, _⟩ := h1
  obtain ⟨A2, c2, rfl, _⟩ := h2
  have HM := Lib.hid hm
  have HN := Lib.hid hn
  have hmf := hm.few
  have hnf := hn.few
  obtain ⟨i0, hi0, hz0, hzz1, hz20⟩ := info_parts int_infoN
  have HI := Lib.hid (And.intro hi0 (And.intro hz0 (And.intro hzz1 hz20)))
  clear hi0 hz0 hzz1 hz20
  obtain ⟨i3, hi0, hz0, hzz1, hz20⟩ := info_parts int_infoR
  have HI3 := Lib.hid (And.intro hi0 (And.intro hz0 (And.intro hzz1 hz20)))
  clear hi0 hz0 hzz1 hz20 hm hn
  go_enter Tryz.func37, Tryz.ntmps37
  go_wp2_with fail
  go_loopw [5, 13] (fun v5 kk wr => ∃ (k : Nat) (us : List Value), k ≤ ms.length ∧ kk = .int .i64 k ∧ w.heap.size ≤ wr.heap.size ∧ Hid (Below w.heap.size w wr ∧ LgA w.heap.size k us ((rowsL ms ns).take k) v5 wr)) (fun _ kk _ => ms.length - (intOf kk).toNat)
  case atStart => exact ⟨0, [], by omega, rfl, Nat.le_refl _, Below.refl _ _, rfl, rfl, World.ownsRow_nil _ _ _ _, fun j hj => by simp at hj⟩
  case round =>
    obtain ⟨k, us, hk, rfl, hwz, HS⟩ := hrel
    obtain ⟨A5, c5, rfl, _⟩ := own_form HS.out.2.own
    by_cases hlt : k < ms.length
    · obtain ⟨g1, e1, hg1, q0, q1, q2, q3, u, q4, A4, c4, rfl, hc4, hr4⟩ := (HR.out.1.below HS.out.1).at_ hlt
      cases e1
      have hmo := HM.out.ok _ (List.getElem_mem hlt)
      have HLO : Hid (∀ i, lo ms ns k i = if has ms[k].can (ndA ns i).part = true then ms[k].each * (ndA ns i).many else NV) := fun i => by rw [lo, mcA_at hlt]
      generalize ms[k] = m at *
      obtain ⟨key, each, fixed, feed, can⟩ := m
      have hcl := hmo.few
      have hco := hmo.can
      have hea := hmo.each
      dsimp only at q0 q1 q2 q3 q4 hcl hco hc4 hr4 hea HLO
      have HU : Hid (ReadsF base encS (.slice A4 can.length c4) can wr) := ⟨A4, c4, rfl, hc4, hr4⟩
      have CP := Lib.hid (fun (W : World) (x : ByteArray) (h : ReadsF base encS (.slice A4 can.length c4) can W) => canPlace_any key each fixed feed can x (by omega) hco h)
      have i1 : (0 : Int) ≤ (k : Int) := by omega
      have i2 : (k : Int) < (ms.length : Int) := by omega
      have HX : Hid (Below w.heap.size w (wr.alloc (.cells #[.string key, .int .i64 each, .int .i64 fixed, .int .i64 feed, .slice A4 can.length c4] 38)) ∧ ReadsF base encS (.slice A4 can.length c4) can (wr.alloc (.cells #[.string key, .int .i64 each, .int .i64 fixed, .int .i64 feed, .slice A4 can.length c4] 38)) ∧ (wr.alloc (.cells #[.string key, .int .i64 each, .int .i64 fixed, .int .i64 feed, .slice A4 can.length c4] 38)).heap[wr.heap.size]? = some (.cells #[.string key, .int .i64 each, .int .i64 fixed, .int .i64 feed, .slice A4 can.length c4] 38 (0, 0)) ∧ LgA w.heap.size k us ((rowsL ms ns).take k) (.slice A5 k c5) (wr.alloc (.cells #[.string key, .int .i64 each, .int .i64 fixed, .int .i64 feed, .slice A4 can.length c4] 38))) := ⟨HS.out.1.alloc HS.out.1.size _, HU.out.below ((Below.refl _ _).alloc (Nat.le_refl _) _), blk_new wr _ rfl, HS.out.2.below ((Below.refl _ _).alloc (Nat.le_refl _) _)⟩
      clear hmo hr4 hco
      go_upto_region 5 with (fail)
      generalize wr.alloc (.cells #[.string key, .int .i64 each, .int .i64 fixed, .int .i64 feed, .slice A4 can.length c4] 38) = wx at *
      obtain ⟨gx, hgx⟩ : ∃ gx, wr.heap.size = gx := ⟨_, rfl⟩
      rw [hgx] at HX hwz ⊢
      clear hgx q0 q1 q2 q3 q4 HU HS
      have hwx := HX.out.1.size
      go_wp2_with fail
      go_loopw [8, 19] (fun v8 kk wq => ∃ (i : Nat), i ≤ ns.length ∧ kk = .int .i64 i ∧ wx.heap.size ≤ wq.heap.size ∧ Hid (Below wx.heap.size wx wq ∧ wq.ownsRow wx.heap.size 3 1 v8 i (((rowL ms ns k).take i).map (Value.int .i64)))) (fun _ kk _ => ns.length - (intOf kk).toNat)
      case atStart => exact ⟨0, by omega, rfl, Nat.le_refl _, Below.refl _ _, World.ownsRow_nil _ _ _ _⟩
      case round =>
        obtain ⟨i, hi, rfl, hqz, HS⟩ := hrel
        obtain ⟨A8, c8, rfl, _⟩ := own_form HS.out.2
        by_cases hin : i < ns.length
        · obtain ⟨g2, e2, hg2, n0, n1⟩ := readsD_at (HR.out.2.below (HX.out.1.then_below HS.out.1 HX.out.1.size)) hin
          cases e2
          have hma := HN.out.many _ (List.getElem_mem hin)
          have HLN : Hid ((rowL ms ns k).take (i + 1) = (rowL ms ns k).take i ++ [if has can ns[i].part = true then each * ns[i].many else NV]) := by
            show _ = _
            rw [List.take_succ_eq_append_getElem (by rw [rowL_len]; exact hin), rowL_at, HLO.out i, ndA_at hin]
          generalize ns[i] = nd at *
          obtain ⟨part, many⟩ := nd
          dsimp only at n0 n1 hma HLN
          have hmb := mul_bd hea hma
          have i3 : (0 : Int) ≤ (i : Int) := by omega
          have i4 : (i : Int) < (ns.length : Int) := by omega
          have HY : Hid (Below wx.heap.size wx (wr.alloc (.cells #[.string part, .int .i64 many] 36)) ∧ (wr.alloc (.cells #[.string part, .int .i64 many] 36)).ownsRow wx.heap.size 3 1 (.slice A8 i c8) i (((rowL ms ns k).take i).map (Value.int .i64)) ∧ (wr.alloc (.cells #[.string part, .int .i64 many] 36)).heap[wr.heap.size]? = some (.cells #[.string part, .int .i64 many] 36 (0, 0))) := ⟨HS.out.1.alloc HS.out.1.size _, HS.out.2.alloc _, blk_new wr _ rfl⟩
          go_upto_region 9 with (fail)
          generalize wr.alloc (.cells #[.string part, .int .i64 many] 36) = wy at *
          obtain ⟨gy, hgy⟩ : ∃ gy, wr.heap.size = gy := ⟨_, rfl⟩
          rw [hgy] at HY hqz ⊢
          clear hgy n0 n1 HS
          obtain ⟨p0, p1, p2, p3, p4⟩ := blk5 (blk_below HY.out.1 HX.out.2.2.1)
          have pl := lt_of_blk (blk_below HY.out.1 HX.out.2.2.1)
          obtain ⟨p5, p6⟩ := blk2c HY.out.2.2
          have pl2 := lt_of_blk HY.out.2.2
          have CPX := Lib.hid (CP.out wy part (HX.out.2.1.below HY.out.1))
          generalize has can part = f at *
          go_wp2_with fail
          refine CPX.out.mono ?_
          rintro e w4 ⟨rfl, b4⟩
          have H4 : Hid (Below wx.heap.size wx w4 ∧ w4.ownsRow wx.heap.size 3 1 (.slice A8 i c8) i (((rowL ms ns k).take i).map (Value.int .i64)) ∧ w4.heap[gy]? = some (.cells #[.string part, .int .i64 many] 36 (0, 0)) ∧ w4.heap[gx]? = some (.cells #[.string key, .int .i64 each, .int .i64 fixed, .int .i64 feed, .slice A4 can.length c4] 38 (0, 0))) := ⟨HY.out.1.then_below b4 HY.out.1.size, own_below HY.out.2.1 b4, blk_below b4 HY.out.2.2, blk_below b4 (blk_below HY.out.1 HX.out.2.2.1)⟩
          have hz4 := H4.out.1.size
          clear b4 p0 p1 p2 p3 p4 p5 p6 pl pl2 CPX HY
          cases f
          · go_wp2_with (at_builtin; refine hold ?_)
            refine loose ?_
            refine wpList_append_own _ rfl _ _ 22 rfl wx.heap.size 3 i0 _ 1 8 Tryz.underlying22 HI.out.1 HI.out.2.1 HI.out.2.2.1 HI.out.2.2.2 rfl (by omega) _ i (((rowL ms ns k).take i).map (Value.int .i64)) rfl (H4.out.2.1.alloc _) ⟨w4.heap.size, 0, none⟩ 1 1 [.int .i64 1125899906842624] rfl rfl (cell_one_new _ _ _) (by intro u hu; simp at hu; subst hu; rfl) (by unfold maxLen; omega) (by omega) (by simp; omega) ?_
            intro v' w5 hown' hg' _
            have H5 : Hid (Below wx.heap.size wx w5 ∧ w5.ownsRow wx.heap.size 3 1 v' (i + 1) (((rowL ms ns k).take (i + 1)).map (Value.int .i64))) := by
              refine ⟨(H4.out.1.alloc H4.out.1.size _).grown hg' (by simp; omega) (own_row H4.out.2.1), ?_⟩
              rw [HLN.out, List.map_append]
              exact hown'
            have hz5 := H5.out.1.size
            clear hown' hg' H4
            go_wp2_with fail
            go_roundw
            case rel => exact ⟨i + 1, by omega, by go_num, hz5, H5⟩
            case measure => simp [intOf]; omega
          · obtain ⟨p0, p1, p2, p3, p4⟩ := blk5 H4.out.2.2.2
            have pl := lt_of_blk H4.out.2.2.2
            obtain ⟨p5, p6⟩ := blk2c H4.out.2.2.1
            have pl2 := lt_of_blk H4.out.2.2.1
            go_wp2_with (at_builtin; refine hold ?_)
            refine loose ?_
            refine wpList_append_own _ rfl _ _ 22 rfl wx.heap.size 3 i0 _ 1 8 Tryz.underlying22 HI.out.1 HI.out.2.1 HI.out.2.2.1 HI.out.2.2.2 rfl (by omega) _ i (((rowL ms ns k).take i).map (Value.int .i64)) rfl (H4.out.2.1.alloc _) ⟨w4.heap.size, 0, none⟩ 1 1 [.int .i64 (each * many)] rfl rfl (cell_one_new _ _ _) (by intro u hu; simp at hu; subst hu; rfl) (by unfold maxLen; omega) (by omega) (by simp; omega) ?_
            intro v' w5 hown' hg' _
            have H5 : Hid (Below wx.heap.size wx w5 ∧ w5.ownsRow wx.heap.size 3 1 v' (i + 1) (((rowL ms ns k).take (i + 1)).map (Value.int .i64))) := by
              refine ⟨(H4.out.1.alloc H4.out.1.size _).grown hg' (by simp; omega) (own_row H4.out.2.1), ?_⟩
              rw [HLN.out, List.map_append]
              exact hown'
            have hz5 := H5.out.1.size
            clear hown' hg' H4 p0 p1 p2 p3 p4 p5 p6 pl pl2
            go_wp2_with fail
            go_roundw
            case rel => exact ⟨i + 1, by omega, by go_num, hz5, H5⟩
            case measure => simp [intOf]; omega
        · obtain rfl : i = ns.length := by omega
          have H6 : Hid (Below w.heap.size w wr ∧ LgA w.heap.size k us ((rowsL ms ns).take k) (.slice A5 k c5) wr ∧ wr.ownsRow w.heap.size 3 1 (.slice A8 ns.length c8) (rowL ms ns k).length ((rowL ms ns k).map (Value.int .i64))) := by
            have h := HS.out.2
            rw [List.take_of_length_le (by rw [rowL_len]; exact Nat.le_refl _)] at h
            exact ⟨HX.out.1.then_below HS.out.1 HX.out.1.size, HX.out.2.2.2.below HS.out.1, by rw [rowL_len]; exact own_mono h hwx⟩
          have hz6 := H6.out.1.size
          clear HS HX
          go_wp2_with (at_builtin; refine hold ?_)
          refine loose ?_
          refine wpList_append_own _ rfl _ _ 85 rfl w.heap.size 22 i3 _ 1 24 Tryz.underlying85 HI3.out.1 HI3.out.2.1 HI3.out.2.2.1 HI3.out.2.2.2 rfl (by omega) _ k us rfl (H6.out.2.1.own.alloc _) ⟨wr.heap.size, 0, none⟩ 1 1 [.slice A8 ns.length c8] rfl rfl (cell_one_new _ _ _) (by intro u hu; simp at hu; subst hu; rfl) (by unfold maxLen; omega) (by omega) (by simp; omega) ?_
          intro v' w5 hown' hg' _
          have H5 : Hid (Below w.heap.size w w5 ∧ LgA w.heap.size (k + 1) (us ++ [.slice A8 ns.length c8]) ((rowsL ms ns).take (k + 1)) v' w5) := by
            refine ⟨(H6.out.1.alloc H6.out.1.size _).grown hg' (by simp; omega) (own_row H6.out.2.1.own), ?_⟩
            rw [List.take_succ_eq_append_getElem (by rw [rowsL_len]; exact hlt), rowsL_at]
            exact (H6.out.2.1.below ((Below.refl _ _).alloc (Nat.le_refl _) _)).push (H6.out.2.2.alloc _) hown' hg'
          have hz5 := H5.out.1.size
          clear hown' hg' H6
          go_wp2_with fail
          go_roundw
          case rel => exact ⟨k + 1, us ++ [.slice A8 ns.length c8], by omega, by go_num, hz5, H5⟩
          case measure => simp [intOf]; omega
    · obtain rfl : k = ms.length := by omega
      have HF := HS.out.2
      rw [List.take_of_length_le (by rw [rowsL_len]; exact Nat.le_refl _)] at HF
      have HF2 := Lib.hid (And.intro HF.toR HS.out.1)
      clear HF HS
      go_wp2_with fail
      go_ret
      exact ⟨_, rfl, HF2.out⟩
end Go.Proofs.YtmjonmoagpkdiabGreatDoor
