/-
  The cycles of a machine with each set of the needs that are left.
-/
import Derived.Test.YtmjonmoagpkdiabGreatDoorLbU
import Derived.Test.YtmjonmoagpkdiabGreatDoorLcH
namespace Go.Proofs.YtmjonmoagpkdiabGreatDoor
open Go.RowKit
set_option linter.unusedSimpArgs false
set_option linter.unusedVariables false

def rg (n : Nat) (f : Nat → Int) : List Int := (List.range n).map f
theorem rg_len (n : Nat) (f : Nat → Int) : (rg n f).length = n := by simp [rg]
theorem rg_at {n : Nat} {f : Nat → Int} {k : Nat} (h : k < (rg n f).length) : (rg n f)[k] = f k := by simp [rg]
theorem rg_set {n : Nat} {f g : Nat → Int} (t : Nat) (x : Int) (ht : g t = x) (h : ∀ s, s ≠ t → f s = g s) : (rg n f).set t x = rg n g := by
  apply List.ext_getElem (by simp [rg])
  intro i h1 h2
  rw [List.getElem_set]
  split
  · rename_i e
    subst e
    rw [rg_at, ht]
  · rename_i e
    rw [rg_at, rg_at, h i (fun e' => e e'.symm)]
theorem rg_congr {n : Nat} {f g : Nat → Int} (h : ∀ s, s < n → f s = g s) : rg n f = rg n g := by
  unfold rg
  exact List.map_congr_left fun s hs => h s (List.mem_range.mp hs)
theorem lo_bd {ms : List Mc} {ns : List Nd} (hm : MsOk ms) (hn : NsOk ns) {k : Nat} (hk : k < ms.length) (i : Nat) : 0 ≤ lo ms ns k i ∧ lo ms ns k i ≤ 1125899906842624 := by
  refine ⟨lo_nn hm hn hk i, ?_⟩
  unfold lo
  split
  · by_cases hi : i < ns.length
    · rw [mcA_at hk, ndA_at hi]
      have := mul_bd (hm.ok _ (List.getElem_mem hk)).each (hn.many _ (List.getElem_mem hi))
      omega
    · have : (ndA ns i).many = 0 := by
        unfold ndA
        rw [List.getD_eq_getElem?_getD, List.getElem?_eq_none (by omega)]
        rfl
      rw [this]
      omega
  · exact Int.le_refl _
theorem lcS_take {f : Nat → Int} {k : Nat} {p : List Nat} {t : Nat} (h : t < p.length) : lcS f k (p.take (t + 1)) 0 = lcS f k (p.take t) 0 + (if p[t] = k then f t else 0) := by
  rw [List.take_succ_eq_append_getElem h, lcS_app, List.length_take, Nat.min_eq_left (by omega), Nat.zero_add]
  show _ + ((if p[t] = k then f t else 0) + 0) = _
  omega
theorem count_take {k : Nat} {p : List Nat} {t : Nat} (h : t < p.length) : (p.take (t + 1)).count k = (p.take t).count k + (if p[t] = k then 1 else 0) := by
  rw [List.take_succ_eq_append_getElem h, List.count_append, List.count_singleton]
  by_cases e : p[t] = k
  · simp [e]
  · simp [e]
theorem lcS_bd {f : Nat → Int} {k : Nat} (hf : ∀ i, 0 ≤ f i ∧ f i ≤ 1125899906842624) : ∀ (p : List Nat) (i : Nat), 0 ≤ lcS f k p i ∧ lcS f k p i ≤ 1125899906842624 * (p.length : Int)
  | [], i => by simp [lcS]
  | a :: p, i => by
    have ih := lcS_bd (k := k) hf p (i + 1)
    have h := hf i
    rw [lcS, List.length_cons]
    push_cast
    split <;> omega
theorem sumS_bd : ∀ (L s : Nat) (f : Nat → Int) (_ : ∀ i, 0 ≤ f i ∧ f i ≤ 1125899906842624), 0 ≤ sumS f L s ∧ sumS f L s ≤ 1125899906842624 * (L : Int)
  | 0, s, f, hf => by simp [sumS]
  | L + 1, s, f, hf => by
    have ih := sumS_bd L (s / 2) (fun i => f (i + 1)) (fun i => hf (i + 1))
    have h := hf 0
    rw [sumS]
    push_cast
    split <;> omega
theorem toZ_len (p : List Nat) : (toZ p).length = p.length := by simp [toZ]
theorem toZ_at {p : List Nat} {i : Nat} (h : i < (toZ p).length) : (toZ p)[i] = ((p[i]'(by rw [toZ_len] at h; exact h) : Nat) : Int) := by simp [toZ]
theorem sumS_zero : ∀ (L : Nat) (f : Nat → Int), sumS f L 0 = 0
  | 0, f => rfl
  | L + 1, f => by
    rw [sumS, Nat.zero_div, sumS_zero L]
    rfl
theorem and_i64_nat (a b : Nat) (ha : a < 4096) (hb : b < 4096) : bits BinOp.and IntKind.i64 (a : Int) (b : Int) = ((a &&& b : Nat) : Int) := by
  have hx : a &&& b < 2 ^ 12 := Nat.and_lt_two_pow _ (by omega)
  have h1 : (BitVec.ofInt 64 (a : Int)).toNat = a := by
    rw [BitVec.ofInt_natCast, BitVec.toNat_ofNat]; exact Nat.mod_eq_of_lt (by omega)
  have h2 : (BitVec.ofInt 64 (b : Int)).toNat = b := by
    rw [BitVec.ofInt_natCast, BitVec.toNat_ofNat]; exact Nat.mod_eq_of_lt (by omega)
  show IntKind.i64.wrap ((BitVec.ofInt 64 (a : Int) &&& BitVec.ofInt 64 (b : Int)).toNat : Int) = _
  rw [BitVec.toNat_and, h1, h2, IntKind.wrap_i64]
  omega
theorem and_low {t : Nat} (h : 0 < t) (ht : t < 4096) : bits BinOp.and IntKind.i64 (t : Int) ((t : Int) - 1) = ((t &&& (t - 1) : Nat) : Int) := by
  rw [← and_i64_nat t (t - 1) ht (by omega), show ((t - 1 : Nat) : Int) = (t : Int) - 1 by omega]
theorem and_lt {t : Nat} (h : 0 < t) : t &&& (t - 1) < t := by
  have : t &&& (t - 1) ≤ t - 1 := Nat.and_le_right
  omega
theorem pow_small {L : Nat} (h : L ≤ 12) : 1 ≤ 2 ^ L ∧ 2 ^ L ≤ 4096 := by
  refine ⟨Nat.one_le_two_pow, ?_⟩
  have := Nat.pow_le_pow_right (show 2 > 0 by omega) h
  omega
theorem wrap_pow {L N : Nat} (h : 2 ^ L = N) (h2 : N ≤ 4096) : wrap64 ((2 : Int) ^ L) = (N : Int) := by
  have e : ((2 : Int) ^ L) = (N : Int) := by rw [← h]; push_cast; rfl
  rw [e, IntWalk.wrap64_in _ (by omega)]
theorem rg_zero (N : Nat) : Array.replicate N (Value.int .i64 0) = ((rg N fun _ => 0).map (Value.int .i64)).toArray := by
  apply Array.ext
  · simp [rg]
  · intro j h1 h2
    simp [rg]
theorem ns_make {w wc : World} (h : Below w.heap.size w wc) (N : Nat) : NS w wc.heap.size (rg N fun _ => 0) (wc.alloc (.cells (Array.replicate N (.int .i64 0)) 3)) :=
  ⟨h.alloc h.size _, h.size, by rw [blk_new wc _ rfl, rg_zero]⟩

set_option maxRecDepth 100000 in
set_option maxHeartbeats 8000000 in
theorem cyclesSet_any (ms : List Mc) (ns : List Nd) (pre : List Nat) (k : Nat) (hm : MsOk ms) (hn : NsOk ns) (hk : k < ms.length) (hpl : pre.length ≤ ns.length) (hnl : ns.length ≤ 12) {B A2 : Option Addr} {d c2 : Nat} {vc : Value} {w : World}
    (hd : ns.length ≤ d) (hB : (∃ b : Nat, B = some ⟨b, 0, none⟩) ∨ (B = none ∧ ns.length = 0 ∧ d = 0)) (h2 : Reads encN (.slice B (rowL ms ns k).length d) (rowL ms ns k) w) (h3 : Reads encN (.slice A2 (toZ pre).length c2) (toZ pre) w) (hT : Tz w) :
    Calls Tryz.prog 67 #[.agg #[.string ms[k].key, .int .i64 ms[k].each, .int .i64 ms[k].fixed, .int .i64 ms[k].feed, vc], .slice B (rowL ms ns k).length d, .slice A2 (toZ pre).length c2, .int .i64 k] w
      fun e w' => ∃ g : Nat, e = .returned (.slice (some ⟨g, 0, none⟩) (2 ^ (ns.length - pre.length)) (2 ^ (ns.length - pre.length))) ∧ NS w g (rg (2 ^ (ns.length - pre.length)) (owV ms ns pre k)) w' := by
  have HR := Lib.hid (And.intro h2 (And.intro h3 hT))
  have hfx := (hm.ok _ (List.getElem_mem hk)).fixed
  have hfe := (hm.ok _ (List.getElem_mem hk)).feed
  have hmf := hm.few
  have hlo := Lib.hid (lo_bd hm hn hk)
  have HO : Hid (∀ s, owV ms ns pre k s = ms[k].fixed + lcS (lo ms ns k) k pre 0 + sumS (fun i => lo ms ns k (pre.length + i)) (ns.length - pre.length) s + (if ms[k].feed < (pre.count k : Int) + popS (ns.length - pre.length) s then NV else 0)) := fun s => by rw [owV, mcA_at hk]
  have hrl := rowL_len ms ns k
  rw [toZ_len, hrl]
  clear hm hn h2 h3 hT
  generalize ms[k] = m at *
  obtain ⟨key, each, fixed, feed, can⟩ := m
  dsimp only at hfx hfe HO ⊢
  have H0 : Hid (Below w.heap.size w (w.alloc (.cells #[.string key, .int .i64 each, .int .i64 fixed, .int .i64 feed, vc] 38)) ∧ (w.alloc (.cells #[.string key, .int .i64 each, .int .i64 fixed, .int .i64 feed, vc] 38)).heap[w.heap.size]? = some (.cells #[.string key, .int .i64 each, .int .i64 fixed, .int .i64 feed, vc] 38 (0, 0))) := ⟨(Below.refl _ _).alloc (Nat.le_refl _) _, blk_new w _ rfl⟩
  go_enter Tryz.func67, Tryz.ntmps67
  go_upto_region 1 with (fail)
  generalize w.alloc (.cells #[.string key, .int .i64 each, .int .i64 fixed, .int .i64 feed, vc] 38) = wx at *
  obtain ⟨p0, p1, p2, p3, p4⟩ := blk5 H0.out.2
  have pl := lt_of_blk H0.out.2
  go_wp2_with fail
  clear p0 p1 p2 p3 p4 pl
  go_loopw [9, 10, 21] (fun v9 v10 kk wr => ∃ t : Nat, t ≤ pre.length ∧ kk = .int .i64 t ∧ v9 = .int .i64 (fixed + lcS (lo ms ns k) k (pre.take t) 0) ∧ v10 = .int .i64 ((pre.take t).count k : Nat) ∧ Hid (Below wx.heap.size wx wr)) (fun _ _ kk _ => pre.length - (intOf kk).toNat)
  case atStart => exact ⟨0, by omega, rfl, by simp [lcS], by simp, Below.refl _ _⟩
  case round =>
    obtain ⟨t, ht, rfl, rfl, rfl, HS⟩ := hrel
    have hbd := lcS_bd (k := k) hlo.out (pre.take t) 0
    have hlt := List.length_take_le t pre
    have hct := List.count_le_length (a := k) (l := pre.take t)
    by_cases htl : t < pre.length
    · obtain ⟨g2, e2, hg2, n0⟩ := readsN_at (HR.out.2.1.below (H0.out.1.then_below HS.out H0.out.1.size)) (k := t) (by rw [toZ_len]; exact htl)
      rw [toZ_at] at n0
      cases e2
      have HL := Lib.hid (lcS_take (f := lo ms ns k) (k := k) htl)
      have HC := Lib.hid (count_take (k := k) htl)
      have hbd2 := lcS_bd (k := k) hlo.out (pre.take (t + 1)) 0
      have hlt2 := List.length_take_le (t + 1) pre
      have i1 : (0 : Int) ≤ (t : Int) := by omega
      have i2 : (t : Int) < (pre.length : Int) := by omega
      obtain ⟨q, hq⟩ : ∃ q, pre[t] = q := ⟨_, rfl⟩
      rw [hq] at HL HC n0
      clear hq
      by_cases hqk : q = k
      · subst hqk
        obtain ⟨g1, e1, hg1, m0⟩ := readsN_at (HR.out.1.below (H0.out.1.then_below HS.out H0.out.1.size)) (k := t) (by rw [hrl]; omega)
        rw [rowL_at] at m0
        cases e1
        rw [if_pos rfl] at HL HC
        have hl1 := hlo.out t
        have HL2 : Hid (fixed + lcS (lo ms ns q) q (pre.take (t + 1)) 0 = fixed + lcS (lo ms ns q) q (pre.take t) 0 + lo ms ns q t) := by
          have := HL.out
          show _ = _
          omega
        have hq1 : ((q : Int) == (q : Int)) = true := beq_self_eq_true _
        have i3 : (t : Int) < (ns.length : Int) := by omega
        go_wp2_with fail
        go_roundw
        case rel => exact ⟨t + 1, by omega, by go_num, by rw [HL2.out], by rw [HC.out]; go_num, HS.out⟩
        case measure => simp [intOf]; omega
      · rw [if_neg hqk] at HL HC
        have hq1 : ((q : Int) == (k : Int)) = false := beq_eq_false_iff_ne.mpr (by omega)
        go_wp2_with fail
        go_roundw
        case rel => exact ⟨t + 1, by omega, by go_num, by rw [HL.out, Int.add_zero], by rw [HC.out, Nat.add_zero], HS.out⟩
        case measure => simp [intOf]; omega
    · obtain rfl : t = pre.length := by omega
      rw [List.take_of_length_le (Nat.le_refl _)] at hbd hct ⊢
      generalize hcy : fixed + lcS (lo ms ns k) k pre 0 = cy at *
      have HCY := Lib.hid hcy
      generalize hpt : pre.count k = pt at *
      have HPT := Lib.hid hpt
      clear hcy hpt
      have hcyb : 0 ≤ cy ∧ cy ≤ 13600000000000000 := by have := HCY.out; omega
      go_upto_region 9 with (fail)
      go_cut [13] (fun v13 wc => ∃ (Bx : Option Addr) (cx : Nat), v13 = .slice Bx (ns.length - pre.length) cx ∧ Hid (Below wx.heap.size wx wc ∧ ∀ j, j < ns.length - pre.length → ∃ b : Nat, Bx = some ⟨b, pre.length, none⟩ ∧ b < w.heap.size ∧ wx.cell? ⟨b, pre.length + j, none⟩ = some (.int .i64 (lo ms ns k (pre.length + j)))))
      case first => as_aux_lemma =>
        rcases hB with ⟨b, rfl⟩ | ⟨rfl, h0, rfl⟩
        · have hcell : ∀ j, j < ns.length - pre.length → b < w.heap.size ∧ w.cell? ⟨b, pre.length + j, none⟩ = some (.int .i64 (lo ms ns k (pre.length + j))) := fun j hj => by
            obtain ⟨g1, e1, hg1, m0⟩ := readsN_at HR.out.1 (k := pre.length + j) (by rw [hrl]; omega)
            cases e1
            rw [rowL_at] at m0
            exact ⟨hg1, m0⟩
          have HCE := Lib.hid hcell
          clear hcell
          have i1 : (pre.length : Int) ≤ (ns.length : Int) := by omega
          rcases Nat.lt_or_ge pre.length d with hde | hde
          · have i2 : (pre.length : Int) < (d : Int) := by omega
            have i3 : ¬ pre.length = d := by omega
            go_wp2_with fail
            go_meet
            exact ⟨_, _, rfl, HS.out, fun j hj => ⟨b, rfl, (HCE.out j hj).1, (H0.out.1.cell (p := ⟨b, pre.length + j, none⟩) (HCE.out j hj).1).trans (HCE.out j hj).2⟩⟩
          · obtain rfl : d = pre.length := by omega
            go_wp2_with fail
            go_meet
            exact ⟨some ⟨b, 0, none⟩, 0, by rw [show ns.length - pre.length = 0 by omega], HS.out, fun j hj => by omega⟩
        · have HZ := Lib.hid h0
          have i1 : (ns.length : Int) ≤ 0 := by omega
          have i2 : (pre.length : Int) ≤ (ns.length : Int) := by omega
          have i3 : (pre.length : Int) ≤ 0 := by omega
          have i4 : ns.length ≤ 0 := by omega
          have i5 : pre.length ≤ 0 := by omega
          clear h0
          go_wp2_with fail
          go_meet
          exact ⟨_, _, rfl, HS.out, fun j hj => by have := HZ.out; omega⟩
      case rest => as_aux_lemma =>
        obtain ⟨Bx, cx, rfl, HW⟩ := hcut
        clear HS
        generalize hL : ns.length - pre.length = L at *
        have hL12 : L ≤ 12 := by omega
        obtain ⟨N, hN⟩ : ∃ N, 2 ^ L = N := ⟨_, rfl⟩
        have hN0 : 1 ≤ N := by rw [← hN]; exact (pow_small hL12).1
        have hN1 : N ≤ 4096 := by rw [← hN]; exact (pow_small hL12).2
        have HN := Lib.hid hN
        have hw := wrap_pow hN hN1
        have hmk := run_makeI N (Nat.le_trans hN1 (by decide))
        have H1 := Lib.hid (ns_make (H0.out.1.then_below HW.out.1 H0.out.1.size) N)
        have H2 : Hid (Below wx.heap.size wx (wc.alloc (.cells (Array.replicate N (.int .i64 0)) 3)) ∧ wx.heap.size ≤ wc.heap.size) := ⟨HW.out.1.alloc HW.out.1.size _, HW.out.1.size⟩
        have HP : Hid (ns.length - pre.length = L) := hL
        clear hN hL
        go_upto_region 11 with (fail)
        clear hw hmk
        generalize wc.alloc (.cells (Array.replicate N (.int .i64 0)) 3) = wa at *
        generalize wc.heap.size = g at *
        go_wp2_with fail
        go_loopw [15, 48] (fun v15 kk wr => ∃ (t : Nat), t ≤ N ∧ kk = .int .i64 t ∧ Hid (NS w g (rg N fun s => if s < t then cy + sumS (fun i => lo ms ns k (pre.length + i)) L s else 0) wr ∧ Below wx.heap.size wx wr)) (fun _ kk _ => N - (intOf kk).toNat)
        case atStart => exact ⟨0, by omega, rfl, H1.out, H2.out.1⟩
        case round =>
          obtain ⟨t, ht, rfl, HS⟩ := hrel
          have hgl := lt_of_blk HS.out.1.row
          by_cases htl : t < N
          · have i1 : (0 : Int) ≤ (t : Int) := by omega
            have i2 : (t : Int) < (N : Int) := by omega
            have h0 := HS.out.1.at_ (k := t) (by rw [rg_len]; exact htl)
            have f0 := frozen_of_blk HS.out.1.row t
            have HST : Hid (∀ x, x = cy + sumS (fun i => lo ms ns k (pre.length + i)) L t → ∀ W, NS w g (rg N fun s => if s < t then cy + sumS (fun i => lo ms ns k (pre.length + i)) L s else 0) W → NS w g (rg N fun s => if s < t + 1 then cy + sumS (fun i => lo ms ns k (pre.length + i)) L s else 0) (W.setCell ⟨g, t, none⟩ (.int .i64 x))) := by
              intro x hx W h
              have h' := h.set t x
              rw [rg_set (g := fun s => if s < t + 1 then cy + sumS (fun i => lo ms ns k (pre.length + i)) L s else 0) t x (by rw [if_pos (by omega)]; exact hx.symm) (fun s hs => by
                by_cases h1 : s < t
                · rw [if_pos h1, if_pos (by omega)]
                · rw [if_neg h1, if_neg (by omega)])] at h'
              exact h'
            have hgw : wx.heap.size ≤ g := H2.out.2
            rcases Nat.eq_zero_or_pos t with hz | hz
            · subst hz
              have HX := HST.out cy (by rw [sumS_zero]; omega)
              go_wp2_with fail
              go_roundw
              case rel => exact ⟨1, by omega, by go_num, HX _ HS.out.1, HS.out.2.setCell hgw _⟩
              case measure => simp [intOf]; omega
            · have hne : ((t : Int) == 0) = false := beq_eq_false_iff_ne.mpr (by omega)
              have htp : t < 2 ^ L := by rw [HN.out]; exact htl
              have HTR := Lib.hid (fun (W : World) (h : Tz W) => trail_any L t hz htp hL12 h)
              have htz := ctz_lt hz htp
              have hsl := sumS_low (fun i => lo ms ns k (pre.length + i)) L t htp hz
              have hsb := sumS_bd L (t &&& (t - 1)) (fun i => lo ms ns k (pre.length + i)) (fun i => hlo.out (pre.length + i))
              have hlb := hlo.out (pre.length + Lib.ctzFrom L t)
              obtain ⟨b, rfl, hbl, hbc⟩ := HW.out.2 _ htz
              have hal := and_low hz (by omega)
              have hlt3 := and_lt hz
              have HTZ := Lib.hid (HR.out.2.2)
              have HLO : Hid (lo ms ns k (pre.length + Lib.ctzFrom L t) = lo ms ns k (pre.length + Lib.ctzFrom L t)) := rfl
              clear htp
              generalize lo ms ns k (pre.length + Lib.ctzFrom L t) = Y at *
              generalize Lib.ctzFrom L t = tz at *
              have h8 := HS.out.1.at_ (k := t &&& (t - 1)) (by rw [rg_len]; omega)
              rw [rg_at, if_pos hlt3] at h8
              generalize hx8 : cy + sumS (fun i => lo ms ns k (pre.length + i)) L (t &&& (t - 1)) = X8 at *
              have HXY := HST.out (X8 + Y) (by rw [hsl, ← hx8]; omega)
              have hX8 : 0 ≤ X8 ∧ X8 ≤ 40000000000000000 := by omega
              clear hx8 hsl hsb
              generalize t &&& (t - 1) = low at *
              have H8 := Lib.hid (And.intro h8 hgl)
              have HBC := Lib.hid (And.intro hbc hbl)
              have HB3 := Lib.hid (H0.out.1.then_below HS.out.2 H0.out.1.size)
              clear h8 hbc h0
              have wk1 : IntKind.i64.wrap ((t : Int) - 1) = (t : Int) - 1 := by rw [IntKind.wrap_i64]; omega
              have wk2 : IntKind.u64.wrap (t : Int) = (t : Int) := by rw [IntKind.wrap_u64]; omega
              have wk3 : IntKind.i64.wrap (X8 + Y) = X8 + Y := by rw [IntKind.wrap_i64]; omega
              have i3 : (0 : Int) ≤ (low : Int) := by omega
              have i4 : (low : Int) < (N : Int) := by omega
              have i5 : (0 : Int) ≤ (tz : Int) := by omega
              have i6 : (tz : Int) < (L : Int) := by omega
              have HXB := Lib.hid hgw
              clear hgw
              go_upto_region 16 with (fail)
              refine Rg.rgL (fun a b => Below a.heap.size a b)
                [(fun vs u => vs 0 = .slice (some ⟨g, 0, none⟩) N N), (fun vs u => vs 1 = .int .i64 t), (fun vs u => vs 2 = .slice (some ⟨g, 0, none⟩) N N), (fun vs u => vs 3 = .int .i64 t), (fun vs u => vs 4 = .int .i64 t), (fun vs u => vs 5 = .int .i64 ((t : Int) - 1)), (fun vs u => vs 6 = .int .i64 low), (fun vs u => vs 7 = .pointer (some ⟨g, low, none⟩)), (fun vs u => vs 8 = .int .i64 X8), (fun vs u => vs 9 = .slice (some ⟨b, pre.length, none⟩) L cx), (fun vs u => vs 10 = .int .i64 t), (fun vs u => vs 11 = .int .u64 t), (fun vs u => vs 12 = .int .i64 tz), (fun vs u => vs 13 = .pointer (some ⟨b, pre.length + tz, none⟩)), (fun vs u => vs 14 = .int .i64 Y), (fun vs u => vs 15 = .int .i64 (X8 + Y))]
                [[], [], [], [], [], [4], [3, 4, 5], [2, 3, 4, 5, 6], [2, 3, 4, 5, 6, 7], [], [], [10], [10, 11], [9, 10, 11, 12], [9, 10, 11, 12, 13], [2, 3, 4, 5, 6, 7, 8, 9, 10, 11, 12, 13, 14]] [some 57, some 58, some 59, some 60, some 61, some 62, some 63, some 64, some 65, some 66, some 67, some 68, some 69, some 70, some 71, some 72, some 73, none] [] (fun _ _ => True) [[], [], [], [], [], [4], [3, 4, 5], [2, 3, 4, 5, 6], [2, 3, 4, 5, 6, 7], [], [], [10], [10, 11], [9, 10, 11, 12], [9, 10, 11, 12, 13], [2, 3, 4, 5, 6, 7, 8, 9, 10, 11, 12, 13, 14], [0, 1, 2, 3, 4, 5, 6, 7, 8, 9, 10, 11, 12, 13, 14, 15], [0, 1, 2, 3, 4, 5, 6, 7, 8, 9, 10, 11, 12, 13, 14, 15, 16]]
                (by kernel_rfl) (by decide) (by kernel_rfl) (by kernel_rfl) (by kernel_rfl) (by kernel_rfl) (by kernel_rfl) (fun _ => Below.refl _ _) (fun _ _ _ h k => h.ext k) (fun _ _ h => h.size) ?_ trivial ?_ ?_
              · intro t ht vs w w' h hE
                simp only [List.mem_cons, List.not_mem_nil, or_false] at ht
                rcases ht with rfl | rfl | rfl | rfl | rfl | rfl | rfl | rfl | rfl | rfl | rfl | rfl | rfl | rfl | rfl | rfl
                · exact h
                · exact h
                · exact h
                · exact h
                · exact h
                · exact h
                · exact h
                · exact h
                · exact h
                · exact h
                · exact h
                · exact h
                · exact h
                · exact h
                · exact h
                · exact h
              ·
                refine Rg.cons 0 1 rfl (Rg.plain rfl ?_) ?_
                · intro vs W n hn hI hG hT hF K hK
                  simp only [Rg.putsD, List.getD_cons_zero, List.getD_cons_succ, Act.put, List.setIfInBounds_toArray, List.set_cons_zero, List.set_cons_succ] at hK ⊢
                  clear hn
                  clear hF hI
                  have H := Lib.hid hK
                  clear hK hT
                  go_simp
                  exact H.out _ _ (Below.refl _ _) rfl (fun h => by cases h) trivial
                refine Rg.cons 1 2 rfl (Rg.plain rfl ?_) ?_
                · intro vs W n hn hI hG hT hF K hK
                  simp only [Rg.putsD, List.getD_cons_zero, List.getD_cons_succ, Act.put, List.setIfInBounds_toArray, List.set_cons_zero, List.set_cons_succ] at hK ⊢
                  clear hn
                  clear hF hI
                  have H := Lib.hid hK
                  clear hK hT
                  go_simp
                  exact H.out _ _ (Below.refl _ _) rfl (fun h => by cases h) trivial
                refine Rg.cons 2 3 rfl (Rg.plain rfl ?_) ?_
                · intro vs W n hn hI hG hT hF K hK
                  simp only [Rg.putsD, List.getD_cons_zero, List.getD_cons_succ, Act.put, List.setIfInBounds_toArray, List.set_cons_zero, List.set_cons_succ] at hK ⊢
                  clear hn
                  clear hF hI
                  have H := Lib.hid hK
                  clear hK hT
                  go_simp
                  exact H.out _ _ (Below.refl _ _) rfl (fun h => by cases h) trivial
                refine Rg.cons 3 4 rfl (Rg.plain rfl ?_) ?_
                · intro vs W n hn hI hG hT hF K hK
                  simp only [Rg.putsD, List.getD_cons_zero, List.getD_cons_succ, Act.put, List.setIfInBounds_toArray, List.set_cons_zero, List.set_cons_succ] at hK ⊢
                  clear hn
                  clear hF hI
                  have H := Lib.hid hK
                  clear hK hT
                  go_simp
                  exact H.out _ _ (Below.refl _ _) rfl (fun h => by cases h) trivial
                refine Rg.cons 4 5 rfl (Rg.plain rfl ?_) ?_
                · intro vs W n hn hI hG hT hF K hK
                  simp only [Rg.putsD, List.getD_cons_zero, List.getD_cons_succ, Act.put, List.setIfInBounds_toArray, List.set_cons_zero, List.set_cons_succ] at hK ⊢
                  clear hn
                  clear hF hI
                  have H := Lib.hid hK
                  clear hK hT
                  go_simp
                  exact H.out _ _ (Below.refl _ _) rfl (fun h => by cases h) trivial
                refine Rg.cons 5 6 rfl (Rg.plain rfl ?_) ?_
                · intro vs W n hn hI hG hT hF K hK
                  simp only [Rg.putsD, List.getD_cons_zero, List.getD_cons_succ, Act.put, List.setIfInBounds_toArray, List.set_cons_zero, List.set_cons_succ] at hK ⊢
                  clear hn
                  clear hF hI
                  have t4 : vs 4 = .int .i64 t := hT 4 (by decide)
                  simp only [t4] at hK
                  have H := Lib.hid hK
                  clear hK hT
                  go_simp
                  exact H.out _ _ (Below.refl _ _) rfl (fun h => by cases h) trivial
                refine Rg.cons 6 7 rfl (Rg.plain rfl ?_) ?_
                · intro vs W n hn hI hG hT hF K hK
                  simp only [Rg.putsD, List.getD_cons_zero, List.getD_cons_succ, Act.put, List.setIfInBounds_toArray, List.set_cons_zero, List.set_cons_succ] at hK ⊢
                  clear hn
                  clear hF hI
                  have t3 : vs 3 = .int .i64 t := hT 3 (by decide)
                  have t4 : vs 4 = .int .i64 t := hT 4 (by decide)
                  have t5 : vs 5 = .int .i64 ((t : Int) - 1) := hT 5 (by decide)
                  simp only [t3, t4, t5] at hK
                  have H := Lib.hid hK
                  clear hK hT
                  go_simp
                  exact H.out _ _ (Below.refl _ _) rfl (fun h => by cases h) trivial
                refine Rg.cons 7 8 rfl (Rg.plain rfl ?_) ?_
                · intro vs W n hn hI hG hT hF K hK
                  simp only [Rg.putsD, List.getD_cons_zero, List.getD_cons_succ, Act.put, List.setIfInBounds_toArray, List.set_cons_zero, List.set_cons_succ] at hK ⊢
                  clear hn
                  clear hF hI
                  have t2 : vs 2 = .slice (some ⟨g, 0, none⟩) N N := hT 2 (by decide)
                  have t3 : vs 3 = .int .i64 t := hT 3 (by decide)
                  have t4 : vs 4 = .int .i64 t := hT 4 (by decide)
                  have t5 : vs 5 = .int .i64 ((t : Int) - 1) := hT 5 (by decide)
                  have t6 : vs 6 = .int .i64 low := hT 6 (by decide)
                  simp only [t2, t3, t4, t5, t6] at hK
                  have H := Lib.hid hK
                  clear hK hT
                  go_simp
                  exact H.out _ _ (Below.refl _ _) rfl (fun h => by cases h) trivial
                refine Rg.cons 8 9 rfl (Rg.plain rfl ?_) ?_
                · intro vs W n hn hI hG hT hF K hK
                  simp only [Rg.putsD, List.getD_cons_zero, List.getD_cons_succ, Act.put, List.setIfInBounds_toArray, List.set_cons_zero, List.set_cons_succ] at hK ⊢
                  clear hn
                  clear hF hI
                  have t2 : vs 2 = .slice (some ⟨g, 0, none⟩) N N := hT 2 (by decide)
                  have t3 : vs 3 = .int .i64 t := hT 3 (by decide)
                  have t4 : vs 4 = .int .i64 t := hT 4 (by decide)
                  have t5 : vs 5 = .int .i64 ((t : Int) - 1) := hT 5 (by decide)
                  have t6 : vs 6 = .int .i64 low := hT 6 (by decide)
                  have t7 : vs 7 = .pointer (some ⟨g, low, none⟩) := hT 7 (by decide)
                  have d8 := (hG.cell (p := ⟨g, low, none⟩) H8.out.2).trans H8.out.1
                  have l8 : g < W.heap.size := Nat.lt_of_lt_of_le H8.out.2 hG.size
                  simp only [t2, t3, t4, t5, t6, t7] at hK
                  have H := Lib.hid hK
                  clear hK hT
                  go_simp
                  exact H.out _ _ (Below.refl _ _) rfl (fun h => by cases h) trivial
                refine Rg.cons 9 10 rfl (Rg.plain rfl ?_) ?_
                · intro vs W n hn hI hG hT hF K hK
                  simp only [Rg.putsD, List.getD_cons_zero, List.getD_cons_succ, Act.put, List.setIfInBounds_toArray, List.set_cons_zero, List.set_cons_succ] at hK ⊢
                  clear hn
                  clear hF hI
                  have H := Lib.hid hK
                  clear hK hT
                  go_simp
                  exact H.out _ _ (Below.refl _ _) rfl (fun h => by cases h) trivial
                refine Rg.cons 10 11 rfl (Rg.plain rfl ?_) ?_
                · intro vs W n hn hI hG hT hF K hK
                  simp only [Rg.putsD, List.getD_cons_zero, List.getD_cons_succ, Act.put, List.setIfInBounds_toArray, List.set_cons_zero, List.set_cons_succ] at hK ⊢
                  clear hn
                  clear hF hI
                  have H := Lib.hid hK
                  clear hK hT
                  go_simp
                  exact H.out _ _ (Below.refl _ _) rfl (fun h => by cases h) trivial
                refine Rg.cons 11 12 rfl (Rg.plain rfl ?_) ?_
                · intro vs W n hn hI hG hT hF K hK
                  simp only [Rg.putsD, List.getD_cons_zero, List.getD_cons_succ, Act.put, List.setIfInBounds_toArray, List.set_cons_zero, List.set_cons_succ] at hK ⊢
                  clear hn
                  clear hF hI
                  have t10 : vs 10 = .int .i64 t := hT 10 (by decide)
                  simp only [t10] at hK
                  have H := Lib.hid hK
                  clear hK hT
                  go_simp
                  exact H.out _ _ (Below.refl _ _) rfl (fun h => by cases h) trivial
                refine Rg.cons 12 13 rfl (Rg.plain rfl ?_) ?_
                · intro vs W n hn hI hG hT hF K hK
                  simp only [Rg.putsD, List.getD_cons_zero, List.getD_cons_succ, Act.put, List.setIfInBounds_toArray, List.set_cons_zero, List.set_cons_succ] at hK ⊢
                  clear hn
                  clear hF hI
                  have t10 : vs 10 = .int .i64 t := hT 10 (by decide)
                  have t11 : vs 11 = .int .u64 t := hT 11 (by decide)
                  have hG := Lib.hid hG
                  simp only [t10, t11] at hK
                  have H := Lib.hid hK
                  clear hK hT
                  go_simp
                  refine (HTR.out _ (HTZ.out.below (HB3.out.then_below ((Below.refl _ _).drew.then_below hG.out (Nat.le_refl _)) HB3.out.size))).mono ?_
                  rintro e wa ⟨rfl, rfl⟩
                  exact H.out _ _ (Below.refl _ _) rfl (fun h => by cases h) trivial
                refine Rg.cons 13 14 rfl (Rg.plain rfl ?_) ?_
                · intro vs W n hn hI hG hT hF K hK
                  simp only [Rg.putsD, List.getD_cons_zero, List.getD_cons_succ, Act.put, List.setIfInBounds_toArray, List.set_cons_zero, List.set_cons_succ] at hK ⊢
                  clear hn
                  clear hF hI
                  have t9 : vs 9 = .slice (some ⟨b, pre.length, none⟩) L cx := hT 9 (by decide)
                  have t10 : vs 10 = .int .i64 t := hT 10 (by decide)
                  have t11 : vs 11 = .int .u64 t := hT 11 (by decide)
                  have t12 : vs 12 = .int .i64 tz := hT 12 (by decide)
                  simp only [t9, t10, t11, t12] at hK
                  have H := Lib.hid hK
                  clear hK hT
                  go_simp
                  exact H.out _ _ (Below.refl _ _) rfl (fun h => by cases h) trivial
                refine Rg.cons 14 15 rfl (Rg.plain rfl ?_) ?_
                · intro vs W n hn hI hG hT hF K hK
                  simp only [Rg.putsD, List.getD_cons_zero, List.getD_cons_succ, Act.put, List.setIfInBounds_toArray, List.set_cons_zero, List.set_cons_succ] at hK ⊢
                  clear hn
                  clear hF hI
                  have t9 : vs 9 = .slice (some ⟨b, pre.length, none⟩) L cx := hT 9 (by decide)
                  have t10 : vs 10 = .int .i64 t := hT 10 (by decide)
                  have t11 : vs 11 = .int .u64 t := hT 11 (by decide)
                  have t12 : vs 12 = .int .i64 tz := hT 12 (by decide)
                  have t13 : vs 13 = .pointer (some ⟨b, pre.length + tz, none⟩) := hT 13 (by decide)
                  have d9 : W.cell? ⟨b, pre.length + tz, none⟩ = some (.int .i64 Y) := (hG.cell (p := ⟨b, pre.length + tz, none⟩) (Nat.lt_of_lt_of_le HBC.out.2 HB3.out.size)).trans ((HS.out.2.cell (p := ⟨b, pre.length + tz, none⟩) (Nat.lt_of_lt_of_le HBC.out.2 H0.out.1.size)).trans HBC.out.1)
                  have l9 : b < W.heap.size := Nat.lt_of_lt_of_le (Nat.lt_of_lt_of_le HBC.out.2 HB3.out.size) hG.size
                  simp only [t9, t10, t11, t12, t13] at hK
                  have H := Lib.hid hK
                  clear hK hT
                  go_simp
                  exact H.out _ _ (Below.refl _ _) rfl (fun h => by cases h) trivial
                refine Rg.cons 15 16 rfl (Rg.plain rfl ?_) ?_
                · intro vs W n hn hI hG hT hF K hK
                  simp only [Rg.putsD, List.getD_cons_zero, List.getD_cons_succ, Act.put, List.setIfInBounds_toArray, List.set_cons_zero, List.set_cons_succ] at hK ⊢
                  clear hn
                  clear hF hI
                  have t2 : vs 2 = .slice (some ⟨g, 0, none⟩) N N := hT 2 (by decide)
                  have t3 : vs 3 = .int .i64 t := hT 3 (by decide)
                  have t4 : vs 4 = .int .i64 t := hT 4 (by decide)
                  have t5 : vs 5 = .int .i64 ((t : Int) - 1) := hT 5 (by decide)
                  have t6 : vs 6 = .int .i64 low := hT 6 (by decide)
                  have t7 : vs 7 = .pointer (some ⟨g, low, none⟩) := hT 7 (by decide)
                  have t8 : vs 8 = .int .i64 X8 := hT 8 (by decide)
                  have t9 : vs 9 = .slice (some ⟨b, pre.length, none⟩) L cx := hT 9 (by decide)
                  have t10 : vs 10 = .int .i64 t := hT 10 (by decide)
                  have t11 : vs 11 = .int .u64 t := hT 11 (by decide)
                  have t12 : vs 12 = .int .i64 tz := hT 12 (by decide)
                  have t13 : vs 13 = .pointer (some ⟨b, pre.length + tz, none⟩) := hT 13 (by decide)
                  have t14 : vs 14 = .int .i64 Y := hT 14 (by decide)
                  simp only [t2, t3, t4, t5, t6, t7, t8, t9, t10, t11, t12, t13, t14] at hK
                  have H := Lib.hid hK
                  clear hK hT
                  go_simp
                  exact H.out _ _ (Below.refl _ _) rfl (fun h => by cases h) trivial
                exact Rg.nil
              · intro vs W hG hI hT hF
                have t0 : vs 0 = .slice (some ⟨g, 0, none⟩) N N := hT 0 (by decide)
                have t1 : vs 1 = .int .i64 t := hT 1 (by decide)
                have t2 : vs 2 = .slice (some ⟨g, 0, none⟩) N N := hT 2 (by decide)
                have t3 : vs 3 = .int .i64 t := hT 3 (by decide)
                have t4 : vs 4 = .int .i64 t := hT 4 (by decide)
                have t5 : vs 5 = .int .i64 ((t : Int) - 1) := hT 5 (by decide)
                have t6 : vs 6 = .int .i64 low := hT 6 (by decide)
                have t7 : vs 7 = .pointer (some ⟨g, low, none⟩) := hT 7 (by decide)
                have t8 : vs 8 = .int .i64 X8 := hT 8 (by decide)
                have t9 : vs 9 = .slice (some ⟨b, pre.length, none⟩) L cx := hT 9 (by decide)
                have t10 : vs 10 = .int .i64 t := hT 10 (by decide)
                have t11 : vs 11 = .int .u64 t := hT 11 (by decide)
                have t12 : vs 12 = .int .i64 tz := hT 12 (by decide)
                have t13 : vs 13 = .pointer (some ⟨b, pre.length + tz, none⟩) := hT 13 (by decide)
                have t14 : vs 14 = .int .i64 Y := hT 14 (by decide)
                have t15 : vs 15 = .int .i64 (X8 + Y) := hT 15 (by decide)
                simp only [List.length_cons, List.length_nil, Nat.reduceAdd, List.range, List.range.loop, List.drop_succ_cons, List.drop_zero, Rg.putsD, List.getD_cons_zero, List.getD_cons_succ, Act.put, List.setIfInBounds_toArray, List.set_cons_zero, List.set_cons_succ, t0, t1, t2, t3, t4, t5, t6, t7, t8, t9, t10, t11, t12, t13, t14, t15]
                clear hT t0 t1 t2 t3 t4 t5 t6 t7 t8 t9 t10 t11 t12 t13 t14 t15
                have hGW : Below wr.heap.size wr W := (Below.refl _ _).drew.then_below hG (Nat.le_refl _)
                have H5 : Hid (NS w g (rg N fun s => if s < t then cy + sumS (fun i => lo ms ns k (pre.length + i)) L s else 0) W ∧ Below wx.heap.size wx W) := ⟨HS.out.1.then_ hGW, HS.out.2.then_below hGW HS.out.2.size⟩
                have h9 := H5.out.1.at_ (k := t) (by rw [rg_len]; exact htl)
                have f9 := frozen_of_blk H5.out.1.row t
                have l9 := lt_of_blk H5.out.1.row
                clear hF hG hI wk1 wk2 wk3 hGW
                go_wp2_with fail
                go_roundw
                case rel => exact ⟨t + 1, by omega, by go_num, HXY _ H5.out.1, H5.out.2.setCell HXB.out _⟩
                case measure => simp [intOf]; omega
          · obtain rfl : t = N := by omega
            have H3 : Hid (NS w g (rg t fun s => cy + sumS (fun i => lo ms ns k (pre.length + i)) L s) wr ∧ Below wx.heap.size wx wr) := by
              have h := HS.out
              rw [rg_congr (g := fun s => cy + sumS (fun i => lo ms ns k (pre.length + i)) L s) (fun s hs => if_pos hs)] at h
              exact h
            have hgw := H2.out.2
            clear HS H1 HW
            go_wp2_with fail
            have H4 := Lib.hid H3.out
            clear H3
            go_loopw [16, 77] (fun v16 kk wq => ∃ (j : Nat), j ≤ t ∧ kk = .int .i64 j ∧ Hid (NS w g (rg t fun s => if s < j then owV ms ns pre k s else cy + sumS (fun i => lo ms ns k (pre.length + i)) L s) wq ∧ Below wx.heap.size wx wq)) (fun _ kk _ => t - (intOf kk).toNat)
            case atStart => exact ⟨0, by omega, rfl, H4.out⟩
            case round =>
              clear H4
              obtain ⟨j, hj, rfl, HS⟩ := hrel
              by_cases hjt : j < t
              · have i1 : (0 : Int) ≤ (j : Int) := by omega
                have i2 : (j : Int) < (t : Int) := by omega
                have HOJ := Lib.hid (HO.out j)
                have hps : popS 12 j = popS L j := by
                  have := popS_more L j (by rw [HN.out]; exact hjt) (12 - L)
                  rwa [show L + (12 - L) = 12 by omega] at this
                have hpb : popS L j ≤ 12 := by
                  have : ∀ (L s : Nat), popS L s ≤ L := fun L => by
                    induction L with
                    | zero => intro s; simp [popS]
                    | succ L ih =>
                      intro s
                      have := ih (s / 2)
                      rw [popS]
                      split <;> omega
                  have := this L j
                  omega
                have hsb := sumS_bd L j (fun i => lo ms ns k (pre.length + i)) (fun i => hlo.out (pre.length + i))
                have CO := Lib.hid (fun W : World => onesCount_any j (by omega) W)
                rw [hps] at CO
                have HST : Hid (∀ x, x = owV ms ns pre k j → ∀ W, NS w g (rg t fun s => if s < j then owV ms ns pre k s else cy + sumS (fun i => lo ms ns k (pre.length + i)) L s) W → NS w g (rg t fun s => if s < j + 1 then owV ms ns pre k s else cy + sumS (fun i => lo ms ns k (pre.length + i)) L s) (W.setCell ⟨g, j, none⟩ (.int .i64 x))) := by
                  intro x hx W h
                  have h' := h.set j x
                  rw [rg_set (g := fun s => if s < j + 1 then owV ms ns pre k s else cy + sumS (fun i => lo ms ns k (pre.length + i)) L s) j x (by rw [if_pos (by omega)]; exact hx.symm) (fun s hs => by
                    by_cases h1 : s < j
                    · rw [if_pos h1, if_pos (by omega)]
                    · rw [if_neg h1, if_neg (by omega)])] at h'
                  exact h'
                have HNO : Hid (cy + sumS (fun i => lo ms ns k (pre.length + i)) L j = owV ms ns pre k j → (rg t fun s => if s < j then owV ms ns pre k s else cy + sumS (fun i => lo ms ns k (pre.length + i)) L s) = rg t fun s => if s < j + 1 then owV ms ns pre k s else cy + sumS (fun i => lo ms ns k (pre.length + i)) L s) := fun e => by
                  apply rg_congr
                  intro s hs
                  by_cases h1 : s < j
                  · rw [if_pos h1, if_pos (by omega)]
                  · by_cases h2 : s = j
                    · subst h2
                      rw [if_neg (by omega), if_pos (by omega), e]
                    · rw [if_neg h1, if_neg (by omega)]
                have hcell : ∀ W, NS w g (rg t fun s => if s < j then owV ms ns pre k s else cy + sumS (fun i => lo ms ns k (pre.length + i)) L s) W → W.cell? ⟨g, j, none⟩ = some (.int .i64 (cy + sumS (fun i => lo ms ns k (pre.length + i)) L j)) := fun W h => by
                  have h' := h.at_ (k := j) (by rw [rg_len]; exact hjt)
                  rwa [rg_at, if_neg (by omega)] at h'
                have HCE := Lib.hid hcell
                have hXb : 0 ≤ cy + sumS (fun i => lo ms ns k (pre.length + i)) L j ∧ cy + sumS (fun i => lo ms ns k (pre.length + i)) L j ≤ 40000000000000000 := by omega
                clear hps hcell
                generalize cy + sumS (fun i => lo ms ns k (pre.length + i)) L j = X at *
                generalize popS L j = pc at *
                have wk2 : IntKind.u64.wrap (j : Int) = (j : Int) := by rw [IntKind.wrap_u64]; omega
                have wk3 : IntKind.i64.wrap ((pt : Int) + (pc : Int)) = (pt : Int) + (pc : Int) := by rw [IntKind.wrap_i64]; omega
                have HXB := Lib.hid hgw
                have H0W := Lib.hid (H0.out.2)
                have hlx := lt_of_blk H0.out.2
                clear hgw
                go_upto_region 21 with (fail)
                refine Rg.rgL (fun a b => Below a.heap.size a b)
                  [(fun vs u => vs 0 = .int .i64 pt), (fun vs u => vs 1 = .int .i64 j), (fun vs u => vs 2 = .int .u64 j), (fun vs u => vs 3 = .int .i64 pc), (fun vs u => vs 4 = .int .i64 ((pt : Int) + (pc : Int))), (fun vs u => vs 5 = .pointer (some ⟨w.heap.size, 3, none⟩)), (fun vs u => vs 6 = .int .i64 feed)]
                  [[], [], [1], [1, 2], [0, 1, 2, 3], [], [5]] [some 80, some 81, some 82, some 83, some 84, some 85, some 86, some 87] [] (fun _ _ => True) [[], [], [1], [1, 2], [0, 1, 2, 3], [], [5], [0, 1, 2, 3, 4, 5, 6]]
                  (by kernel_rfl) (by decide) (by kernel_rfl) (by kernel_rfl) (by kernel_rfl) (by kernel_rfl) (by kernel_rfl) (fun _ => Below.refl _ _) (fun _ _ _ h k => h.ext k) (fun _ _ h => h.size) ?_ trivial ?_ ?_
                · intro t ht vs w w' h hE
                  simp only [List.mem_cons, List.not_mem_nil, or_false] at ht
                  rcases ht with rfl | rfl | rfl | rfl | rfl | rfl | rfl
                  · exact h
                  · exact h
                  · exact h
                  · exact h
                  · exact h
                  · exact h
                  · exact h
                ·
                  refine Rg.cons 0 1 rfl (Rg.plain rfl ?_) ?_
                  · intro vs W n hn hI hG hT hF K hK
                    simp only [Rg.putsD, List.getD_cons_zero, List.getD_cons_succ, Act.put, List.setIfInBounds_toArray, List.set_cons_zero, List.set_cons_succ] at hK ⊢
                    clear hn
                    clear hF hI
                    have H := Lib.hid hK
                    clear hK hT
                    go_simp
                    exact H.out _ _ (Below.refl _ _) rfl (fun h => by cases h) trivial
                  refine Rg.cons 1 2 rfl (Rg.plain rfl ?_) ?_
                  · intro vs W n hn hI hG hT hF K hK
                    simp only [Rg.putsD, List.getD_cons_zero, List.getD_cons_succ, Act.put, List.setIfInBounds_toArray, List.set_cons_zero, List.set_cons_succ] at hK ⊢
                    clear hn
                    clear hF hI
                    have H := Lib.hid hK
                    clear hK hT
                    go_simp
                    exact H.out _ _ (Below.refl _ _) rfl (fun h => by cases h) trivial
                  refine Rg.cons 2 3 rfl (Rg.plain rfl ?_) ?_
                  · intro vs W n hn hI hG hT hF K hK
                    simp only [Rg.putsD, List.getD_cons_zero, List.getD_cons_succ, Act.put, List.setIfInBounds_toArray, List.set_cons_zero, List.set_cons_succ] at hK ⊢
                    clear hn
                    clear hF hI
                    have t1 : vs 1 = .int .i64 j := hT 1 (by decide)
                    simp only [t1] at hK
                    have H := Lib.hid hK
                    clear hK hT
                    go_simp
                    exact H.out _ _ (Below.refl _ _) rfl (fun h => by cases h) trivial
                  refine Rg.cons 3 4 rfl (Rg.plain rfl ?_) ?_
                  · intro vs W n hn hI hG hT hF K hK
                    simp only [Rg.putsD, List.getD_cons_zero, List.getD_cons_succ, Act.put, List.setIfInBounds_toArray, List.set_cons_zero, List.set_cons_succ] at hK ⊢
                    clear hn
                    clear hF hI
                    have t1 : vs 1 = .int .i64 j := hT 1 (by decide)
                    have t2 : vs 2 = .int .u64 j := hT 2 (by decide)
                    simp only [t1, t2] at hK
                    have H := Lib.hid hK
                    clear hK hT
                    go_simp
                    refine (CO.out _).mono ?_
                    rintro e wa ⟨rfl, rfl⟩
                    exact H.out _ _ (Below.refl _ _) rfl (fun h => by cases h) trivial
                  refine Rg.cons 4 5 rfl (Rg.plain rfl ?_) ?_
                  · intro vs W n hn hI hG hT hF K hK
                    simp only [Rg.putsD, List.getD_cons_zero, List.getD_cons_succ, Act.put, List.setIfInBounds_toArray, List.set_cons_zero, List.set_cons_succ] at hK ⊢
                    clear hn
                    clear hF hI
                    have t0 : vs 0 = .int .i64 pt := hT 0 (by decide)
                    have t1 : vs 1 = .int .i64 j := hT 1 (by decide)
                    have t2 : vs 2 = .int .u64 j := hT 2 (by decide)
                    have t3 : vs 3 = .int .i64 pc := hT 3 (by decide)
                    simp only [t0, t1, t2, t3] at hK
                    have H := Lib.hid hK
                    clear hK hT
                    go_simp
                    exact H.out _ _ (Below.refl _ _) rfl (fun h => by cases h) trivial
                  refine Rg.cons 5 6 rfl (Rg.plain rfl ?_) ?_
                  · intro vs W n hn hI hG hT hF K hK
                    simp only [Rg.putsD, List.getD_cons_zero, List.getD_cons_succ, Act.put, List.setIfInBounds_toArray, List.set_cons_zero, List.set_cons_succ] at hK ⊢
                    clear hn
                    clear hF hI
                    have H := Lib.hid hK
                    clear hK hT
                    go_simp
                    exact H.out _ _ (Below.refl _ _) rfl (fun h => by cases h) trivial
                  refine Rg.cons 6 7 rfl (Rg.plain rfl ?_) ?_
                  · intro vs W n hn hI hG hT hF K hK
                    simp only [Rg.putsD, List.getD_cons_zero, List.getD_cons_succ, Act.put, List.setIfInBounds_toArray, List.set_cons_zero, List.set_cons_succ] at hK ⊢
                    clear hn
                    clear hF hI
                    have t5 : vs 5 = .pointer (some ⟨w.heap.size, 3, none⟩) := hT 5 (by decide)
                    obtain ⟨d0, d1, d2, d3, d4⟩ := blk5 (blk_below hG (blk_below HS.out.2 H0W.out))
                    have l8 : w.heap.size < W.heap.size := Nat.lt_of_lt_of_le (Nat.lt_of_lt_of_le hlx HS.out.2.size) hG.size
                    simp only [t5] at hK
                    have H := Lib.hid hK
                    clear hK hT
                    go_simp
                    exact H.out _ _ (Below.refl _ _) rfl (fun h => by cases h) trivial
                  exact Rg.nil
                · intro vs W hG hI hT hF
                  have t0 : vs 0 = .int .i64 pt := hT 0 (by decide)
                  have t1 : vs 1 = .int .i64 j := hT 1 (by decide)
                  have t2 : vs 2 = .int .u64 j := hT 2 (by decide)
                  have t3 : vs 3 = .int .i64 pc := hT 3 (by decide)
                  have t4 : vs 4 = .int .i64 ((pt : Int) + (pc : Int)) := hT 4 (by decide)
                  have t5 : vs 5 = .pointer (some ⟨w.heap.size, 3, none⟩) := hT 5 (by decide)
                  have t6 : vs 6 = .int .i64 feed := hT 6 (by decide)
                  simp only [List.length_cons, List.length_nil, Nat.reduceAdd, List.range, List.range.loop, List.drop_succ_cons, List.drop_zero, Rg.putsD, List.getD_cons_zero, List.getD_cons_succ, Act.put, List.setIfInBounds_toArray, List.set_cons_zero, List.set_cons_succ, t0, t1, t2, t3, t4, t5, t6]
                  clear hT t0 t1 t2 t3 t4 t5 t6
                  have hGW : Below wr.heap.size wr W := (Below.refl _ _).drew.then_below hG (Nat.le_refl _)
                  have H5 : Hid (NS w g (rg t fun s => if s < j then owV ms ns pre k s else cy + sumS (fun i => lo ms ns k (pre.length + i)) L s) W ∧ Below wx.heap.size wx W) := ⟨HS.out.1.then_ hGW, HS.out.2.then_below hGW HS.out.2.size⟩
                  have h9 := HCE.out W H5.out.1
                  have f9 := frozen_of_blk H5.out.1.row j
                  have l9 := lt_of_blk H5.out.1.row
                  clear hF hG hI wk2 wk3 hGW
                  by_cases hfp : feed < (pt : Int) + (pc : Int)
                  · have HEQ : Hid (X + 1125899906842624 = owV ms ns pre k j) := by
                      have e := HOJ.out
                      rw [if_pos hfp] at e
                      exact e.symm
                    have HX5 := HST.out _ HEQ.out
                    clear HST HNO HOJ HCE
                    go_wp2_with fail
                    go_roundw
                    case rel => exact ⟨j + 1, by omega, by go_num, HX5 _ H5.out.1, H5.out.2.setCell HXB.out _⟩
                    case measure => simp [intOf]; omega
                  · have HX5 := HNO.out (by
                      have e := HOJ.out
                      rw [if_neg hfp] at e
                      omega)
                    have H6 := H5.out
                    rw [HX5] at H6
                    have H7 := Lib.hid H6
                    clear H6 HX5 HST HNO HOJ HCE
                    go_wp2_with fail
                    go_roundw
                    case rel => exact ⟨j + 1, by omega, by go_num, H7.out⟩
                    case measure => simp [intOf]; omega
              · obtain rfl : j = t := by omega
                have H5 : Hid (NS w g (rg j (owV ms ns pre k)) wr) := by
                  have h := HS.out.1
                  rw [rg_congr (g := owV ms ns pre k) (fun s hs => if_pos hs)] at h
                  exact h
                clear HS
                go_wp2_with fail
                go_ret
                rw [show 2 ^ (ns.length - pre.length) = j from (congrArg (fun z => 2 ^ z) HP.out).trans HN.out]
                exact ⟨g, rfl, H5.out⟩
end Go.Proofs.YtmjonmoagpkdiabGreatDoor
