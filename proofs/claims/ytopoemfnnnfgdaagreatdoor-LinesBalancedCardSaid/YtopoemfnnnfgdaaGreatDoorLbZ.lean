/-
  The machine that takes a need, and has the least cycle with it: the program's.
-/
import Derived.Test.YtopoemfnnnfgdaaGreatDoorLbY
import Derived.Test.YtopoemfnnnfgdaaGreatDoorLcE
namespace Go.Proofs.YtopoemfnnnfgdaaGreatDoor
open Go.RowKit
set_option linter.unusedSimpArgs false
set_option linter.unusedVariables false

theorem put_as {K : Act → World → Prop} {a : Act} {d : Option Tmp} {v v' : Value} {w : World} (e : v = v') (h : K (a.put d v') w) : K (a.put d v) w := by rw [e]; exact h
def MX : Int := 9223372036854775807
def qkO (ms : List Mc) (L : List (Int × Int)) (x : ByteArray) (k : Nat) : Bool := decide ((L.getD k (0, 0)).2 < (mcA ms k).feed) && has (mcA ms k).can x
def qkC (ms : List Mc) (L : List (Int × Int)) (many : Int) (k : Nat) : Int := (L.getD k (0, 0)).1 + (mcA ms k).each * many
/-- The quickest of the first t machines, and its cycle. -/
def qk (ms : List Mc) (L : List (Int × Int)) (x : ByteArray) (many : Int) : Nat → Nat × Int
  | 0 => (0, MX)
  | t + 1 => if qkO ms L x t = true ∧ qkC ms L many t < (qk ms L x many t).2 then (t, qkC ms L many t) else qk ms L x many t
set_option maxRecDepth 100000 in
set_option maxHeartbeats 8000000 in
theorem quickest_any {base : Nat} (ms : List Mc) (L : List (Int × Int)) (part : ByteArray) (many : Int) (hm : MsOk ms) (hL : L.length = ms.length) (hbd : ∀ l ∈ L, (0 ≤ l.1 ∧ l.1 ≤ 100000000000000) ∧ 0 ≤ l.2 ∧ l.2 ≤ 1000) (hma : 1 ≤ many ∧ many ≤ 1000) {v1 : Value} {wo : World} {gb : Nat} {w : World} (h1 : MsF base v1 ms w) (h2 : LS wo gb L w) :
    Calls Tryz.prog 55 #[v1, .slice (some ⟨gb, 0, none⟩) ms.length ms.length, .agg #[.string part, .int .i64 many]] w fun e w' => e = .returned (.tuple #[.int .i64 ((qk ms L part many ms.length).1 : Nat), .bool (decide ((qk ms L part many ms.length).2 < MX))]) ∧ Below w.heap.size w w' := by
  have HR := Lib.hid (And.intro h1 h2)
  have HM := Lib.hid hm
  have HLL := Lib.hid hL
  have HBD := Lib.hid hbd
  have hmf := hm.few
  obtain ⟨A1, c1, rfl, hc1, _⟩ := h1
  clear hm hL hbd h2
  have H0 : Hid (Below w.heap.size w (w.alloc (.cells #[.string part, .int .i64 many] 62)) ∧ (w.alloc (.cells #[.string part, .int .i64 many] 62)).heap[w.heap.size]? = some (.cells #[.string part, .int .i64 many] 62 (0, 0))) := ⟨(Below.refl _ _).alloc (Nat.le_refl _) _, blk_new w _ rfl⟩
  go_enter Tryz.func55, Tryz.ntmps55
  go_upto_region 1 with (fail)
  generalize w.alloc (.cells #[.string part, .int .i64 many] 62) = w0 at *
  go_wp2_with fail
  go_loopw [8, 9, 15] (fun v8 v9 kk wr => ∃ (t q : Nat) (c : Int), t ≤ ms.length ∧ kk = .int .i64 t ∧ v8 = .int .i64 q ∧ v9 = .int .i64 c ∧ Hid (qk ms L part many t = (q, c) ∧ Below w0.heap.size w0 wr)) (fun _ _ kk _ => ms.length - (intOf kk).toNat)
  case atStart => exact ⟨0, 0, MX, by omega, rfl, rfl, rfl, rfl, Below.refl _ _⟩
  case round =>
    obtain ⟨t, q, c, ht, rfl, rfl, rfl, HS⟩ := hrel
    by_cases htl : t < ms.length
    · have hbw := H0.out.1.then_below HS.out.2 H0.out.1.size
      obtain ⟨g1, e1, hg1, q0, q1, q2, q3, u, q4, A4, c4, rfl, hc4, hr4⟩ := (HR.out.1.below hbw).at_ htl
      cases e1
      have htL : t < L.length := by rw [HLL.out]; exact htl
      obtain ⟨l0, l1⟩ := (HR.out.2.then_ hbw).at_ htL
      have hgb := lt_of_blk (HR.out.2.then_ hbw).row
      have hmo := HM.out.ok _ (List.getElem_mem htl)
      have hlb := HBD.out _ (List.getElem_mem htL)
      have HQ : Hid (qk ms L part many (t + 1) = if (decide (L[t].2 < ms[t].feed) && has ms[t].can part) = true ∧ L[t].1 + ms[t].each * many < c then (t, L[t].1 + ms[t].each * many) else (q, c)) := by
        have e1 : mcA ms t = ms[t] := mcA_at htl
        have e2 : L.getD t (0, 0) = L[t] := by rw [List.getD_eq_getElem?_getD, List.getElem?_eq_getElem htL]; rfl
        show _ = _
        rw [qk, qkO, qkC, e1, e2, HS.out.1]
      generalize ms[t] = m at *
      obtain ⟨key, each, fixed, feed, can⟩ := m
      generalize L[t] = ld at *
      obtain ⟨cy, pa⟩ := ld
      have hcl := hmo.few
      have hco := hmo.can
      have hea := hmo.each
      have hfe := hmo.feed
      dsimp only at q0 q1 q2 q3 q4 hcl hco hc4 hr4 hea hfe HQ l0 l1 hlb
      have hmb := mul_bd hea hma
      have HU : Hid (ReadsF base encS (.slice A4 can.length c4) can wr) := ⟨A4, c4, rfl, hc4, hr4⟩
      have CT := Lib.hid (fun (W : World) (h : ReadsF base encS (.slice A4 can.length c4) can W) => takes_any cy pa key each fixed feed can part many (by omega) hco h)
      have CW := Lib.hid (fun (W : World) => with_any cy pa key each fixed feed (.slice A4 can.length c4) part many W (by omega) (by omega) hea (by omega))
      have i1 : (0 : Int) ≤ (t : Int) := by omega
      have i2 : (t : Int) < (ms.length : Int) := by omega
      have HX : Hid (Below w0.heap.size w0 (wr.alloc (.cells #[.string key, .int .i64 each, .int .i64 fixed, .int .i64 feed, .slice A4 can.length c4] 57)) ∧ ReadsF base encS (.slice A4 can.length c4) can (wr.alloc (.cells #[.string key, .int .i64 each, .int .i64 fixed, .int .i64 feed, .slice A4 can.length c4] 57)) ∧ (wr.alloc (.cells #[.string key, .int .i64 each, .int .i64 fixed, .int .i64 feed, .slice A4 can.length c4] 57)).heap[wr.heap.size]? = some (.cells #[.string key, .int .i64 each, .int .i64 fixed, .int .i64 feed, .slice A4 can.length c4] 57 (0, 0)) ∧ (wr.alloc (.cells #[.string key, .int .i64 each, .int .i64 fixed, .int .i64 feed, .slice A4 can.length c4] 57)).cell? ⟨gb, t * 2, none⟩ = some (.int .i64 cy) ∧ (wr.alloc (.cells #[.string key, .int .i64 each, .int .i64 fixed, .int .i64 feed, .slice A4 can.length c4] 57)).cell? ⟨gb, t * 2 + 1, none⟩ = some (.int .i64 pa) ∧ gb < (wr.alloc (.cells #[.string key, .int .i64 each, .int .i64 fixed, .int .i64 feed, .slice A4 can.length c4] 57)).heap.size) := by
        have hb : Below wr.heap.size wr (wr.alloc (.cells #[.string key, .int .i64 each, .int .i64 fixed, .int .i64 feed, .slice A4 can.length c4] 57)) := (Below.refl _ _).alloc (Nat.le_refl _) _
        exact ⟨HS.out.2.alloc HS.out.2.size _, HU.out.below hb, blk_new wr _ rfl, (hb.cell (p := ⟨gb, t * 2, none⟩) hgb).trans l0, (hb.cell (p := ⟨gb, t * 2 + 1, none⟩) hgb).trans l1, Nat.lt_of_lt_of_le hgb hb.size⟩
      clear hmo hr4 hco hbw l0 l1 hgb
      go_upto_region 5 with (fail)
      generalize wr.alloc (.cells #[.string key, .int .i64 each, .int .i64 fixed, .int .i64 feed, .slice A4 can.length c4] 57) = wx at *
      obtain ⟨gx, hgx⟩ : ∃ gx, wr.heap.size = gx := ⟨_, rfl⟩
      rw [hgx] at HX ⊢
      clear hgx q0 q1 q2 q3 q4 HU HS
      have hlx := lt_of_blk HX.out.2.2.1
      have hln := lt_of_blk (blk_below HX.out.1 H0.out.2)
      refine Rg.rgL (fun a b => Below a.heap.size a b)
        [(fun vs u => vs 0 = .slice (some ⟨gb, 0, none⟩) ms.length ms.length), (fun vs u => vs 1 = .int .i64 t), (fun vs u => vs 2 = .pointer (some ⟨gb, t * 2, none⟩)), (fun vs u => vs 3 = .agg #[.int .i64 cy, .int .i64 pa]), (fun vs u => vs 4 = .agg #[.string key, .int .i64 each, .int .i64 fixed, .int .i64 feed, .slice A4 can.length c4]), (fun vs u => vs 5 = .agg #[.string part, .int .i64 many])]
        [[], [], [0, 1], [0, 1, 2], [], []] [some 20, some 21, some 22, some 23, some 24, some 25, some 26, some 27] [] (fun _ _ => True) [[], [], [0, 1], [0, 1, 2], [], [], [0, 1, 2, 3, 4, 5], [0, 1, 2, 3, 4, 5, 6]]
        (by kernel_rfl) (by decide) (by kernel_rfl) (by kernel_rfl) (by kernel_rfl) (by kernel_rfl) (by kernel_rfl) (fun _ => Below.refl _ _) (fun _ _ _ h k => h.ext k) (fun _ _ h => h.size) ?_ trivial ?_ ?_
      · intro t ht vs w w' h hE
        simp only [List.mem_cons, List.not_mem_nil, or_false] at ht
        rcases ht with rfl | rfl | rfl | rfl | rfl | rfl
        · exact h
        · exact h
        · exact h
        · exact h
        · exact h
        · exact h
      ·
        refine Rg.cons 0 1 rfl (Rg.plain rfl ?_) ?_
        · intro vs W n hn hI hG hT hF K hK
          simp only [Rg.putsD, List.getD_cons_zero, List.getD_cons_succ, Act.put, List.setIfInBounds_toArray, List.set_cons_zero, List.set_cons_succ] at hK ⊢
          clear hn
          clear hF hI
          have H := Lib.hid hK
          clear hK hT
          go_simp
          exact H.out _ _ (Below.refl _ _) rfl (fun h => by cases h) trivial
        refine Rg.cons 1 2 rfl (Rg.plain rfl ?_) ?_
        · intro vs W n hn hI hG hT hF K hK
          simp only [Rg.putsD, List.getD_cons_zero, List.getD_cons_succ, Act.put, List.setIfInBounds_toArray, List.set_cons_zero, List.set_cons_succ] at hK ⊢
          clear hn
          clear hF hI
          have H := Lib.hid hK
          clear hK hT
          go_simp
          exact H.out _ _ (Below.refl _ _) rfl (fun h => by cases h) trivial
        refine Rg.cons 2 3 rfl (Rg.plain rfl ?_) ?_
        · intro vs W n hn hI hG hT hF K hK
          simp only [Rg.putsD, List.getD_cons_zero, List.getD_cons_succ, Act.put, List.setIfInBounds_toArray, List.set_cons_zero, List.set_cons_succ] at hK ⊢
          clear hn
          clear hF hI
          have t0 : vs 0 = .slice (some ⟨gb, 0, none⟩) ms.length ms.length := hT 0 (by decide)
          have t1 : vs 1 = .int .i64 t := hT 1 (by decide)
          simp only [t0, t1] at hK
          have H := Lib.hid hK
          clear hK hT
          go_simp
          exact H.out _ _ (Below.refl _ _) rfl (fun h => by cases h) trivial
        refine Rg.cons 3 4 rfl (Rg.plain rfl ?_) ?_
        · intro vs W n hn hI hG hT hF K hK
          simp only [Rg.putsD, List.getD_cons_zero, List.getD_cons_succ, Act.put, List.setIfInBounds_toArray, List.set_cons_zero, List.set_cons_succ] at hK ⊢
          clear hn
          clear hF hI
          have t0 : vs 0 = .slice (some ⟨gb, 0, none⟩) ms.length ms.length := hT 0 (by decide)
          have t1 : vs 1 = .int .i64 t := hT 1 (by decide)
          have t2 : vs 2 = .pointer (some ⟨gb, t * 2, none⟩) := hT 2 (by decide)
          have d1 := (hG.cell (p := ⟨gb, t * 2, none⟩) HX.out.2.2.2.2.2).trans HX.out.2.2.2.1
          have d2 := (hG.cell (p := ⟨gb, t * 2 + 1, none⟩) HX.out.2.2.2.2.2).trans HX.out.2.2.2.2.1
          have d3 : gb < W.heap.size := Nat.lt_of_lt_of_le HX.out.2.2.2.2.2 hG.size
          simp only [t0, t1, t2] at hK
          have H := Lib.hid hK
          clear hK hT
          go_simp
          exact H.out _ _ (Below.refl _ _) rfl (fun h => by cases h) trivial
        refine Rg.cons 4 5 rfl (Rg.plain rfl ?_) ?_
        · intro vs W n hn hI hG hT hF K hK
          simp only [Rg.putsD, List.getD_cons_zero, List.getD_cons_succ, Act.put, List.setIfInBounds_toArray, List.set_cons_zero, List.set_cons_succ] at hK ⊢
          clear hn
          clear hF hI
          obtain ⟨d0, d1, d2, d3, d4⟩ := blk5 (blk_below hG HX.out.2.2.1)
          have l8 : gx < W.heap.size := Nat.lt_of_lt_of_le hlx hG.size
          have H := Lib.hid hK
          clear hK hT
          go_simp
          exact H.out _ _ (Below.refl _ _) rfl (fun h => by cases h) trivial
        refine Rg.cons 5 6 rfl (Rg.plain rfl ?_) ?_
        · intro vs W n hn hI hG hT hF K hK
          simp only [Rg.putsD, List.getD_cons_zero, List.getD_cons_succ, Act.put, List.setIfInBounds_toArray, List.set_cons_zero, List.set_cons_succ] at hK ⊢
          clear hn
          clear hF hI
          obtain ⟨d0, d1⟩ := blk2c (blk_below hG (blk_below HX.out.1 H0.out.2))
          have l8 : w.heap.size < W.heap.size := Nat.lt_of_lt_of_le hln hG.size
          have H := Lib.hid hK
          clear hK hT
          go_simp
          exact H.out _ _ (Below.refl _ _) rfl (fun h => by cases h) trivial
        exact Rg.nil
      · intro vs W hG hI hT hF
        have t0 : vs 0 = .slice (some ⟨gb, 0, none⟩) ms.length ms.length := hT 0 (by decide)
        have t1 : vs 1 = .int .i64 t := hT 1 (by decide)
        have t2 : vs 2 = .pointer (some ⟨gb, t * 2, none⟩) := hT 2 (by decide)
        have t3 : vs 3 = .agg #[.int .i64 cy, .int .i64 pa] := hT 3 (by decide)
        have t4 : vs 4 = .agg #[.string key, .int .i64 each, .int .i64 fixed, .int .i64 feed, .slice A4 can.length c4] := hT 4 (by decide)
        have t5 : vs 5 = .agg #[.string part, .int .i64 many] := hT 5 (by decide)
        simp only [List.length_cons, List.length_nil, Nat.reduceAdd, List.range, List.range.loop, List.drop_succ_cons, List.drop_zero, Rg.putsD, List.getD_cons_zero, List.getD_cons_succ, Act.put, List.setIfInBounds_toArray, List.set_cons_zero, List.set_cons_succ, t0, t1, t2, t3, t4, t5]
        clear hT t0 t1 t2 t3 t4 t5
        have hGW : Below wx.heap.size wx W := (Below.refl _ _).drew.then_below hG (Nat.le_refl _)
        have CTW := Lib.hid (CT.out W (HX.out.2.1.below hGW))
        have HXW : Hid (Below w0.heap.size w0 W ∧ W.heap[gx]? = some (.cells #[.string key, .int .i64 each, .int .i64 fixed, .int .i64 feed, .slice A4 can.length c4] 57 (0, 0)) ∧ W.cell? ⟨gb, t * 2, none⟩ = some (.int .i64 cy) ∧ W.cell? ⟨gb, t * 2 + 1, none⟩ = some (.int .i64 pa) ∧ gb < W.heap.size) := ⟨HX.out.1.then_below hGW HX.out.1.size, blk_below hGW HX.out.2.2.1, (hGW.cell (p := ⟨gb, t * 2, none⟩) HX.out.2.2.2.2.2).trans HX.out.2.2.2.1, (hGW.cell (p := ⟨gb, t * 2 + 1, none⟩) HX.out.2.2.2.2.2).trans HX.out.2.2.2.2.1, Nat.lt_of_lt_of_le HX.out.2.2.2.2.2 hGW.size⟩
        clear hF hI hG hGW HX hlx hln CT
        generalize hok : (decide (pa < feed) && has can part) = ok at *
        clear hok
        go_wp2_with fail
        refine CTW.out.mono ?_
        rintro e w5 ⟨rfl, b5⟩
        have H5 : Hid (Below w0.heap.size w0 w5 ∧ w5.heap[gx]? = some (.cells #[.string key, .int .i64 each, .int .i64 fixed, .int .i64 feed, .slice A4 can.length c4] 57 (0, 0)) ∧ w5.cell? ⟨gb, t * 2, none⟩ = some (.int .i64 cy) ∧ w5.cell? ⟨gb, t * 2 + 1, none⟩ = some (.int .i64 pa) ∧ gb < w5.heap.size) := ⟨HXW.out.1.then_below b5 HXW.out.1.size, blk_below b5 HXW.out.2.1, (b5.cell (p := ⟨gb, t * 2, none⟩) HXW.out.2.2.2.2).trans HXW.out.2.2.1, (b5.cell (p := ⟨gb, t * 2 + 1, none⟩) HXW.out.2.2.2.2).trans HXW.out.2.2.2.1, Nat.lt_of_lt_of_le HXW.out.2.2.2.2 b5.size⟩
        clear b5 CTW HXW
        cases ok
        · have HF : Hid (qk ms L part many (t + 1) = (q, c)) := HQ.out.trans (if_neg (by simp))
          clear HQ
          go_wp2_with fail
          go_roundw
          case rel => exact ⟨t + 1, q, c, by omega, by go_num, rfl, rfl, HF.out, H5.out.1⟩
          case measure => simp [intOf] <;> omega
        · go_upto_region 6 with (fail)
          have hlx := lt_of_blk H5.out.2.1
          have hln := lt_of_blk (blk_below H5.out.1 H0.out.2)
          refine Rg.rgL (fun a b => Below a.heap.size a b)
            [(fun vs u => vs 0 = .slice (some ⟨gb, 0, none⟩) ms.length ms.length), (fun vs u => vs 1 = .int .i64 t), (fun vs u => vs 2 = .pointer (some ⟨gb, t * 2, none⟩)), (fun vs u => vs 3 = .agg #[.int .i64 cy, .int .i64 pa]), (fun vs u => vs 4 = .agg #[.string key, .int .i64 each, .int .i64 fixed, .int .i64 feed, .slice A4 can.length c4]), (fun vs u => vs 5 = .agg #[.string part, .int .i64 many])]
            [[], [], [0, 1], [0, 1, 2], [], []] [some 28, some 29, some 30, some 31, some 32, some 33, some 34, some 35, some 12] [] (fun _ _ => True) [[], [], [0, 1], [0, 1, 2], [], [], [0, 1, 2, 3, 4, 5], [0, 1, 2, 3, 4, 5, 6], [0, 1, 2, 3, 4, 5, 6, 7]]
            (by kernel_rfl) (by decide) (by kernel_rfl) (by kernel_rfl) (by kernel_rfl) (by kernel_rfl) (by kernel_rfl) (fun _ => Below.refl _ _) (fun _ _ _ h k => h.ext k) (fun _ _ h => h.size) ?_ trivial ?_ ?_
          · intro t ht vs w w' h hE
            simp only [List.mem_cons, List.not_mem_nil, or_false] at ht
            rcases ht with rfl | rfl | rfl | rfl | rfl | rfl
            · exact h
            · exact h
            · exact h
            · exact h
            · exact h
            · exact h
          ·
            refine Rg.cons 0 1 rfl (Rg.plain rfl ?_) ?_
            · intro vs W n hn hI hG hT hF K hK
              simp only [Rg.putsD, List.getD_cons_zero, List.getD_cons_succ, Act.put, List.setIfInBounds_toArray, List.set_cons_zero, List.set_cons_succ] at hK ⊢
              clear hn
              clear hF hI
              have H := Lib.hid hK
              clear hK hT
              go_simp
              exact H.out _ _ (Below.refl _ _) rfl (fun h => by cases h) trivial
            refine Rg.cons 1 2 rfl (Rg.plain rfl ?_) ?_
            · intro vs W n hn hI hG hT hF K hK
              simp only [Rg.putsD, List.getD_cons_zero, List.getD_cons_succ, Act.put, List.setIfInBounds_toArray, List.set_cons_zero, List.set_cons_succ] at hK ⊢
              clear hn
              clear hF hI
              have H := Lib.hid hK
              clear hK hT
              go_simp
              exact H.out _ _ (Below.refl _ _) rfl (fun h => by cases h) trivial
            refine Rg.cons 2 3 rfl (Rg.plain rfl ?_) ?_
            · intro vs W n hn hI hG hT hF K hK
              simp only [Rg.putsD, List.getD_cons_zero, List.getD_cons_succ, Act.put, List.setIfInBounds_toArray, List.set_cons_zero, List.set_cons_succ] at hK ⊢
              clear hn
              clear hF hI
              have t0 : vs 0 = .slice (some ⟨gb, 0, none⟩) ms.length ms.length := hT 0 (by decide)
              have t1 : vs 1 = .int .i64 t := hT 1 (by decide)
              simp only [t0, t1] at hK
              have H := Lib.hid hK
              clear hK hT
              go_simp
              exact H.out _ _ (Below.refl _ _) rfl (fun h => by cases h) trivial
            refine Rg.cons 3 4 rfl (Rg.plain rfl ?_) ?_
            · intro vs W n hn hI hG hT hF K hK
              simp only [Rg.putsD, List.getD_cons_zero, List.getD_cons_succ, Act.put, List.setIfInBounds_toArray, List.set_cons_zero, List.set_cons_succ] at hK ⊢
              clear hn
              clear hF hI
              have t0 : vs 0 = .slice (some ⟨gb, 0, none⟩) ms.length ms.length := hT 0 (by decide)
              have t1 : vs 1 = .int .i64 t := hT 1 (by decide)
              have t2 : vs 2 = .pointer (some ⟨gb, t * 2, none⟩) := hT 2 (by decide)
              have d1 := (hG.cell (p := ⟨gb, t * 2, none⟩) H5.out.2.2.2.2).trans H5.out.2.2.1
              have d2 := (hG.cell (p := ⟨gb, t * 2 + 1, none⟩) H5.out.2.2.2.2).trans H5.out.2.2.2.1
              have d3 : gb < W.heap.size := Nat.lt_of_lt_of_le H5.out.2.2.2.2 hG.size
              simp only [t0, t1, t2] at hK
              have H := Lib.hid hK
              clear hK hT
              go_simp
              exact H.out _ _ (Below.refl _ _) rfl (fun h => by cases h) trivial
            refine Rg.cons 4 5 rfl (Rg.plain rfl ?_) ?_
            · intro vs W n hn hI hG hT hF K hK
              simp only [Rg.putsD, List.getD_cons_zero, List.getD_cons_succ, Act.put, List.setIfInBounds_toArray, List.set_cons_zero, List.set_cons_succ] at hK ⊢
              clear hn
              clear hF hI
              obtain ⟨d0, d1, d2, d3, d4⟩ := blk5 (blk_below hG H5.out.2.1)
              have l8 : gx < W.heap.size := Nat.lt_of_lt_of_le hlx hG.size
              have H := Lib.hid hK
              clear hK hT
              go_simp
              exact H.out _ _ (Below.refl _ _) rfl (fun h => by cases h) trivial
            refine Rg.cons 5 6 rfl (Rg.plain rfl ?_) ?_
            · intro vs W n hn hI hG hT hF K hK
              simp only [Rg.putsD, List.getD_cons_zero, List.getD_cons_succ, Act.put, List.setIfInBounds_toArray, List.set_cons_zero, List.set_cons_succ] at hK ⊢
              clear hn
              clear hF hI
              obtain ⟨d0, d1⟩ := blk2c (blk_below hG (blk_below H5.out.1 H0.out.2))
              have l8 : w.heap.size < W.heap.size := Nat.lt_of_lt_of_le hln hG.size
              have H := Lib.hid hK
              clear hK hT
              go_simp
              exact H.out _ _ (Below.refl _ _) rfl (fun h => by cases h) trivial
            exact Rg.nil
          · intro vs W hG hI hT hF
            have t0 : vs 0 = .slice (some ⟨gb, 0, none⟩) ms.length ms.length := hT 0 (by decide)
            have t1 : vs 1 = .int .i64 t := hT 1 (by decide)
            have t2 : vs 2 = .pointer (some ⟨gb, t * 2, none⟩) := hT 2 (by decide)
            have t3 : vs 3 = .agg #[.int .i64 cy, .int .i64 pa] := hT 3 (by decide)
            have t4 : vs 4 = .agg #[.string key, .int .i64 each, .int .i64 fixed, .int .i64 feed, .slice A4 can.length c4] := hT 4 (by decide)
            have t5 : vs 5 = .agg #[.string part, .int .i64 many] := hT 5 (by decide)
            simp only [List.length_cons, List.length_nil, Nat.reduceAdd, List.range, List.range.loop, List.drop_succ_cons, List.drop_zero, Rg.putsD, List.getD_cons_zero, List.getD_cons_succ, Act.put, List.setIfInBounds_toArray, List.set_cons_zero, List.set_cons_succ, t0, t1, t2, t3, t4, t5]
            clear hT t0 t1 t2 t3 t4 t5
            have hGW : Below w5.heap.size w5 W := (Below.refl _ _).drew.then_below hG (Nat.le_refl _)
            have CWW := Lib.hid (CW.out W)
            have H6 := Lib.hid (H5.out.1.then_below hGW H5.out.1.size)
            clear hF hI hG hGW H5 hlx hln CW
            have HQ2 : Hid (qk ms L part many (t + 1) = if cy + each * many < c then (t, cy + each * many) else (q, c)) := HQ.out.trans (by simp)
            clear HQ
            generalize cy + each * many = Y at *
            by_cases hYc : Y < c
            · have HF : Hid (qk ms L part many (t + 1) = (t, Y)) := HQ2.out.trans (if_pos hYc)
              clear HQ2
              go_wp2_with fail
              refine CWW.out.mono ?_
              rintro e w7 ⟨rfl, b7⟩
              have H7 := Lib.hid (H6.out.then_below b7 H6.out.size)
              clear b7 CWW
              go_wp2_with fail
              refine put_as (v' := .int .i64 Y) rfl ?_
              go_wp2_with fail
              go_roundw
              case rel => exact ⟨t + 1, t, Y, by omega, by go_num, rfl, rfl, HF.out, H7.out⟩
              case measure => simp [intOf] <;> omega
            · have HF : Hid (qk ms L part many (t + 1) = (q, c)) := HQ2.out.trans (if_neg hYc)
              clear HQ2
              go_wp2_with fail
              refine CWW.out.mono ?_
              rintro e w7 ⟨rfl, b7⟩
              have H7 := Lib.hid (H6.out.then_below b7 H6.out.size)
              clear b7 CWW
              go_wp2_with fail
              refine put_as (v' := .int .i64 Y) rfl ?_
              go_wp2_with fail
              go_roundw
              case rel => exact ⟨t + 1, q, c, by omega, by go_num, rfl, rfl, HF.out, H7.out⟩
              case measure => simp [intOf] <;> omega
    · obtain rfl : t = ms.length := by omega
      have HQ := Lib.hid HS.out.1
      have HB := Lib.hid (H0.out.1.then_below HS.out.2 H0.out.1.size)
      clear HS
      go_wp2_with fail
      refine bodyPost_ret (v := .tuple #[.int .i64 q, .bool (decide (c < 9223372036854775807))]) (by unfold results; simp only [Tryz.results55]; go_simp) rfl ⟨?_, HB.out⟩
      rw [HQ.out]
      rfl
end Go.Proofs.YtopoemfnnnfgdaaGreatDoor
