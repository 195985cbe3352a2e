/-
  The walk of the law ComponentsPlaced.
-/
import Derived.Test.YtopnadilfjakiaaLawU
namespace Go.Proofs.Ytopnadilfjakiaa
open Go.RowKit

/-- What stands in the end. -/
def CpFin (w : World) (j q : Nat) (sp : Sp) (LN : List (List UInt8 × Int)) (LS : List Sp) (v8 v12 v19 v20 : Value) (wc : World) : Prop :=
  wc.heap[j]? = some (.cells sp.cells.toArray 41 (0, 0)) ∧ wc.heap[q]? = some (.cells sp.cells.toArray 41 (0, 0)) ∧ Reads encNd v8 LN wc ∧ Reads encNd v19 LN wc ∧ Reads Sp.cells v12 LS wc ∧ Reads Sp.cells v20 LS wc
/-- What stands before the reference's answers. -/
def CpMid (j m : Nat) (sp : Sp) (P : Value) (LN : List (List UInt8 × Int)) (LS : List Sp) (v8 v12 : Value) (wc : World) : Prop :=
  wc.heap[j]? = some (.cells sp.cells.toArray 41 (0, 0)) ∧ (∃ cs : Array Value, P = .agg cs ∧ wc.heap[m]? = some (.cells cs 50 (0, 0))) ∧ Reads encNd v8 LN wc ∧ Reads Sp.cells v12 LS wc
theorem CpMid.below {j m : Nat} {sp : Sp} {P : Value} {LN : List (List UInt8 × Int)} {LS : List Sp} {v8 v12 : Value} {wc wd : World} (h : CpMid j m sp P LN LS v8 v12 wc) (hb : Below wc.heap.size wc wd) : CpMid j m sp P LN LS v8 v12 wd := by
  obtain ⟨h1, ⟨cs, e, h2⟩, h3, h4⟩ := h
  exact ⟨blk_below hb h1, ⟨cs, e, blk_below hb h2⟩, h3.below hb, h4.below hb⟩

theorem paPost_all {nm : ByteArray} {l : List Pl} {w w' : World} {e : Ending} (h : PAPost nm l w e w') : Below w.heap.size w w' ∧ ∃ (p : Pl) (has : Bool), e = .returned (.tuple #[.agg #[.string p.name, .string p.part, .int .i64 p.x, .int .i64 p.y, .int .i64 p.q], .bool has]) ∧
    ((has = false ∧ plIdx nm l 0 = -1) ∨ (has = true ∧ ∃ (i : Nat) (hi : i < l.length), plIdx nm l 0 = i ∧ l[i] = p)) := by
  obtain ⟨hb, ⟨h1, rfl⟩ | ⟨k, hk, h1, rfl⟩⟩ := h
  · exact ⟨hb, ⟨⟨#[]⟩, ⟨#[]⟩, 0, 0, 0⟩, false, rfl, .inl ⟨rfl, h1⟩⟩
  · exact ⟨hb, l[k], true, rfl, .inr ⟨rfl, k, hk, h1, rfl⟩⟩
theorem line2 {w : World} {g : Nat} {a b : Int} {t : TypeId} (h : w.heap[g]? = some (.cells #[.int .i64 a, .int .i64 b] t (0, 0))) : LineAt w g ([a, b].map (Value.int .i64)) := by
  refine ⟨lt_of_blk h, fun j u hu => ?_⟩
  rw [cell_of_blk h]
  simpa using hu

set_option maxRecDepth 100000 in
set_option maxHeartbeats 4000000 in
theorem law1_any (A0 : Option Addr) (n c0 : Nat) (w : World) (hc : n ≤ c0) (hm : c0 ≤ 9223372036854775807) (hA : IntsAt w A0 n w.heap.size) :
    Calls Try.prog 3 #[.slice A0 n c0] w fun e w' => e = .returned (.bool true) ∧ Below w.heap.size w w' := by
  have hs0 : IsStream (w.alloc (.cells #[.slice A0 n c0, .int .i64 0] 25)) w.heap.size 0 := by
    refine ⟨A0, n, c0, 0, hc, hm, Nat.le_refl _, blk_new w _ rfl, fun hn => ?_⟩
    obtain ⟨ad, e, h1, h2, h3⟩ := hA hn
    refine ⟨ad, e, by simp; omega, h2, fun k hk => ?_⟩
    obtain ⟨x, hx⟩ := h3 k hk
    exact ⟨x, ((((Below.refl w.heap.size w).alloc (Nat.le_refl _) _).cell (by rw [addr_block]; exact h1))).trans hx⟩
  go_enter Try.func3, Try.ntmps3
  go_wp2_with fail
  refine (aproduct_any w.heap.size 0 _ (by omega) hs0).mono ?_
  rintro e w1 ⟨key, Wd, Hg, v, l, rfl, hl, o1, t1⟩
  obtain ⟨A, c, rfl, _⟩ := pl_own o1
  have O1 := Lib.hid o1
  clear o1
  go_wp2_with fail
  refine (apanel_any w.heap.size 200 key Wd Hg A l.length c _ (by omega) (t1.1.alloc _)).mono ?_
  rintro e w2 ⟨PW, PH, v, s, rfl, hsl, o2, t2⟩
  obtain ⟨B, d, rfl, _⟩ := slat_own o2
  have O2 := Lib.hid o2
  clear o2
  go_wp2_with fail
  refine (pick_lit w.heap.size 400 [0, 1, 2, -1, 9] w2 _ 5 rfl (by omega) (by omega) (by simp) (by omega) t2.1).mono ?_
  rintro e w3 ⟨k, hk, rfl, t3⟩
  go_wp2_with fail
  refine (some_lit w.heap.size 401 [⟨#[99, 49]⟩, ⟨#[114, 49]⟩, ⟨#[117, 49]⟩, ⟨#[122, 122]⟩] w3 _ 4 rfl (by omega) (by omega) (by simp) (by omega) t3.1).mono ?_
  rintro e w4 ⟨nm, hnm, rfl, t4⟩
  have hki : -1 ≤ k ∧ k ≤ 9 := by
    simp only [List.mem_cons, List.not_mem_nil, or_false] at hk
    omega
  clear hk hnm
  go_upto_region 4 with (fail)
  have t24 := (t2.from_alloc.trans t3).trans t4
  have o1 := kept_own O1.out t24.2 (by simp)
  obtain ⟨A', c', he, hPA⟩ := pl_own o1
  obtain ⟨rfl, rfl⟩ : A = A' ∧ c = c' := by simpa using he
  have o2 := kept_own O2.out (t3.trans t4).2 (by have := t1.2.more; simp at *; omega)
  obtain ⟨B', d', he2, hSB⟩ := slat_own o2
  obtain ⟨rfl, rfl⟩ : B = B' ∧ d = d' := by simpa using he2
  have hB := kept_below3 rfl (t1.trans t24).2
  have hg0 : w.heap.size < w1.heap.size := by have := t1.2.more; simp at this; omega
  have hbg := ((t2.trans (t3.trans t4)).2.old w1.heap.size (by simp) (by omega)).trans (blk_new w1 _ rfl)
  have HM : Hid (MadeP w w1.heap.size w4.heap.size key Wd Hg A c l PW PH B d s (w4.alloc (.cells #[.int .i64 PW, .int .i64 PH, .slice B s.length d] 32))) :=
    ⟨blk_alloc hbg _, blk_new w4 _ rfl, hPA.below ((Below.refl _ _).alloc (Nat.le_refl _) _), hSB.below ((Below.refl _ _).alloc (Nat.le_refl _) _), hB.alloc hB.size _⟩
  clear o1 o2 hPA hSB hB t1 t2 t3 t4 t24 O1 O2 he he2 hg0 hbg
  obtain ⟨LN, hLN, hN, hNo, hN0⟩ := needs_all key Wd Hg A c l (by omega)
  obtain ⟨LS, hLS, hS, hSo, hS0⟩ := spots_all key Wd Hg A c l (by omega) PW PH B d s (by omega)
  obtain ⟨E3, sp, hAT, hE3, hSZ, hSPO⟩ := at_all key Wd Hg A c l (by omega) PW PH B d s (by omega) k nm
  have hCP := fun W' (h : PlAt W' A l) => checkProduct_any key Wd Hg A c l (by omega) W' h
  have hCN := fun W' (h : PlAt W' A l) (h2 : SlAt W' B s) => checkPanel_any key Wd Hg A c l (by omega) PW PH B d s (by omega) W' h h2
  have hPF := fun W' (h : PlAt W' A l) => productFault_any key Wd Hg A c l (by omega) W' h
  have hNF := fun W' (h : PlAt W' A l) (h2 : SlAt W' B s) => panelFault_any key Wd Hg A c l (by omega) PW PH B d s (by omega) W' h h2
  have hPL := fun W' (h : PlAt W' A l) => placementAt_any key Wd Hg A c l (by omega) nm W' h
  generalize panErr key Wd Hg l PW PH s = E2 at *
  generalize prodErr key Wd Hg l = E1 at *
  have HN := Lib.hid hN
  have HNo := Lib.hid hNo
  have HN0 := Lib.hid hN0
  have HS := Lib.hid hS
  have HSo := Lib.hid hSo
  have HS0 := Lib.hid hS0
  have HAT := Lib.hid hAT
  have HE3 := Lib.hid hE3
  have HSZ := Lib.hid hSZ
  have HSPO := Lib.hid hSPO
  have HCP := Lib.hid hCP
  have HCN := Lib.hid hCN
  have HPF := Lib.hid hPF
  have HNF := Lib.hid hNF
  have HPL := Lib.hid hPL
  clear hN hNo hN0 hS hSo hS0 hAT hE3 hSZ hSPO hCP hCN hPF hNF hPL
  generalize w4.alloc (.cells #[.int .i64 PW, .int .i64 PH, .slice B s.length d] 32) = w5 at *
  generalize w1.heap.size = g at *
  generalize w4.heap.size = h at *
  obtain ⟨sa, sn, sx, sy, sq⟩ := sp
  obtain ⟨p0, p1, p2, p3⟩ := blk4 HM.out.1
  have hg := lt_of_blk HM.out.1
  go_wp2_with fail
  refine (HN.out _ HM.out.2.2.1).mono ?_
  rintro e w6 ⟨v8, rfl, b6, r8⟩
  have HM6 := Lib.hid (And.intro (HM.out.below b6) r8)
  clear b6 r8 HM p0 p1 p2 p3 hg
  obtain ⟨p0, p1, p2, p3⟩ := blk4 HM6.out.1.1
  obtain ⟨q0, q1, q2, hh⟩ := blk3 HM6.out.1.2.1
  have hg := lt_of_blk HM6.out.1.1
  go_wp2_with fail
  refine (HAT.out _ HM6.out.1.2.2.1 HM6.out.1.2.2.2.1).mono ?_
  rintro e w7 ⟨he, b7⟩
  subst he
  dsimp only [Sp.cells]
  have HM7 := Lib.hid (And.intro (HM6.out.1.below b7) (HM6.out.2.below b7))
  clear b7 HM6 p0 p1 p2 p3 q0 q1 q2 hg hh
  go_upto_region 6 with (fail)
  have HM8 : Hid (MadeP w g h key Wd Hg A c l PW PH B d s (w7.alloc (.cells #[.int .i64 sa, .string sn, .int .i64 sx, .int .i64 sy, .int .i64 sq] 41)) ∧ Reads encNd v8 LN (w7.alloc (.cells #[.int .i64 sa, .string sn, .int .i64 sx, .int .i64 sy, .int .i64 sq] 41)) ∧ (w7.alloc (.cells #[.int .i64 sa, .string sn, .int .i64 sx, .int .i64 sy, .int .i64 sq] 41)).heap[w7.heap.size]? = some (.cells #[.int .i64 sa, .string sn, .int .i64 sx, .int .i64 sy, .int .i64 sq] 41 (0, 0))) := by
    have hb := (Below.refl w7.heap.size w7).alloc (Nat.le_refl _) (.cells #[.int .i64 sa, .string sn, .int .i64 sx, .int .i64 sy, .int .i64 sq] 41)
    exact ⟨HM7.out.1.below hb, HM7.out.2.below hb, blk_new w7 _ rfl⟩
  clear HM7
  generalize w7.alloc (.cells #[.int .i64 sa, .string sn, .int .i64 sx, .int .i64 sy, .int .i64 sq] 41) = w8 at *
  generalize w7.heap.size = j at *
  obtain ⟨p0, p1, p2, p3⟩ := blk4 HM8.out.1.1
  obtain ⟨q0, q1, q2, hh⟩ := blk3 HM8.out.1.2.1
  have hg := lt_of_blk HM8.out.1.1
  go_wp2_with fail
  refine (HS.out _ HM8.out.1.2.2.1 HM8.out.1.2.2.2.1).mono ?_
  rintro e w9 ⟨v12, rfl, b9, r12⟩
  have HM9 : Hid (MadeP w g h key Wd Hg A c l PW PH B d s w9 ∧ Reads encNd v8 LN w9 ∧ Reads Sp.cells v12 LS w9 ∧ w9.heap[j]? = some (.cells #[.int .i64 sa, .string sn, .int .i64 sx, .int .i64 sy, .int .i64 sq] 41 (0, 0))) := ⟨HM8.out.1.below b9, HM8.out.2.1.below b9, r12, blk_below b9 HM8.out.2.2⟩
  clear b9 r12 HM8 p0 p1 p2 p3 q0 q1 q2 hg hh
  go_upto_region 7 with (fail)
  refine Rg.rgL (fun a b => Below a.heap.size a b)
    [(fun vs u => vs 0 = prod key Wd Hg A l.length c), (fun vs u => vs 1 = .int .i64 E1), (fun vs u => vs 2 = prod key Wd Hg A l.length c), (fun vs u => vs 3 = pan PW PH B s.length d)]
    [[], [0], [], []] [some 55, some 56, some 57, some 58, some 59, some 14, some 15] [] (fun _ _ => True) [[], [0], [], [], [0, 1, 2, 3], [0, 1, 2, 3, 4], [0, 1, 2, 3, 4, 5]]
    (by kernel_rfl) (by decide) (by kernel_rfl) (by kernel_rfl) (by kernel_rfl) (by kernel_rfl) (by kernel_rfl) (fun _ => Below.refl _ _) (fun _ _ _ h k => h.ext k) (fun _ _ h => h.size) ?_ trivial ?_ ?_
  · intro t ht vs w w' h hE
    simp only [List.mem_cons, List.not_mem_nil, or_false] at ht
    rcases ht with rfl | rfl | rfl | rfl
    · exact h
    · exact h
    · exact h
    · exact h
  ·
    refine Rg.cons 0 1 rfl (Rg.plain rfl ?_) ?_
    · intro vs W n hn hI hG hT hF K hK
      simp only [Rg.putsD, List.getD_cons_zero, List.getD_cons_succ, Act.put, List.setIfInBounds_toArray, List.set_cons_zero, List.set_cons_succ] at hK ⊢
      clear hn
      clear hF hI
      obtain ⟨m0, m1, m2, m3⟩ := blk4 (blk_below hG HM9.out.1.1)
      have H := Lib.hid hK
      clear hK hT
      go_simp
      exact H.out _ _ (Below.refl _ _) rfl (fun h => by cases h) trivial
    refine Rg.cons 1 2 rfl (Rg.plain rfl ?_) ?_
    · intro vs W n hn hI hG hT hF K hK
      simp only [Rg.putsD, List.getD_cons_zero, List.getD_cons_succ, Act.put, List.setIfInBounds_toArray, List.set_cons_zero, List.set_cons_succ] at hK ⊢
      clear hn
      clear hF hI
      have t0 : vs 0 = prod key Wd Hg A l.length c := hT 0 (by decide)
      have HG := Lib.hid hG
      clear hG
      simp only [t0] at hK
      have H := Lib.hid hK
      clear hK hT
      go_simp
      refine (HPF.out _ (HM9.out.1.2.2.1.below ((Below.refl _ _).drew.then_below HG.out (Nat.le_refl _)))).mono ?_
      rintro e wa ⟨rfl, ba⟩
      exact H.out _ _ ba rfl (fun h => by cases h) trivial
    refine Rg.cons 2 3 rfl (Rg.plain rfl ?_) ?_
    · intro vs W n hn hI hG hT hF K hK
      simp only [Rg.putsD, List.getD_cons_zero, List.getD_cons_succ, Act.put, List.setIfInBounds_toArray, List.set_cons_zero, List.set_cons_succ] at hK ⊢
      clear hn
      clear hF hI
      obtain ⟨m0, m1, m2, m3⟩ := blk4 (blk_below hG HM9.out.1.1)
      have H := Lib.hid hK
      clear hK hT
      go_simp
      exact H.out _ _ (Below.refl _ _) rfl (fun h => by cases h) trivial
    refine Rg.cons 3 4 rfl (Rg.plain rfl ?_) ?_
    · intro vs W n hn hI hG hT hF K hK
      simp only [Rg.putsD, List.getD_cons_zero, List.getD_cons_succ, Act.put, List.setIfInBounds_toArray, List.set_cons_zero, List.set_cons_succ] at hK ⊢
      clear hn
      clear hF hI
      obtain ⟨m0, m1, m2, _⟩ := blk3 (blk_below hG HM9.out.1.2.1)
      have H := Lib.hid hK
      clear hK hT
      go_simp
      exact H.out _ _ (Below.refl _ _) rfl (fun h => by cases h) trivial
    exact Rg.nil
  · intro vs W hG hI hT hF
    have t0 : vs 0 = prod key Wd Hg A l.length c := hT 0 (by decide)
    have t1 : vs 1 = .int .i64 E1 := hT 1 (by decide)
    have t2 : vs 2 = prod key Wd Hg A l.length c := hT 2 (by decide)
    have t3 : vs 3 = pan PW PH B s.length d := hT 3 (by decide)
    simp only [List.length_cons, List.length_nil, Nat.reduceAdd, List.range, List.range.loop, List.drop_succ_cons, List.drop_zero, Rg.putsD, List.getD_cons_zero, List.getD_cons_succ, Act.put, List.setIfInBounds_toArray, List.set_cons_zero, List.set_cons_succ, t0, t1, t2, t3]
    clear hT t0 t1 t2 t3
    have hbw : Below w9.heap.size w9 W := (Below.refl _ _).drew.then_below hG (Nat.le_refl _)
    have HM10 : Hid (MadeP w g h key Wd Hg A c l PW PH B d s W ∧ Reads encNd v8 LN W ∧ Reads Sp.cells v12 LS W ∧ W.heap[j]? = some (.cells #[.int .i64 sa, .string sn, .int .i64 sx, .int .i64 sy, .int .i64 sq] 41 (0, 0))) := ⟨HM9.out.1.below hbw, HM9.out.2.1.below hbw, HM9.out.2.2.1.below hbw, blk_below hbw HM9.out.2.2.2⟩
    clear hF hG hI hbw HM9
    go_wp2_with fail
    refine (HNF.out _ HM10.out.1.2.2.1 HM10.out.1.2.2.2.1).mono ?_
    rintro e w10 ⟨rfl, b10⟩
    have HM11 : Hid (MadeP w g h key Wd Hg A c l PW PH B d s w10 ∧ Reads encNd v8 LN w10 ∧ Reads Sp.cells v12 LS w10 ∧ w10.heap[j]? = some (.cells #[.int .i64 sa, .string sn, .int .i64 sx, .int .i64 sy, .int .i64 sq] 41 (0, 0))) := ⟨HM10.out.1.below b10, HM10.out.2.1.below b10, HM10.out.2.2.1.below b10, blk_below b10 HM10.out.2.2.2⟩
    clear b10 HM10
    obtain ⟨p0, p1, p2, p3⟩ := blk4 HM11.out.1.1
    have hg := lt_of_blk HM11.out.1.1
    go_wp2_with fail
    refine (HPL.out _ HM11.out.1.2.2.1).mono ?_
    rintro e w11 hpa
    obtain ⟨b11, ⟨pn, pp, px, py, pq⟩, has, rfl, hhas⟩ := paPost_all hpa
    have HHAS := Lib.hid hhas
    dsimp only
    have hb := b11.trans (((Below.refl w11.heap.size w11).alloc (Nat.le_refl _) (.cells #[.string pn, .string pp, .int .i64 px, .int .i64 py, .int .i64 pq] 50)).mono b11.size)
    have HM12 : Hid (MadeP w g h key Wd Hg A c l PW PH B d s (w11.alloc (.cells #[.string pn, .string pp, .int .i64 px, .int .i64 py, .int .i64 pq] 50)) ∧ CpMid j w11.heap.size ⟨sa, sn, sx, sy, sq⟩ (.agg #[.string pn, .string pp, .int .i64 px, .int .i64 py, .int .i64 pq]) LN LS v8 v12 (w11.alloc (.cells #[.string pn, .string pp, .int .i64 px, .int .i64 py, .int .i64 pq] 50))) :=
      ⟨HM11.out.1.below hb, blk_below hb HM11.out.2.2.2, ⟨_, rfl, blk_new w11 _ rfl⟩, HM11.out.2.1.below hb, HM11.out.2.2.1.below hb⟩
    clear hb b11 hpa hhas HM11 p0 p1 p2 p3 hg
    go_upto_region 9 with (fail)
    generalize w11.alloc (.cells #[.string pn, .string pp, .int .i64 px, .int .i64 py, .int .i64 pq] 50) = w12 at *
    generalize w11.heap.size = m at *
    obtain ⟨q0, q1, q2, hh⟩ := blk3 HM12.out.1.2.1
    go_cut [18] (fun s18 wc => s18 = .int .i64 E3 ∧ Hid (MadeP w g h key Wd Hg A c l PW PH B d s wc ∧ CpMid j m ⟨sa, sn, sx, sy, sq⟩ (.agg #[.string pn, .string pp, .int .i64 px, .int .i64 py, .int .i64 pq]) LN LS v8 v12 wc))
    case first =>
      by_cases hk0 : k < 0
      · have HF : Hid (errsL [E2, 8] = E3) := by show _ = _; rw [HE3.out, if_pos (.inl (.inl hk0))]
        go_wp2_with fail
        refine (when_any true 8 _).mono ?_
        rintro e wa ⟨he, rfl⟩
        obtain rfl : e = .returned (.int .i64 8) := he
        go_wp2_with fail
        refine (errs_any [E2, 8] (by simp) _ _ _ (line2 (blk_new w12 _ rfl))).mono ?_
        rintro e wb ⟨he, rfl⟩
        subst he
        rw [HF.out]
        go_wp2_with fail
        go_meet
        exact ⟨by trivial, HM12.out.1.below ((Below.refl _ _).alloc (Nat.le_refl _) _), HM12.out.2.below ((Below.refl _ _).alloc (Nat.le_refl _) _)⟩
      by_cases hk1 : (s.length : Int) ≤ k
      · have HF : Hid (errsL [E2, 8] = E3) := by show _ = _; rw [HE3.out, if_pos (.inl (.inr hk1))]
        go_wp2_with fail
        refine (when_any true 8 _).mono ?_
        rintro e wa ⟨he, rfl⟩
        obtain rfl : e = .returned (.int .i64 8) := he
        go_wp2_with fail
        refine (errs_any [E2, 8] (by simp) _ _ _ (line2 (blk_new w12 _ rfl))).mono ?_
        rintro e wb ⟨he, rfl⟩
        subst he
        rw [HF.out]
        go_wp2_with fail
        go_meet
        exact ⟨by trivial, HM12.out.1.below ((Below.refl _ _).alloc (Nat.le_refl _) _), HM12.out.2.below ((Below.refl _ _).alloc (Nat.le_refl _) _)⟩
      cases has
      · have HF : Hid (errsL [E2, 8] = E3) := by
          show _ = _
          rcases HHAS.out with ⟨_, h2⟩ | ⟨h2, _⟩
          · rw [HE3.out, if_pos (.inr h2)]
          · cases h2
        go_wp2_with fail
        refine (when_any true 8 _).mono ?_
        rintro e wa ⟨he, rfl⟩
        obtain rfl : e = .returned (.int .i64 8) := he
        go_wp2_with fail
        refine (errs_any [E2, 8] (by simp) _ _ _ (line2 (blk_new w12 _ rfl))).mono ?_
        rintro e wb ⟨he, rfl⟩
        subst he
        rw [HF.out]
        go_wp2_with fail
        go_meet
        exact ⟨by trivial, HM12.out.1.below ((Below.refl _ _).alloc (Nat.le_refl _) _), HM12.out.2.below ((Below.refl _ _).alloc (Nat.le_refl _) _)⟩
      · have HF : Hid (errsL [E2, 0] = E3) := by
          show _ = _
          rcases HHAS.out with ⟨h2, _⟩ | ⟨_, i, hi, h2, _⟩
          · cases h2
          · rw [HE3.out, if_neg (by rw [h2]; omega)]
        go_wp2_with fail
        refine (when_any false 8 _).mono ?_
        rintro e wa ⟨he, rfl⟩
        obtain rfl : e = .returned (.int .i64 0) := he
        go_wp2_with fail
        refine (errs_any [E2, 0] (by simp) _ _ _ (line2 (blk_new w12 _ rfl))).mono ?_
        rintro e wb ⟨he, rfl⟩
        subst he
        rw [HF.out]
        go_wp2_with fail
        go_meet
        exact ⟨by trivial, HM12.out.1.below ((Below.refl _ _).alloc (Nat.le_refl _) _), HM12.out.2.below ((Below.refl _ _).alloc (Nat.le_refl _) _)⟩
    case rest =>
      clear HM12 q0 q1 q2 hh
      obtain ⟨rfl, HM13⟩ := hcut
      go_upto_if 84 with (fail)
      obtain ⟨p0, p1, p2, p3⟩ := blk4 HM13.out.1.1
      have hg := lt_of_blk HM13.out.1.1
      go_cut [19] (fun s19 wc => Hid (MadeP w g h key Wd Hg A c l PW PH B d s wc ∧ CpMid j m ⟨sa, sn, sx, sy, sq⟩ (.agg #[.string pn, .string pp, .int .i64 px, .int .i64 py, .int .i64 pq]) LN LS v8 v12 wc ∧ Reads encNd s19 LN wc))
      case first =>
        cases h0 : (E1 == 0)
        · have hE : ¬ E1 = 0 := by simpa using h0
          have HL := Lib.hid (HN0.out hE)
          clear hE
          go_wp2_with fail
          go_meet
          exact ⟨HM13.out.1, HM13.out.2, by rw [HL.out]; exact ⟨none, 0, rfl, .inl rfl⟩⟩
        · have hE : E1 = 0 := by simpa using h0
          have CC := Lib.hid (HNo.out hE)
          clear hE
          go_wp2_with fail
          refine (CC.out _ HM13.out.1.2.2.1).mono ?_
          rintro e wa ⟨v, rfl, ba, ra⟩
          have HF : Hid (MadeP w g h key Wd Hg A c l PW PH B d s wa ∧ CpMid j m ⟨sa, sn, sx, sy, sq⟩ (.agg #[.string pn, .string pp, .int .i64 px, .int .i64 py, .int .i64 pq]) LN LS v8 v12 wa ∧ Reads encNd v LN wa) := ⟨HM13.out.1.below ba, HM13.out.2.below ba, ra.reads⟩
          clear ba ra
          go_wp2_with fail
          go_meet
          exact HF
      case rest =>
        clear HM13 p0 p1 p2 p3 hg
        have HM14 := hcut
        clear hcut
        go_upto_if 88 with (fail)
        obtain ⟨p0, p1, p2, p3⟩ := blk4 HM14.out.1.1
        obtain ⟨q0, q1, q2, hh⟩ := blk3 HM14.out.1.2.1
        have hg := lt_of_blk HM14.out.1.1
        go_cut [20] (fun s20 wc => Hid (MadeP w g h key Wd Hg A c l PW PH B d s wc ∧ CpMid j m ⟨sa, sn, sx, sy, sq⟩ (.agg #[.string pn, .string pp, .int .i64 px, .int .i64 py, .int .i64 pq]) LN LS v8 v12 wc ∧ Reads encNd u19 LN wc ∧ Reads Sp.cells s20 LS wc))
        case first =>
          cases h0 : (E2 == 0)
          · have hE : ¬ E2 = 0 := by simpa using h0
            have HL := Lib.hid (HS0.out hE)
            clear hE
            go_wp2_with fail
            go_meet
            exact ⟨HM14.out.1, HM14.out.2.1, HM14.out.2.2, by rw [HL.out]; exact ⟨none, 0, rfl, .inl rfl⟩⟩
          · have hE : E2 = 0 := by simpa using h0
            have CC := Lib.hid (HSo.out hE)
            clear hE
            go_wp2_with fail
            refine (CC.out _ HM14.out.1.2.2.1 HM14.out.1.2.2.2.1).mono ?_
            rintro e wa ⟨v, rfl, ba, ra⟩
            have HF : Hid (MadeP w g h key Wd Hg A c l PW PH B d s wa ∧ CpMid j m ⟨sa, sn, sx, sy, sq⟩ (.agg #[.string pn, .string pp, .int .i64 px, .int .i64 py, .int .i64 pq]) LN LS v8 v12 wa ∧ Reads encNd u19 LN wa ∧ Reads Sp.cells v LS wa) := ⟨HM14.out.1.below ba, HM14.out.2.1.below ba, HM14.out.2.2.below ba, ra.reads⟩
            clear ba ra
            go_wp2_with fail
            go_meet
            exact HF
        case rest =>
          clear HM14 p0 p1 p2 p3 q0 q1 q2 hg hh
          have HM15 := hcut
          clear hcut
          go_upto_if 94 with (fail)
          obtain ⟨wo, rfl⟩ : ∃ wo : World, wo = wc := ⟨_, rfl⟩
          have hq0 : (wo.alloc (.cells #[.int .i64 0, .string ⟨#[]⟩, .int .i64 0, .int .i64 0, .int .i64 0] 41)).heap[wo.heap.size]? = some (.cells #[.int .i64 0, .string ⟨#[]⟩, .int .i64 0, .int .i64 0, .int .i64 0] 41 (0, 0)) := blk_new wo _ rfl
          have hbq := (Below.refl wo.heap.size wo).alloc (Nat.le_refl _) (.cells #[.int .i64 0, .string ⟨#[]⟩, .int .i64 0, .int .i64 0, .int .i64 0] 41)
          generalize wo.alloc (.cells #[.int .i64 0, .string ⟨#[]⟩, .int .i64 0, .int .i64 0, .int .i64 0] 41) = wq at *
          have HQ := Lib.hid (And.intro hq0 hbq)
          obtain ⟨p0, p1, p2, p3⟩ := blk4 (blk_below hbq HM15.out.1.1)
          obtain ⟨q0, q1, q2, hh⟩ := blk3 (blk_below hbq HM15.out.1.2.1)
          have hg := lt_of_blk (blk_below hbq HM15.out.1.1)
          clear hq0 hbq
          go_cut [] (fun wd => Hid (MadeP w g h key Wd Hg A c l PW PH B d s wd ∧ wd.heap[j]? = some (.cells #[.int .i64 sa, .string sn, .int .i64 sx, .int .i64 sy, .int .i64 sq] 41 (0, 0)) ∧ wd.heap[wo.heap.size]? = some (.cells #[.int .i64 sa, .string sn, .int .i64 sx, .int .i64 sy, .int .i64 sq] 41 (0, 0)) ∧ Reads encNd v8 LN wd ∧ Reads Sp.cells v12 LS wd ∧ Reads encNd u19 LN wd ∧ Reads Sp.cells u20 LS wd))
          case first =>
            cases h0 : (E3 == 0)
            · have hE : ¬ E3 = 0 := by simpa using h0
              have hz := HSZ.out hE
              simp only [Sp.mk.injEq] at hz
              obtain ⟨rfl, rfl, rfl, rfl, rfl⟩ := hz
              clear hE
              go_wp2_with fail
              go_meet
              exact ⟨HM15.out.1.below HQ.out.2, blk_below HQ.out.2 HM15.out.2.1.1, HQ.out.1, HM15.out.2.1.2.2.1.below HQ.out.2, HM15.out.2.1.2.2.2.below HQ.out.2, HM15.out.2.2.1.below HQ.out.2, HM15.out.2.2.2.below HQ.out.2⟩
            · have hE : E3 = 0 := by simpa using h0
              have hni : ¬ plIdx nm l 0 = -1 := fun hp => by
                have h1 := HE3.out
                rw [if_pos (.inr hp), hE] at h1
                unfold errsL errsL errsL at h1
                split at h1
                · simp at h1
                · rename_i h2; exact h2 h1.symm
              obtain ⟨i, hi, hpi, hli⟩ : ∃ (i : Nat) (hi : i < l.length), plIdx nm l 0 = i ∧ l[i] = ⟨pn, pp, px, py, pq⟩ := by
                rcases HHAS.out with ⟨_, h2⟩ | ⟨_, h2⟩
                · exact absurd h2 hni
                · exact h2
              have cc := HSPO.out hE i hi hpi
              rw [hli] at cc
              dsimp only [Sp.cells] at cc
              have CC := Lib.hid cc
              obtain ⟨cs, ecs, km⟩ := HM15.out.2.1.2.1
              cases ecs
              obtain ⟨m0, m1, m2, m3, m4⟩ := five (blk_below HQ.out.2 km)
              have hml := lt_of_blk (blk_below HQ.out.2 km)
              clear hE hni hpi hli cc km
              go_wp2_with fail
              refine (CC.out _ (HM15.out.1.2.2.2.1.below HQ.out.2)).mono ?_
              rintro e wa ⟨rfl, ba⟩
              have kq := blk_below ba HQ.out.1
              have HB := Lib.hid (And.intro (HQ.out.2.then_below ba HQ.out.2.size) kq)
              obtain ⟨r0, r1, r2, r3, r4⟩ := five kq
              have f0 := frozen_of_blk kq 0
              have f1 := frozen_of_blk kq 1
              have f2 := frozen_of_blk kq 2
              have f3 := frozen_of_blk kq 3
              have f4 := frozen_of_blk kq 4
              clear ba kq CC p0 p1 p2 p3 q0 q1 q2 m0 m1 m2 m3 m4
              go_wp2_with fail
              go_meet
              have bf := ((((HB.out.1.setCell (p := ⟨wo.heap.size, 0, none⟩) (Nat.le_refl _) (.int .i64 sa)).setCell (p := ⟨wo.heap.size, 1, none⟩) (Nat.le_refl _) (.string sn)).setCell (p := ⟨wo.heap.size, 2, none⟩) (Nat.le_refl _) (.int .i64 sx)).setCell (p := ⟨wo.heap.size, 3, none⟩) (Nat.le_refl _) (.int .i64 sy)).setCell (p := ⟨wo.heap.size, 4, none⟩) (Nat.le_refl _) (.int .i64 sq)
              exact ⟨HM15.out.1.below bf, blk_below bf HM15.out.2.1.1, blk_set (blk_set (blk_set (blk_set (blk_set HB.out.2 _) _) _) _) _, HM15.out.2.1.2.2.1.below bf, HM15.out.2.1.2.2.2.below bf, HM15.out.2.2.1.below bf, HM15.out.2.2.2.below bf⟩
          case rest =>
            clear HQ p0 p1 p2 p3 q0 q1 q2 hh hg
            have HM16 := hcut
            clear hcut
            obtain ⟨p0, p1, p2, p3⟩ := blk4 HM16.out.1.1
            have hg := lt_of_blk HM16.out.1.1
            go_wp2_with fail
            refine (HCP.out _ HM16.out.1.2.2.1).mono ?_
            rintro e wa ⟨rfl, ba⟩
            have HM17 : Hid (MadeP w g h key Wd Hg A c l PW PH B d s wa ∧ wa.heap[j]? = some (.cells #[.int .i64 sa, .string sn, .int .i64 sx, .int .i64 sy, .int .i64 sq] 41 (0, 0)) ∧ wa.heap[wo.heap.size]? = some (.cells #[.int .i64 sa, .string sn, .int .i64 sx, .int .i64 sy, .int .i64 sq] 41 (0, 0)) ∧ Reads encNd v8 LN wa ∧ Reads Sp.cells v12 LS wa ∧ Reads encNd u19 LN wa ∧ Reads Sp.cells u20 LS wa) :=
              ⟨HM16.out.1.below ba, blk_below ba HM16.out.2.1, blk_below ba HM16.out.2.2.1, HM16.out.2.2.2.1.below ba, HM16.out.2.2.2.2.1.below ba, HM16.out.2.2.2.2.2.1.below ba, HM16.out.2.2.2.2.2.2.below ba⟩
            clear ba HM16 p0 p1 p2 p3 hg
            obtain ⟨p0, p1, p2, p3⟩ := blk4 HM17.out.1.1
            obtain ⟨q0, q1, q2, hh⟩ := blk3 HM17.out.1.2.1
            have hg := lt_of_blk HM17.out.1.1
            go_wp2_with fail
            refine (HCN.out _ HM17.out.1.2.2.1 HM17.out.1.2.2.2.1).mono ?_
            rintro e wb ⟨rfl, bb⟩
            have HM18 : Hid (Below w.heap.size w wb ∧ wb.heap[j]? = some (.cells #[.int .i64 sa, .string sn, .int .i64 sx, .int .i64 sy, .int .i64 sq] 41 (0, 0)) ∧ wb.heap[wo.heap.size]? = some (.cells #[.int .i64 sa, .string sn, .int .i64 sx, .int .i64 sy, .int .i64 sq] 41 (0, 0)) ∧ Reads encNd v8 LN wb ∧ Reads Sp.cells v12 LS wb ∧ Reads encNd u19 LN wb ∧ Reads Sp.cells u20 LS wb) :=
              ⟨(HM17.out.1.below bb).2.2.2.2, blk_below bb HM17.out.2.1, blk_below bb HM17.out.2.2.1, HM17.out.2.2.2.1.below bb, HM17.out.2.2.2.2.1.below bb, HM17.out.2.2.2.2.2.1.below bb, HM17.out.2.2.2.2.2.2.below bb⟩
            clear bb HM17 p0 p1 p2 p3 q0 q1 q2 hh hg
            go_wp2_with fail
            refine (equalNeed_any LN hLN _ _ _ HM18.out.2.2.2.1 HM18.out.2.2.2.2.2.1).mono ?_
            rintro e we ⟨rfl, be⟩
            have HM19 : Hid (Below w.heap.size w we ∧ we.heap[j]? = some (.cells #[.int .i64 sa, .string sn, .int .i64 sx, .int .i64 sy, .int .i64 sq] 41 (0, 0)) ∧ we.heap[wo.heap.size]? = some (.cells #[.int .i64 sa, .string sn, .int .i64 sx, .int .i64 sy, .int .i64 sq] 41 (0, 0)) ∧ Reads Sp.cells v12 LS we ∧ Reads Sp.cells u20 LS we) :=
              ⟨HM18.out.1.then_below be HM18.out.1.size, blk_below be HM18.out.2.1, blk_below be HM18.out.2.2.1, HM18.out.2.2.2.2.1.below be, HM18.out.2.2.2.2.2.2.below be⟩
            clear be HM18
            obtain ⟨r0, r1, r2, r3, r4⟩ := five HM19.out.2.1
            obtain ⟨z0, z1, z2, z3, z4⟩ := five HM19.out.2.2.1
            have hj := lt_of_blk HM19.out.2.1
            have hq := lt_of_blk HM19.out.2.2.1
            go_wp2_with fail
            refine (equalSp_any LS hLS _ _ _ HM19.out.2.2.2.1 HM19.out.2.2.2.2).mono ?_
            rintro e wf ⟨rfl, bf⟩
            have HM20 := Lib.hid (HM19.out.1.then_below bf HM19.out.1.size)
            clear bf HM19 r0 r1 r2 r3 r4 z0 z1 z2 z3 z4 hj hq
            go_wp2_with fail
            refine (paneled_any _).mono ?_
            rintro e wz ⟨rfl, bz⟩
            go_wp2_with fail
            go_ret
            exact ⟨rfl, HM20.out.then_below bz HM20.out.size⟩
end Go.Proofs.Ytopnadilfjakiaa
