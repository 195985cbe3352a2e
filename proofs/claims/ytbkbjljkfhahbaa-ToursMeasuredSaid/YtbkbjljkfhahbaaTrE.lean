/-
  Improved: the program's loop.
-/
import Derived.Test.YtbkbjljkfhahbaaTrD
import Derived.Deep.LoopGhost
import Derived.Deep.DeepCutAuto
namespace Go.Proofs.Ytbkbjljkfhahbaa
open Go.RowKit
set_option linter.unusedSimpArgs false
set_option linter.unusedVariables false

/-- What stands in memory. -/
structure IM (w : World) (s : Int × Int) (pv : Value) (A : Option Addr) (n c q gw : Nat) (cur : List Int) (TF TT : Nat) (W : World) : Prop where
  bel : Below w.heap.size w W
  si : SI q s pv (.slice A n c) W
  row : W.ownsRow w.heap.size 3 1 (.slice A n c) n (cur.map (Value.int .i64))
  win : W.heap[gw]? = some (.cells #[.int .i64 TF, .int .i64 TT] 81 (0, 0))
theorem IM.below {w : World} {s : Int × Int} {pv : Value} {A : Option Addr} {n c q gw : Nat} {cur : List Int} {TF TT : Nat} {W W' : World} (h : IM w s pv A n c q gw cur TF TT W) (hb : Below W.heap.size W W') : IM w s pv A n c q gw cur TF TT W' :=
  ⟨h.bel.then_below hb h.bel.size, h.si.below hb, own_below h.row hb, blk_below hb h.win⟩
theorem own_apart {w : World} {B g n c gt j : Nat} {T : TypeId} {xs : List Value} (h : w.ownsRow B T 1 (.slice (some ⟨g, 0, none⟩) n c) n xs) (hg : g ≠ gt) (u : Value) : (w.setCell ⟨gt, j, none⟩ u).ownsRow B T 1 (.slice (some ⟨g, 0, none⟩) n c) n xs := by
  refine ⟨h.1, h.2.imp_right ?_⟩
  rintro ⟨q, cap, cur, hv, hg', hc, rest⟩
  cases hv
  exact ⟨_, _, cur, rfl, hg', blk_far hc hg u, rest⟩
theorem IM.set {w : World} {s : Int × Int} {pv : Value} {g n c q gw : Nat} {cur : List Int} {TF TT : Nat} {W : World} (h : IM w s pv (some ⟨g, 0, none⟩) n c q gw cur TF TT W) {gt : Nat} (h1 : w.heap.size ≤ gt) (h2 : q + 3 < gt) (h3 : gw ≠ gt) (h4 : g < q) (j : Nat) (u : Value) : IM w s pv (some ⟨g, 0, none⟩) n c q gw cur TF TT (W.setCell ⟨gt, j, none⟩ u) :=
  ⟨h.bel.setCell h1 u, ⟨blk_far h.si.k0 (by show q ≠ gt; omega) u, blk_far h.si.k1 (by show q + 1 ≠ gt; omega) u, blk_far h.si.k2 (by show q + 2 ≠ gt; omega) u, blk_far h.si.k3 (by show q + 3 ≠ gt; omega) u⟩, own_apart h.row (by omega) u, blk_far h.win h3 u⟩
/-- What is known in a round. -/
structure IK (s : Int × Int) (l : List (Int × Int)) (o cur : List Int) (i TF TT : Nat) : Prop where
  len : cur.length = o.length
  on : ∀ r, Imp s l cur r → Imp s l o r
  rng : ∀ k ∈ cur, 0 ≤ k ∧ k < (l.length : Int)
  calm : Calm s l cur i (i + 1)
  known : Known s l cur TF TT
  ft : TF = 0 ∨ (TF + 2 ≤ TT ∧ TT ≤ o.length)

set_option maxRecDepth 100000 in
set_option maxHeartbeats 16000000 in
theorem improvedIn_any (s : Int × Int) (l : List (Int × Int)) (o : List Int) (hs : okPt s = true) (hl : ∀ p ∈ l, okPt p = true) (hln : l.length ≤ 1000) (hol : o.length ≤ 1000) (ho : ∀ k ∈ o, 0 ≤ k ∧ k < (l.length : Int)) {pv ov : Value} (w : World) (h1 : Reads encP pv l w) (h2 : Reads encN ov o w) :
    Calls Try.prog 34 #[.agg #[.int .i64 s.1, .int .i64 s.2], pv, ov] w fun e w' => ∃ v, e = .returned v ∧ w'.ownsRow w.heap.size 3 1 v (impL s l o).length ((impL s l o).map (Value.int .i64)) ∧ Below w.heap.size w w' := by
  have HEN := enters_of Try.func56 (by kernel_rfl) rfl
  have HP := Lib.hid h1
  have CK := Lib.hid (fun (W : World) (h : Reads encN ov o W) => cloneN_any o hol h)
  have CT := Lib.hid (fun (cur : List Int) (hcl : cur.length ≤ 1000) (hco : ∀ k ∈ cur, 0 ≤ k ∧ k < (l.length : Int)) (i k : Nat) (hik : i < k) (hk : k < cur.length) (q : Nat) (v : Value) (W : World) (hS : SI q s pv v W) (h1 : Reads encP pv l W) (h2 : Reads encN v cur W) => shorter_any s l cur hs hl hln hcl hco i k hik hk q W hS h1 h2)
  have HSL := Lib.hid (And.intro hs hl)
  have HO := Lib.hid h2
  have HOO := Lib.hid ho
  obtain ⟨s1, s2⟩ := s
  obtain ⟨Ao, co, rfl, _⟩ := h2
  obtain ⟨Ap, cp, rfl, _⟩ := h1
  clear ho hs hl
  dsimp only at *
  have H0 : Hid (Below w.heap.size w (w.alloc (.cells #[.int .i64 s1, .int .i64 s2] 27)) ∧ (w.alloc (.cells #[.int .i64 s1, .int .i64 s2] 27)).heap[w.heap.size]? = some (.cells #[.int .i64 s1, .int .i64 s2] 27 (0, 0))) := ⟨(Below.refl _ _).alloc (Nat.le_refl _) _, blk_new w _ rfl⟩
  go_enter Try.func34, Try.ntmps34
  go_upto_region 1 with (fail)
  generalize w.alloc (.cells #[.int .i64 s1, .int .i64 s2] 27) = w0 at *
  go_wp2_with fail
  refine (CK.out w0 (HO.out.below H0.out.1)).mono ?_
  rintro e w1 ⟨v1, rfl, o1, b1⟩
  have H1 : Hid (Below w.heap.size w w1 ∧ w1.heap[w.heap.size]? = some (.cells #[.int .i64 s1, .int .i64 s2] 27 (0, 0)) ∧ w1.ownsRow w.heap.size 3 1 v1 o.length (o.map (Value.int .i64))) := ⟨H0.out.1.then_below b1 H0.out.1.size, blk_below b1 H0.out.2, own_mono o1 H0.out.1.size⟩
  clear o1 b1 CK H0
  obtain ⟨A, c, rfl, hA⟩ := own_form H1.out.2.2
  have HA : Hid (0 < o.length → ∃ g : Nat, A = some ⟨g, 0, none⟩ ∧ g < w1.heap.size ∧ w.heap.size ≤ g) := hA
  have HC : Hid (0 < o.length → o.length ≤ c) := fun h => by
    rcases H1.out.2.2.2 with ⟨_, h0⟩ | ⟨g', cap', cur, hv, _, _, h1, _⟩
    · omega
    · cases hv; exact h1
  obtain ⟨c0, c00, _, _⟩ := blk2 H1.out.2.1
  have hgl := lt_of_blk H1.out.2.1
  clear hA
  go_wp2_with fail
  refine (shorterIn_any (s1, s2) Ap A l.length o.length cp c w1).mono ?_
  rintro e w2 ⟨rfl, hS2, b2⟩
  have H2 : Hid (IM w (s1, s2) (.slice Ap l.length cp) A o.length c w1.heap.size w2.heap.size o 0 0 (w2.alloc (.cells #[.int .i64 0, .int .i64 0] 81)) ∧ w1.heap.size + 3 < w2.heap.size) :=
    ⟨⟨(H1.out.1.then_below b2 H1.out.1.size).alloc (Nat.le_trans H1.out.1.size b2.size) _, hS2.below ((Below.refl _ _).alloc (Nat.le_refl _) _), (own_below H1.out.2.2 b2).alloc _, blk_new w2 _ rfl⟩, lt_of_blk hS2.k3⟩
  have hz1 : Hid (w.heap.size ≤ w1.heap.size) := H1.out.1.size
  clear H1 hS2 b2 c0 c00 hgl
  go_upto_region 4 with (fail)
  have hq := H2.out.2
  generalize w2.alloc (.cells #[.int .i64 0, .int .i64 0] 81) = wx at *
  generalize w2.heap.size = gw at *
  have HAq : Hid (0 < o.length → ∃ g : Nat, A = some ⟨g, 0, none⟩ ∧ g < w1.heap.size ∧ w.heap.size ≤ g) := HA.out
  generalize w1.heap.size = q at *
  clear HA
  go_wp2_with fail
  go_loopg [9] (mu (lenOf (s1, s2) l o) o.length 0) (fun g v9 wr => ∃ (cur : List Int) (i TF TT : Nat), g = mu (lenOf (s1, s2) l cur) o.length i ∧ v9 = .int .i64 i ∧ i ≤ o.length ∧ TF ≤ o.length ∧ TT ≤ o.length ∧ Hid (IK (s1, s2) l o cur i TF TT) ∧ Hid (IM w (s1, s2) (.slice Ap l.length cp) A o.length c q gw cur TF TT wr))
  case atStart => exact ⟨o, 0, 0, 0, rfl, rfl, by omega, by omega, by omega, ⟨rfl, fun _ h => h, HOO.out, Calm.zero _ _ _, Known.zero _ _ _ _, .inl rfl⟩, H2.out.1⟩
  case round =>
    obtain ⟨cur, i, TF, TT, rfl, rfl, hi, hTF, hTT, HK, HS⟩ := hrel
    clear H2
    by_cases hlt : i < o.length
    rotate_left
    · obtain rfl : i = o.length := by omega
      have HD : Hid (impL (s1, s2) l o = cur) := by
        refine (HK.out.on cur (.done cur fun a b h1 h2 => ?_)).eq.symm
        have := HK.out.len
        exact HK.out.calm a b h1 h2 (.inl (by omega))
      go_wp2_with fail
      refine bodyPost_ret (v := .slice A o.length c) (by unfold results; simp only [Try.results34]; go_simp) rfl ⟨_, rfl, by rw [HD.out, HK.out.len]; exact HS.out.row, HS.out.bel⟩
    · obtain ⟨g, rfl, hgq, hwg⟩ := HAq.out (by omega)
      have hlt2 : (i : Int) < (o.length : Int) := by omega
      obtain ⟨wo, rfl⟩ : ∃ wo : World, wo = wr := ⟨_, rfl⟩
      have HN : Hid (IM w (s1, s2) (.slice Ap l.length cp) (some ⟨g, 0, none⟩) o.length c q gw cur TF TT (wo.alloc (.cells #[.int .i64 ((i : Int) + 1), .int .i64 o.length] 81)) ∧ (wo.alloc (.cells #[.int .i64 ((i : Int) + 1), .int .i64 o.length] 81)).heap[wo.heap.size]? = some (.cells #[.int .i64 ((i : Int) + 1), .int .i64 o.length] 81 (0, 0))) := ⟨HS.out.below ((Below.refl _ _).alloc (Nat.le_refl _) _), blk_new wo _ rfl⟩
      go_upto_region 7 with (fail)
      have hgw := lt_of_blk HS.out.win
      clear HS
      generalize wo.alloc (.cells #[.int .i64 ((i : Int) + 1), .int .i64 o.length] 81) = wn at *
      generalize wo.heap.size = gt at *
      obtain ⟨t0, t1, _, _⟩ := blk2 HN.out.1.win
      have hgw2 := lt_of_blk HN.out.1.win
      obtain ⟨d0, d1, f0, f1⟩ := blk2 HN.out.2
      have hgt := lt_of_blk HN.out.2
      have hlen := HK.out.len
      have HLN := Lib.hid hlen
      clear hlen
      go_upto_if 30 with (fail)
      go_cut [] (fun wc => ∃ F T : Nat, F ≤ 1000 ∧ T ≤ 1000 ∧ Hid (Ends (s1, s2) l cur i F T) ∧ Hid (IM w (s1, s2) (.slice Ap l.length cp) (some ⟨g, 0, none⟩) o.length c q gw cur TF TT wc ∧ wc.heap[gt]? = some (.cells #[.int .i64 F, .int .i64 T] 81 (0, 0))))
      case first =>
        by_cases hif : i < TF
        · have hif2 : (i : Int) < (TF : Int) := by omega
          have e1 : IntKind.i64.wrap ((TF : Int) - 1) = (TF : Int) - 1 := IntWalk.i64_in _ (by omega)
          go_wp2_with fail
          have HE : Hid (Ends (s1, s2) l cur i (max (i + 1) (TF - 1)) TT) := by
            rcases HK.out.ft with h0 | ⟨h1, h2⟩
            · omega
            · refine ⟨by omega, by omega, by rw [HLN.out]; exact h2, fun b h3 h4 h5 => HK.out.known i b hif h3 h4 (by omega)⟩
          have hq3 : q + 3 < gt := by omega
          have hm : (max ((i : Int) + 1) ((TF : Int) - 1)) = ((max (i + 1) (TF - 1) : Nat) : Int) := by omega
          go_meet
          refine ⟨max (i + 1) (TF - 1), TT, by omega, by omega, HE.out, (HN.out.1.set (by have := hz1.out; omega) hq3 (by omega) hgq _ _).set (by have := hz1.out; omega) hq3 (by omega) hgq _ _, ?_⟩
          rw [hm]
          exact blk_set (blk_set HN.out.2 _) _
        · have hif2 : ¬ (i : Int) < (TF : Int) := by omega
          have HE : Hid (Ends (s1, s2) l cur i (i + 1) o.length) := ⟨Nat.le_refl _, by omega, by rw [HLN.out]; omega, fun b h1 h2 h3 => by rw [HLN.out] at h2; omega⟩
          go_wp2_with fail
          go_meet
          exact ⟨i + 1, o.length, by omega, by omega, HE.out, HN.out.1, HN.out.2⟩
      case rest =>
        obtain ⟨F, T, hF1, hT1, HE, HM⟩ := hcut
        clear t0 t1 d0 d1 f0 f1 hgw2 hgt HN
        have hq3 : q + 3 < gt := by omega
        obtain ⟨d0, d1, f0, f1⟩ := blk2 HM.out.2
        have hgt := lt_of_blk HM.out.2
        obtain ⟨wo2, rfl⟩ : ∃ wo2 : World, wo2 = wc := ⟨_, rfl⟩
        have hFT := HE.out.mid
        go_wp2_with fail
        go_loopg [11] (T - F) (fun gm v11 wr => ∃ k : Nat, gm = T - k ∧ F ≤ k ∧ k ≤ T ∧ v11 = .int .i64 k ∧ Hid (∀ b, i < b → b < cur.length → (b < k ∨ T ≤ b) → shw (s1, s2) l cur i b = false) ∧ Hid (IM w (s1, s2) (.slice Ap l.length cp) (some ⟨g, 0, none⟩) o.length c q gw cur TF TT wr ∧ wr.heap[gt]? = some (.cells #[.int .i64 F, .int .i64 T] 81 (0, 0))))
        case atStart => exact ⟨F, rfl, Nat.le_refl _, hFT, rfl, HE.out.rest, HM.out⟩
        case round =>
          obtain ⟨k, rfl, hk1, hk2, rfl, HB, HM2⟩ := hrel
          clear d0 d1 f0 f1 hgt HM
          obtain ⟨d0, d1, f0, f1⟩ := blk2 HM2.out.2
          have hgt := lt_of_blk HM2.out.2
          have hFi := HE.out.low
          have hTl : T ≤ o.length := by have := HE.out.top; rw [HLN.out] at this; exact this
          by_cases hkT : k < T
          · have hkT2 : (k : Int) < (T : Int) := by omega
            have CC := Lib.hid (CT.out cur (by rw [HLN.out]; exact hol) HK.out.rng i k (by omega) (by rw [HLN.out]; omega) q _ wr HM2.out.1.si (HP.out.below HM2.out.1.bel) (readsN_own' HM2.out.1.row HLN.out.symm))
            cases hsh : shw (s1, s2) l cur i k
            · rw [hsh] at CC
              have HSH := Lib.hid hsh
              clear hsh
              simp only [isF]
              go_wp2_with fail
              refine CC.out.mono ?_
              rintro e w9 ⟨rfl, b9⟩
              have HM3 : Hid (IM w (s1, s2) (.slice Ap l.length cp) (some ⟨g, 0, none⟩) o.length c q gw cur TF TT w9 ∧ w9.heap[gt]? = some (.cells #[.int .i64 F, .int .i64 T] 81 (0, 0))) := ⟨HM2.out.1.below b9, blk_below b9 HM2.out.2⟩
              have HB2 : Hid (∀ b, i < b → b < cur.length → (b < k + 1 ∨ T ≤ b) → shw (s1, s2) l cur i b = false) := fun b h1 h2 h3 => by
                by_cases hbk : b = k
                · rw [hbk]; exact HSH.out
                · exact HB.out b h1 h2 (by omega)
              clear b9 CC HM2 d0 d1 f0 f1 hgt HB CT
              go_wp2_with fail
              go_roundg (T - (k + 1))
              case measure => omega
              case rel => exact ⟨k + 1, rfl, by omega, by omega, by go_num, HB2.out, HM3.out⟩
            · rw [hsh] at CC
              have HSH := Lib.hid hsh
              clear hsh
              simp only [isF]
              go_wp2_with fail
              refine CC.out.mono ?_
              rintro e w9 ⟨rfl, b9⟩
              have HM3 : Hid (IM w (s1, s2) (.slice Ap l.length cp) (some ⟨g, 0, none⟩) o.length c q gw cur TF TT w9 ∧ w9.heap[gt]? = some (.cells #[.int .i64 F, .int .i64 T] 81 (0, 0))) := ⟨HM2.out.1.below b9, blk_below b9 HM2.out.2⟩
              have hcap := HC.out (by omega)
              have hkc : k < cur.length := by rw [HLN.out]; omega
              have CR := Lib.hid (reverse_own HM3.out.1.row (by omega : i ≤ k) hkc (by rw [HLN.out]; exact hol))
              have HCA : Hid (Calm (s1, s2) l cur i k) := fun a b h1 h2 h3 => by
                rcases h3 with h3 | ⟨h3, h4⟩
                · exact HK.out.calm a b h1 h2 (.inl h3)
                · rw [h3]; exact HB.out b (by omega) h2 (.inl h4)
              have HIN : Hid (i < k) := by show i < k; omega
              have HNX : Hid (IK (s1, s2) l o (tl cur i k) 0 i (k + 1)) :=
                ⟨(tl_len (by omega) hkc).trans HLN.out, Imp.back HK.out.on HIN.out hkc HCA.out HSH.out, fun x hx => HK.out.rng x (tl_mem hx), Calm.zero _ _ _, HCA.out.known HIN.out hkc, .inr ⟨by have := HIN.out; omega, by omega⟩⟩
              have HMU : Hid (mu (lenOf (s1, s2) l (tl cur i k)) o.length 0 < mu (lenOf (s1, s2) l cur) o.length i) := mu_down (lenFrom_bd HSL.out.1 HSL.out.2 (tl cur i k) (s1, s2) HSL.out.1).1 (tl_short (by omega) hkc HSH.out)
              obtain ⟨d0, d1, f0, f1⟩ := blk2 HM3.out.2
              have hgt2 := lt_of_blk HM3.out.2
              have hkne : ((k : Int) == (T : Int)) = false := beq_eq_false_iff_ne.mpr (by omega)
              have i1 : (0 : Int) ≤ (i : Int) := by omega
              clear b9 CC HM2 HB CT hgt hkc
              go_wp2_with fail
              refine (CR.out _).mono ?_
              rintro e w10 ⟨rfl, o10, k10⟩
              have hwin : w10.heap[gw]? = some (.cells #[.int .i64 TF, .int .i64 TT] 81 (0, 0)) := (k10.old _ (lt_of_blk HM3.out.1.win) (by omega)).trans HM3.out.1.win
              have HM4 : Hid (IM w (s1, s2) (.slice Ap l.length cp) (some ⟨g, 0, none⟩) o.length c q gw (tl cur i k) TF TT w10) :=
                ⟨below_kept HM3.out.1.bel k10 hwg HM3.out.1.bel.size, HM3.out.1.si.kept k10 (.inr hgq), o10, hwin⟩
              obtain ⟨t0, t1, f2, f3⟩ := blk2 hwin
              have hgw4 := lt_of_blk hwin
              clear o10 k10 CR HM3 hwin d0 d1 f0 f1 hgt2
              go_wp2_with fail
              have HM5 : Hid (IM w (s1, s2) (.slice Ap l.length cp) (some ⟨g, 0, none⟩) o.length c q gw (tl cur i k) i (k + 1) ((w10.setCell ⟨gw, 0, none⟩ (.int .i64 i)).setCell ⟨gw, 1, none⟩ (.int .i64 ((k : Int) + 1)))) := by
                obtain ⟨m1, m2, m3, m4⟩ := HM4.out
                refine ⟨(m1.setCell (by have := hz1.out; show _ ≤ gw; omega) _).setCell (by have := hz1.out; show _ ≤ gw; omega) _, ⟨?_, ?_, ?_, ?_⟩, own_apart (own_apart m3 (by omega) _) (by omega) _, blk_set (blk_set m4 _) _⟩
                · exact blk_far (blk_far m2.k0 (by show q ≠ gw; omega) _) (by show q ≠ gw; omega) _
                · exact blk_far (blk_far m2.k1 (by show q + 1 ≠ gw; omega) _) (by show q + 1 ≠ gw; omega) _
                · exact blk_far (blk_far m2.k2 (by show q + 2 ≠ gw; omega) _) (by show q + 2 ≠ gw; omega) _
                · exact blk_far (blk_far m2.k3 (by show q + 3 ≠ gw; omega) _) (by show q + 3 ≠ gw; omega) _
              go_roundg (mu (lenOf (s1, s2) l (tl cur i k)) o.length 0)
              case measure => exact HMU.out
              case rel => exact ⟨tl cur i k, 0, i, k + 1, rfl, rfl, by omega, by omega, by omega, HNX.out, HM5.out⟩
          · obtain rfl : k = T := by omega
            have HNX : Hid (IK (s1, s2) l o cur (i + 1) TF TT) := ⟨HLN.out, HK.out.on, HK.out.rng, fun a b h1 h2 h3 => by
              by_cases ha : a = i
              · rw [ha]; exact HB.out b (by omega) h2 (by omega)
              · exact HK.out.calm a b h1 h2 (.inl (by omega)), HK.out.known, HK.out.ft⟩
            clear CT HB
            go_wp2_with fail
            go_roundg (mu (lenOf (s1, s2) l cur) o.length (i + 1))
            case measure => exact mu_next hlt
            case rel => exact ⟨cur, i + 1, TF, TT, rfl, by go_num, by omega, hTF, hTT, HNX.out, HM2.out.1⟩
end Go.Proofs.Ytbkbjljkfhahbaa
