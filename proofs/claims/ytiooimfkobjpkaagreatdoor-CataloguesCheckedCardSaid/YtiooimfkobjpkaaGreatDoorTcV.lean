/-
  The reference writes catalogues: a strings.Builder.
-/
import Derived.Test.YtiooimfkobjpkaaGreatDoorTcT
import Derived.Test.YtiooimfkobjpkaaGreatDoorTpL
namespace Go.Proofs.YtiooimfkobjpkaaGreatDoor
open Go.RowKit
set_option linter.unusedSimpArgs false
set_option linter.unusedVariables false

theorem partLine_eq (p : Pa) : lineB (partW p) = ⟨#[112, 97, 114, 116, 32]⟩ ++ p.key ++ ⟨#[32]⟩ ++ p.pk ++ ⟨#[32]⟩ ++ itB p.lv ++ ⟨#[32]⟩ ++ itB p.bk ++ ⟨#[10]⟩ := by
  unfold partW
  rw [line5, show dPart ++ (⟨#[32]⟩ : ByteArray) = ⟨#[112, 97, 114, 116, 32]⟩ from by apply ba_eq; rw [bt_append]; rfl]
theorem altLine_eq (a : Al) : lineB (altW a) = wayB a.both ++ ⟨#[32]⟩ ++ a.by_ ++ ⟨#[32, 102, 111, 114, 32]⟩ ++ a.par ++ ⟨#[10]⟩ := by
  unfold altW
  rw [line4]
  apply ba_eq
  have h : bt (⟨#[32, 102, 111, 114, 32]⟩ : ByteArray) = bt ⟨#[32]⟩ ++ (bt dFor ++ bt ⟨#[32]⟩) := rfl
  simp only [bt_append, List.append_assoc, h]
abbrev SB (w : World) (s : ByteArray) (W : World) : Prop := Lib.IsBuilder 70 5 (w.heap.size + 1) (w.heap.size + 1) (Lib.strCells s) W

set_option maxRecDepth 100000 in
set_option maxHeartbeats 16000000 in
theorem catLines_any (l : List Pa) (hl : l.length ≤ 100) (al : List Al) (ha : al.length ≤ 900) (hE : catErr l al = 0) {pv av : Value} (w : World) (h1 : Reads encPa pv l w) (h2 : Reads encAl av al w) (hGl : Gl w) (hw : gLow ≤ w.heap.size) :
    Calls Tryz.prog 8 #[.agg #[pv, av]] w fun e w' => e = .returned (.string (catB l al)) ∧ Below w.heap.size w w' := by
  have HP := Lib.hid (catErr_fit hE)
  have HR1 := Lib.hid h1
  have HR2 := Lib.hid h2
  obtain ⟨Ap, cp, rfl, _⟩ := h1
  obtain ⟨Aa, ca, rfl, _⟩ := h2
  clear hE
  have CS := Lib.hid (fun (W : World) (hW : Lib.IsBuilder 70 5 (w.heap.size + 1) (w.heap.size + 1) (Lib.byteCells (bt (catB l al))) W) (hz : w.heap.size + 1 ≤ W.heap.size) => Tryz.Builder_String_any (w.heap.size + 1) (w.heap.size + 1) (bt (catB l al)) W hW hz)
  rw [show (⟨(bt (catB l al)).toArray⟩ : ByteArray) = catB l al from rfl] at CS
  have HS1 : Hid (CT w (.slice Ap l.length cp) (.slice Aa al.length ca) ((w.alloc (.cells #[.slice Ap l.length cp, .slice Aa al.length ca] 29)).alloc (.cells #[.pointer none, .slice none 0 0] 70)) ∧ SB w (catB (l.take 0) []) ((w.alloc (.cells #[.slice Ap l.length cp, .slice Aa al.length ca] 29)).alloc (.cells #[.pointer none, .slice none 0 0] 70))) := by
    refine ⟨⟨((Below.refl _ _).alloc (Nat.le_refl _) _).alloc (by simp) _, blk_alloc (blk_new w _ rfl) _⟩, ?_⟩
    have h := isB_new (w.alloc (.cells #[.slice Ap l.length cp, .slice Aa al.length ca] 29))
    rw [List.take_zero, catB_nil]
    simp only [World.size_alloc] at h
    exact h
  go_enter Tryz.func8, Tryz.ntmps8
  go_upto_region 2 with (fail)
  generalize (w.alloc (.cells #[.slice Ap l.length cp, .slice Aa al.length ca] 29)).alloc (.cells #[.pointer none, .slice none 0 0] 70) = w1 at *
  obtain ⟨c0, c1, _, _⟩ := blk2 HS1.out.1.k0
  have hgl := lt_of_blk HS1.out.1.k0
  have hz1 : w.heap.size + 1 ≤ w1.heap.size := hgl
  go_wp2_with fail
  clear c0 c1 hgl
  go_loopw [12] (fun kk wr => ∃ k : Nat, k ≤ l.length ∧ kk = .int .i64 k ∧ w.heap.size + 1 ≤ wr.heap.size ∧ Hid (CT w (.slice Ap l.length cp) (.slice Aa al.length ca) wr ∧ SB w (catB (l.take k) []) wr)) (fun kk _ => l.length - (intOf kk).toNat)
  case atStart => exact ⟨0, by omega, rfl, hz1, HS1⟩
  case round =>
    obtain ⟨k, hk, rfl, hwz, HS⟩ := hrel
    clear HS1
    by_cases hlt : k < l.length
    · obtain ⟨p, hp⟩ : ∃ p, l[k] = p := ⟨_, rfl⟩
      have HN := Lib.hid (catB_part l hlt)
      rw [hp] at HN
      have hok : PaFit p := HP.out.1 p (by rw [← hp]; exact List.getElem_mem hlt)
      obtain ⟨A', c', e, hr⟩ := HR1.out.below HS.out.1.bel
      cases e
      rcases hr with rfl | ⟨g, rfl, hrow⟩
      · simp at hlt
      obtain ⟨q0, q1, q2, q3⟩ := row_pa hrow hlt
      rw [hp] at q0 q1 q2 q3
      have HLN := Lib.hid (partLine_eq p)
      have HSZ := Lib.hid (partLine_size hok)
      have HOK := Lib.hid hok
      clear hok
      obtain ⟨key, pk, lv, bk⟩ := p
      dsimp only at q0 q1 q2 q3 HLN
      have hg1 : g < wr.heap.size := hrow.1
      have zk : key.size ≤ 40 := HOK.out.key
      have zp : pk.size ≤ 40 := HOK.out.pk
      have CI := Lib.hid (fun (n : Int) (h0 : -500000 ≤ n) (h1 : n ≤ 720000000) (u : World) (hu : Below w.heap.size w u) => itoa_any n (by omega) (by omega) u (hGl.below hu hw))
      have HL1 : Hid (0 ≤ lv ∧ lv ≤ 6 ∧ 0 ≤ bk ∧ bk ≤ 720000000) := ⟨by have := HOK.out.lv.1; dsimp only at this; omega, HOK.out.lv.2, HOK.out.bk.1, HOK.out.bk.2⟩
      have zx := itB_size (n := lv) (by have := HL1.out.1; omega) (by have := HL1.out.2.1; omega)
      have zy := itB_size (n := bk) (by have := HL1.out.2.2.1; omega) (by have := HL1.out.2.2.2; omega)
      have HZ : Hid ((catB (l.take k) []).size ≤ 100000) := by
        have h := catB_size (l := l.take k) (al := []) (fun p hp => HP.out.1 p (List.mem_of_mem_take hp)) (fun a ha => by cases ha)
        have h2 : (l.take k).length ≤ 100 := by rw [List.length_take]; omega
        show _ ≤ _
        simp only [List.length_nil] at h
        omega
      have H6 : Hid (CF w (.slice (some ⟨g, 0, none⟩) l.length cp) (.slice Aa al.length ca) wr.heap.size #[.string key, .string pk, .int .i64 lv, .int .i64 bk] 47 (wr.alloc (.cells #[.string key, .string pk, .int .i64 lv, .int .i64 bk] 47)) ∧ SB w (catB (l.take k) []) (wr.alloc (.cells #[.string key, .string pk, .int .i64 lv, .int .i64 bk] 47))) :=
        ⟨⟨HS.out.1.below ((Below.refl _ _).alloc (Nat.le_refl _) _), blk_new wr _ rfl⟩, isB_below HS.out.2 ((Below.refl _ _).alloc (Nat.le_refl _) _)⟩
      have i1 : (0 : Int) ≤ (k : Int) := by omega
      have i2 : (k : Int) < (l.length : Int) := by omega
      clear hrow hp HS
      go_upto_region 5 with (fail)
      generalize wr.alloc (.cells #[.string key, .string pk, .int .i64 lv, .int .i64 bk] 47) = wx at *
      generalize wr.heap.size = gp at *
      have hxl := lt_of_blk H6.out.1.kp
      have hzx := H6.out.1.ct.bel.size
      clear q0 q1 q2 q3 hg1
      refine Rg.rgL (fun a b => Below a.heap.size a b)
        [(fun vs u => vs 0 = .pointer (some ⟨gp, 0, none⟩)), (fun vs u => vs 1 = .string key), (fun vs u => vs 2 = .string (⟨#[112, 97, 114, 116, 32]⟩ ++ key)), (fun vs u => vs 3 = .string (⟨#[112, 97, 114, 116, 32]⟩ ++ key ++ ⟨#[32]⟩)), (fun vs u => vs 4 = .pointer (some ⟨gp, 1, none⟩)), (fun vs u => vs 5 = .string pk), (fun vs u => vs 6 = .string (⟨#[112, 97, 114, 116, 32]⟩ ++ key ++ ⟨#[32]⟩ ++ pk)), (fun vs u => vs 7 = .string (⟨#[112, 97, 114, 116, 32]⟩ ++ key ++ ⟨#[32]⟩ ++ pk ++ ⟨#[32]⟩)), (fun vs u => vs 8 = .pointer (some ⟨gp, 2, none⟩)), (fun vs u => vs 9 = .int .i64 lv), (fun vs u => vs 10 = .string (itB lv)), (fun vs u => vs 11 = .string (⟨#[112, 97, 114, 116, 32]⟩ ++ key ++ ⟨#[32]⟩ ++ pk ++ ⟨#[32]⟩ ++ itB lv)), (fun vs u => vs 12 = .string (⟨#[112, 97, 114, 116, 32]⟩ ++ key ++ ⟨#[32]⟩ ++ pk ++ ⟨#[32]⟩ ++ itB lv ++ ⟨#[32]⟩)), (fun vs u => vs 13 = .pointer (some ⟨gp, 3, none⟩)), (fun vs u => vs 14 = .int .i64 bk), (fun vs u => vs 15 = .string (itB bk))]
        [[], [0], [0, 1], [0, 1, 2], [], [4], [0, 1, 2, 3, 4, 5], [0, 1, 2, 3, 4, 5, 6], [], [8], [8, 9], [0, 1, 2, 3, 4, 5, 6, 7, 8, 9, 10], [0, 1, 2, 3, 4, 5, 6, 7, 8, 9, 10, 11], [], [13], [8, 9, 10, 13, 14]] [some 16, some 17, some 18, some 19, some 20, some 21, some 22, some 23, some 24, some 25, some 26, some 27, some 28, some 29, some 30, some 31, some 32, some 33, some 34] [] (fun _ _ => True) [[], [0], [0, 1], [0, 1, 2], [], [4], [0, 1, 2, 3, 4, 5], [0, 1, 2, 3, 4, 5, 6], [], [8], [8, 9], [0, 1, 2, 3, 4, 5, 6, 7, 8, 9, 10], [0, 1, 2, 3, 4, 5, 6, 7, 8, 9, 10, 11], [], [13], [8, 9, 10, 13, 14], [0, 1, 2, 3, 4, 5, 6, 7, 8, 9, 10, 11, 12, 13, 14, 15], [0, 1, 2, 3, 4, 5, 6, 7, 8, 9, 10, 11, 12, 13, 14, 15, 16], [0, 1, 2, 3, 4, 5, 6, 7, 8, 9, 10, 11, 12, 13, 14, 15, 16, 17]]
        (by kernel_rfl) (by decide) (by kernel_rfl) (by kernel_rfl) (by kernel_rfl) (by kernel_rfl) (by kernel_rfl) (fun _ => Below.refl _ _) (fun _ _ _ h k => h.ext k) (fun _ _ h => h.size) ?_ trivial ?_ ?_
      · intro t ht vs w w' h hE
        simp only [List.mem_cons, List.not_mem_nil, or_false] at ht
        rcases ht with rfl | rfl | rfl | rfl | rfl | rfl | rfl | rfl | rfl | rfl | rfl | rfl | rfl | rfl | rfl | rfl
        · exact h
        · exact h
        · exact h
        · exact h
        · exact h
        · exact h
        · exact h
        · exact h
        · exact h
        · exact h
        · exact h
        · exact h
        · exact h
        · exact h
        · exact h
        · exact h
      ·
        refine Rg.cons 0 1 rfl (Rg.plain rfl ?_) ?_
        · intro vs W n hn hI hG hT hF K hK
          simp only [Rg.putsD, List.getD_cons_zero, List.getD_cons_succ, Act.put, List.setIfInBounds_toArray, List.set_cons_zero, List.set_cons_succ] at hK ⊢
          clear hn
          clear hF hI
          have H := Lib.hid hK
          clear hK hT
          go_simp
          exact H.out _ _ (Below.refl _ _) rfl (fun h => by cases h) trivial
        refine Rg.cons 1 2 rfl (Rg.plain rfl ?_) ?_
        · intro vs W n hn hI hG hT hF K hK
          simp only [Rg.putsD, List.getD_cons_zero, List.getD_cons_succ, Act.put, List.setIfInBounds_toArray, List.set_cons_zero, List.set_cons_succ] at hK ⊢
          clear hn
          clear hF hI
          have t0 : vs 0 = .pointer (some ⟨gp, 0, none⟩) := hT 0 (by decide)
          obtain ⟨c0, c1, c2, c3⟩ := blk4 (blk_below hG H6.out.1.kp)
          simp only [t0] at hK
          have H := Lib.hid hK
          clear hK hT
          go_simp
          exact H.out _ _ (Below.refl _ _) rfl (fun h => by cases h) trivial
        refine Rg.cons 2 3 rfl (Rg.plain rfl ?_) ?_
        · intro vs W n hn hI hG hT hF K hK
          simp only [Rg.putsD, List.getD_cons_zero, List.getD_cons_succ, Act.put, List.setIfInBounds_toArray, List.set_cons_zero, List.set_cons_succ] at hK ⊢
          clear hn
          clear hF hI
          have t0 : vs 0 = .pointer (some ⟨gp, 0, none⟩) := hT 0 (by decide)
          have t1 : vs 1 = .string key := hT 1 (by decide)
          have hn1 : ¬ 9223372036854775807 < 5 + key.size := by omega
          simp only [t0, t1] at hK
          have H := Lib.hid hK
          clear hK hT
          go_simp
          exact H.out _ _ (Below.refl _ _) rfl (fun h => by cases h) trivial
        refine Rg.cons 3 4 rfl (Rg.plain rfl ?_) ?_
        · intro vs W n hn hI hG hT hF K hK
          simp only [Rg.putsD, List.getD_cons_zero, List.getD_cons_succ, Act.put, List.setIfInBounds_toArray, List.set_cons_zero, List.set_cons_succ] at hK ⊢
          clear hn
          clear hF hI
          have t0 : vs 0 = .pointer (some ⟨gp, 0, none⟩) := hT 0 (by decide)
          have t1 : vs 1 = .string key := hT 1 (by decide)
          have t2 : vs 2 = .string (⟨#[112, 97, 114, 116, 32]⟩ ++ key) := hT 2 (by decide)
          have hn1 : ¬ 9223372036854775807 < 5 + key.size + 1 := by omega
          simp only [t0, t1, t2] at hK
          have H := Lib.hid hK
          clear hK hT
          go_simp
          exact H.out _ _ (Below.refl _ _) rfl (fun h => by cases h) trivial
        refine Rg.cons 4 5 rfl (Rg.plain rfl ?_) ?_
        · intro vs W n hn hI hG hT hF K hK
          simp only [Rg.putsD, List.getD_cons_zero, List.getD_cons_succ, Act.put, List.setIfInBounds_toArray, List.set_cons_zero, List.set_cons_succ] at hK ⊢
          clear hn
          clear hF hI
          have H := Lib.hid hK
          clear hK hT
          go_simp
          exact H.out _ _ (Below.refl _ _) rfl (fun h => by cases h) trivial
        refine Rg.cons 5 6 rfl (Rg.plain rfl ?_) ?_
        · intro vs W n hn hI hG hT hF K hK
          simp only [Rg.putsD, List.getD_cons_zero, List.getD_cons_succ, Act.put, List.setIfInBounds_toArray, List.set_cons_zero, List.set_cons_succ] at hK ⊢
          clear hn
          clear hF hI
          have t4 : vs 4 = .pointer (some ⟨gp, 1, none⟩) := hT 4 (by decide)
          obtain ⟨c0, c1, c2, c3⟩ := blk4 (blk_below hG H6.out.1.kp)
          simp only [t4] at hK
          have H := Lib.hid hK
          clear hK hT
          go_simp
          exact H.out _ _ (Below.refl _ _) rfl (fun h => by cases h) trivial
        refine Rg.cons 6 7 rfl (Rg.plain rfl ?_) ?_
        · intro vs W n hn hI hG hT hF K hK
          simp only [Rg.putsD, List.getD_cons_zero, List.getD_cons_succ, Act.put, List.setIfInBounds_toArray, List.set_cons_zero, List.set_cons_succ] at hK ⊢
          clear hn
          clear hF hI
          have t0 : vs 0 = .pointer (some ⟨gp, 0, none⟩) := hT 0 (by decide)
          have t1 : vs 1 = .string key := hT 1 (by decide)
          have t2 : vs 2 = .string (⟨#[112, 97, 114, 116, 32]⟩ ++ key) := hT 2 (by decide)
          have t3 : vs 3 = .string (⟨#[112, 97, 114, 116, 32]⟩ ++ key ++ ⟨#[32]⟩) := hT 3 (by decide)
          have t4 : vs 4 = .pointer (some ⟨gp, 1, none⟩) := hT 4 (by decide)
          have t5 : vs 5 = .string pk := hT 5 (by decide)
          have hn1 : ¬ 9223372036854775807 < 5 + key.size + 1 + pk.size := by omega
          simp only [t0, t1, t2, t3, t4, t5] at hK
          have H := Lib.hid hK
          clear hK hT
          go_simp
          exact H.out _ _ (Below.refl _ _) rfl (fun h => by cases h) trivial
        refine Rg.cons 7 8 rfl (Rg.plain rfl ?_) ?_
        · intro vs W n hn hI hG hT hF K hK
          simp only [Rg.putsD, List.getD_cons_zero, List.getD_cons_succ, Act.put, List.setIfInBounds_toArray, List.set_cons_zero, List.set_cons_succ] at hK ⊢
          clear hn
          clear hF hI
          have t0 : vs 0 = .pointer (some ⟨gp, 0, none⟩) := hT 0 (by decide)
          have t1 : vs 1 = .string key := hT 1 (by decide)
          have t2 : vs 2 = .string (⟨#[112, 97, 114, 116, 32]⟩ ++ key) := hT 2 (by decide)
          have t3 : vs 3 = .string (⟨#[112, 97, 114, 116, 32]⟩ ++ key ++ ⟨#[32]⟩) := hT 3 (by decide)
          have t4 : vs 4 = .pointer (some ⟨gp, 1, none⟩) := hT 4 (by decide)
          have t5 : vs 5 = .string pk := hT 5 (by decide)
          have t6 : vs 6 = .string (⟨#[112, 97, 114, 116, 32]⟩ ++ key ++ ⟨#[32]⟩ ++ pk) := hT 6 (by decide)
          have hn1 : ¬ 9223372036854775807 < 5 + key.size + 1 + pk.size + 1 := by omega
          simp only [t0, t1, t2, t3, t4, t5, t6] at hK
          have H := Lib.hid hK
          clear hK hT
          go_simp
          exact H.out _ _ (Below.refl _ _) rfl (fun h => by cases h) trivial
        refine Rg.cons 8 9 rfl (Rg.plain rfl ?_) ?_
        · intro vs W n hn hI hG hT hF K hK
          simp only [Rg.putsD, List.getD_cons_zero, List.getD_cons_succ, Act.put, List.setIfInBounds_toArray, List.set_cons_zero, List.set_cons_succ] at hK ⊢
          clear hn
          clear hF hI
          have H := Lib.hid hK
          clear hK hT
          go_simp
          exact H.out _ _ (Below.refl _ _) rfl (fun h => by cases h) trivial
        refine Rg.cons 9 10 rfl (Rg.plain rfl ?_) ?_
        · intro vs W n hn hI hG hT hF K hK
          simp only [Rg.putsD, List.getD_cons_zero, List.getD_cons_succ, Act.put, List.setIfInBounds_toArray, List.set_cons_zero, List.set_cons_succ] at hK ⊢
          clear hn
          clear hF hI
          have t8 : vs 8 = .pointer (some ⟨gp, 2, none⟩) := hT 8 (by decide)
          obtain ⟨c0, c1, c2, c3⟩ := blk4 (blk_below hG H6.out.1.kp)
          simp only [t8] at hK
          have H := Lib.hid hK
          clear hK hT
          go_simp
          exact H.out _ _ (Below.refl _ _) rfl (fun h => by cases h) trivial
        refine Rg.cons 10 11 rfl (Rg.plain rfl ?_) ?_
        · intro vs W n hn hI hG hT hF K hK
          simp only [Rg.putsD, List.getD_cons_zero, List.getD_cons_succ, Act.put, List.setIfInBounds_toArray, List.set_cons_zero, List.set_cons_succ] at hK ⊢
          clear hn
          clear hF hI
          have t8 : vs 8 = .pointer (some ⟨gp, 2, none⟩) := hT 8 (by decide)
          have t9 : vs 9 = .int .i64 lv := hT 9 (by decide)
          have HG := Lib.hid hG
          clear hG
          simp only [t8, t9] at hK
          have H := Lib.hid hK
          clear hK hT
          go_simp
          refine (CI.out lv (by have := HL1.out.1; omega) (by have := HL1.out.2.1; omega) _ (H6.out.1.ct.bel.drew.then_below HG.out hzx)).mono ?_
          rintro e w6 ⟨rfl, b6⟩
          exact H.out _ _ b6 rfl (fun h => by cases h) trivial
        refine Rg.cons 11 12 rfl (Rg.plain rfl ?_) ?_
        · intro vs W n hn hI hG hT hF K hK
          simp only [Rg.putsD, List.getD_cons_zero, List.getD_cons_succ, Act.put, List.setIfInBounds_toArray, List.set_cons_zero, List.set_cons_succ] at hK ⊢
          clear hn
          clear hF hI
          have t0 : vs 0 = .pointer (some ⟨gp, 0, none⟩) := hT 0 (by decide)
          have t1 : vs 1 = .string key := hT 1 (by decide)
          have t2 : vs 2 = .string (⟨#[112, 97, 114, 116, 32]⟩ ++ key) := hT 2 (by decide)
          have t3 : vs 3 = .string (⟨#[112, 97, 114, 116, 32]⟩ ++ key ++ ⟨#[32]⟩) := hT 3 (by decide)
          have t4 : vs 4 = .pointer (some ⟨gp, 1, none⟩) := hT 4 (by decide)
          have t5 : vs 5 = .string pk := hT 5 (by decide)
          have t6 : vs 6 = .string (⟨#[112, 97, 114, 116, 32]⟩ ++ key ++ ⟨#[32]⟩ ++ pk) := hT 6 (by decide)
          have t7 : vs 7 = .string (⟨#[112, 97, 114, 116, 32]⟩ ++ key ++ ⟨#[32]⟩ ++ pk ++ ⟨#[32]⟩) := hT 7 (by decide)
          have t8 : vs 8 = .pointer (some ⟨gp, 2, none⟩) := hT 8 (by decide)
          have t9 : vs 9 = .int .i64 lv := hT 9 (by decide)
          have t10 : vs 10 = .string (itB lv) := hT 10 (by decide)
          have hn1 : ¬ 9223372036854775807 < 5 + key.size + 1 + pk.size + 1 + (itB lv).size := by omega
          simp only [t0, t1, t2, t3, t4, t5, t6, t7, t8, t9, t10] at hK
          have H := Lib.hid hK
          clear hK hT
          go_simp
          exact H.out _ _ (Below.refl _ _) rfl (fun h => by cases h) trivial
        refine Rg.cons 12 13 rfl (Rg.plain rfl ?_) ?_
        · intro vs W n hn hI hG hT hF K hK
          simp only [Rg.putsD, List.getD_cons_zero, List.getD_cons_succ, Act.put, List.setIfInBounds_toArray, List.set_cons_zero, List.set_cons_succ] at hK ⊢
          clear hn
          clear hF hI
          have t0 : vs 0 = .pointer (some ⟨gp, 0, none⟩) := hT 0 (by decide)
          have t1 : vs 1 = .string key := hT 1 (by decide)
          have t2 : vs 2 = .string (⟨#[112, 97, 114, 116, 32]⟩ ++ key) := hT 2 (by decide)
          have t3 : vs 3 = .string (⟨#[112, 97, 114, 116, 32]⟩ ++ key ++ ⟨#[32]⟩) := hT 3 (by decide)
          have t4 : vs 4 = .pointer (some ⟨gp, 1, none⟩) := hT 4 (by decide)
          have t5 : vs 5 = .string pk := hT 5 (by decide)
          have t6 : vs 6 = .string (⟨#[112, 97, 114, 116, 32]⟩ ++ key ++ ⟨#[32]⟩ ++ pk) := hT 6 (by decide)
          have t7 : vs 7 = .string (⟨#[112, 97, 114, 116, 32]⟩ ++ key ++ ⟨#[32]⟩ ++ pk ++ ⟨#[32]⟩) := hT 7 (by decide)
          have t8 : vs 8 = .pointer (some ⟨gp, 2, none⟩) := hT 8 (by decide)
          have t9 : vs 9 = .int .i64 lv := hT 9 (by decide)
          have t10 : vs 10 = .string (itB lv) := hT 10 (by decide)
          have t11 : vs 11 = .string (⟨#[112, 97, 114, 116, 32]⟩ ++ key ++ ⟨#[32]⟩ ++ pk ++ ⟨#[32]⟩ ++ itB lv) := hT 11 (by decide)
          have hn1 : ¬ 9223372036854775807 < 5 + key.size + 1 + pk.size + 1 + (itB lv).size + 1 := by omega
          simp only [t0, t1, t2, t3, t4, t5, t6, t7, t8, t9, t10, t11] at hK
          have H := Lib.hid hK
          clear hK hT
          go_simp
          exact H.out _ _ (Below.refl _ _) rfl (fun h => by cases h) trivial
        refine Rg.cons 13 14 rfl (Rg.plain rfl ?_) ?_
        · intro vs W n hn hI hG hT hF K hK
          simp only [Rg.putsD, List.getD_cons_zero, List.getD_cons_succ, Act.put, List.setIfInBounds_toArray, List.set_cons_zero, List.set_cons_succ] at hK ⊢
          clear hn
          clear hF hI
          have H := Lib.hid hK
          clear hK hT
          go_simp
          exact H.out _ _ (Below.refl _ _) rfl (fun h => by cases h) trivial
        refine Rg.cons 14 15 rfl (Rg.plain rfl ?_) ?_
        · intro vs W n hn hI hG hT hF K hK
          simp only [Rg.putsD, List.getD_cons_zero, List.getD_cons_succ, Act.put, List.setIfInBounds_toArray, List.set_cons_zero, List.set_cons_succ] at hK ⊢
          clear hn
          clear hF hI
          have t13 : vs 13 = .pointer (some ⟨gp, 3, none⟩) := hT 13 (by decide)
          obtain ⟨c0, c1, c2, c3⟩ := blk4 (blk_below hG H6.out.1.kp)
          simp only [t13] at hK
          have H := Lib.hid hK
          clear hK hT
          go_simp
          exact H.out _ _ (Below.refl _ _) rfl (fun h => by cases h) trivial
        refine Rg.cons 15 16 rfl (Rg.plain rfl ?_) ?_
        · intro vs W n hn hI hG hT hF K hK
          simp only [Rg.putsD, List.getD_cons_zero, List.getD_cons_succ, Act.put, List.setIfInBounds_toArray, List.set_cons_zero, List.set_cons_succ] at hK ⊢
          clear hn
          clear hF hI
          have t8 : vs 8 = .pointer (some ⟨gp, 2, none⟩) := hT 8 (by decide)
          have t9 : vs 9 = .int .i64 lv := hT 9 (by decide)
          have t10 : vs 10 = .string (itB lv) := hT 10 (by decide)
          have t13 : vs 13 = .pointer (some ⟨gp, 3, none⟩) := hT 13 (by decide)
          have t14 : vs 14 = .int .i64 bk := hT 14 (by decide)
          have HG := Lib.hid hG
          clear hG
          simp only [t8, t9, t10, t13, t14] at hK
          have H := Lib.hid hK
          clear hK hT
          go_simp
          refine (CI.out bk (by have := HL1.out.2.2.1; omega) HL1.out.2.2.2 _ (H6.out.1.ct.bel.drew.then_below HG.out hzx)).mono ?_
          rintro e w6 ⟨rfl, b6⟩
          exact H.out _ _ b6 rfl (fun h => by cases h) trivial
        exact Rg.nil
      · intro vs W hG hI hT hF
        have t0 : vs 0 = .pointer (some ⟨gp, 0, none⟩) := hT 0 (by decide)
        have t1 : vs 1 = .string key := hT 1 (by decide)
        have t2 : vs 2 = .string (⟨#[112, 97, 114, 116, 32]⟩ ++ key) := hT 2 (by decide)
        have t3 : vs 3 = .string (⟨#[112, 97, 114, 116, 32]⟩ ++ key ++ ⟨#[32]⟩) := hT 3 (by decide)
        have t4 : vs 4 = .pointer (some ⟨gp, 1, none⟩) := hT 4 (by decide)
        have t5 : vs 5 = .string pk := hT 5 (by decide)
        have t6 : vs 6 = .string (⟨#[112, 97, 114, 116, 32]⟩ ++ key ++ ⟨#[32]⟩ ++ pk) := hT 6 (by decide)
        have t7 : vs 7 = .string (⟨#[112, 97, 114, 116, 32]⟩ ++ key ++ ⟨#[32]⟩ ++ pk ++ ⟨#[32]⟩) := hT 7 (by decide)
        have t8 : vs 8 = .pointer (some ⟨gp, 2, none⟩) := hT 8 (by decide)
        have t9 : vs 9 = .int .i64 lv := hT 9 (by decide)
        have t10 : vs 10 = .string (itB lv) := hT 10 (by decide)
        have t11 : vs 11 = .string (⟨#[112, 97, 114, 116, 32]⟩ ++ key ++ ⟨#[32]⟩ ++ pk ++ ⟨#[32]⟩ ++ itB lv) := hT 11 (by decide)
        have t12 : vs 12 = .string (⟨#[112, 97, 114, 116, 32]⟩ ++ key ++ ⟨#[32]⟩ ++ pk ++ ⟨#[32]⟩ ++ itB lv ++ ⟨#[32]⟩) := hT 12 (by decide)
        have t13 : vs 13 = .pointer (some ⟨gp, 3, none⟩) := hT 13 (by decide)
        have t14 : vs 14 = .int .i64 bk := hT 14 (by decide)
        have t15 : vs 15 = .string (itB bk) := hT 15 (by decide)
        simp only [List.length_cons, List.length_nil, Nat.reduceAdd, List.range, List.range.loop, List.drop_succ_cons, List.drop_zero, Rg.putsD, List.getD_cons_zero, List.getD_cons_succ, Act.put, List.setIfInBounds_toArray, List.set_cons_zero, List.set_cons_succ, t0, t1, t2, t3, t4, t5, t6, t7, t8, t9, t10, t11, t12, t13, t14, t15]
        clear hT t0 t1 t2 t3 t4 t5 t6 t7 t8 t9 t10 t11 t12 t13 t14 t15
        have H7 : Hid (CT w (.slice (some ⟨g, 0, none⟩) l.length cp) (.slice Aa al.length ca) W ∧ SB w (catB (l.take k) []) W) :=
          ⟨H6.out.1.ct.below ((Below.refl _ _).drew.ext hG), isB_below (w := wx.drew) H6.out.2 hG⟩
        have hWs : w.heap.size + 1 ≤ W.heap.size := lt_of_blk H7.out.1.k0
        have CW := Lib.hid (bw_any (w.heap.size + 1) (w.heap.size + 1) (Lib.strCells (catB (l.take k) [])) (lineB (partW ⟨key, pk, lv, bk⟩)) W H7.out.2 (by rw [Lib.strCells_length]; have := HZ.out; have := HSZ.out; omega) hWs)
        rw [← strCells_append, ← HN.out, HLN.out] at CW
        clear hF hI hG H6 hxl HN
        go_wp2_with fail
        refine CW.out.mono ?_
        rintro e w8 ⟨rfl, hB8, b8⟩
        have HF8 : Hid (CT w (.slice (some ⟨g, 0, none⟩) l.length cp) (.slice Aa al.length ca) w8 ∧ SB w (catB (l.take (k + 1)) []) w8) :=
          ⟨⟨H7.out.1.bel.trans (b8.mono (by omega)), (b8.block _ (by omega)).trans H7.out.1.k0⟩, .inr hB8⟩
        have hz8 : w.heap.size + 1 ≤ w8.heap.size := lt_of_blk HF8.out.1.k0
        clear hB8 b8 H7 CW
        go_wp2_with fail
        go_roundw
        case rel => exact ⟨k + 1, by omega, by go_num, hz8, HF8⟩
        case measure => simp [intOf]; omega
    · obtain rfl : k = l.length := by omega
      obtain ⟨c0, c1, _, _⟩ := blk2 HS.out.1.k0
      have hgl := lt_of_blk HS.out.1.k0
      go_wp2_with fail
      clear c0 c1 hgl
      have HS1 : Hid (CT w (.slice Ap l.length cp) (.slice Aa al.length ca) wr ∧ SB w (catB l (al.take 0)) wr) := by
        refine ⟨HS.out.1, ?_⟩
        have h := HS.out.2
        rw [List.take_length] at h
        exact h
      clear HS
      go_loopw [39] (fun kk wr => ∃ k : Nat, k ≤ al.length ∧ kk = .int .i64 k ∧ w.heap.size + 1 ≤ wr.heap.size ∧ Hid (CT w (.slice Ap l.length cp) (.slice Aa al.length ca) wr ∧ SB w (catB l (al.take k)) wr)) (fun kk _ => al.length - (intOf kk).toNat)
      case atStart => exact ⟨0, by omega, rfl, hwz, HS1⟩
      case round =>
        obtain ⟨k, hk, rfl, hwz, HS⟩ := hrel
        clear HS1
        by_cases hlt : k < al.length
        · have HN := Lib.hid (catB_alt l al hlt)
          have HLN := Lib.hid (altLine_eq al[k])
          have HFT := Lib.hid (HP.out.2 al[k] (List.getElem_mem hlt))
          have HSZ := Lib.hid (altLine_size (HP.out.2 al[k] (List.getElem_mem hlt)))
          have HZ : Hid ((catB l (al.take k)).size ≤ 100000) := by
            have h := catB_size (l := l) (al := al.take k) HP.out.1 (fun a ha => HP.out.2 a (List.mem_of_mem_take ha))
            have h2 : (al.take k).length ≤ 900 := by rw [List.length_take]; omega
            show _ ≤ _
            omega
          obtain ⟨A', c', e, hr⟩ := HR2.out.below HS.out.1.bel
          cases e
          rcases hr with rfl | ⟨g, rfl, hrow⟩
          · simp at hlt
          obtain ⟨q0, q1, q2⟩ := row_al hrow hlt
          have hg1 : g < wr.heap.size := hrow.1
          clear hrow
          generalize al[k] = a at *
          obtain ⟨par, by_, both⟩ := a
          dsimp only at q0 q1 q2 HLN
          have z1 : par.size ≤ 40 := HFT.out.1
          have z2 : by_.size ≤ 40 := HFT.out.2
          have H6 : Hid (CF w (.slice Ap l.length cp) (.slice (some ⟨g, 0, none⟩) al.length ca) wr.heap.size #[.string par, .string by_, .bool both] 51 (wr.alloc (.cells #[.string par, .string by_, .bool both] 51)) ∧ SB w (catB l (al.take k)) (wr.alloc (.cells #[.string par, .string by_, .bool both] 51))) :=
            ⟨⟨HS.out.1.below ((Below.refl _ _).alloc (Nat.le_refl _) _), blk_new wr _ rfl⟩, isB_below HS.out.2 ((Below.refl _ _).alloc (Nat.le_refl _) _)⟩
          have i1 : (0 : Int) ≤ (k : Int) := by omega
          have i2 : (k : Int) < (al.length : Int) := by omega
          clear HS
          go_upto_region 10 with (fail)
          generalize wr.alloc (.cells #[.string par, .string by_, .bool both] 51) = wx at *
          generalize wr.heap.size = gp at *
          clear q0 q1 q2 hg1
          obtain ⟨p0, p1, p2⟩ := blk3 H6.out.1.kp
          have hpl := lt_of_blk H6.out.1.kp
          have hgw : w.heap.size + 1 ≤ wx.heap.size := lt_of_blk H6.out.1.ct.k0
          have CW := Lib.hid (bw_any (w.heap.size + 1) (w.heap.size + 1) (Lib.strCells (catB l (al.take k))) (lineB (altW ⟨par, by_, both⟩)) wx H6.out.2 (by rw [Lib.strCells_length]; have := HZ.out; have := HSZ.out; omega) hgw)
          rw [← strCells_append, ← HN.out, HLN.out] at CW
          have m1 : ¬ 9223372036854775807 < 3 + 1 + by_.size := by omega
          have m2 : ¬ 9223372036854775807 < 3 + 1 + by_.size + 5 := by omega
          have m3 : ¬ 9223372036854775807 < 3 + 1 + by_.size + 5 + par.size := by omega
          have m4 : ¬ 9223372036854775807 < 3 + 1 + by_.size + 5 + par.size + 1 := by omega
          have m5 : ¬ 9223372036854775807 < 4 + 1 + by_.size := by omega
          have m6 : ¬ 9223372036854775807 < 4 + 1 + by_.size + 5 := by omega
          have m7 : ¬ 9223372036854775807 < 4 + 1 + by_.size + 5 + par.size := by omega
          have m8 : ¬ 9223372036854775807 < 4 + 1 + by_.size + 5 + par.size + 1 := by omega
          cases both
          all_goals
            simp only [wayB, dUse, dBoth] at CW
            go_wp2_with fail
            refine CW.out.mono ?_
            rintro e w8 ⟨rfl, hB8, b8⟩
            have HF8 : Hid (CT w (.slice Ap l.length cp) (.slice (some ⟨g, 0, none⟩) al.length ca) w8 ∧ SB w (catB l (al.take (k + 1))) w8) :=
              ⟨⟨H6.out.1.ct.bel.trans (b8.mono (by omega)), (b8.block _ (by omega)).trans H6.out.1.ct.k0⟩, .inr hB8⟩
            have hz8 : w.heap.size + 1 ≤ w8.heap.size := lt_of_blk HF8.out.1.k0
            clear hB8 b8 H6 CW HN p0 p1 p2 hpl
            go_wp2_with fail
            go_roundw
            case rel => exact ⟨k + 1, by omega, by go_num, hz8, HF8⟩
            case measure => simp [intOf]; omega
        · obtain rfl : k = al.length := by omega
          have CX := Lib.hid (CS.out wr (by have := HS.out.2; rw [List.take_length] at this; exact this) hwz)
          have HB := Lib.hid HS.out.1.bel
          clear HS CS
          go_wp2_with fail
          refine CX.out.mono ?_
          rintro e w9 ⟨rfl, b9⟩
          have HB9 := Lib.hid (HB.out.trans (b9.mono (by omega)))
          clear b9
          go_wp2_with fail
          go_ret
          exact ⟨rfl, HB9.out⟩
end Go.Proofs.YtiooimfkobjpkaaGreatDoor
