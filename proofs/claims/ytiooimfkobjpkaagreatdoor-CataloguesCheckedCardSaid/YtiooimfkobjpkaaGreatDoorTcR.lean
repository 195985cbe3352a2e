/-
  Catalogues: what is wrong with one (the reference's).
-/
import Derived.Test.YtiooimfkobjpkaaGreatDoorTcM1
import Derived.Test.YtiooimfkobjpkaaGreatDoorTcK
namespace Go.Proofs.YtiooimfkobjpkaaGreatDoor
open Go.RowKit Go.WideMaps Go.Maps
set_option linter.unusedSimpArgs false
set_option linter.unusedVariables false

/-! ### Comparing the other way round -/
theorem cb_flip : ∀ (a b : List UInt8), Lib.compareBytes a b = - Lib.compareBytes b a
  | [], [] => rfl
  | [], _ :: _ => rfl
  | _ :: _, [] => rfl
  | a :: l, b :: m => by
    unfold Lib.compareBytes
    by_cases h1 : a < b
    · have h2 : ¬ b < a := fun h => absurd (UInt8.lt_trans h1 h) (UInt8.lt_irrefl _)
      rw [if_pos h1, if_neg h2, if_pos h1]
    · by_cases h2 : b < a
      · rw [if_neg h1, if_pos h2, if_pos h2]
        rfl
      · rw [if_neg h1, if_neg h2, if_neg h2, if_neg h1]
        exact cb_flip l m
theorem cmpAl_flip (a b : Al) : cmpAl a b = - cmpAl b a := by
  unfold cmpAl errsL errsL errsL
  rw [cb_flip a.par.data.toList, cb_flip a.by_.data.toList]
  by_cases h1 : Lib.compareBytes b.par.data.toList a.par.data.toList = 0
  · rw [if_pos h1, if_pos (by omega)]
    by_cases h2 : Lib.compareBytes b.by_.data.toList a.by_.data.toList = 0
    · rw [if_pos h2, if_pos (by omega)]
      rfl
    · rw [if_neg h2, if_neg (by omega)]
  · rw [if_neg h1, if_neg (by omega)]
theorem cmpAl_turn (a q : Al) : decide (cmpAl a q ≤ 0) = decide (0 ≤ cmpAl q a) := by
  have h := cmpAl_flip a q
  by_cases h2 : 0 ≤ cmpAl q a
  · rw [decide_eq_true h2, decide_eq_true (by omega)]
  · rw [decide_eq_false h2, decide_eq_false (by omega)]

/-! ### The directions, the coming part first -/
def fwT (p : ByteArray × ByteArray) : BB := (p.1.data.toList, p.2.data.toList)
def dirF (l : List Al) : List BB := l.flatMap fun a => (dirT a).map fwT
theorem dirF_take {l : List Al} {k : Nat} (h : k < l.length) : dirF (l.take (k + 1)) = dirF (l.take k) ++ (dirT l[k]).map fwT := by
  unfold dirF
  rw [← List.take_append_getElem h, List.flatMap_append]
  simp
theorem dirF_swap (l : List Al) : (dirF l).map (fun d => (d.2, d.1)) = dirs l := by
  induction l with
  | nil => rfl
  | cons a l ih =>
    have h : (dirT a).map revT = dirB a := dirT_rev a
    unfold dirF dirs at *
    rw [List.flatMap_cons, List.map_append, ih, List.flatMap_cons, ← h, List.map_map]
    rfl
theorem dirF_len (l : List Al) : (dirF l).length = (dirs l).length := by rw [← dirF_swap, List.length_map]
theorem dirF_nodup (l : List Al) : (dirF l).Nodup ↔ (dirs l).Nodup := by
  rw [← dirF_swap]
  unfold List.Nodup
  rw [List.pairwise_map]
  refine List.Pairwise.iff fun {a b} => ?_
  obtain ⟨a1, a2⟩ := a
  obtain ⟨b1, b2⟩ := b
  simp
  constructor
  · intro h e1 e2
    exact h e2 e1
  · intro h e1 e2
    exact h e2 e1
theorem dirF_pre {l : List Al} {k : Nat} (h : k < l.length) {j : Nat} (hn : ¬ (dirF (l.take k) ++ ((dirT l[k]).take j).map fwT).Nodup) : twB (dirs l) = true := by
  refine decide_eq_true fun hd => hn ?_
  rw [← dirF_nodup] at hd
  have e : dirF l = dirF (l.take (k + 1)) ++ dirF (l.drop (k + 1)) := by
    unfold dirF
    rw [← List.flatMap_append, List.take_append_drop]
  rw [e, dirF_take h] at hd
  have h1 := (List.nodup_append.mp hd).1
  have e2 : (dirT l[k]).map fwT = ((dirT l[k]).take j).map fwT ++ ((dirT l[k]).drop j).map fwT := by rw [← List.map_append, List.take_append_drop]
  rw [e2, ← List.append_assoc] at h1
  exact (List.nodup_append.mp h1).1

/-- The first of two faults. -/
def thenE (e r : Int) : Int := if e = 0 then r else e
def twE (al : List Al) : Int := if twB (dirs al) = true then 6 else 0
def catErr (l : List Pa) (al : List Al) : Int := thenE (paErrs l) (thenE (altsErr l al) (twE al))

/-! ### What stands in memory -/
structure CT (w : World) (pv av : Value) (W : World) : Prop where
  bel : Below w.heap.size w W
  k0 : W.heap[w.heap.size]? = some (.cells #[pv, av] 29 (0, 0))
theorem CT.below {w : World} {pv av : Value} {W W' : World} (h : CT w pv av W) (hb : Below W.heap.size W W') : CT w pv av W' := ⟨h.bel.then_below hb h.bel.size, blk_below hb h.k0⟩
structure CF (w : World) (pv av : Value) (gp : Nat) (xs : Array Value) (t : TypeId) (W : World) : Prop where
  ct : CT w pv av W
  kp : W.heap[gp]? = some (.cells xs t (0, 0))
theorem CF.below {w : World} {pv av : Value} {gp : Nat} {xs : Array Value} {t : TypeId} {W W' : World} (h : CF w pv av gp xs t W) (hb : Below W.heap.size W W') : CF w pv av gp xs t W' := ⟨h.ct.below hb, blk_below hb h.kp⟩
structure DT (w : World) (gm : Nat) (l : List BB) (W : World) : Prop where
  bel : Below w.heap.size w W
  mp : ∃ n D, W.ownsMap (H := Unit) Tryz.prog 62 (plainElem Tryz.prog 4) gm n D ∧ n ≤ l.length ∧ PairsIs D l
  nd : l.Nodup
theorem DT.below {w : World} {gm : Nat} {l : List BB} {W W' : World} (h : DT w gm l W) (hb : Below W.heap.size W W') : DT w gm l W' := by
  obtain ⟨n, D, h1, h2, h3⟩ := h.mp
  exact ⟨h.bel.then_below hb h.bel.size, ⟨n, D, map_below h1 hb, h2, h3⟩, h.nd⟩

set_option maxRecDepth 100000 in
set_option maxHeartbeats 16000000 in
theorem catFault_any (l : List Pa) (hl : l.length ≤ 1000000) (hk : ∀ p ∈ l, p.key.size ≤ maxLen ∧ p.pk.size ≤ maxLen) (al : List Al) (ha : al.length ≤ 400000) (hz : ∀ a ∈ al, a.par.size ≤ maxLen ∧ a.by_.size ≤ maxLen) {pv av : Value} {w : World} (h1 : Reads encPa pv l w) (h2 : Reads encAl av al w) :
    Calls Tryz.prog 5 #[.agg #[pv, av]] w fun e w' => e = .returned (.int .i64 (catErr l al)) ∧ Below w.heap.size w w' := by
  have HR1 := Lib.hid h1
  have HR2 := Lib.hid h2
  have HZ1 := Lib.hid hk
  have HZ2 := Lib.hid hz
  obtain ⟨Ap, cp, rfl, _⟩ := h1
  obtain ⟨Aa, ca, rfl, _⟩ := h2
  clear hk hz
  have H0 : Hid (CT w (.slice Ap l.length cp) (.slice Aa al.length ca) (w.alloc (.cells #[.slice Ap l.length cp, .slice Aa al.length ca] 29))) := ⟨(Below.refl _ _).alloc (Nat.le_refl _) _, blk_new w _ rfl⟩
  have HE0 : Hid (catErr l al = thenE (paErrs l) (thenE (altsErr l al) (twE al))) := rfl
  generalize catErr l al = E at *
  go_enter Tryz.func5, Tryz.ntmps5
  go_upto_region 1 with (fail)
  generalize w.alloc (.cells #[.slice Ap l.length cp, .slice Aa al.length ca] 29) = w0 at *
  obtain ⟨c0, c1, _, _⟩ := blk2 H0.out.k0
  have hgl := lt_of_blk H0.out.k0
  by_cases hbig : 1000 < l.length
  · have HZ : Hid (E = 2) := by rw [HE0.out, show paErrs l = 2 from if_pos hbig]; rfl
    have hb2 : (1000 : Int) < (l.length : Int) := by omega
    go_wp2_with fail
    go_ret
    exact ⟨ret_int HZ.out.symm, H0.out.bel⟩
  have HF : Hid (E = thenE (partsE none l) (thenE (altsErr l al) (twE al))) := HE0.out.trans (by rw [show paErrs l = partsE none l from if_neg hbig])
  have hb2 : ¬ (1000 : Int) < (l.length : Int) := by omega
  clear HE0
  go_wp2_with fail
  clear c0 c1 hgl
  go_loopw [19] (fun kk wr => ∃ k : Nat, k ≤ l.length ∧ kk = .int .i64 k ∧ Hid (CT w (.slice Ap l.length cp) (.slice Aa al.length ca) wr ∧ E = thenE (partsE (prevK l k) (l.drop k)) (thenE (altsErr l al) (twE al)))) (fun kk _ => l.length - (intOf kk).toNat)
  case atStart => exact ⟨0, by omega, rfl, H0.out, HF.out⟩
  case round =>
    obtain ⟨k, hk, rfl, HS⟩ := hrel
    clear H0 HF
    by_cases hlt : k < l.length
    · obtain ⟨A', c', ea, hr⟩ := HR1.out.below HS.out.1.bel
      cases ea
      rcases hr with rfl | ⟨g, rfl, hrow⟩
      · simp at hlt
      have HE : Hid (E = _) := HS.out.2.trans (by rw [partsE_drop hlt (prevK l k)])
      have HB := Lib.hid HS.out.1
      obtain ⟨q0, q1, q2, q3⟩ := row_pa hrow hlt
      have hgl := hrow.1
      have i1 : (0 : Int) ≤ (k : Int) := by omega
      have i2 : (k : Int) < (l.length : Int) := by omega
      have HPK : Hid (prevK l (k + 1) = some l[k].key) := by
        show (if k + 1 = 0 then none else (l[k + 1 - 1]?).map Pa.key) = _
        rw [if_neg (by omega), Nat.add_sub_cancel, List.getElem?_eq_getElem hlt]
        rfl
      have HPR : Hid (∀ hk0 : 0 < k, prevK l k = some (l[k - 1]'(by omega)).key ∧ ∀ W', Below wr.heap.size wr W' → W'.cell? ⟨g, (k - 1) * 4, none⟩ = some (.string (l[k - 1]'(by omega)).key) ∧ g < W'.heap.size) := fun hk0 => by
        have hk1 : k - 1 < l.length := by omega
        refine ⟨?_, fun W' hb => ⟨(hb.cell (p := ⟨g, (k - 1) * 4, none⟩) hgl).trans (row_pa hrow hk1).1, Nat.lt_of_lt_of_le hgl hb.size⟩⟩
        show (if k = 0 then none else (l[k - 1]?).map Pa.key) = _
        rw [if_neg (by omega), List.getElem?_eq_getElem hk1]
        rfl
      have HP0 : Hid (k = 0 → prevK l k = none) := fun h => if_pos h
      have HZK := Lib.hid (HZ1.out l[k] (List.getElem_mem hlt))
      clear hrow HS
      generalize l[k] = p at *
      obtain ⟨key, pk, lv, bk⟩ := p
      dsimp only at q0 q1 q2 q3 HE HPK HZK
      have CK := Lib.hid (fun W => keyR_any key W (by have := HZK.out.1; simp only [maxLen] at this; omega))
      have CP := Lib.hid (fun W => keyR_any pk W (by have := HZK.out.2; simp only [maxLen] at this; omega))
      have CL := Lib.hid (fun W => inZ_any lv 1 6 W)
      have CB := Lib.hid (fun W => inZ_any bk 0 720000000 W)
      have HPE : Hid (paE ⟨key, pk, lv, bk⟩ = if (keyB key && keyB pk) = false then 5 else if (inR lv 1 6 && inR bk 0 720000000) = false then 1 else 0) := rfl
      have HX : Hid (CF w (.slice (some ⟨g, 0, none⟩) l.length cp) (.slice Aa al.length ca) wr.heap.size #[.string key, .string pk, .int .i64 lv, .int .i64 bk] 47 (wr.alloc (.cells #[.string key, .string pk, .int .i64 lv, .int .i64 bk] 47))) := ⟨HB.out.below ((Below.refl _ _).alloc (Nat.le_refl _) _), blk_new wr _ rfl⟩
      have HBX : Hid (Below wr.heap.size wr (wr.alloc (.cells #[.string key, .string pk, .int .i64 lv, .int .i64 bk] 47))) := (Below.refl _ _).alloc (Nat.le_refl _) _
      go_upto_region 6 with (fail)
      generalize wr.alloc (.cells #[.string key, .string pk, .int .i64 lv, .int .i64 bk] 47) = wx at *
      clear q0 q1 q2 q3 hgl
      obtain ⟨p0, p1, p2, p3⟩ := blk4 HX.out.kp
      have hpl := lt_of_blk HX.out.kp
      cases hk1 : keyB key
      · have HZ : Hid (E = 5) := by rw [HE.out, HPE.out, hk1]; rfl
        rw [hk1] at CK
        clear hk1
        go_wp2_with fail
        (refine (CK.out _).mono ?_; rintro e w1 ⟨rfl, b1⟩; have HX := Lib.hid (HX.out.below b1); clear b1; obtain ⟨p0, p1, p2, p3⟩ := blk4 HX.out.kp; have hpl := lt_of_blk HX.out.kp; go_wp2_with fail)
        (go_ret; exact ⟨ret_int HZ.out.symm, HX.out.ct.bel⟩)
      rw [hk1] at CK
      cases hk2 : keyB pk
      · have HZ : Hid (E = 5) := by rw [HE.out, HPE.out, hk1, hk2]; rfl
        rw [hk2] at CP
        clear hk1 hk2
        go_wp2_with fail
        (refine (CK.out _).mono ?_; rintro e w1 ⟨rfl, b1⟩; have HX := Lib.hid (HX.out.below b1); clear b1; obtain ⟨p0, p1, p2, p3⟩ := blk4 HX.out.kp; have hpl := lt_of_blk HX.out.kp; go_wp2_with fail)
        (refine (CP.out _).mono ?_; rintro e w2 ⟨rfl, b2⟩; have HX := Lib.hid (HX.out.below b2); clear b2; obtain ⟨p0, p1, p2, p3⟩ := blk4 HX.out.kp; have hpl := lt_of_blk HX.out.kp; go_wp2_with fail)
        (go_ret; exact ⟨ret_int HZ.out.symm, HX.out.ct.bel⟩)
      rw [hk2] at CP
      cases hk3 : inR lv 1 6
      · have HZ : Hid (E = 1) := by rw [HE.out, HPE.out, hk1, hk2, hk3]; rfl
        rw [hk3] at CL
        clear hk1 hk2 hk3
        go_wp2_with fail
        (refine (CK.out _).mono ?_; rintro e w1 ⟨rfl, b1⟩; have HX := Lib.hid (HX.out.below b1); clear b1; obtain ⟨p0, p1, p2, p3⟩ := blk4 HX.out.kp; have hpl := lt_of_blk HX.out.kp; go_wp2_with fail)
        (refine (CP.out _).mono ?_; rintro e w2 ⟨rfl, b2⟩; have HX := Lib.hid (HX.out.below b2); clear b2; obtain ⟨p0, p1, p2, p3⟩ := blk4 HX.out.kp; have hpl := lt_of_blk HX.out.kp; go_wp2_with fail)
        (refine (CL.out _).mono ?_; rintro e w3 ⟨rfl, rfl⟩; go_wp2_with fail)
        (go_ret; exact ⟨ret_int HZ.out.symm, HX.out.ct.bel⟩)
      rw [hk3] at CL
      cases hk4 : inR bk 0 720000000
      · have HZ : Hid (E = 1) := by rw [HE.out, HPE.out, hk1, hk2, hk3, hk4]; rfl
        rw [hk4] at CB
        clear hk1 hk2 hk3 hk4
        go_wp2_with fail
        (refine (CK.out _).mono ?_; rintro e w1 ⟨rfl, b1⟩; have HX := Lib.hid (HX.out.below b1); clear b1; obtain ⟨p0, p1, p2, p3⟩ := blk4 HX.out.kp; have hpl := lt_of_blk HX.out.kp; go_wp2_with fail)
        (refine (CP.out _).mono ?_; rintro e w2 ⟨rfl, b2⟩; have HX := Lib.hid (HX.out.below b2); clear b2; obtain ⟨p0, p1, p2, p3⟩ := blk4 HX.out.kp; have hpl := lt_of_blk HX.out.kp; go_wp2_with fail)
        (refine (CL.out _).mono ?_; rintro e w3 ⟨rfl, rfl⟩; go_wp2_with fail)
        (refine (CB.out _).mono ?_; rintro e w4 ⟨rfl, rfl⟩; go_wp2_with fail)
        (go_ret; exact ⟨ret_int HZ.out.symm, HX.out.ct.bel⟩)
      rw [hk4] at CB
      have HP1 : Hid (paE ⟨key, pk, lv, bk⟩ = 0) := by rw [HPE.out, hk1, hk2, hk3, hk4]; rfl
      clear hk1 hk2 hk3 hk4 HPE
      rw [HP1.out, if_pos rfl] at HE
      clear HP1
      go_wp2_with fail
      refine (CK.out _).mono ?_
      rintro e w1 ⟨rfl, b1⟩
      have HX := Lib.hid (HX.out.below b1)
      have HBX := Lib.hid (HBX.out.then_below b1 HBX.out.size)
      clear b1 p0 p1 p2 p3 hpl
      obtain ⟨p0, p1, p2, p3⟩ := blk4 HX.out.kp
      have hpl := lt_of_blk HX.out.kp
      go_wp2_with fail
      refine (CP.out _).mono ?_
      rintro e w2 ⟨rfl, b2⟩
      have HX := Lib.hid (HX.out.below b2)
      have HBX := Lib.hid (HBX.out.then_below b2 HBX.out.size)
      clear b2 p0 p1 p2 p3 hpl
      obtain ⟨p0, p1, p2, p3⟩ := blk4 HX.out.kp
      have hpl := lt_of_blk HX.out.kp
      go_wp2_with fail
      (refine (CL.out _).mono ?_; rintro e w3 ⟨rfl, rfl⟩; go_wp2_with fail)
      (refine (CB.out _).mono ?_; rintro e w4 ⟨rfl, rfl⟩; go_wp2_with fail)
      clear CK CP CL CB
      by_cases hk0 : 0 < k
      · obtain ⟨e1, e2⟩ := HPR.out hk0
        rw [e1] at HE
        obtain ⟨e4, hg4⟩ := e2 _ HBX.out
        clear e1 e2 HPR HP0
        generalize (l[k - 1]'(by omega)).key = pkey at *
        dsimp only at HE
        have hk0' : (0 : Int) < (k : Int) := by omega
        obtain ⟨k', rfl⟩ : ∃ k', k = k' + 1 := ⟨k - 1, by omega⟩
        have e5 : w2.cell? ⟨g, k' * 4, none⟩ = some (.string pkey) := e4
        clear e4
        obtain ⟨r0, r1, _, _⟩ := blk2 HX.out.ct.k0
        have hrl := lt_of_blk HX.out.ct.k0
        have hw : IntKind.i64.wrap ((k' : Int) + 1 - 1) = (k' : Int) := by rw [show (k' : Int) + 1 - 1 = (k' : Int) from by omega]; exact IntWalk.i64_in _ (by omega)
        have j1 : (0 : Int) ≤ (k' : Int) := by omega
        have j2 : (k' : Int) < (l.length : Int) := by omega
        have j3 : (0 : Int) < (k' : Int) + 1 := by omega
        go_quiet (fail)
        rw [show (Op.bytesLess key.toList pkey.toList || key.toList == pkey.toList) = leK key pkey from rfl]
        cases hle : leK key pkey
        · have HV : Hid (E = thenE (partsE (prevK l (k' + 1 + 1)) (l.drop (k' + 1 + 1))) (thenE (altsErr l al) (twE al))) := HE.out.trans (by rw [HPK.out, if_neg (by show ¬ leK key pkey = true; rw [hle]; simp)])
          clear hle p0 p1 p2 p3 e5
          go_wp2_with fail
          go_roundw
          case rel => exact ⟨k' + 1 + 1, by omega, by go_num, HX.out.ct.below (below_drewN (Below.refl _ _) _), HV.out⟩
          case measure => simp [intOf]; omega
        · have HV : Hid (E = 7) := HE.out.trans (by rw [if_pos (by show leK key pkey = true; exact hle)]; rfl)
          clear hle
          go_wp2_with fail
          go_ret
          exact ⟨ret_int HV.out.symm, below_drewN HX.out.ct.bel _⟩
      · obtain rfl : k = 0 := by omega
        have HV : Hid (E = thenE (partsE (prevK l (0 + 1)) (l.drop (0 + 1))) (thenE (altsErr l al) (twE al))) := by
          have h := HE.out
          rw [HP0.out rfl] at h
          rw [HPK.out]
          exact h.trans (by rw [if_neg (by simp)])
        have hd0 : decide ((0 : Int) < 0) = false := by decide
        go_quiet (fail)
        go_wp2_with fail
        go_roundw
        case rel => exact ⟨1, by omega, by go_num, HX.out.ct.below (below_drewN (Below.refl _ _) _), HV.out⟩
        case measure => simp [intOf]; omega
    · obtain rfl : k = l.length := by omega
      have HE0 : Hid (E = thenE (altsErr l al) (twE al)) := HS.out.2.trans (by rw [List.drop_length]; cases prevK l l.length <;> rfl)
      have H0 := Lib.hid HS.out.1
      clear HS hlt
      obtain ⟨c0, c1, _, _⟩ := blk2 H0.out.k0
      have hgl := lt_of_blk H0.out.k0
      by_cases hbig2 : 2000 < al.length
      · have HZ : Hid (E = 2) := HE0.out.trans (by rw [show altsErr l al = 2 from if_pos hbig2]; rfl)
        have hb3 : (2000 : Int) < (al.length : Int) := by omega
        go_wp2_with fail
        go_ret
        exact ⟨ret_int HZ.out.symm, H0.out.bel⟩
      have HF : Hid (E = thenE (altsE l none al) (twE al)) := HE0.out.trans (by rw [show altsErr l al = altsE l none al from if_neg hbig2])
      have hb3 : ¬ (2000 : Int) < (al.length : Int) := by omega
      clear HE0
      go_wp2_with fail
      clear c0 c1 hgl
      go_loopw [69] (fun kk wr => ∃ k : Nat, k ≤ al.length ∧ kk = .int .i64 k ∧ Hid (CT w (.slice Ap l.length cp) (.slice Aa al.length ca) wr ∧ E = thenE (altsE l (prevA al k) (al.drop k)) (twE al))) (fun kk _ => al.length - (intOf kk).toNat)
      case atStart => exact ⟨0, by omega, rfl, H0.out, HF.out⟩
      case round =>
        obtain ⟨k, hk, rfl, HS⟩ := hrel
        clear H0 HF
        by_cases hlt : k < al.length
        · obtain ⟨A', c', ea, hr⟩ := HR2.out.below HS.out.1.bel
          cases ea
          rcases hr with rfl | ⟨g, rfl, hrow⟩
          · simp at hlt
          have HE : Hid (E = _) := HS.out.2.trans (by rw [altsE_drop l hlt (prevA al k)])
          obtain ⟨q0, q1, q2⟩ := row_al hrow hlt
          have hgl := hrow.1
          have i1 : (0 : Int) ≤ (k : Int) := by omega
          have i2 : (k : Int) < (al.length : Int) := by omega
          have HPK : Hid (prevA al (k + 1) = some al[k]) := by
            show (if k + 1 = 0 then none else al[k + 1 - 1]?) = _
            rw [if_neg (by omega), Nat.add_sub_cancel, List.getElem?_eq_getElem hlt]
          have HB := Lib.hid HS.out.1
          clear hrow HS
          generalize al[k] = a at *
          obtain ⟨par, by_, both⟩ := a
          dsimp only at q0 q1 q2 HE
          have HX : Hid (CF w (.slice Ap l.length cp) (.slice (some ⟨g, 0, none⟩) al.length ca) wr.heap.size #[.string par, .string by_, .bool both] 51 (wr.alloc (.cells #[.string par, .string by_, .bool both] 51))) := ⟨HB.out.below ((Below.refl _ _).alloc (Nat.le_refl _) _), blk_new wr _ rfl⟩
          have CH1 := Lib.hid (fun (W : World) (h : Reads encPa (.slice Ap l.length cp) l W) => hasPart_any l hl par (av := .slice (some ⟨g, 0, none⟩) al.length ca) h ⟨_, _, _, rfl⟩)
          have CH2 := Lib.hid (fun (W : World) (h : Reads encPa (.slice Ap l.length cp) l W) => hasPart_any l hl by_ (av := .slice (some ⟨g, 0, none⟩) al.length ca) h ⟨_, _, _, rfl⟩)
          go_upto_region 18 with (fail)
          generalize wr.alloc (.cells #[.string par, .string by_, .bool both] 51) = wx at *
          clear q0 q1 q2 hgl
          obtain ⟨p0, p1, p2⟩ := blk3 HX.out.kp
          have hpl := lt_of_blk HX.out.kp
          obtain ⟨c0, c1, _, _⟩ := blk2 HX.out.ct.k0
          have hcl := lt_of_blk HX.out.ct.k0
          cases hh1 : hasK l par
          · have HZ : Hid (E = 8) := HE.out.trans (by rw [if_pos (by rw [hh1]; rfl)]; rfl)
            rw [hh1] at CH1
            clear hh1
            go_wp2_with fail
            refine (CH1.out _ (HR1.out.below HX.out.ct.bel)).mono ?_
            rintro e w1 ⟨rfl, b1⟩
            have HX := Lib.hid (HX.out.below b1)
            clear b1
            go_wp2_with fail
            (go_ret; exact ⟨ret_int HZ.out.symm, HX.out.ct.bel⟩)
          rw [hh1] at CH1
          go_wp2_with fail
          refine (CH1.out _ (HR1.out.below HX.out.ct.bel)).mono ?_
          rintro e w1 ⟨rfl, b1⟩
          have HX := Lib.hid (HX.out.below b1)
          clear b1 p0 p1 p2 hpl c0 c1 hcl CH1
          obtain ⟨p0, p1, p2⟩ := blk3 HX.out.kp
          have hpl := lt_of_blk HX.out.kp
          obtain ⟨c0, c1, _, _⟩ := blk2 HX.out.ct.k0
          have hcl := lt_of_blk HX.out.ct.k0
          cases hh2 : hasK l by_
          · have HZ : Hid (E = 8) := HE.out.trans (by rw [if_pos (by rw [hh1, hh2]; rfl)]; rfl)
            rw [hh2] at CH2
            clear hh1 hh2
            go_wp2_with fail
            refine (CH2.out _ (HR1.out.below HX.out.ct.bel)).mono ?_
            rintro e w2 ⟨rfl, b2⟩
            have HX := Lib.hid (HX.out.below b2)
            clear b2
            go_wp2_with fail
            (go_ret; exact ⟨ret_int HZ.out.symm, HX.out.ct.bel⟩)
          rw [hh2] at CH2
          have HE2 : Hid (E = _) := HE.out.trans (by rw [if_neg (by rw [hh1, hh2]; simp)])
          clear hh1 hh2 HE
          go_wp2_with fail
          refine (CH2.out _ (HR1.out.below HX.out.ct.bel)).mono ?_
          rintro e w2 ⟨rfl, b2⟩
          have HX := Lib.hid (HX.out.below b2)
          clear b2 p0 p1 p2 hpl c0 c1 hcl CH2
          obtain ⟨p0, p1, p2⟩ := blk3 HX.out.kp
          have hpl := lt_of_blk HX.out.kp
          obtain ⟨c0, c1, _, _⟩ := blk2 HX.out.ct.k0
          have hcl := lt_of_blk HX.out.ct.k0
          go_upto_if 87 with (fail)
          rw [show (par.toList == by_.toList) = sameS par by_ from rfl]
          cases hsm : sameS par by_
          rotate_left
          · have HZ : Hid (E = 3) := HE2.out.trans (by rw [if_pos hsm]; rfl)
            clear hsm
            go_wp2_with fail
            (go_ret; exact ⟨ret_int HZ.out.symm, HX.out.ct.bel⟩)
          have HE3 : Hid (E = _) := HE2.out.trans (by rw [if_neg (by rw [hsm]; simp)])
          clear hsm HE2
          by_cases hk0 : 0 < k
          · obtain ⟨k', rfl⟩ : ∃ k', k = k' + 1 := ⟨k - 1, by omega⟩
            have hk1 : k' < al.length := by omega
            obtain ⟨A2, c2, ea2, hr2⟩ := HR2.out.below HX.out.ct.bel
            cases ea2
            rcases hr2 with rfl | ⟨g2, eg2, hrow2⟩
            · simp at hk1
            cases eg2
            have HRW := Lib.hid (row_al hrow2 hk1)
            have hgx := hrow2.1
            have HPV : Hid (prevA al (k' + 1) = some al[k']) := by
              show (if k' + 1 = 0 then none else al[k' + 1 - 1]?) = _
              rw [if_neg (by omega), Nat.add_sub_cancel, List.getElem?_eq_getElem hk1]
            have HE4 : Hid (E = thenE (if decide (0 ≤ cmpAl al[k'] ⟨par, by_, both⟩) = true then 7 else altsE l (some ⟨par, by_, both⟩) (al.drop (k' + 1 + 1))) (twE al)) := by
              have h := HE3.out
              rw [HPV.out] at h
              refine h.trans ?_
              rw [← cmpAl_turn]
            clear HE3 hrow2 HPV
            generalize al[k'] = q at *
            obtain ⟨qpar, qby, qboth⟩ := q
            have CC := Lib.hid (fun W => byAl_any ⟨qpar, qby, qboth⟩ ⟨par, by_, both⟩ W)
            dsimp only at HRW CC
            generalize cmpAl ⟨qpar, qby, qboth⟩ ⟨par, by_, both⟩ = cc at *
            have hw : IntKind.i64.wrap (k' : Int) = (k' : Int) := IntWalk.i64_in _ (by omega)
            have j1 : (0 : Int) ≤ (k' : Int) := by omega
            have j2 : (k' : Int) < (al.length : Int) := by omega
            have j3 : (0 : Int) < (k' : Int) + 1 := by omega
            clear p0 p1 p2 hpl c0 c1 hcl
            go_upto_region 22 with (fail)
            refine Rg.rgL (fun a b => Below a.heap.size a b)
              [(fun vs u => vs 0 = .int .i64 ((k' : Int) + 1)), (fun vs u => vs 1 = .bool true), (fun vs u => vs 2 = .bool true), (fun vs u => vs 3 = .pointer (some ⟨w.heap.size, 1, none⟩)), (fun vs u => vs 4 = .slice (some ⟨g, 0, none⟩) al.length ca), (fun vs u => vs 5 = .int .i64 ((k' : Int) + 1)), (fun vs u => vs 6 = .int .i64 k'), (fun vs u => vs 7 = .pointer (some ⟨g, k' * 3, none⟩)), (fun vs u => vs 8 = .agg #[.string qpar, .string qby, .bool qboth]), (fun vs u => vs 9 = .agg #[.string par, .string by_, .bool both])]
              [[], [0], [0, 1], [0, 1, 2], [0, 1, 2, 3], [0, 1, 2], [0, 1, 2, 5], [0, 1, 2, 3, 4, 5, 6], [0, 1, 2, 3, 4, 5, 6, 7], [0, 1, 2]] [some 94, some 95, some 96, some 97, some 98, some 99, some 100, some 101, some 102, some 103, some 104, some 105, some 106, some 93] [] (fun _ _ => True) [[], [0], [0, 1], [0, 1, 2], [0, 1, 2, 3], [0, 1, 2], [0, 1, 2, 5], [0, 1, 2, 3, 4, 5, 6], [0, 1, 2, 3, 4, 5, 6, 7], [0, 1, 2], [0, 1, 2, 3, 4, 5, 6, 7, 8, 9], [0, 1, 2, 3, 4, 5, 6, 7, 8, 9, 10], [0, 1, 2, 3, 4, 5, 6, 7, 8, 9, 10, 11], [0, 1, 2, 3, 4, 5, 6, 7, 8, 9, 10, 11, 12]]
              (by kernel_rfl) (by decide) (by kernel_rfl) (by kernel_rfl) (by kernel_rfl) (by kernel_rfl) (by kernel_rfl) (fun _ => Below.refl _ _) (fun _ _ _ h k => h.ext k) (fun _ _ h => h.size) ?_ trivial ?_ ?_
            · intro t ht vs w w' h hE
              simp only [List.mem_cons, List.not_mem_nil, or_false] at ht
              rcases ht with rfl | rfl | rfl | rfl | rfl | rfl | rfl | rfl | rfl | rfl
              · exact h
              · exact h
              · exact h
              · exact h
              · exact h
              · exact h
              · exact h
              · exact h
              · exact h
              · exact h
            ·
              refine Rg.cons 0 1 rfl (Rg.plain rfl ?_) ?_
              · intro vs W n hn hI hG hT hF K hK
                simp only [Rg.putsD, List.getD_cons_zero, List.getD_cons_succ, Act.put, List.setIfInBounds_toArray, List.set_cons_zero, List.set_cons_succ] at hK ⊢
                clear hn
                clear hF hI
                have H := Lib.hid hK
                clear hK hT
                go_simp
                exact H.out _ _ (Below.refl _ _) rfl (fun h => by cases h) trivial
              refine Rg.cons 1 2 rfl (Rg.plain rfl ?_) ?_
              · intro vs W n hn hI hG hT hF K hK
                simp only [Rg.putsD, List.getD_cons_zero, List.getD_cons_succ, Act.put, List.setIfInBounds_toArray, List.set_cons_zero, List.set_cons_succ] at hK ⊢
                clear hn
                clear hF hI
                have t0 : vs 0 = .int .i64 ((k' : Int) + 1) := hT 0 (by decide)
                simp only [t0] at hK
                have H := Lib.hid hK
                clear hK hT
                go_simp
                exact H.out _ _ (Below.refl _ _) rfl (fun h => by cases h) trivial
              refine Rg.cons 2 3 rfl (Rg.plain rfl ?_) ?_
              · intro vs W n hn hI hG hT hF K hK
                simp only [Rg.putsD, List.getD_cons_zero, List.getD_cons_succ, Act.put, List.setIfInBounds_toArray, List.set_cons_zero, List.set_cons_succ] at hK ⊢
                clear hn
                clear hF hI
                have t0 : vs 0 = .int .i64 ((k' : Int) + 1) := hT 0 (by decide)
                have t1 : vs 1 = .bool true := hT 1 (by decide)
                simp only [t0, t1] at hK
                have H := Lib.hid hK
                clear hK hT
                go_simp
                exact H.out _ _ (Below.refl _ _) rfl (fun h => by cases h) trivial
              refine Rg.cons 3 4 rfl (Rg.guarded ?_ ?_) ?_
              · intro vs W hT
                have tg : vs 2 = .bool true := hT 2 (by decide)
                simp only [Rg.putsD, List.getD_cons_zero, List.getD_cons_succ, Act.put, List.setIfInBounds_toArray, List.set_cons_zero, List.set_cons_succ, tg]
                rfl
              · intro vs W n hn hI hG hT hF K hK
                simp only [Rg.putsD, List.getD_cons_zero, List.getD_cons_succ, Act.put, List.setIfInBounds_toArray, List.set_cons_zero, List.set_cons_succ] at hK ⊢
                clear hn
                clear hF hI
                have t0 : vs 0 = .int .i64 ((k' : Int) + 1) := hT 0 (by decide)
                have t1 : vs 1 = .bool true := hT 1 (by decide)
                have t2 : vs 2 = .bool true := hT 2 (by decide)
                simp only [t0, t1, t2] at hK
                have H := Lib.hid hK
                clear hK hT
                go_simp
                exact H.out _ _ (Below.refl _ _) rfl (fun h => by cases h) trivial
              refine Rg.cons 4 5 rfl (Rg.guarded ?_ ?_) ?_
              · intro vs W hT
                have tg : vs 2 = .bool true := hT 2 (by decide)
                simp only [Rg.putsD, List.getD_cons_zero, List.getD_cons_succ, Act.put, List.setIfInBounds_toArray, List.set_cons_zero, List.set_cons_succ, tg]
                rfl
              · intro vs W n hn hI hG hT hF K hK
                simp only [Rg.putsD, List.getD_cons_zero, List.getD_cons_succ, Act.put, List.setIfInBounds_toArray, List.set_cons_zero, List.set_cons_succ] at hK ⊢
                clear hn
                clear hF hI
                have t0 : vs 0 = .int .i64 ((k' : Int) + 1) := hT 0 (by decide)
                have t1 : vs 1 = .bool true := hT 1 (by decide)
                have t2 : vs 2 = .bool true := hT 2 (by decide)
                have t3 : vs 3 = .pointer (some ⟨w.heap.size, 1, none⟩) := hT 3 (by decide)
                obtain ⟨p0, p1, _, _⟩ := blk2 (blk_below (a := w2.drew) hG HX.out.ct.k0)
                simp only [t0, t1, t2, t3] at hK
                have H := Lib.hid hK
                clear hK hT
                go_simp
                exact H.out _ _ (Below.refl _ _) rfl (fun h => by cases h) trivial
              refine Rg.cons 5 6 rfl (Rg.guarded ?_ ?_) ?_
              · intro vs W hT
                have tg : vs 2 = .bool true := hT 2 (by decide)
                simp only [Rg.putsD, List.getD_cons_zero, List.getD_cons_succ, Act.put, List.setIfInBounds_toArray, List.set_cons_zero, List.set_cons_succ, tg]
                rfl
              · intro vs W n hn hI hG hT hF K hK
                simp only [Rg.putsD, List.getD_cons_zero, List.getD_cons_succ, Act.put, List.setIfInBounds_toArray, List.set_cons_zero, List.set_cons_succ] at hK ⊢
                clear hn
                clear hF hI
                have t0 : vs 0 = .int .i64 ((k' : Int) + 1) := hT 0 (by decide)
                have t1 : vs 1 = .bool true := hT 1 (by decide)
                have t2 : vs 2 = .bool true := hT 2 (by decide)
                simp only [t0, t1, t2] at hK
                have H := Lib.hid hK
                clear hK hT
                go_simp
                exact H.out _ _ (Below.refl _ _) rfl (fun h => by cases h) trivial
              refine Rg.cons 6 7 rfl (Rg.guarded ?_ ?_) ?_
              · intro vs W hT
                have tg : vs 2 = .bool true := hT 2 (by decide)
                simp only [Rg.putsD, List.getD_cons_zero, List.getD_cons_succ, Act.put, List.setIfInBounds_toArray, List.set_cons_zero, List.set_cons_succ, tg]
                rfl
              · intro vs W n hn hI hG hT hF K hK
                simp only [Rg.putsD, List.getD_cons_zero, List.getD_cons_succ, Act.put, List.setIfInBounds_toArray, List.set_cons_zero, List.set_cons_succ] at hK ⊢
                clear hn
                clear hF hI
                have t0 : vs 0 = .int .i64 ((k' : Int) + 1) := hT 0 (by decide)
                have t1 : vs 1 = .bool true := hT 1 (by decide)
                have t2 : vs 2 = .bool true := hT 2 (by decide)
                have t5 : vs 5 = .int .i64 ((k' : Int) + 1) := hT 5 (by decide)
                simp only [t0, t1, t2, t5] at hK
                have H := Lib.hid hK
                clear hK hT
                go_simp
                exact H.out _ _ (Below.refl _ _) rfl (fun h => by cases h) trivial
              refine Rg.cons 7 8 rfl (Rg.guarded ?_ ?_) ?_
              · intro vs W hT
                have tg : vs 2 = .bool true := hT 2 (by decide)
                simp only [Rg.putsD, List.getD_cons_zero, List.getD_cons_succ, Act.put, List.setIfInBounds_toArray, List.set_cons_zero, List.set_cons_succ, tg]
                rfl
              · intro vs W n hn hI hG hT hF K hK
                simp only [Rg.putsD, List.getD_cons_zero, List.getD_cons_succ, Act.put, List.setIfInBounds_toArray, List.set_cons_zero, List.set_cons_succ] at hK ⊢
                clear hn
                clear hF hI
                have t0 : vs 0 = .int .i64 ((k' : Int) + 1) := hT 0 (by decide)
                have t1 : vs 1 = .bool true := hT 1 (by decide)
                have t2 : vs 2 = .bool true := hT 2 (by decide)
                have t3 : vs 3 = .pointer (some ⟨w.heap.size, 1, none⟩) := hT 3 (by decide)
                have t4 : vs 4 = .slice (some ⟨g, 0, none⟩) al.length ca := hT 4 (by decide)
                have t5 : vs 5 = .int .i64 ((k' : Int) + 1) := hT 5 (by decide)
                have t6 : vs 6 = .int .i64 k' := hT 6 (by decide)
                simp only [t0, t1, t2, t3, t4, t5, t6] at hK
                have H := Lib.hid hK
                clear hK hT
                go_simp
                exact H.out _ _ (Below.refl _ _) rfl (fun h => by cases h) trivial
              refine Rg.cons 8 9 rfl (Rg.guarded ?_ ?_) ?_
              · intro vs W hT
                have tg : vs 2 = .bool true := hT 2 (by decide)
                simp only [Rg.putsD, List.getD_cons_zero, List.getD_cons_succ, Act.put, List.setIfInBounds_toArray, List.set_cons_zero, List.set_cons_succ, tg]
                rfl
              · intro vs W n hn hI hG hT hF K hK
                simp only [Rg.putsD, List.getD_cons_zero, List.getD_cons_succ, Act.put, List.setIfInBounds_toArray, List.set_cons_zero, List.set_cons_succ] at hK ⊢
                clear hn
                clear hF hI
                have t0 : vs 0 = .int .i64 ((k' : Int) + 1) := hT 0 (by decide)
                have t1 : vs 1 = .bool true := hT 1 (by decide)
                have t2 : vs 2 = .bool true := hT 2 (by decide)
                have t3 : vs 3 = .pointer (some ⟨w.heap.size, 1, none⟩) := hT 3 (by decide)
                have t4 : vs 4 = .slice (some ⟨g, 0, none⟩) al.length ca := hT 4 (by decide)
                have t5 : vs 5 = .int .i64 ((k' : Int) + 1) := hT 5 (by decide)
                have t6 : vs 6 = .int .i64 k' := hT 6 (by decide)
                have t7 : vs 7 = .pointer (some ⟨g, k' * 3, none⟩) := hT 7 (by decide)
                have r0 := (hG.cell (p := ⟨g, k' * 3, none⟩) hgx).trans HRW.out.1
                have r1 := (hG.cell (p := ⟨g, k' * 3 + 1, none⟩) hgx).trans HRW.out.2.1
                have r2 := (hG.cell (p := ⟨g, k' * 3 + 2, none⟩) hgx).trans HRW.out.2.2
                have hgW : g < W.heap.size := Nat.lt_of_lt_of_le hgx hG.size
                simp only [t0, t1, t2, t3, t4, t5, t6, t7] at hK
                have H := Lib.hid hK
                clear hK hT
                go_simp
                exact H.out _ _ (Below.refl _ _) rfl (fun h => by cases h) trivial
              refine Rg.cons 9 10 rfl (Rg.guarded ?_ ?_) ?_
              · intro vs W hT
                have tg : vs 2 = .bool true := hT 2 (by decide)
                simp only [Rg.putsD, List.getD_cons_zero, List.getD_cons_succ, Act.put, List.setIfInBounds_toArray, List.set_cons_zero, List.set_cons_succ, tg]
                rfl
              · intro vs W n hn hI hG hT hF K hK
                simp only [Rg.putsD, List.getD_cons_zero, List.getD_cons_succ, Act.put, List.setIfInBounds_toArray, List.set_cons_zero, List.set_cons_succ] at hK ⊢
                clear hn
                clear hF hI
                have t0 : vs 0 = .int .i64 ((k' : Int) + 1) := hT 0 (by decide)
                have t1 : vs 1 = .bool true := hT 1 (by decide)
                have t2 : vs 2 = .bool true := hT 2 (by decide)
                obtain ⟨p0, p1, p2⟩ := blk3 (blk_below (a := w2.drew) hG HX.out.kp)
                have hpl := lt_of_blk (blk_below (a := w2.drew) hG HX.out.kp)
                simp only [t0, t1, t2] at hK
                have H := Lib.hid hK
                clear hK hT
                go_simp
                exact H.out _ _ (Below.refl _ _) rfl (fun h => by cases h) trivial
              exact Rg.nil
            · intro vs W hG hI hT hF
              have t0 : vs 0 = .int .i64 ((k' : Int) + 1) := hT 0 (by decide)
              have t1 : vs 1 = .bool true := hT 1 (by decide)
              have t2 : vs 2 = .bool true := hT 2 (by decide)
              have t3 : vs 3 = .pointer (some ⟨w.heap.size, 1, none⟩) := hT 3 (by decide)
              have t4 : vs 4 = .slice (some ⟨g, 0, none⟩) al.length ca := hT 4 (by decide)
              have t5 : vs 5 = .int .i64 ((k' : Int) + 1) := hT 5 (by decide)
              have t6 : vs 6 = .int .i64 k' := hT 6 (by decide)
              have t7 : vs 7 = .pointer (some ⟨g, k' * 3, none⟩) := hT 7 (by decide)
              have t8 : vs 8 = .agg #[.string qpar, .string qby, .bool qboth] := hT 8 (by decide)
              have t9 : vs 9 = .agg #[.string par, .string by_, .bool both] := hT 9 (by decide)
              simp only [List.length_cons, List.length_nil, Nat.reduceAdd, List.range, List.range.loop, List.drop_succ_cons, List.drop_zero, Rg.putsD, List.getD_cons_zero, List.getD_cons_succ, Act.put, List.setIfInBounds_toArray, List.set_cons_zero, List.set_cons_succ, t0, t1, t2, t3, t4, t5, t6, t7, t8, t9]
              clear hT t0 t1 t2 t3 t4 t5 t6 t7 t8 t9
              have HY := Lib.hid (HX.out.ct.below ((Below.refl _ _).drew.ext hG))
              clear hG hF hI
              go_wp2_with fail
              refine (CC.out _).mono ?_
              rintro e w6 ⟨rfl, b6⟩
              have HY6 := Lib.hid (HY.out.below b6)
              clear b6 HY HX
              by_cases hle : 0 ≤ cc
              · have HV : Hid (E = 7) := HE4.out.trans (by rw [if_pos (decide_eq_true hle)]; rfl)
                clear HE4
                go_wp2_with fail
                go_ret
                exact ⟨ret_int HV.out.symm, HY6.out.bel⟩
              · have HV : Hid (E = thenE (altsE l (prevA al (k' + 1 + 1)) (al.drop (k' + 1 + 1))) (twE al)) := HE4.out.trans (by rw [if_neg (by simpa using hle), HPK.out])
                clear HE4
                go_wp2_with fail
                go_roundw
                case rel => exact ⟨k' + 1 + 1, by omega, by go_num, HY6.out, HV.out⟩
                case measure => simp [intOf]; omega
          · obtain rfl : k = 0 := by omega
            have HV : Hid (E = thenE (altsE l (prevA al (0 + 1)) (al.drop (0 + 1))) (twE al)) := by
              have h := HE3.out
              rw [show prevA al 0 = none from rfl] at h
              rw [HPK.out]
              exact h.trans (by rw [if_neg (by simp)])
            go_wp2_with fail
            go_quiet (fail)
            go_wp2_with fail
            go_roundw
            case rel => exact ⟨1, by omega, by go_num, HX.out.ct.below (below_drewN (Below.refl _ _) _), HV.out⟩
            case measure => simp [intOf]; omega
        · obtain rfl : k = al.length := by omega
          have HE0 : Hid (E = twE al) := HS.out.2.trans (by rw [List.drop_length]; cases prevA al al.length <;> rfl)
          have H0 := Lib.hid HS.out.1
          clear HS hlt
          obtain ⟨c0, c1, _, _⟩ := blk2 (blk_below ((Below.refl _ _).alloc (Nat.le_refl _) (.map #[] 0)) H0.out.k0)
          have hcl := lt_of_blk (blk_below ((Below.refl _ _).alloc (Nat.le_refl _) (.map #[] 0)) H0.out.k0)
          have HD : Hid (DT w wr.heap.size [] (wr.alloc (.map #[] 0)) ∧ w.heap.size ≤ wr.heap.size) :=
            ⟨⟨H0.out.bel.alloc H0.out.bel.size _, ⟨0, _, World.ownsMap_made wr _ _ _, Nat.le_refl _, pairsIs_nil⟩, List.nodup_nil⟩, H0.out.bel.size⟩
          have hmm := @run_makeMap Tryz.prog
          go_upto_region 26 with (fail)
          clear hmm H0
          generalize wr.alloc (.map #[] 0) = wd at *
          generalize wr.heap.size = gm at *
          go_wp2_with fail
          clear c0 c1 hcl
          go_loopw [112] (fun kk wr => ∃ k : Nat, k ≤ al.length ∧ kk = .int .i64 k ∧ Hid (DT w gm (dirF (al.take k)) wr)) (fun kk _ => al.length - (intOf kk).toNat)
          case atStart => exact ⟨0, by omega, rfl, HD.out.1⟩
          case round =>
            obtain ⟨k, hk, rfl, HS⟩ := hrel
            have HG := Lib.hid HD.out.2
            clear HD
            by_cases hlt : k < al.length
            · obtain ⟨A', c', ea, hr⟩ := HR2.out.below HS.out.bel
              cases ea
              rcases hr with rfl | ⟨g, rfl, hrow⟩
              · simp at hlt
              obtain ⟨q0, q1, q2⟩ := row_al hrow hlt
              have hgl := hrow.1
              have i1 : (0 : Int) ≤ (k : Int) := by omega
              have i2 : (k : Int) < (al.length : Int) := by omega
              have HDT := Lib.hid (dirF_take hlt)
              have HPR := Lib.hid (fun (j : Nat) hn => @dirF_pre al k hlt j hn)
              have HLL : Hid ((dirF (al.take k)).length ≤ 800000) := by
                have := dirs_len (al.take k)
                rw [List.length_take] at this
                show _ ≤ _
                rw [dirF_len]
                omega
              have HZK : Hid (∀ d ∈ dirT al[k], d.1.size ≤ maxLen ∧ d.2.size ≤ maxLen) := by
                have h := HZ2.out al[k] (List.getElem_mem hlt)
                intro d hd
                unfold dirT at hd
                rcases List.mem_cons.mp hd with rfl | hd
                · exact ⟨h.2, h.1⟩
                · split at hd
                  · have : d = (al[k].par, al[k].by_) := by simpa using hd
                    subst this
                    exact ⟨h.1, h.2⟩
                  · cases hd
              have hdl : (dirT al[k]).length ≤ 2 := by unfold dirT; split <;> simp
              clear hrow
              generalize dirF (al.take k) = L at *
              generalize al[k] = a at *
              have CD := Lib.hid (fun W => directions_any a W)
              generalize dirT a = ds at *
              obtain ⟨par, by_, both⟩ := a
              dsimp only at q0 q1 q2 CD
              have HX : Hid (DT w gm L (wr.alloc (.cells #[.string par, .string by_, .bool both] 51)) ∧ (wr.alloc (.cells #[.string par, .string by_, .bool both] 51)).heap[wr.heap.size]? = some (.cells #[.string par, .string by_, .bool both] 51 (0, 0))) := ⟨HS.out.below ((Below.refl _ _).alloc (Nat.le_refl _) _), blk_new wr _ rfl⟩
              clear HS
              go_upto_region 29 with (fail)
              generalize wr.alloc (.cells #[.string par, .string by_, .bool both] 51) = wx at *
              generalize wr.heap.size = gp at *
              clear q0 q1 q2 hgl
              obtain ⟨p0, p1, p2⟩ := blk3 HX.out.2
              have hpl := lt_of_blk HX.out.2
              go_wp2_with fail
              refine (CD.out wx).mono ?_
              rintro e w1 ⟨v, rfl, hrow, b1⟩
              obtain ⟨A7, c7, rfl, _⟩ := own_form hrow
              have H1 : Hid (DT w gm (L ++ (ds.take 0).map fwT) w1 ∧ w1.ownsRow wx.heap.size 62 2 (.slice A7 ds.length c7) ds.length (ds.flatMap encT) ∧ gm < wx.heap.size ∧ w.heap.size ≤ wx.heap.size) := by
                obtain ⟨n, D, hm, _⟩ := HX.out.1.mp
                refine ⟨?_, hrow, hm.lt, HX.out.1.bel.size⟩
                rw [List.take_zero, List.map_nil, List.append_nil]
                exact HX.out.1.below b1
              clear hrow b1 p0 p1 p2 hpl CD HX
              generalize wx.heap.size = B at *
              go_wp2_with fail
              go_loopw [119] (fun jj wr => ∃ j : Nat, j ≤ ds.length ∧ jj = .int .i64 j ∧ Hid (DT w gm (L ++ (ds.take j).map fwT) wr ∧ wr.ownsRow B 62 2 (.slice A7 ds.length c7) ds.length (ds.flatMap encT))) (fun jj _ => ds.length - (intOf jj).toNat)
              case atStart => exact ⟨0, by omega, rfl, H1.out.1, H1.out.2.1⟩
              case round =>
                obtain ⟨j, hj, rfl, HS⟩ := hrel
                have HGB := Lib.hid H1.out.2.2
                clear H1
                by_cases hjl : j < ds.length
                · obtain ⟨A', c', ea, hr⟩ := reads_own (enc := encT) HS.out.2
                  cases ea
                  rcases hr with rfl | ⟨g7, rfl, hrow⟩
                  · simp at hjl
                  obtain ⟨q0, q1⟩ := row_t hrow hjl
                  have hgl := hrow.1
                  have k1 : (0 : Int) ≤ (j : Int) := by omega
                  have k2 : (j : Int) < (ds.length : Int) := by omega
                  have HTK : Hid (L ++ (ds.take (j + 1)).map fwT = (L ++ (ds.take j).map fwT) ++ [fwT ds[j]]) := by
                    show _ = _
                    rw [← List.take_append_getElem hjl, List.map_append, List.append_assoc]
                    rfl
                  have HZ6 : Hid (¬ (L ++ (ds.take (j + 1)).map fwT).Nodup → E = 6) := fun h => HE0.out.trans (by unfold twE; rw [if_pos (HPR.out _ h)])
                  have HZJ := Lib.hid (HZK.out ds[j] (List.getElem_mem hjl))
                  have HLJ : Hid ((L ++ (ds.take j).map fwT).length ≤ 800002) := by
                    show _ ≤ _
                    have := HLL.out
                    rw [List.length_append, List.length_map, List.length_take]
                    omega
                  clear hrow
                  generalize hLN : L ++ (ds.take (j + 1)).map fwT = LN at *
                  have HLN := Lib.hid hLN
                  clear hLN
                  generalize L ++ (ds.take j).map fwT = LJ at *
                  generalize ds[j] = d at *
                  obtain ⟨x, y⟩ := d
                  dsimp only at q0 q1 HZJ
                  have HX : Hid (DT w gm LJ (wr.alloc (.cells #[.string x, .string y] 62)) ∧ (wr.alloc (.cells #[.string x, .string y] 62)).heap[wr.heap.size]? = some (.cells #[.string x, .string y] 62 (0, 0)) ∧ (wr.alloc (.cells #[.string x, .string y] 62)).ownsRow B 62 2 (.slice (some ⟨g7, 0, none⟩) ds.length c7) ds.length (ds.flatMap encT)) := ⟨HS.out.1.below ((Below.refl _ _).alloc (Nat.le_refl _) _), blk_new wr _ rfl, HS.out.2.alloc _⟩
                  clear HS
                  go_upto_region 32 with (fail)
                  generalize wr.alloc (.cells #[.string x, .string y] 62) = wy at *
                  generalize wr.heap.size = gd at *
                  clear q0 q1 hgl
                  obtain ⟨d0, d1, _, _⟩ := blk2 HX.out.2.1
                  have ld := lt_of_blk HX.out.2.1
                  obtain ⟨n, D, hm, hn, hD⟩ := HX.out.1.mp
                  have HM := Lib.hid (And.intro hm (And.intro hn hD))
                  clear hm hn hD
                  go_wp2_with (at_lookup; refine hold ?_)
                  refine loose ?_
                  refine wpList_lookup_own_boolW _ rfl _ _ 59 rfl 62 4 lawTwo Tryz.underlying59 Tryz.underlying4 (zeroBool _) gm n D rfl HM.out.1 (.agg #[.string x, .string y]) _ rfl (keyTwo x y HZJ.out.1 HZJ.out.2) ?_
                  intro c hc
                  have hcc := pairsIs_at HM.out.2.2 (show x.data.toList.length ≤ maxLen from HZJ.out.1) (show y.data.toList.length ≤ maxLen from HZJ.out.2) hc
                  have HND : Hid (c = !decide LN.Nodup) := by
                    show _ = _
                    rw [hcc, HTK.out]
                    have h1 := nodup_snoc LJ (fwT (x, y))
                    have h2 := HX.out.1.nd
                    by_cases h3 : fwT (x, y) ∈ LJ
                    · rw [decide_eq_true (show (x.data.toList, y.data.toList) ∈ LJ from h3), decide_eq_false (fun h => (h1.mp h).2 h3)]
                      rfl
                    · rw [decide_eq_false (show ¬ (x.data.toList, y.data.toList) ∈ LJ from h3), decide_eq_true (h1.mpr ⟨h2, h3⟩)]
                      rfl
                  clear hc hcc
                  cases c
                  · have HNN : Hid (LN.Nodup) := by have := HND.out; show LN.Nodup; simpa using this
                    go_wp2_with (at_mapUpdate; refine hold ?_)
                    refine loose ?_
                    refine wpList_mapUpdate_own _ rfl _ _ _ 59 rfl 62 4 lawTwo Tryz.underlying59 _ gm n D rfl HM.out.1 (by have := HM.out.2.1; have := HLJ.out; unfold maxLen; omega) (.agg #[.string x, .string y]) _ _ rfl rfl (keyTwo x y HZJ.out.1 HZJ.out.2) _ [] (plainElem_bool Tryz.underlying4 true) ?_
                    intro w3 hown3 hg3
                    have HF : Hid (DT w gm LN w3 ∧ w3.ownsRow B 62 2 (.slice (some ⟨g7, 0, none⟩) ds.length c7) ds.length (ds.flatMap encT)) := by
                      refine ⟨⟨HX.out.1.bel.grown hg3 HX.out.1.bel.size (fun j hj => by cases hj; exact HG.out), ⟨n + 1, _, hown3, ?_, ?_⟩, HNN.out⟩, ?_⟩
                      · have := HM.out.2.1
                        rw [HTK.out, List.length_append]
                        simp
                        omega
                      · rw [HTK.out]
                        exact pairsIs_put HM.out.2.2 HZJ.out.1 HZJ.out.2
                      · refine HX.out.2.2.kept hg3 (.inr fun e => ?_)
                        have h1 := own_row HX.out.2.2 g7 rfl
                        injection e with e
                        have h2 := HGB.out.1
                        have h3 : g7 = gm := e
                        omega
                    clear hown3 hg3 HX HM d0 d1 ld
                    go_wp2_with fail
                    go_roundw
                    case rel => exact ⟨j + 1, by omega, by go_num, by rw [HLN.out]; exact HF⟩
                    case measure => simp [intOf]; omega
                  · have HZ : Hid (E = 6) := HZ6.out (by have := HND.out; simpa using this)
                    have HB := Lib.hid HX.out.1.bel
                    clear HX HM
                    go_wp2_with fail
                    go_ret
                    exact ⟨ret_int HZ.out.symm, HB.out⟩
                · obtain rfl : j = ds.length := by omega
                  have HF : Hid (DT w gm (dirF (al.take (k + 1))) wr) := by
                    have h := HS.out.1
                    rw [List.take_length] at h
                    show DT _ _ _ _
                    rw [HDT.out]
                    exact h
                  clear HS
                  go_wp2_with fail
                  go_roundw
                  case rel => exact ⟨k + 1, by omega, by go_num, HF⟩
                  case measure => simp [intOf]; omega
            · obtain rfl : k = al.length := by omega
              have HZ : Hid (E = 0) := HE0.out.trans (by
                have h := HS.out.nd
                rw [List.take_length, dirF_nodup] at h
                unfold twE
                rw [show twB (dirs al) = false from decide_eq_false (fun h2 => h2 h)]
                rfl)
              go_wp2_with fail
              go_ret
              exact ⟨ret_int HZ.out.symm, HS.out.bel⟩
end Go.Proofs.YtiooimfkobjpkaaGreatDoor
