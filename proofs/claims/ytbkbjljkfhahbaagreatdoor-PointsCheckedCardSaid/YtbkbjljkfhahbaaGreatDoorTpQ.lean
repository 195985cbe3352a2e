/-
  The reference reads points (rfref1).
-/
import Derived.Test.YtbkbjljkfhahbaaGreatDoorTpR
import Derived.Test.YtbkbjljkfhahbaaGreatDoorTxF
import Derived.Test.YtbkbjljkfhahbaaGreatDoorShelfT
namespace Go.Proofs.YtbkbjljkfhahbaaGreatDoor
open Go.RowKit
set_option linter.unusedSimpArgs false
set_option linter.unusedVariables false

theorem dropWhile_nil {p : UInt8 → Bool} : ∀ {l : List UInt8}, l.dropWhile p = [] ↔ l.all p = true
  | [] => by simp
  | x :: l => by
    rw [List.dropWhile_cons, List.all_cons]
    by_cases h : p x = true
    · rw [if_pos h, dropWhile_nil, h]; simp
    · rw [if_neg h]; simp [h]
theorem dropWhile_head {p : UInt8 → Bool} : ∀ {l : List UInt8} {x : UInt8} {r : List UInt8}, l.dropWhile p = x :: r → p x = false
  | [], _, _, h => by simp at h
  | y :: l, x, r, h => by
    rw [List.dropWhile_cons] at h
    by_cases hy : p y = true
    · rw [if_pos hy] at h; exact dropWhile_head h
    · rw [if_neg hy] at h
      simp at h
      rw [← h.1]
      simpa using hy
theorem trim_nil (l cs : List UInt8) : Lib.trimS l cs = [] ↔ l.all (cs.contains ·) = true := by
  unfold Lib.trimS Lib.trimLeftS Lib.trimRightS
  rw [dropWhile_nil, List.all_reverse]
  constructor
  · intro h
    cases hd : l.reverse.dropWhile (cs.contains ·) with
    | nil => have := dropWhile_nil.mp hd; rwa [List.all_reverse] at this
    | cons x r =>
      have h1 := dropWhile_head hd
      rw [hd, List.all_cons, h1] at h
      simp at h
  · intro h
    have : l.reverse.dropWhile (cs.contains ·) = [] := dropWhile_nil.mpr (by rw [List.all_reverse]; exact h)
    rw [this]; rfl
def digsL : List UInt8 := [48, 49, 50, 51, 52, 53, 54, 55, 56, 57]
theorem digsL_all : ∀ n, n < 256 → digsL.contains (UInt8.ofNat n) = digB (UInt8.ofNat n) := by decide +kernel
theorem digsL_mem (x : UInt8) : digsL.contains x = digB x := by
  have := digsL_all x.toNat x.toNat_lt
  simpa using this
theorem trim_digs (d : ByteArray) : Lib.trimS d.data.toList digsL = [] ↔ allDig (bt d) = true := by
  rw [trim_nil]
  unfold allDig
  have e : (fun x => digsL.contains x) = digB := by funext x; exact digsL_mem x
  rw [e]
theorem digsL_ascii : ∀ (j : Nat) b, (⟨digsL.toArray⟩ : ByteArray).data.toList[j]? = some b → b.toNat < 128 := by
  intro j b h
  have hm : b ∈ digsL := List.mem_of_getElem? h
  have : ∀ x ∈ digsL, x.toNat < 128 := by decide
  exact this b hm

set_option maxHeartbeats 2000000 in
theorem numberR_any (s : ByteArray) (most : Nat) (hm : most ≤ 15) (hs : s.size ≤ 1000000) (w : World) (hG : Gl w) (hw : gLow ≤ w.heap.size) :
    Calls Tryz.prog 89 #[.string s, .int .i64 most] w fun e w' => ∃ n, e = .returned (.tuple #[.int .i64 n, .bool (numB most s)]) ∧ (numB most s = true → n = numI most s) ∧ Below w.heap.size w w' := by
  have CT : Hid (Calls Tryz.prog 110 #[.string s, .string ⟨#[45]⟩] w fun e w' => e = .returned (.string (digB' s)) ∧ w' = w) := by
    have := Tryz.strings_TrimPrefix s ⟨#[45]⟩ w
    rw [show (⟨#[45]⟩ : ByteArray).data.toList = [45] from rfl, digsOf_trim] at this
    exact this
  have hsz := digs_le s
  have CI := Lib.hid (fun W => in1_any ((digB' s).size : Int) 1 most W)
  have CO : Hid (∀ W, Calls Tryz.prog 73 #[.string (digB' s), .string ⟨digsL.toArray⟩] W fun e w' => e = .returned (.string ⟨(Lib.trimS (digB' s).data.toList digsL).toArray⟩) ∧ Below W.heap.size W w') := fun W => Tryz.strings_Trim (digB' s) ⟨digsL.toArray⟩ W (by omega) (by decide) digsL_ascii
  have HTD := Lib.hid (trim_digs (digB' s))
  have HN := Lib.hid (@num_none most s)
  have HI := Lib.hid (@num_itoa most s)
  have HA := Lib.hid (@atoi_some (bt s))
  have HS := Lib.hid (sgn_in s)
  have HZ := Lib.hid (digs_size s)
  have HB := Lib.hid (digs_bt s)
  generalize digB' s = d at *
  generalize numI most s = n at *
  generalize numB most s = b at *
  cases hin : (decide ((1 : Int) ≤ (d.size : Int)) && decide ((d.size : Int) ≤ (most : Int)))
  · obtain ⟨rfl, rfl⟩ : b = false ∧ n = 0 := by
      rw [Bool.and_eq_false_iff, decide_eq_false_iff_not, decide_eq_false_iff_not] at hin
      rcases hin with h | h
      · exact HN.out (.inl (by omega))
      · exact HN.out (.inr (.inl (by omega)))
    rw [hin] at CI
    clear HN HS HA HZ HB HI CO HTD hin
    go_enter Tryz.func89, Tryz.ntmps89
    go_wp2_with fail
    refine CT.out.mono ?_
    rintro e w' ⟨rfl, rfl⟩
    go_wp2_with fail
    refine (CI.out _).mono ?_
    rintro e w' ⟨rfl, rfl⟩
    go_wp2_with fail
    refine bodyPost_ret (v := .tuple #[.int .i64 0, .bool false]) (by unfold results; simp only [Tryz.results89]; go_simp) rfl ⟨_, rfl, fun h => (by cases h), Below.refl _ _⟩
  have hin2 : 1 ≤ d.size ∧ d.size ≤ most := by
    rw [Bool.and_eq_true, decide_eq_true_eq, decide_eq_true_eq] at hin
    omega
  obtain ⟨h0, hlt⟩ := hin2
  rw [hin] at CI
  clear hin
  generalize Lib.trimS d.data.toList digsL = tl at *
  by_cases ht : tl = []
  rotate_left
  · have hd : allDig (bt d) = false := by
      rw [Bool.eq_false_iff]
      exact fun h => ht (HTD.out.mpr h)
    obtain ⟨rfl, rfl⟩ := HN.out (.inr (.inr (.inr hd)))
    have hte : tl.isEmpty = false := by cases tl with | nil => exact absurd rfl ht | cons a r => rfl
    clear HN HS HA HZ HB HI hd HTD
    go_enter Tryz.func89, Tryz.ntmps89
    go_wp2_with fail
    refine CT.out.mono ?_
    rintro e w' ⟨rfl, rfl⟩
    go_wp2_with fail
    refine (CI.out _).mono ?_
    rintro e w' ⟨rfl, rfl⟩
    go_wp2_with fail
    refine (CO.out _).mono ?_
    rintro e w4 ⟨rfl, b4⟩
    have HB4 := Lib.hid b4
    clear b4
    go_wp2_with fail
    refine bodyPost_ret (v := .tuple #[.int .i64 0, .bool false]) (by unfold results; simp only [Tryz.results89]; go_simp) rfl ⟨_, rfl, fun h => (by cases h), HB4.out⟩
  · subst ht
    have hd := HTD.out.mp rfl
    have hd2 : allDig (digsOf (bt s)) = true := by rw [← HB.out]; exact hd
    have hl2 : (digsOf (bt s)).length ≤ 15 := by rw [← HZ.out]; omega
    have HV := Lib.hid (HI.out (by omega) (by omega) hd)
    have hin := HS.out hd2 hl2
    have CA := Lib.hid (fun W => Tryz.strconv_Atoi s (sgn (bt s)) (by omega) (HA.out (by rw [← HZ.out]; omega) hd2) W)
    have CIt := Lib.hid (fun (W : World) (hG : Gl W) => itoa_any (sgn (bt s)) hin.1 hin.2 W hG)
    clear HN HS HA HZ HB HI hd hd2 hl2 hin HTD
    rw [show (⟨(Lib.itoa (sgn (bt s))).toArray⟩ : ByteArray) = itB (sgn (bt s)) from rfl] at CIt
    generalize itB (sgn (bt s)) = it at *
    go_enter Tryz.func89, Tryz.ntmps89
    go_wp2_with fail
    refine CT.out.mono ?_
    rintro e w' ⟨rfl, rfl⟩
    go_wp2_with fail
    refine (CI.out _).mono ?_
    rintro e w' ⟨rfl, rfl⟩
    go_wp2_with fail
    refine (CO.out _).mono ?_
    rintro e w4 ⟨rfl, b4⟩
    have HB4 := Lib.hid b4
    have hz4 := b4.size
    clear b4
    go_wp2_with fail
    refine (CA.out _).mono ?_
    rintro e w2 ⟨rfl, t, rfl⟩
    have HB2 := Lib.hid (HB4.out.then_below (Go.Joins.below_bytesWorld w4.heap.size w4 5 t (Nat.le_refl _)) HB4.out.size)
    have hG2 := Lib.hid (hG.below HB2.out hw)
    generalize Lib.bytesWorld w4 5 t = w2 at *
    go_wp2_with fail
    refine (CIt.out _ hG2.out).mono ?_
    rintro e w3 ⟨rfl, b3⟩
    have HF := Lib.hid (HB2.out.then_below b3 HB2.out.size)
    clear b3
    go_wp2_with fail
    refine bodyPost_ret (v := .tuple #[.int .i64 (sgn (bt s)), .bool (it.toList == s.toList)]) (by unfold results; simp only [Tryz.results89]; go_simp) rfl ⟨_, by rw [HV.out.1], fun h => (HV.out.2 h).symm, HF.out⟩

set_option maxHeartbeats 2000000 in
theorem numbersR_any (ws : List ByteArray) (most : Nat) (hm : most ≤ 15) (hl : ws.length ≤ 1000000) (hz : ∀ x ∈ ws, x.size ≤ 1000000) {v : Value} {w : World} (h : StrsAt v ws w) (hG : Gl w) (hw : gLow ≤ w.heap.size) :
    Calls Tryz.prog 58 #[v, .int .i64 most] w fun e w' => ∃ u, e = .returned (.tuple #[u, .bool (numsB most ws)]) ∧ Below w.heap.size w w' ∧ ∃ l : List Int, l.length = ws.length ∧ ReadsF w.heap.size encZ u l w' ∧ (numsB most ws = true → l = numsI most ws) := by
  have HH := Lib.hid (And.intro h hG)
  obtain ⟨A, c, rfl, hc, _⟩ := h
  clear hG
  go_enter Tryz.func58, Tryz.ntmps58
  go_wp2_with fail
  go_loopw [6, 7, 14] (fun v6 v7 kk wr => ∃ (k : Nat) (l : List Int) (b : Bool), k ≤ ws.length ∧ kk = .int .i64 k ∧ v7 = .bool b ∧ l.length = k ∧ w.heap.size ≤ wr.heap.size ∧ Hid (Below w.heap.size w wr ∧ b = numsB most (ws.take k) ∧ (b = true → l = numsI most (ws.take k)) ∧ wr.ownsRow w.heap.size 3 1 v6 l.length (l.map (Value.int .i64)))) (fun _ _ kk _ => ws.length - (intOf kk).toNat)
  case atStart => exact ⟨0, [], true, by omega, rfl, rfl, rfl, Nat.le_refl _, Below.refl _ _, rfl, fun _ => rfl, World.ownsRow_nil _ _ _ _⟩
  case round =>
    obtain ⟨k, l, b, hk, rfl, rfl, hlk, hwz, HS⟩ := hrel
    have HLK := Lib.hid hlk
    have hl1 : l.length ≤ 1000000 := by omega
    clear hlk
    obtain ⟨A6, c6, rfl, hc6, _⟩ := own_slice' HS.out.2.2.2
    by_cases hlt : k < ws.length
    · obtain ⟨g, o, rfl, hgl, hcs⟩ : ∃ g o : Nat, A = some ⟨g, o, none⟩ ∧ g < wr.heap.size ∧ ∀ j (h : j < ws.length), wr.cell? ⟨g, o + j, none⟩ = some (.string ws[j]) := by
        obtain ⟨A', c', e, _, hr⟩ := HH.out.1.below HS.out.1
        cases e
        rcases hr with hr | hr
        · subst hr; simp at hlt
        · exact hr
      have q1 := hcs k hlt
      have i1 : (0 : Int) ≤ (k : Int) := by omega
      have i2 : (k : Int) < (ws.length : Int) := by omega
      have CN := Lib.hid (numberR_any ws[k] most hm (hz _ (List.getElem_mem hlt)) wr (HH.out.2.below HS.out.1 hw) (by omega))
      have HT : Hid (ws.take (k + 1) = ws.take k ++ [ws[k]]) := (List.take_append_getElem hlt).symm
      clear hcs
      generalize ws[k] = x at *
      have HE1 : Hid (numsB most (ws.take (k + 1)) = (numsB most (ws.take k) && numB most x)) := by
        show _ = _
        rw [HT.out]
        unfold numsB
        rw [List.all_append]
        simp
      have HE2 : Hid (numsI most (ws.take (k + 1)) = numsI most (ws.take k) ++ [numI most x]) := by
        show _ = _
        rw [HT.out]
        unfold numsI
        rw [List.map_append]
        rfl
      generalize numB most x = bx at *
      generalize numI most x = nx at *
      go_wp2_with fail
      refine CN.out.mono ?_
      rintro e w1 ⟨n, rfl, hn, b1⟩
      have H1 := Lib.hid (And.intro (HS.out.1.then_below b1 HS.out.1.size) (And.intro HS.out.2.1 (And.intro HS.out.2.2.1 (And.intro (own_below HS.out.2.2.2 b1) hn))))
      have hwz1 : w.heap.size ≤ w1.heap.size := H1.out.1.size
      clear b1 hn HS CN
      obtain ⟨i0, hi0, hz0, hzz1, hz2⟩ := info_parts int_info2
      have HI := Lib.hid (And.intro hi0 (And.intro hz0 (And.intro hzz1 hz2)))
      clear hi0 hz0 hzz1 hz2
      go_wp2_with (at_builtin; refine hold ?_)
      refine loose ?_
      refine wpList_append_own _ rfl _ _ 22 rfl w.heap.size 3 i0 _ 1 8 Tryz.underlying22 HI.out.1 HI.out.2.1 HI.out.2.2.1 HI.out.2.2.2 rfl (by omega) _ l.length (l.map (Value.int .i64)) rfl (H1.out.2.2.2.1.alloc _) ⟨w1.heap.size, 0, none⟩ 1 1 [.int .i64 n] rfl rfl (cell_one_new _ _ _) (by intro u hu; simp at hu; subst hu; rfl) (by unfold maxLen; omega) (by omega) (by simp; omega) ?_
      intro v' w2 hown' hg' _
      have HF : Hid (Below w.heap.size w w2 ∧ (b && bx) = numsB most (ws.take (k + 1)) ∧ ((b && bx) = true → l ++ [n] = numsI most (ws.take (k + 1))) ∧ w2.ownsRow w.heap.size 3 1 v' (l ++ [n]).length ((l ++ [n]).map (Value.int .i64))) := by
        refine ⟨(H1.out.1.alloc hwz1 _).grown hg' (by simp; omega) (own_row H1.out.2.2.2.1), ?_, fun hb => ?_, ?_⟩
        · rw [HE1.out, ← H1.out.2.1]
        · rw [Bool.and_eq_true] at hb
          rw [HE2.out, H1.out.2.2.1 hb.1, H1.out.2.2.2.2 hb.2]
        · rw [List.length_append, List.map_append]
          exact hown'
      have hz3 := HF.out.1.size
      clear hown' hg' H1
      cases b
      · go_wp2_with fail
        go_roundw
        case rel => exact ⟨k + 1, l ++ [n], false, by omega, by go_num, rfl, by rw [List.length_append, HLK.out]; rfl, hz3, HF⟩
        case measure => simp [intOf]; omega
      · go_wp2_with fail
        go_roundw
        case rel => exact ⟨k + 1, l ++ [n], bx, by omega, by go_num, rfl, by rw [List.length_append, HLK.out]; rfl, hz3, by have h := HF.out; rw [Bool.true_and] at h; exact h⟩
        case measure => simp [intOf]; omega
    · have e : ws.take k = ws := List.take_of_length_le (by omega)
      have HF := HS
      rw [e] at HF
      have HK : Hid (l.length = ws.length) := by show _ = _; rw [HLK.out]; omega
      clear HS e
      go_wp2_with fail
      refine bodyPost_ret (v := .tuple #[.slice A6 l.length c6, .bool b]) (by unfold results; simp only [Tryz.results58]; go_simp) rfl ⟨_, by rw [HF.out.2.1], HF.out.1, l, HK.out, own_intz HF.out.2.2.2, fun h => HF.out.2.2.1 (HF.out.2.1.trans h)⟩


theorem numB_empty : numB 15 dS = false := (num_none (.inl rfl)).1
theorem takePt_has {i : Nat} {st : List (Int × Int)} {ws : List ByteArray} (h : has ws dS = true) : takePt i st ws = none := by
  refine takePt_bad ?_
  rw [Bool.eq_false_iff]
  intro hc
  have hm := has_iff.mp h
  have := List.all_eq_true.mp hc _ hm
  rw [numB_empty] at this
  cases this
theorem stepPt (i : Nat) (st : List (Int × Int)) (l : ByteArray) : stepW takePt i st l = takePt i st (wordsB l) := by
  unfold stepW
  split
  · rename_i h
    exact (takePt_has h).symm
  · rfl

set_option maxRecDepth 100000 in
set_option maxHeartbeats 8000000 in
theorem ptRef_takes (cb base : Nat) (hcb : base ≤ cb) (hlow : gLow ≤ base) : TakesR 69 cb base (stepW takePt) (fun i st w => PtAt cb i st w ∧ Gl w) := by
  intro i st l w hi hl hbw hIG
  obtain ⟨hI, hG⟩ := hIG
  have HST := Lib.hid (stepPt i st l)
  obtain ⟨m, hm⟩ := hG.1
  have CS : Hid (Calls Tryz.prog 70 #[.string l, .string ⟨#[32]⟩] w fun e w' => e = .returned (.slice (some ⟨w.heap.size, 0, none⟩) (wordsB l).length (wordsB l).length) ∧ w' = w.alloc (.cells ((wordsB l).map Value.string).toArray 9)) := by
    rw [wordsB_len]
    exact Tryz.strings_Split l ⟨#[32]⟩ m w (by omega) hm (by decide)
  have hwl : (wordsB l).length ≤ 200001 := by
    rw [wordsB_len]
    have := Lib.countB_mul_le ⟨#[32]⟩ (by decide) l.size l (Nat.le_refl _)
    have e : (⟨#[32]⟩ : ByteArray).size = 1 := rfl
    rw [e] at this
    omega
  have HWZ : Hid (∀ x ∈ wordsB l, x.size ≤ 200000) := fun x hx => by have := wordsB_size hx; omega
  generalize stepW takePt i st l = R at *
  generalize wordsB l = ws at *
  have hcb0 := hI.lt
  have HI := Lib.hid hI
  clear hm hI
  by_cases h2 : ws.length = 2
  rotate_left
  · have HR := Lib.hid (HST.out.trans (takePt_len h2))
    have hne2 : ((ws.length : Int) != 2) = true := by simp; omega
    go_enter Tryz.func69, Tryz.ntmps69
    go_wp2_with fail
    refine CS.out.mono ?_
    rintro e w2 ⟨rfl, rfl⟩
    have HB : Hid (Below base w (w.alloc (.cells (ws.map Value.string).toArray 9))) := (Below.refl _ _).alloc hbw _
    generalize w.alloc (.cells (ws.map Value.string).toArray 9) = w2 at *
    go_wp2_with fail
    go_ret
    exact ⟨by rw [HR.out]; rfl, HB.out, fun st' h => by rw [HR.out] at h; cases h⟩
  obtain ⟨x, y, rfl⟩ : ∃ x y, ws = [x, y] := by
    match ws, h2 with
    | [a, b], _ => exact ⟨a, b, rfl⟩
  simp only [List.length_cons, List.length_nil, Nat.zero_add, Nat.reduceAdd] at CS
  have CN := Lib.hid (fun (W : World) (v : Value) (h : StrsAt v [x, y] W) (hG : Gl W) (hw : gLow ≤ W.heap.size) => numbersR_any [x, y] 15 (by omega) (by simp) (fun z hz => by have := HWZ.out z hz; omega) h hG hw)
  clear hwl HWZ
  go_enter Tryz.func69, Tryz.ntmps69
  go_wp2_with fail
  refine CS.out.mono ?_
  rintro e w2 ⟨rfl, rfl⟩
  have H2 : Hid (Below w.heap.size w (w.alloc (.cells ([x, y].map Value.string).toArray 9)) ∧ StrsAt (.slice (some ⟨w.heap.size, 0, none⟩) 2 2) [x, y] (w.alloc (.cells ([x, y].map Value.string).toArray 9))) :=
    ⟨(Below.refl _ _).alloc (Nat.le_refl _) _, strs_blk (blk_new w _ rfl) rfl⟩
  generalize w.alloc (.cells ([x, y].map Value.string).toArray 9) = w2 at *
  have CX := Lib.hid (CN.out w2 _ H2.out.2 (hG.below H2.out.1 (by omega)) (by have := H2.out.1.size; omega))
  have hz2 := H2.out.1.size
  clear CS CN
  go_wp2_with fail
  refine CX.out.mono ?_
  rintro e w1 ⟨u, rfl, b1, lu, hlu2, hru, hln⟩
  obtain ⟨nx, ny, rfl⟩ : ∃ nx ny, lu = [nx, ny] := by
    match lu, hlu2 with
    | [a, b], _ => exact ⟨a, b, rfl⟩
  obtain ⟨Au, cu, rfl, hcu, hru⟩ := hru
  obtain ⟨gn, rfl, hgn, hlu⟩ : ∃ gn : Nat, Au = some ⟨gn, 0, none⟩ ∧ w2.heap.size ≤ gn ∧ LineAt w1 gn ([nx, ny].flatMap encZ) := by
    rcases hru with hru | hru
    · cases hru
    · exact hru
  have n0 : w1.cell? ⟨gn, 0, none⟩ = some (.int .i64 nx) := row_intz hlu (k := 0) (by simp)
  have n1 : w1.cell? ⟨gn, 1, none⟩ = some (.int .i64 ny) := row_intz hlu (k := 1) (by simp)
  have hgnl := hlu.1
  have hb1 : Below w.heap.size w w1 := H2.out.1.then_below b1 H2.out.1.size
  obtain ⟨vs, hp, hown, hpl⟩ := HI.out.below hb1
  obtain ⟨Av, cv, rfl, hcv, _⟩ := own_slice' hown
  have H1 : Hid (Below base w w1 ∧ w1.heap[cb]? = some (.cells #[.slice Av st.length cv] 42 (0, 0)) ∧ w1.ownsRow (cb + 1) 45 2 (.slice Av st.length cv) st.length (st.flatMap encP)) :=
    ⟨hb1.mono hbw, hp, hown⟩
  have HNN : Hid (numsB 15 [x, y] = true → nx = numI 15 x ∧ ny = numI 15 y) := fun h => by
    have := hln h
    simp [numsI] at this
    exact this
  have HT2 := Lib.hid (@takePt_two i st x y)
  have HTB := Lib.hid (@takePt_bad i st [x, y])
  generalize numsB 15 [x, y] = bb at *
  obtain ⟨p0, p0f, hcbl⟩ := blk1 hp
  have hne1 : gn ≠ cb := by omega
  have hpl2 : st.length ≤ 200000 := by omega
  obtain ⟨i0, hi0, hz0, hzz1, hzz2⟩ := info_parts pt_info
  have HIF := Lib.hid (And.intro hi0 (And.intro hz0 (And.intro hzz1 hzz2)))
  have HN := Lib.hid (And.intro n0 n1)
  clear b1 hru hlu hp hown CX hi0 hz0 hzz1 hzz2 HI n0 n1 p0f hln H2 hb1 hlu2
  go_upto_region 5 with (fail)
  refine Rg.rgL (fun a b => Below a.heap.size a b)
    [(fun vs u => vs 0 = .slice Av st.length cv), (fun vs u => vs 1 = .slice (some ⟨gn, 0, none⟩) 2 cu), (fun vs u => vs 2 = .pointer (some ⟨gn, 0, none⟩)), (fun vs u => vs 3 = .int .i64 nx), (fun vs u => vs 4 = .slice (some ⟨gn, 0, none⟩) 2 cu), (fun vs u => vs 5 = .pointer (some ⟨gn, 1, none⟩)), (fun vs u => vs 6 = .int .i64 ny), (fun vs u => vs 7 = .agg #[.int .i64 nx, .int .i64 ny]), (fun vs u => ∃ q : Nat, vs 8 = .slice (some ⟨q, 0, none⟩) 1 1 ∧ u.heap[q]? = some (.cells #[.int .i64 nx, .int .i64 ny] 45 (0, 0)))]
    [[], [], [1], [1, 2], [], [4], [4, 5], [1, 2, 3, 4, 5, 6], [1, 2, 3, 4, 5, 6, 7]] [some 17, some 18, some 19, some 20, some 21, some 22, some 23, some 24, some 25, some 26, none] [8] (fun _ _ => True) [[], [], [1], [1, 2], [], [4], [4, 5], [1, 2, 3, 4, 5, 6], [1, 2, 3, 4, 5, 6, 7], [0, 1, 2, 3, 4, 5, 6, 7, 8], [0, 1, 2, 3, 4, 5, 6, 7, 8, 9]]
    (by kernel_rfl) (by decide) (by kernel_rfl) (by kernel_rfl) (by kernel_rfl) (by kernel_rfl) (by kernel_rfl) (fun _ => Below.refl _ _) (fun _ _ _ h k => h.ext k) (fun _ _ h => h.size) ?_ trivial ?_ ?_
  · intro t ht vs w w' h hE
    simp only [List.mem_cons, List.not_mem_nil, or_false] at ht
    rcases ht with rfl | rfl | rfl | rfl | rfl | rfl | rfl | rfl | rfl
    · exact h
    · exact h
    · exact h
    · exact h
    · exact h
    · exact h
    · exact h
    · exact h
    · obtain ⟨q, e, k⟩ := h
      exact ⟨q, e, blk_below hE k⟩
  ·
    refine Rg.cons 0 1 rfl (Rg.plain rfl ?_) ?_
    · intro vs W n hn hI hG hT hF K hK
      simp only [Rg.putsD, List.getD_cons_zero, List.getD_cons_succ, Act.put, List.setIfInBounds_toArray, List.set_cons_zero, List.set_cons_succ] at hK ⊢
      clear hn
      clear hF hI
      obtain ⟨c0, _, _⟩ := blk1 (blk_below hG H1.out.2.1)
      have H := Lib.hid hK
      clear hK hT
      go_simp
      exact H.out _ _ (Below.refl _ _) rfl (fun h => by cases h) trivial
    refine Rg.cons 1 2 rfl (Rg.plain rfl ?_) ?_
    · intro vs W n hn hI hG hT hF K hK
      simp only [Rg.putsD, List.getD_cons_zero, List.getD_cons_succ, Act.put, List.setIfInBounds_toArray, List.set_cons_zero, List.set_cons_succ] at hK ⊢
      clear hn
      clear hF hI
      have H := Lib.hid hK
      clear hK hT
      go_simp
      exact H.out _ _ (Below.refl _ _) rfl (fun h => by cases h) trivial
    refine Rg.cons 2 3 rfl (Rg.plain rfl ?_) ?_
    · intro vs W n hn hI hG hT hF K hK
      simp only [Rg.putsD, List.getD_cons_zero, List.getD_cons_succ, Act.put, List.setIfInBounds_toArray, List.set_cons_zero, List.set_cons_succ] at hK ⊢
      clear hn
      clear hF hI
      have t1 : vs 1 = .slice (some ⟨gn, 0, none⟩) 2 cu := hT 1 (by decide)
      simp only [t1] at hK
      have H := Lib.hid hK
      clear hK hT
      go_simp
      exact H.out _ _ (Below.refl _ _) rfl (fun h => by cases h) trivial
    refine Rg.cons 3 4 rfl (Rg.plain rfl ?_) ?_
    · intro vs W n hn hI hG hT hF K hK
      simp only [Rg.putsD, List.getD_cons_zero, List.getD_cons_succ, Act.put, List.setIfInBounds_toArray, List.set_cons_zero, List.set_cons_succ] at hK ⊢
      clear hn
      clear hF hI
      have t1 : vs 1 = .slice (some ⟨gn, 0, none⟩) 2 cu := hT 1 (by decide)
      have t2 : vs 2 = .pointer (some ⟨gn, 0, none⟩) := hT 2 (by decide)
      have c0 := (hG.cell (p := ⟨gn, 0, none⟩) hgnl).trans HN.out.1
      simp only [t1, t2] at hK
      have H := Lib.hid hK
      clear hK hT
      go_simp
      exact H.out _ _ (Below.refl _ _) rfl (fun h => by cases h) trivial
    refine Rg.cons 4 5 rfl (Rg.plain rfl ?_) ?_
    · intro vs W n hn hI hG hT hF K hK
      simp only [Rg.putsD, List.getD_cons_zero, List.getD_cons_succ, Act.put, List.setIfInBounds_toArray, List.set_cons_zero, List.set_cons_succ] at hK ⊢
      clear hn
      clear hF hI
      have H := Lib.hid hK
      clear hK hT
      go_simp
      exact H.out _ _ (Below.refl _ _) rfl (fun h => by cases h) trivial
    refine Rg.cons 5 6 rfl (Rg.plain rfl ?_) ?_
    · intro vs W n hn hI hG hT hF K hK
      simp only [Rg.putsD, List.getD_cons_zero, List.getD_cons_succ, Act.put, List.setIfInBounds_toArray, List.set_cons_zero, List.set_cons_succ] at hK ⊢
      clear hn
      clear hF hI
      have t4 : vs 4 = .slice (some ⟨gn, 0, none⟩) 2 cu := hT 4 (by decide)
      simp only [t4] at hK
      have H := Lib.hid hK
      clear hK hT
      go_simp
      exact H.out _ _ (Below.refl _ _) rfl (fun h => by cases h) trivial
    refine Rg.cons 6 7 rfl (Rg.plain rfl ?_) ?_
    · intro vs W n hn hI hG hT hF K hK
      simp only [Rg.putsD, List.getD_cons_zero, List.getD_cons_succ, Act.put, List.setIfInBounds_toArray, List.set_cons_zero, List.set_cons_succ] at hK ⊢
      clear hn
      clear hF hI
      have t4 : vs 4 = .slice (some ⟨gn, 0, none⟩) 2 cu := hT 4 (by decide)
      have t5 : vs 5 = .pointer (some ⟨gn, 1, none⟩) := hT 5 (by decide)
      have c0 := (hG.cell (p := ⟨gn, 1, none⟩) hgnl).trans HN.out.2
      simp only [t4, t5] at hK
      have H := Lib.hid hK
      clear hK hT
      go_simp
      exact H.out _ _ (Below.refl _ _) rfl (fun h => by cases h) trivial
    refine Rg.cons 7 8 rfl (Rg.plain rfl ?_) ?_
    · intro vs W n hn hI hG hT hF K hK
      simp only [Rg.putsD, List.getD_cons_zero, List.getD_cons_succ, Act.put, List.setIfInBounds_toArray, List.set_cons_zero, List.set_cons_succ] at hK ⊢
      clear hn
      clear hF hI
      have t1 : vs 1 = .slice (some ⟨gn, 0, none⟩) 2 cu := hT 1 (by decide)
      have t2 : vs 2 = .pointer (some ⟨gn, 0, none⟩) := hT 2 (by decide)
      have t3 : vs 3 = .int .i64 nx := hT 3 (by decide)
      have t4 : vs 4 = .slice (some ⟨gn, 0, none⟩) 2 cu := hT 4 (by decide)
      have t5 : vs 5 = .pointer (some ⟨gn, 1, none⟩) := hT 5 (by decide)
      have t6 : vs 6 = .int .i64 ny := hT 6 (by decide)
      simp only [t1, t2, t3, t4, t5, t6] at hK
      have H := Lib.hid hK
      clear hK hT
      go_simp
      exact H.out _ _ (Below.refl _ _) rfl (fun h => by cases h) trivial
    refine Rg.cons 8 9 rfl (Rg.plain rfl ?_) ?_
    · intro vs W n hn hI hG hT hF K hK
      simp only [Rg.putsD, List.getD_cons_zero, List.getD_cons_succ, Act.put, List.setIfInBounds_toArray, List.set_cons_zero, List.set_cons_succ] at hK ⊢
      clear hn
      clear hF hI
      have t1 : vs 1 = .slice (some ⟨gn, 0, none⟩) 2 cu := hT 1 (by decide)
      have t2 : vs 2 = .pointer (some ⟨gn, 0, none⟩) := hT 2 (by decide)
      have t3 : vs 3 = .int .i64 nx := hT 3 (by decide)
      have t4 : vs 4 = .slice (some ⟨gn, 0, none⟩) 2 cu := hT 4 (by decide)
      have t5 : vs 5 = .pointer (some ⟨gn, 1, none⟩) := hT 5 (by decide)
      have t6 : vs 6 = .int .i64 ny := hT 6 (by decide)
      have t7 : vs 7 = .agg #[.int .i64 nx, .int .i64 ny] := hT 7 (by decide)
      simp only [t1, t2, t3, t4, t5, t6, t7] at hK
      have H := Lib.hid hK
      clear hK hT
      go_simp
      exact H.out _ _ ((Below.refl _ _).alloc (Nat.le_refl _) _) (show ∃ q : Nat, _ = _ ∧ _ = _ from ⟨_, rfl, blk_new W _ rfl⟩) (fun _ => ⟨W.heap.size, rfl, Nat.le_refl _, by simp⟩) trivial
    exact Rg.nil
  · intro vs W hG hI hT hF
    have t0 : vs 0 = .slice Av st.length cv := hT 0 (by decide)
    have t1 : vs 1 = .slice (some ⟨gn, 0, none⟩) 2 cu := hT 1 (by decide)
    have t2 : vs 2 = .pointer (some ⟨gn, 0, none⟩) := hT 2 (by decide)
    have t3 : vs 3 = .int .i64 nx := hT 3 (by decide)
    have t4 : vs 4 = .slice (some ⟨gn, 0, none⟩) 2 cu := hT 4 (by decide)
    have t5 : vs 5 = .pointer (some ⟨gn, 1, none⟩) := hT 5 (by decide)
    have t6 : vs 6 = .int .i64 ny := hT 6 (by decide)
    have t7 : vs 7 = .agg #[.int .i64 nx, .int .i64 ny] := hT 7 (by decide)
    have t8 : ∃ q : Nat, vs 8 = .slice (some ⟨q, 0, none⟩) 1 1 ∧ W.heap[q]? = some (.cells #[.int .i64 nx, .int .i64 ny] 45 (0, 0)) := hT 8 (by decide)
    simp only [List.length_cons, List.length_nil, Nat.reduceAdd, List.range, List.range.loop, List.drop_succ_cons, List.drop_zero, Rg.putsD, List.getD_cons_zero, List.getD_cons_succ, Act.put, List.setIfInBounds_toArray, List.set_cons_zero, List.set_cons_succ, t0, t1, t2, t3, t4, t5, t6, t7]
    clear hT t0 t1 t2 t3 t4 t5 t6 t7
    obtain ⟨bq, e8, k8⟩ := t8
    have hszd : w1.heap.size ≤ W.heap.size := hG.size
    have HW : Hid (Below base w W ∧ W.ownsRow (cb + 1) 45 2 (.slice Av st.length cv) st.length (st.flatMap encP) ∧ W.heap[cb]? = some (.cells #[.slice Av st.length cv] 42 (0, 0)) ∧ W.heap[bq]? = some (.cells #[.int .i64 nx, .int .i64 ny] 45 (0, 0))) :=
      ⟨(H1.out.1.drew).then_below hG (by show base ≤ w1.heap.size; omega), own_below (w := w1.drew) H1.out.2.2.drew hG, blk_below hG H1.out.2.1, k8⟩
    have E8 := Lib.hid e8
    clear hF hI e8 k8 hG
    simp only [E8.out]
    have hWs : cb + 1 ≤ W.heap.size := by omega
    refine wpList_append_own _ rfl _ _ 42 rfl (cb + 1) 45 i0 _ 2 16 Tryz.underlying42 HIF.out.1 HIF.out.2.1 HIF.out.2.2.1 HIF.out.2.2.2 rfl (by omega) _ st.length (st.flatMap encP) rfl HW.out.2.1 ⟨bq, 0, none⟩ 1 1 [.int .i64 nx, .int .i64 ny] rfl rfl ?c1 (by intro u hu; simp at hu; rcases hu with rfl | rfl <;> rfl) ?c2 ?c3 hWs ?_
    case c1 =>
      intro q u hu
      rw [addr_new, cell_of_blk HW.out.2.2.2]
      simpa using hu
    case c2 => unfold maxLen; omega
    case c3 => omega
    intro v' w4 hown' hg' _
    obtain ⟨A9, c9, rfl, _, _⟩ := own_slice' hown'
    have b4 := (hg'.block cb (by omega) (fun e => by have := own_row HW.out.2.1 cb e.symm; omega)).trans HW.out.2.2.1
    obtain ⟨p4, f4, h4l⟩ := blk1 b4
    have HV : Hid (Below base w w4 ∧ w4.ownsRow (cb + 1) 45 2 (.slice A9 (st.length + 1) c9) (st.length + 1) (st.flatMap encP ++ [.int .i64 nx, .int .i64 ny]) ∧ w4.heap[cb]? = some (.cells #[.slice Av st.length cv] 42 (0, 0))) :=
      ⟨HW.out.1.grown hg' (by omega) (fun k hk => by have := own_row HW.out.2.1 k hk; omega), hown', b4⟩
    clear hown' hg' b4 HW
    go_wp2_with fail
    have HF : Hid (Below base w (w4.setCell ⟨cb, 0, none⟩ (.slice A9 (st.length + 1) c9)) ∧ PtAt cb (i + 1) (st ++ [(nx, ny)]) (w4.setCell ⟨cb, 0, none⟩ (.slice A9 (st.length + 1) c9))) := by
      refine ⟨HV.out.1.setCell hcb _, _, blk_set HV.out.2.2 _, ?_, ?_⟩
      · have := own_far HV.out.2.1 (p := ⟨cb, 0, none⟩) (by show cb < cb + 1; omega) (.slice A9 (st.length + 1) c9)
        rw [List.length_append, flatPt_snoc]
        exact this
      · rw [List.length_append]
        exact Nat.add_le_add_right hpl 1
    generalize w4.setCell ⟨cb, 0, none⟩ (.slice A9 (st.length + 1) c9) = w3 at *
    go_ret
    cases bb
    · have HR := HST.out.trans (HTB.out rfl)
      exact ⟨by rw [HR]; rfl, HF.out.1, fun st' h => by rw [HR] at h; cases h⟩
    · obtain ⟨rfl, rfl⟩ := HNN.out rfl
      have HR := HST.out.trans (HT2.out rfl)
      exact ⟨by rw [HR]; rfl, HF.out.1, fun st' h => by rw [HR] at h; cases h; exact ⟨HF.out.2, hG.below HF.out.1 hlow⟩⟩

set_option maxHeartbeats 4000000 in
theorem ptRef_any (text : ByteArray) (hs : text.size ≤ 1000000) (w : World) (hG : Gl w) (hw : gLow ≤ w.heap.size) :
    Calls Tryz.prog 27 #[.string text] w fun e w' => ∃ v, e = .returned (.tuple #[v, .int .i64 (ptOut text).2.1, .int .i64 (ptOut text).2.2]) ∧ Below w.heap.size w w' ∧ Reads encP v (ptOut text).1 w' := by
  have HO : Hid (ptOut text = if 200000 < text.size then ([], 0, 2) else match ptScan text with | .error i => ([], (i : Int), 9) | .ok st => if ptsErr 500 st = 0 then (st, 0, 0) else ([], 0, ptsErr 500 st)) := rfl
  have H0 : Hid (Below w.heap.size w (w.alloc (.cells #[.slice none 0 0] 42)) ∧ PtAt w.heap.size 0 [] (w.alloc (.cells #[.slice none 0 0] 42))) :=
    ⟨(Below.refl _ _).alloc (Nat.le_refl _) _, _, blk_new w _ rfl, World.ownsRow_nil _ _ _ _, Nat.le_refl _⟩
  have CS := Lib.hid (fun (hlen : text.size ≤ 200000) (W : World) (hW : Below w.heap.size w W) (hp : PtAt w.heap.size 0 [] W) =>
    linesR_any 69 (enters_of Tryz.func69 (by kernel_rfl) rfl) w.heap.size w.heap.size (stepW takePt) (fun i st W => PtAt w.heap.size i st W ∧ Gl W) (fun _ _ _ _ h hb => ⟨h.1.below hb, h.2.below hb (by have := h.1.lt; omega)⟩) (ptRef_takes _ _ (Nat.le_refl _) hw) text hlen [] W (hG.below hW hw) hw hW.size ⟨hp, hG.below hW hw⟩)
  rw [show scanT (stepW takePt) text.size 0 [] text = ptScan text from rfl] at CS
  generalize ptOut text = out at *
  by_cases hlong : 200000 < text.size
  · have HX : Hid (out = ([], 0, 2)) := HO.out.trans (if_pos hlong)
    have hl2 : (200000 : Int) < (text.size : Int) := by omega
    clear HO CS H0
    go_enter Tryz.func27, Tryz.ntmps27
    go_wp2_with fail
    refine bodyPost_ret (v := .tuple #[.slice none 0 0, .int .i64 0, .int .i64 2]) (by unfold results; simp only [Tryz.results27]; go_simp) rfl ⟨_, by rw [HX.out], Below.refl _ _, by rw [HX.out]; exact ⟨none, 0, rfl, .inl rfl⟩⟩
  have hl2 : ¬ (200000 : Int) < (text.size : Int) := by omega
  go_enter Tryz.func27, Tryz.ntmps27
  go_upto_region 4 with (fail)
  generalize w.alloc (.cells #[.slice none 0 0] 42) = wx at *
  have CX := Lib.hid (CS.out (by omega) wx H0.out.1 H0.out.2)
  have hzx := H0.out.1.size
  clear CS
  go_wp2_with fail
  refine CX.out.mono ?_
  rintro e w1 ⟨rfl, b1, hok⟩
  have HB := Lib.hid (H0.out.1.trans b1)
  have HOK := Lib.hid hok
  clear b1 hok CX H0
  cases hR : ptScan text with
  | error i =>
    have HX : Hid (out = ([], (i : Int), 9)) := by
      refine HO.out.trans ?_
      rw [if_neg hlong, hR]
    simp only [lineOf, isOk]
    clear HOK HO hR
    go_wp2_with fail
    refine bodyPost_ret (v := .tuple #[.slice none 0 0, .int .i64 i, .int .i64 9]) (by unfold results; simp only [Tryz.results27]; go_simp) rfl ⟨_, by rw [HX.out], HB.out, by rw [HX.out]; exact ⟨none, 0, rfl, .inl rfl⟩⟩
  | ok st =>
    obtain ⟨nn, ⟨hpd, _⟩, hns, _⟩ := HOK.out st hR
    obtain ⟨vs, hp, hown, hpl⟩ := hpd
    have HX0 : Hid (out = if ptsErr 500 st = 0 then (st, 0, 0) else ([], 0, ptsErr 500 st)) := by
      refine HO.out.trans ?_
      rw [if_neg hlong, hR]
    have HP := Lib.hid (And.intro hp (reads_own hown))
    obtain ⟨Av, cv, rfl, _, _⟩ := own_slice' hown
    obtain ⟨p0, _, hpl2⟩ := blk1 hp
    have CC := Lib.hid (pointsFault1_any st (by omega) 500 HP.out.2)
    simp only [lineOf, isOk]
    clear HOK HO hR hp hown
    generalize ptsErr 500 st = E at *
    by_cases hE0 : E = 0
    · have HX := Lib.hid (HX0.out.trans (if_pos hE0))
      subst hE0
      go_wp2_with fail
      refine CC.out.mono ?_
      rintro e w2 ⟨rfl, b2⟩
      have H2 : Hid (Below w.heap.size w w2 ∧ w2.heap[w.heap.size]? = some (.cells #[.slice Av st.length cv] 42 (0, 0)) ∧ Reads encP (.slice Av st.length cv) st w2) := ⟨HB.out.then_below b2 HB.out.size, blk_below b2 HP.out.1, HP.out.2.below b2⟩
      clear b2 CC HX0 HP p0 hpl2
      obtain ⟨p0, _, hpl2⟩ := blk1 H2.out.2.1
      go_wp2_with fail
      refine bodyPost_ret (v := .tuple #[.slice Av st.length cv, .int .i64 0, .int .i64 0]) (by unfold results; simp only [Tryz.results27]; go_simp) rfl ⟨_, by rw [HX.out], H2.out.1, by rw [HX.out]; exact H2.out.2.2⟩
    · have HX := Lib.hid (HX0.out.trans (if_neg hE0))
      have hne1 : (E == 0) = false := by simpa using hE0
      have hne2 : (E != 0) = true := by simpa using hE0
      go_wp2_with fail
      refine CC.out.mono ?_
      rintro e w2 ⟨rfl, b2⟩
      have H2 := Lib.hid (HB.out.then_below b2 HB.out.size)
      clear b2 CC HX0 HP p0 hpl2
      go_wp2_with fail
      refine bodyPost_ret (v := .tuple #[.slice none 0 0, .int .i64 0, .int .i64 E]) (by unfold results; simp only [Tryz.results27]; go_simp) rfl ⟨_, by rw [HX.out], H2.out, by rw [HX.out]; exact ⟨none, 0, rfl, .inl rfl⟩⟩
end Go.Proofs.YtbkbjljkfhahbaaGreatDoor
