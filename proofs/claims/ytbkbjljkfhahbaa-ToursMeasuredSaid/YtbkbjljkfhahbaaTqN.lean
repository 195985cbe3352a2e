/-
  Nearest: plain words; the program's walk.
-/
import Derived.Test.YtbkbjljkfhahbaaTqC
namespace Go.Proofs.Ytbkbjljkfhahbaa
open Go.RowKit
set_option linter.unusedSimpArgs false
set_option linter.unusedVariables false

/-- The nearest one of those that are left, so far. -/
def selStep (l : List (Int × Int)) (acc : List Int) (a : Int × Int) (st : Option (Nat × Int)) (j : Nat) : Option (Nat × Int) :=
  if acc.contains (j : Int) = true then st else match st with
    | none => some (j, apart a (ptAt l j))
    | some (b, m) => if apart a (ptAt l j) < m then some (j, apart a (ptAt l j)) else some (b, m)
def sel (l : List (Int × Int)) (acc : List Int) (a : Int × Int) : Nat → Option (Nat × Int)
  | 0 => none
  | m + 1 => selStep l acc a (sel l acc a m) m
theorem sel_some {l : List (Int × Int)} {acc : List Int} {a : Int × Int} : ∀ {m b : Nat} {d : Int}, sel l acc a m = some (b, d) → b < m ∧ d = apart a (ptAt l b)
  | 0, b, d, h => by cases h
  | m + 1, b, d, h => by
    unfold sel selStep at h
    split at h
    · have := sel_some h; exact ⟨by omega, this.2⟩
    · split at h
      · cases h; exact ⟨by omega, rfl⟩
      · rename_i b' m' h2
        split at h
        · cases h; exact ⟨by omega, rfl⟩
        · cases h
          have := sel_some h2; exact ⟨by omega, this.2⟩
theorem sel_none {l : List (Int × Int)} {acc : List Int} {a : Int × Int} : ∀ {m : Nat}, sel l acc a m = none → ∀ j, j < m → acc.contains (j : Int) = true
  | 0, _, j, hj => by omega
  | m + 1, h, j, hj => by
    unfold sel selStep at h
    split at h
    · rename_i hc
      by_cases e : j = m
      · subst e; exact hc
      · exact sel_none h j (by omega)
    · split at h
      · cases h
      · split at h <;> cases h
def nextOf (l : List (Int × Int)) (acc : List Int) (a : Int × Int) : Nat := match sel l acc a l.length with | none => 0 | some (b, _) => b
theorem nextOf_lt {l : List (Int × Int)} {acc : List Int} {a : Int × Int} (h : 0 < l.length) : nextOf l acc a < l.length := by
  unfold nextOf
  split
  · exact h
  · rename_i b d h2; exact (sel_some h2).1
/-- The first so many of the order in which the head goes to the nearest point. -/
def nearK (s : Int × Int) (l : List (Int × Int)) : Nat → List Int
  | 0 => []
  | k + 1 => nearK s l k ++ [(nextOf l (nearK s l k) (atOf s l (nearK s l k)) : Int)]
theorem nearK_len (s : Int × Int) (l : List (Int × Int)) : ∀ k, (nearK s l k).length = k
  | 0 => rfl
  | k + 1 => by unfold nearK; rw [List.length_append, nearK_len s l k]; rfl
theorem nearK_rng (s : Int × Int) (l : List (Int × Int)) : ∀ k, k ≤ l.length → ∀ x ∈ nearK s l k, 0 ≤ x ∧ x < (l.length : Int)
  | 0, _, x, h => by cases h
  | k + 1, hk, x, h => by
    unfold nearK at h
    rcases List.mem_append.mp h with h | h
    · exact nearK_rng s l k (by omega) x h
    · rw [List.mem_singleton] at h
      have := nextOf_lt (l := l) (acc := nearK s l k) (a := atOf s l (nearK s l k)) (by omega)
      omega
theorem sel_left (s : Int × Int) (l : List (Int × Int)) (k : Nat) (hk : k < l.length) : ∃ b d, sel l (nearK s l k) (atOf s l (nearK s l k)) l.length = some (b, d) := by
  cases h : sel l (nearK s l k) (atOf s l (nearK s l k)) l.length with
  | some p => exact ⟨p.1, p.2, rfl⟩
  | none =>
    have h1 := sel_none h
    have h2 := Rg.nodup_len (List.range l.length) ((nearK s l k).map Int.toNat) List.nodup_range (by
      intro j hj
      have := h1 j (List.mem_range.mp hj)
      have hm : (j : Int) ∈ nearK s l k := by simpa using this
      exact List.mem_map.mpr ⟨(j : Int), hm, by simp⟩)
    rw [List.length_map, List.length_range, nearK_len] at h2
    omega
def nearL (s : Int × Int) (l : List (Int × Int)) : List Int := nearK s l l.length
/-- The state of a selection in numbers: nothing is selected at 0, at a distance beyond all. -/
def selN (st : Option (Nat × Int)) : Int := match st with | none => 0 | some (b, _) => b
def selD (st : Option (Nat × Int)) : Int := match st with | none => 9223372036854775807 | some (_, d) => d
theorem selStep_D {l : List (Int × Int)} {acc : List Int} {a : Int × Int} {st : Option (Nat × Int)} {j : Nat} (hc : acc.contains (j : Int) = false) (hb : apart a (ptAt l j) < 9223372036854775807) :
    selStep l acc a st j = if apart a (ptAt l j) < selD st then some (j, apart a (ptAt l j)) else st := by
  unfold selStep selD
  rw [if_neg (by rw [hc]; simp)]
  cases st with
  | none => dsimp only; rw [if_pos hb]
  | some p => rfl
theorem nextOf_N (l : List (Int × Int)) (acc : List Int) (a : Int × Int) : selN (sel l acc a l.length) = (nextOf l acc a : Int) := by
  unfold selN nextOf
  split
  · rfl
  · rfl

set_option maxRecDepth 100000 in
set_option maxHeartbeats 16000000 in
theorem nearTour_any (s : Int × Int) (l : List (Int × Int)) (hs : okPt s = true) (hl : ∀ p ∈ l, okPt p = true) (hln : l.length ≤ 1000) {pv : Value} (w : World) (h1 : Reads encP pv l w) :
    Calls Try.prog 39 #[.agg #[.int .i64 s.1, .int .i64 s.2], pv] w fun e w' => ∃ v, e = .returned v ∧ w'.ownsRow w.heap.size 3 1 v l.length ((nearL s l).map (Value.int .i64)) ∧ Below w.heap.size w w' := by
  have HR := Lib.hid h1
  have HL := Lib.hid hl
  have HSP := Lib.hid hs
  have CD := Lib.hid (fun a b ha hb W => distance_any a b ha hb W)
  have HAO := Lib.hid (fun o => atOf_ok (s := s) hs hl o)
  obtain ⟨Ap, cp, rfl, _⟩ := h1
  clear hl hs
  obtain ⟨s1, s2⟩ := s
  dsimp only
  have hmk := run_makeBools l.length (by omega)
  have H0 : Hid (Below w.heap.size w (((w.alloc (.cells #[.int .i64 s1, .int .i64 s2] 27)).alloc (.cells (Array.replicate l.length (.bool false)) 4)).alloc (.cells #[.int .i64 s1, .int .i64 s2] 27)) ∧
      (((w.alloc (.cells #[.int .i64 s1, .int .i64 s2] 27)).alloc (.cells (Array.replicate l.length (.bool false)) 4)).alloc (.cells #[.int .i64 s1, .int .i64 s2] 27)).heap[w.heap.size + 1]? = some (.cells (thereC l.length (nearK (s1, s2) l 0)).toArray 4 (0, 0)) ∧
      (((w.alloc (.cells #[.int .i64 s1, .int .i64 s2] 27)).alloc (.cells (Array.replicate l.length (.bool false)) 4)).alloc (.cells #[.int .i64 s1, .int .i64 s2] 27)).heap[w.heap.size + 2]? = some (.cells #[.int .i64 (atOf (s1, s2) l (nearK (s1, s2) l 0)).1, .int .i64 (atOf (s1, s2) l (nearK (s1, s2) l 0)).2] 27 (0, 0)) ∧
      (((w.alloc (.cells #[.int .i64 s1, .int .i64 s2] 27)).alloc (.cells (Array.replicate l.length (.bool false)) 4)).alloc (.cells #[.int .i64 s1, .int .i64 s2] 27)).ownsRow (w.heap.size + 3) 3 1 (.slice none 0 0) 0 ((nearK (s1, s2) l 0).map (Value.int .i64)) ∧
      w.heap.size + 2 < (((w.alloc (.cells #[.int .i64 s1, .int .i64 s2] 27)).alloc (.cells (Array.replicate l.length (.bool false)) 4)).alloc (.cells #[.int .i64 s1, .int .i64 s2] 27)).heap.size) := by
    refine ⟨(((Below.refl _ _).alloc (Nat.le_refl _) _).alloc (by simp) _).alloc (by simp; omega) _, blk_alloc ?_ _, blk_new _ _ (by simp), World.ownsRow_nil _ _ _ _, by simp⟩
    rw [show (thereC l.length (nearK (s1, s2) l 0)).toArray = Array.replicate l.length (.bool false) from thereC_nil _]
    exact blk_new _ _ (by simp)
  go_enter Try.func39, Try.ntmps39
  go_upto_region 4 with (fail)
  have e12 : w.heap.size + 1 + 1 = w.heap.size + 2 := rfl
  simp only [e12]
  generalize ((w.alloc (.cells #[.int .i64 s1, .int .i64 s2] 27)).alloc (.cells (Array.replicate l.length (.bool false)) 4)).alloc (.cells #[.int .i64 s1, .int .i64 s2] 27) = wx at *
  have hzx := H0.out.2.2.2.2
  clear hmk e12
  go_wp2_with fail
  go_loopw [5, 18] (fun v5 kk wr => ∃ k : Nat, k ≤ l.length ∧ kk = .int .i64 k ∧ w.heap.size + 2 < wr.heap.size ∧ Hid (Below w.heap.size w wr ∧ wr.heap[w.heap.size + 1]? = some (.cells (thereC l.length (nearK (s1, s2) l k)).toArray 4 (0, 0)) ∧ wr.heap[w.heap.size + 2]? = some (.cells #[.int .i64 (atOf (s1, s2) l (nearK (s1, s2) l k)).1, .int .i64 (atOf (s1, s2) l (nearK (s1, s2) l k)).2] 27 (0, 0)) ∧ wr.ownsRow (w.heap.size + 3) 3 1 v5 k ((nearK (s1, s2) l k).map (Value.int .i64)))) (fun _ kk _ => l.length - (intOf kk).toNat)
  case atStart => exact ⟨0, by omega, rfl, hzx, H0.out.1, H0.out.2.1, H0.out.2.2.1, H0.out.2.2.2.1⟩
  case round =>
    obtain ⟨k, hk, rfl, hwz, HS⟩ := hrel
    by_cases hlt : k < l.length
    · have hAO := HAO.out (nearK (s1, s2) l k)
      have HNX : Hid (nearK (s1, s2) l (k + 1) = nearK (s1, s2) l k ++ [(nextOf l (nearK (s1, s2) l k) (atOf (s1, s2) l (nearK (s1, s2) l k)) : Int)]) := rfl
      have HNL := Lib.hid (nearK_len (s1, s2) l k)
      have HAT : Hid (∀ x, atOf (s1, s2) l (nearK (s1, s2) l k ++ [x]) = ptAt l x) := fun x => atOf_snoc _ _ _ _
      have hnl := nextOf_lt (l := l) (acc := nearK (s1, s2) l k) (a := atOf (s1, s2) l (nearK (s1, s2) l k)) (by omega)
      have HN0 := Lib.hid (nextOf_N l (nearK (s1, s2) l k) (atOf (s1, s2) l (nearK (s1, s2) l k)))
      generalize nearK (s1, s2) l k = acc at *
      generalize atOf (s1, s2) l acc = a at *
      generalize nextOf l acc a = nx at *
      have HAOK := Lib.hid hAO
      obtain ⟨a1, a2⟩ := a
      obtain ⟨A5, c5, rfl, _⟩ := own_form HS.out.2.2.2
      go_wp2_with fail
      obtain ⟨wo, rfl⟩ : ∃ wo : World, wo = wr := ⟨_, rfl⟩
      go_loopw [8, 9, 22] (fun v8 v9 kk wi => ∃ m : Nat, m ≤ l.length ∧ kk = .int .i64 m ∧ v8 = .int .i64 (selN (sel l acc (a1, a2) m)) ∧ v9 = .int .i64 (selD (sel l acc (a1, a2) m)) ∧ wo.heap.size ≤ wi.heap.size ∧ Hid (Below wo.heap.size wo wi)) (fun _ _ kk _ => l.length - (intOf kk).toNat)
      case atStart => exact ⟨0, by omega, rfl, rfl, rfl, Nat.le_refl _, Below.refl _ _⟩
      case round =>
        obtain ⟨m, hm, rfl, rfl, rfl, hiz, HI⟩ := hrel
        have HIB : Hid (Below w.heap.size w wr) := HS.out.1.then_below HI.out HS.out.1.size
        by_cases hltm : m < l.length
        · obtain ⟨Ap', cp', ep, hrp⟩ := HR.out.below HIB.out
          cases ep
          rcases hrp with rfl | ⟨gp, rfl, hrowp⟩
          · simp at hltm
          obtain ⟨r0, r1⟩ := row_pt hrowp hltm
          have hgp := hrowp.1
          have HPO := Lib.hid (ptAt_ok HL.out (m : Int))
          have HSU : Hid (sel l acc (a1, a2) (m + 1) = selStep l acc (a1, a2) (sel l acc (a1, a2) m) m) := rfl
          have HSC : Hid (acc.contains (m : Int) = true → sel l acc (a1, a2) (m + 1) = sel l acc (a1, a2) m) := fun h => if_pos h
          have HSF := Lib.hid (fun h1 h2 => @selStep_D l acc (a1, a2) (sel l acc (a1, a2) m) m h1 h2)
          rw [ptAt_nat l hltm] at HPO HSF
          have HTC := Lib.hid (thereC_at acc hltm)
          have hq0 := (cell_of_blk (blk_below HI.out HS.out.2.1) m).trans HTC.out
          have hthl := lt_of_blk (blk_below HI.out HS.out.2.1)
          generalize l[m] = p at *
          obtain ⟨x, y⟩ := p
          dsimp only at r0 r1
          have CD1 := Lib.hid (fun W => CD.out (a1, a2) (x, y) HAOK.out HPO.out W)
          obtain ⟨hap0, hap1⟩ := apart_bd HAOK.out HPO.out
          dsimp only at CD1
          generalize apart (a1, a2) (x, y) = ap at *
          have i1 : (0 : Int) ≤ (m : Int) := by omega
          have i2 : (m : Int) < (l.length : Int) := by omega
          have HJ : Hid (Below wo.heap.size wo (wr.alloc (.cells #[.int .i64 x, .int .i64 y] 27)) ∧ (wr.alloc (.cells #[.int .i64 x, .int .i64 y] 27)).heap[wr.heap.size]? = some (.cells #[.int .i64 x, .int .i64 y] 27 (0, 0))) := ⟨HI.out.alloc HI.out.size _, blk_new wr _ rfl⟩
          clear hrowp HTC
          go_upto_region 10 with (fail)
          have hq1 : (wr.alloc (.cells #[.int .i64 x, .int .i64 y] 27)).cell? ⟨w.heap.size + 1, m, none⟩ = some (.bool (acc.contains (m : Int))) := (((Below.refl wr.heap.size wr).alloc (Nat.le_refl _) _).cell (p := ⟨w.heap.size + 1, m, none⟩) hthl).trans hq0
          have hthl1 : w.heap.size + 1 < (wr.alloc (.cells #[.int .i64 x, .int .i64 y] 27)).heap.size := by simp; omega
          clear hq0 hthl r0 r1
          generalize wr.alloc (.cells #[.int .i64 x, .int .i64 y] 27) = wj at *
          have hjz := HJ.out.1.size
          have hjl := lt_of_blk HJ.out.2
          cases hct : acc.contains (m : Int)
          rotate_left
          · have HEQ := Lib.hid (HSC.out hct)
            rw [hct] at hq1
            clear hct HSC HSF HSU
            go_wp2_with fail
            go_roundw
            case rel => exact ⟨m + 1, by omega, by go_num, by rw [HEQ.out], by rw [HEQ.out], hjz, HJ.out.1⟩
            case measure => simp [intOf]; omega
          have HEQ0 := Lib.hid (HSU.out.trans (HSF.out hct (by omega)))
          rw [hct] at hq1
          clear hct HSC HSF HSU
          obtain ⟨st', hst'⟩ : ∃ st', sel l acc (a1, a2) (m + 1) = st' := ⟨_, rfl⟩
          rw [hst'] at HEQ0
          have HST := Lib.hid hst'
          clear hst'
          generalize sel l acc (a1, a2) m = st at *
          obtain ⟨a0, a00, _, _⟩ := blk2 (blk_below HJ.out.1 HS.out.2.2.1)
          have hal := lt_of_blk (blk_below HJ.out.1 HS.out.2.2.1)
          obtain ⟨p0, p00, _, _⟩ := blk2 HJ.out.2
          by_cases hlt2 : ap < selD st
          · have HEQ := Lib.hid (HEQ0.out.trans (if_pos hlt2))
            have HV : Hid (selN st' = m ∧ selD st' = ap) := by rw [HEQ.out]; exact ⟨rfl, rfl⟩
            clear HEQ0 HEQ
            generalize selD st = D at *
            go_wp2_with fail
            refine (CD1.out _).mono ?_
            rintro e w6 ⟨rfl, b6⟩
            have H6 := Lib.hid (And.intro (HJ.out.1.then_below b6 HJ.out.1.size) (blk_below b6 HJ.out.2))
            clear b6 HJ a0 a00 p0 p00 hal
            obtain ⟨a0, a00, _, _⟩ := blk2 (blk_below H6.out.1 HS.out.2.2.1)
            have hal := lt_of_blk (blk_below H6.out.1 HS.out.2.2.1)
            obtain ⟨p0, p00, _, _⟩ := blk2 H6.out.2
            have hpl := lt_of_blk H6.out.2
            go_wp2_with fail
            refine (CD1.out _).mono ?_
            rintro e w7 ⟨rfl, b7⟩
            have H7 := Lib.hid (H6.out.1.then_below b7 H6.out.1.size)
            have hz7 := H7.out.size
            clear b7 H6 a0 a00 p0 p00 hal hpl
            go_wp2_with fail
            go_roundw
            case rel => exact ⟨m + 1, by omega, by go_num, by rw [HST.out, HV.out.1], by rw [HST.out, HV.out.2], hz7, H7⟩
            case measure => simp [intOf]; omega
          · have HEQ := Lib.hid (HEQ0.out.trans (if_neg hlt2))
            clear HEQ0
            have HV : Hid (selN st' = selN st ∧ selD st' = selD st) := by rw [HEQ.out]; exact ⟨rfl, rfl⟩
            generalize hDD : selD st = D at *
            generalize hNN : selN st = N at *
            go_wp2_with fail
            refine (CD1.out _).mono ?_
            rintro e w6 ⟨rfl, b6⟩
            have H6 := Lib.hid (HJ.out.1.then_below b6 HJ.out.1.size)
            have hz6 := H6.out.size
            clear b6 HJ a0 a00 p0 p00 hal
            go_wp2_with fail
            go_roundw
            case rel => exact ⟨m + 1, by omega, by go_num, by rw [HST.out, HV.out.1], by rw [HST.out, HV.out.2], hz6, H6⟩
            case measure => simp [intOf]; omega
        · obtain rfl : m = l.length := by omega
          have H1 : Hid (Below w.heap.size w wr ∧ wr.heap[w.heap.size + 1]? = some (.cells (thereC l.length acc).toArray 4 (0, 0)) ∧ wr.heap[w.heap.size + 2]? = some (.cells #[.int .i64 a1, .int .i64 a2] 27 (0, 0)) ∧ wr.ownsRow (w.heap.size + 3) 3 1 (.slice A5 k c5) k (acc.map (Value.int .i64))) :=
            ⟨HIB.out, blk_below HI.out HS.out.2.1, blk_below HI.out HS.out.2.2.1, own_below HS.out.2.2.2 HI.out⟩
          simp only [HN0.out]
          have hzr : w.heap.size + 3 ≤ wr.heap.size := by omega
          clear HS HI HIB hiz hm hltm CD HSP HAO H0
          obtain ⟨i0, hi0, hz0, hzz1, hz20⟩ := info_parts int_infoN
          have HI := Lib.hid (And.intro hi0 (And.intro hz0 (And.intro hzz1 hz20)))
          clear hi0 hz0 hzz1 hz20
          go_wp2_with (at_builtin; refine hold ?_)
          refine loose ?_
          refine wpList_append_own _ rfl _ _ 22 rfl (w.heap.size + 3) 3 i0 _ 1 8 Try.underlying22 HI.out.1 HI.out.2.1 HI.out.2.2.1 HI.out.2.2.2 rfl (by omega) _ k (acc.map (Value.int .i64)) rfl (H1.out.2.2.2.alloc _) ⟨wr.heap.size, 0, none⟩ 1 1 [.int .i64 nx] rfl rfl (cell_one_new _ _ _) (by intro u hu; simp at hu; subst hu; rfl) (by unfold maxLen; omega) (by omega) (by simp; omega) ?_
          intro v' w2 hown' hg' _
          have hrow' := own_row (H1.out.2.2.2.alloc (.cells #[.int .i64 (nx : Int)] 3))
          have hb2 := (hg'.block (w.heap.size + 1) (by simp; omega) (fun e => by have := hrow' _ e.symm; omega)).trans (blk_alloc H1.out.2.1 _)
          have ha2 := (hg'.block (w.heap.size + 2) (by simp; omega) (fun e => by have := hrow' _ e.symm; omega)).trans (blk_alloc H1.out.2.2.1 _)
          have H2 : Hid (Below w.heap.size w w2 ∧ w2.heap[w.heap.size + 1]? = some (.cells (thereC l.length acc).toArray 4 (0, 0)) ∧ w2.heap[w.heap.size + 2]? = some (.cells #[.int .i64 a1, .int .i64 a2] 27 (0, 0)) ∧ w2.ownsRow (w.heap.size + 3) 3 1 v' (k + 1) ((acc ++ [(nx : Int)]).map (Value.int .i64))) :=
            ⟨(H1.out.1.alloc H1.out.1.size _).grown hg' (by simp; omega) (fun j hj => by have := hrow' _ hj; omega), hb2, ha2, by rw [List.map_append]; exact hown'⟩
          clear hown' hg' hrow' hb2 ha2 H1
          have hz2 := lt_of_blk H2.out.2.2.1
          have hz21 := lt_of_blk H2.out.2.1
          have f0 := frozen_of_blk H2.out.2.1 nx
          have HPN := Lib.hid (ptAt_nat l hnl)
          have hq0 := (cell_of_blk H2.out.2.1 nx).trans (thereC_at acc hnl)
          obtain ⟨_, _, g0, g1⟩ := blk2 H2.out.2.2.1
          have hgw : ∃ gp, Ap = some ⟨gp, 0, none⟩ ∧ gp < w.heap.size ∧ LineAt w2 gp (l.flatMap encP) := by
            obtain ⟨Ap', cp', ep, hrp⟩ := HR.out
            cases ep
            rcases hrp with rfl | ⟨gp, rfl, hrowp⟩
            · simp at hlt
            · exact ⟨gp, rfl, hrowp.1, hrowp.below H2.out.1⟩
          obtain ⟨gp, rfl, hgp, hrowp⟩ := hgw
          obtain ⟨r0, r1⟩ := row_pt hrowp hnl
          have hgp2 := hrowp.1
          clear hrowp
          generalize l[nx] = p at *
          obtain ⟨x, y⟩ := p
          dsimp only at r0 r1
          have i1 : (0 : Int) ≤ (nx : Int) := by omega
          have i2 : (nx : Int) < (l.length : Int) := by omega
          have hn1 : gp ≠ w.heap.size + 1 := by omega
          have hn2 : gp ≠ w.heap.size + 2 := by omega
          go_wp2_with fail
          have H5 : Hid (Below w.heap.size w (((w2.setCell ⟨w.heap.size + 1, nx, none⟩ (.bool true)).setCell ⟨w.heap.size + 2, 0, none⟩ (.int .i64 x)).setCell ⟨w.heap.size + 2, 1, none⟩ (.int .i64 y)) ∧ (((w2.setCell ⟨w.heap.size + 1, nx, none⟩ (.bool true)).setCell ⟨w.heap.size + 2, 0, none⟩ (.int .i64 x)).setCell ⟨w.heap.size + 2, 1, none⟩ (.int .i64 y)).heap[w.heap.size + 1]? = some (.cells (thereC l.length (acc ++ [(nx : Int)])).toArray 4 (0, 0)) ∧ (((w2.setCell ⟨w.heap.size + 1, nx, none⟩ (.bool true)).setCell ⟨w.heap.size + 2, 0, none⟩ (.int .i64 x)).setCell ⟨w.heap.size + 2, 1, none⟩ (.int .i64 y)).heap[w.heap.size + 2]? = some (.cells #[.int .i64 x, .int .i64 y] 27 (0, 0)) ∧ (((w2.setCell ⟨w.heap.size + 1, nx, none⟩ (.bool true)).setCell ⟨w.heap.size + 2, 0, none⟩ (.int .i64 x)).setCell ⟨w.heap.size + 2, 1, none⟩ (.int .i64 y)).ownsRow (w.heap.size + 3) 3 1 v' (k + 1) ((acc ++ [(nx : Int)]).map (Value.int .i64))) := by
            refine ⟨((H2.out.1.setCell (by show _ ≤ w.heap.size + 1; omega) _).setCell (by show _ ≤ w.heap.size + 2; omega) _).setCell (by show _ ≤ w.heap.size + 2; omega) _, ?_, ?_, ?_⟩
            · refine blk_far (blk_far ?_ (by show _ ≠ w.heap.size + 2; omega) _) (by show _ ≠ w.heap.size + 2; omega) _
              rw [← thereC_set acc hnl]
              exact blk_set H2.out.2.1 _
            · exact blk_set (blk_set (blk_far H2.out.2.2.1 (by show _ ≠ w.heap.size + 1; omega) _) _) _
            · exact own_far (own_far (own_far H2.out.2.2.2 (by show w.heap.size + 1 < _; omega) _) (by show w.heap.size + 2 < _; omega) _) (by show w.heap.size + 2 < _; omega) _
          have hz5 : w.heap.size + 2 < (((w2.setCell ⟨w.heap.size + 1, nx, none⟩ (.bool true)).setCell ⟨w.heap.size + 2, 0, none⟩ (.int .i64 x)).setCell ⟨w.heap.size + 2, 1, none⟩ (.int .i64 y)).heap.size := lt_of_blk H5.out.2.2.1
          generalize ((w2.setCell ⟨w.heap.size + 1, nx, none⟩ (.bool true)).setCell ⟨w.heap.size + 2, 0, none⟩ (.int .i64 x)).setCell ⟨w.heap.size + 2, 1, none⟩ (.int .i64 y) = w5 at *
          go_roundw
          case rel => exact ⟨k + 1, by omega, by go_num, hz5, H5.out.1, by rw [HNX.out]; exact H5.out.2.1, by rw [HNX.out, HAT.out, HPN.out]; exact H5.out.2.2.1, by rw [HNX.out]; exact H5.out.2.2.2⟩
          case measure => simp [intOf]; omega
    · obtain rfl : k = l.length := by omega
      go_wp2_with fail
      go_ret
      exact ⟨_, rfl, own_mono HS.out.2.2.2 (by omega), HS.out.1⟩
end Go.Proofs.Ytbkbjljkfhahbaa
