/-
  The check of a catalogue of one part.
-/
import Derived.Test.YtopnadilfjakiaaDoorPx2
import Derived.Maps.OwnOps
import Derived.Carry
namespace Go.Proofs.YtopnadilfjakiaaDoor
open Go.RowKit Go.WideMaps Go.Maps

/-- The error of a part. -/
def partE (key pk : ByteArray) (lv bk : Int) : Int := if (keyB key && keyB pk) = false then 5 else if (inR lv 1 6 && inR bk 0 720000000) = false then 1 else 0
def PartB (w : World) (g : Nat) (key pk : ByteArray) (lv bk : Int) : Prop := w.heap[g]? = some (.cells #[.string key, .string pk, .int .i64 lv, .int .i64 bk] 27 (0, 0))


set_option maxHeartbeats 2000000 in
theorem checkParts_one (key pk : ByteArray) (lv bk : Int) (g : Nat) (w : World) (hp : PartB w g key pk lv bk) :
    Calls Tryd.prog 57 #[.slice (some ⟨g, 0, none⟩) 1 1] w fun e w' => e = .returned (.int .i64 (partE key pk lv bk)) ∧ Below w.heap.size w w' := by
  have HE : Hid (partE key pk lv bk = if (keyB key && keyB pk) = false then 5 else if (inR lv 1 6 && inR bk 0 720000000) = false then 1 else 0) := rfl
  have CK := Lib.hid (fun W => key_any key W)
  have CP := Lib.hid (fun W => key_any pk W)
  have CL := Lib.hid (fun W => vlevel_any lv W)
  have CB := Lib.hid (fun W => withinR bk 0 720000000 W)
  generalize partE key pk lv bk = E at *
  go_enter Tryd.func57, Tryd.ntmps57
  go_wp2_with fail
  go_loopw [10] (fun kk wr => ∃ k : Nat, k ≤ 1 ∧ kk = .int .i64 k ∧ Hid (Below w.heap.size w wr ∧ (k = 1 → E = 0))) (fun kk _ => 1 - (intOf kk).toNat)
  case atStart => exact ⟨0, by omega, rfl, Below.refl _ _, fun h => by cases h⟩
  case round =>
    obtain ⟨k, hk, rfl, HS⟩ := hrel
    by_cases hlt : k < 1
    · obtain ⟨p0, p1, p2, p3⟩ := blk4 (blk_below HS.out.1 hp)
      have hgl := lt_of_blk (blk_below HS.out.1 hp)
      have c0 : wr.cell? ⟨g, k * 4, none⟩ = some (.string key) := by rw [show k * 4 = 0 by omega]; exact p0
      have c1 : wr.cell? ⟨g, k * 4 + 1, none⟩ = some (.string pk) := by rw [show k * 4 + 1 = 1 by omega]; exact p1
      have c2 : wr.cell? ⟨g, k * 4 + 2, none⟩ = some (.int .i64 lv) := by rw [show k * 4 + 2 = 2 by omega]; exact p2
      have c3 : wr.cell? ⟨g, k * 4 + 3, none⟩ = some (.int .i64 bk) := by rw [show k * 4 + 3 = 3 by omega]; exact p3
      have i1 : (0 : Int) ≤ (k : Int) := by omega
      have i2 : (k : Int) < 1 := by omega
      have hd0 : decide (0 < k) = false := decide_eq_false (by omega)
      have HB := Lib.hid HS.out.1
      clear p0 p1 p2 p3 HS
      cases hk1 : keyB key
      · have HF : Hid (E = 5) := HE.out.trans (if_pos (by simp [hk1]))
        rw [hk1] at CK
        clear hk1
        go_wp2_with fail
        (refine (CK.out _).mono ?_; rintro e w' ⟨rfl, rfl⟩; go_wp2_with fail)
        go_ret
        exact ⟨ret_int HF.out.symm, HB.out.alloc HB.out.size _⟩
      rw [hk1] at CK
      cases hk2 : keyB pk
      · have HF : Hid (E = 5) := HE.out.trans (if_pos (by simp [hk2]))
        rw [hk2] at CP
        clear hk1 hk2
        go_wp2_with fail
        (refine (CK.out _).mono ?_; rintro e w' ⟨rfl, rfl⟩; go_wp2_with fail)
        (refine (CP.out _).mono ?_; rintro e w' ⟨rfl, rfl⟩; go_wp2_with fail)
        go_ret
        exact ⟨ret_int HF.out.symm, HB.out.alloc HB.out.size _⟩
      rw [hk2] at CP
      have HE2 : Hid (E = if (inR lv 1 6 && inR bk 0 720000000) = false then 1 else 0) := HE.out.trans (if_neg (by simp [hk1, hk2]))
      clear hk1 hk2
      cases hl : inR lv 1 6
      · have HF : Hid (E = 1) := HE2.out.trans (if_pos (by simp [hl]))
        rw [hl] at CL
        clear hl
        go_wp2_with fail
        (refine (CK.out _).mono ?_; rintro e w' ⟨rfl, rfl⟩; go_wp2_with fail)
        (refine (CP.out _).mono ?_; rintro e w' ⟨rfl, rfl⟩; go_wp2_with fail)
        (refine (CL.out _).mono ?_; rintro e w' ⟨rfl, rfl⟩; go_wp2_with fail)
        go_ret
        exact ⟨ret_int HF.out.symm, HB.out.alloc HB.out.size _⟩
      rw [hl] at CL
      cases hb : inR bk 0 720000000
      · have HF : Hid (E = 1) := HE2.out.trans (if_pos (by simp [hb]))
        rw [hb] at CB
        clear hl hb
        go_wp2_with fail
        (refine (CK.out _).mono ?_; rintro e w' ⟨rfl, rfl⟩; go_wp2_with fail)
        (refine (CP.out _).mono ?_; rintro e w' ⟨rfl, rfl⟩; go_wp2_with fail)
        (refine (CL.out _).mono ?_; rintro e w' ⟨rfl, rfl⟩; go_wp2_with fail)
        (refine (CB.out _).mono ?_; rintro e w' ⟨rfl, rfl⟩; go_wp2_with fail)
        go_ret
        exact ⟨ret_int HF.out.symm, HB.out.alloc HB.out.size _⟩
      rw [hb] at CB
      have HF : Hid (E = 0) := HE2.out.trans (if_neg (by simp [hl, hb]))
      clear hl hb
      go_wp2_with fail
      (refine (CK.out _).mono ?_; rintro e w' ⟨rfl, rfl⟩; go_wp2_with fail)
      (refine (CP.out _).mono ?_; rintro e w' ⟨rfl, rfl⟩; go_wp2_with fail)
      (refine (CL.out _).mono ?_; rintro e w' ⟨rfl, rfl⟩; go_wp2_with fail)
      (refine (CB.out _).mono ?_; rintro e w' ⟨rfl, rfl⟩; go_wp2_with fail)
      go_quiet (fail)
      go_wp2_with fail
      go_roundw
      case rel => exact ⟨k + 1, by omega, by go_num, (HB.out.alloc HB.out.size _).drawN _, fun _ => HF.out⟩
      case measure => simp [intOf]; omega
    · have HF : Hid (E = 0) := HS.out.2 (by omega)
      go_wp2_with fail
      go_ret
      exact ⟨ret_int HF.out.symm, HS.out.1⟩

theorem lawStr : Keyed Tryd.prog 9 := string_keyed Tryd.underlying9
theorem wf_one (c : Int) (h0 : 0 ≤ c) (h1 : c ≤ 1000000) : (Lit.int .i64 c).wf = true := by
  have e1 : IntKind.i64.min = -9223372036854775808 := by decide
  have e2 : IntKind.i64.max = 9223372036854775807 := by decide
  simp only [Lit.wf, e1, e2, Bool.and_eq_true, decide_eq_true_eq]
  omega
set_option maxHeartbeats 2000000 in
theorem places_one (key pk : ByteArray) (lv bk : Int) (hks : key.size ≤ maxLen) (g : Nat) (w : World) (hp : PartB w g key pk lv bk) :
    Calls Tryd.prog 70 #[.slice (some ⟨g, 0, none⟩) 1 1] w fun e w' => ∃ v, e = .returned v ∧ Below w.heap.size w w' := by
  have hmm := @run_makeMap Tryd.prog
  have HKS := Lib.hid hks
  clear hks
  go_enter Tryd.func70, Tryd.ntmps70
  go_wp2_with fail
  have H0 : Hid (Below w.heap.size w (w.alloc (.map #[] 0)) ∧ ∃ D n, (w.alloc (.map #[] 0)).ownsMap (H := Unit) Tryd.prog 9 (plainElem Tryd.prog 3) w.heap.size n D ∧ n ≤ 0) := ⟨(Below.refl _ _).alloc (Nat.le_refl _) _, _, 0, World.ownsMap_made w _ _ _, Nat.le_refl _⟩
  clear hmm
  go_loopw [9] (fun kk wr => ∃ k : Nat, k ≤ 1 ∧ kk = .int .i64 k ∧ Hid (Below w.heap.size w wr ∧ ∃ D n, wr.ownsMap (H := Unit) Tryd.prog 9 (plainElem Tryd.prog 3) w.heap.size n D ∧ n ≤ k)) (fun kk _ => 1 - (intOf kk).toNat)
  case atStart => exact ⟨0, by omega, rfl, H0⟩
  case round =>
    obtain ⟨k, hk, rfl, HS⟩ := hrel
    by_cases hlt : k < 1
    · obtain ⟨p0, p1, p2, p3⟩ := blk4 (blk_below HS.out.1 hp)
      have hgl := lt_of_blk (blk_below HS.out.1 hp)
      have c0 : wr.cell? ⟨g, k * 4, none⟩ = some (.string key) := by rw [show k * 4 = 0 by omega]; exact p0
      have c1 : wr.cell? ⟨g, k * 4 + 1, none⟩ = some (.string pk) := by rw [show k * 4 + 1 = 1 by omega]; exact p1
      have c2 : wr.cell? ⟨g, k * 4 + 2, none⟩ = some (.int .i64 lv) := by rw [show k * 4 + 2 = 2 by omega]; exact p2
      have c3 : wr.cell? ⟨g, k * 4 + 3, none⟩ = some (.int .i64 bk) := by rw [show k * 4 + 3 = 3 by omega]; exact p3
      have i1 : (0 : Int) ≤ (k : Int) := by omega
      have i2 : (k : Int) < 1 := by omega
      obtain ⟨hb, D, n, hown, hn⟩ := HS.out
      have HOW := Lib.hid (hown.alloc (Obj.cells #[.string key, .string pk, .int .i64 lv, .int .i64 bk] 27))
      have HB := Lib.hid hb
      clear p0 p1 p2 p3 HS hown hb
      go_wp2_with (at_mapUpdate; refine hold ?_)
      refine loose ?_
      refine wpList_mapUpdate_own _ rfl _ _ _ 106 rfl 9 3 lawStr Tryd.underlying106 _ w.heap.size n D rfl HOW.out (by unfold maxLen; omega) _ _ _ rfl rfl (keyOf_string_mk Tryd.underlying9 HKS.out) _ [] (plainElem_int Tryd.underlying3 (wf_one k (by omega) (by omega))) ?_
      intro w2 hown2 hgrow2
      have hsz2 := hgrow2.size
      simp at hsz2
      have HF : Hid (Below w.heap.size w w2 ∧ ∃ D n, w2.ownsMap (H := Unit) Tryd.prog 9 (plainElem Tryd.prog 3) w.heap.size n D ∧ n ≤ k + 1) :=
        ⟨(HB.out.alloc HB.out.size _).grown hgrow2 (by have := HB.out.size; simp; omega) (fun j hj => by cases hj; exact Nat.le_refl _), _, n + 1, hown2, by omega⟩
      clear hown2 hgrow2
      go_wp2_with fail
      go_roundw
      case rel => exact ⟨k + 1, by omega, by go_num, HF⟩
      case measure => simp [intOf]; omega
    · go_wp2_with fail
      go_ret
      exact ⟨_, rfl, HS.out.1⟩
set_option maxHeartbeats 2000000 in
theorem checkAlternates_one (key pk : ByteArray) (lv bk : Int) (hks : key.size ≤ maxLen) (g : Nat) (w : World) (hp : PartB w g key pk lv bk) :
    Calls Tryd.prog 58 #[.agg #[.slice (some ⟨g, 0, none⟩) 1 1, .slice none 0 0]] w fun e w' => e = .returned (.int .i64 0) ∧ Below w.heap.size w w' := by
  go_enter Tryd.func58, Tryd.ntmps58
  go_wp2_with fail
  have bw1 : Below w.heap.size w (w.alloc (Obj.cells #[.slice (some ⟨g, 0, none⟩) 1 1, .slice none 0 0] 71)) := ((Below.refl _ _).alloc (Nat.le_refl _) _)
  have kC : (w.alloc (Obj.cells #[.slice (some ⟨g, 0, none⟩) 1 1, .slice none 0 0] 71)).heap[w.heap.size]? = some (.cells #[.slice (some ⟨g, 0, none⟩) 1 1, .slice none 0 0] 71 (0, 0)) := (blk_new w _ rfl)
  generalize (w.alloc (Obj.cells #[.slice (some ⟨g, 0, none⟩) 1 1, .slice none 0 0] 71)) = w1 at *
  refine (places_one key pk lv bk hks g _ (blk_below bw1 hp)).mono ?_
  rintro e w2 ⟨v, rfl, b2⟩
  obtain ⟨d0, d1, _, _⟩ := blk2 (blk_below b2 kC)
  have HB := Lib.hid (bw1.then_below b2 bw1.size)
  have hz := lt_of_blk (blk_below b2 kC)
  clear b2 kC bw1
  go_wp2_with fail
  refine wp_loop_rounds 1 ?_
  rw [rounds_succ]
  go_wp2_with fail
  go_ret
  exact ⟨rfl, HB.out⟩
set_option maxHeartbeats 2000000 in
theorem eachNone_any (f : Value) (w : World) : Calls Tryd.prog 72 #[.slice none 0 0, f] w fun e w' => e = .returned (.tuple #[]) ∧ w = w' := by
  go_enter Tryd.func72, Tryd.ntmps72
  go_wp2_with fail
  refine wp_loop_rounds 1 ?_
  rw [rounds_succ]
  go_wp2_with fail
  go_end0
  exact ⟨rfl, rfl⟩
set_option maxHeartbeats 2000000 in
theorem twiceNone_any (w : World) : Calls Tryd.prog 59 #[.slice none 0 0] w fun e w' => e = .returned (.bool false) ∧ Below w.heap.size w w' := by
  have hmm := @run_makeMap Tryd.prog
  go_enter Tryd.func59, Tryd.ntmps59
  go_wp2_with fail
  refine (eachNone_any _ _).mono ?_
  rintro e w' ⟨rfl, rfl⟩
  go_wp2_with fail
  go_ret
  exact ⟨rfl, (((Below.refl _ _).alloc (Nat.le_refl _) _).alloc (by simp) _).alloc (by simp; omega) _⟩
theorem key_size {s : ByteArray} (h : keyB s = true) : s.size ≤ maxLen := by
  rcases Nat.eq_zero_or_pos s.size with h0 | h0
  · rw [h0]; exact Nat.zero_le _
  · rw [keyB_some s h0] at h
    simp only [Bool.and_eq_true, decide_eq_true_eq] at h
    unfold maxLen
    omega
theorem partE_ok {key pk : ByteArray} {lv bk : Int} (h : partE key pk lv bk = 0) : keyB key = true ∧ inR lv 1 6 = true ∧ 0 ≤ bk ∧ bk ≤ 720000000 := by
  unfold partE at h
  split at h
  · cases h
  split at h
  · cases h
  rename_i h1 h2
  simp [inR] at h1 h2
  simp [inR]
  exact ⟨h1.1, ⟨by omega, by omega⟩, by omega, by omega⟩
set_option maxHeartbeats 2000000 in
theorem checkCat_one (key pk : ByteArray) (lv bk : Int) (g : Nat) (w : World) (hp : PartB w g key pk lv bk) :
    Calls Tryd.prog 48 #[.agg #[.slice (some ⟨g, 0, none⟩) 1 1, .slice none 0 0]] w fun e w' => e = .returned (.int .i64 (partE key pk lv bk)) ∧ Below w.heap.size w w' := by
  have CC := Lib.hid (fun W (h : PartB W g key pk lv bk) => checkParts_one key pk lv bk g W h)
  by_cases h0 : partE key pk lv bk = 0
  · have hks := key_size (partE_ok h0).1
    have CA := Lib.hid (fun W (h : PartB W g key pk lv bk) => checkAlternates_one key pk lv bk hks g W h)
    rw [h0] at CC ⊢
    clear h0 hks
    go_enter Tryd.func48, Tryd.ntmps48
    go_wp2_with fail
    have bw1 : Below w.heap.size w (w.alloc (Obj.cells #[.slice (some ⟨g, 0, none⟩) 1 1, .slice none 0 0] 71)) := ((Below.refl _ _).alloc (Nat.le_refl _) _)
    have kC : (w.alloc (Obj.cells #[.slice (some ⟨g, 0, none⟩) 1 1, .slice none 0 0] 71)).heap[w.heap.size]? = some (.cells #[.slice (some ⟨g, 0, none⟩) 1 1, .slice none 0 0] 71 (0, 0)) := (blk_new w _ rfl)
    generalize (w.alloc (Obj.cells #[.slice (some ⟨g, 0, none⟩) 1 1, .slice none 0 0] 71)) = w1 at *
    refine (CC.out _ (blk_below bw1 hp)).mono ?_
    rintro e w2 ⟨rfl, b2⟩
    have HB := Lib.hid (And.intro (bw1.then_below b2 bw1.size) (blk_below b2 kC))
    obtain ⟨d0, d1, _, _⟩ := blk2 HB.out.2
    have hz := lt_of_blk HB.out.2
    clear b2 kC bw1
    go_wp2_with fail
    refine (CA.out _ (blk_below HB.out.1 hp)).mono ?_
    rintro e w3 ⟨rfl, b3⟩
    have HB3 := Lib.hid (And.intro (HB.out.1.then_below b3 HB.out.1.size) (blk_below b3 HB.out.2))
    clear d0 d1 hz b3 HB
    obtain ⟨d0, d1, _, _⟩ := blk2 HB3.out.2
    have hz := lt_of_blk HB3.out.2
    go_wp2_with fail
    refine (twiceNone_any _).mono ?_
    rintro e w4 ⟨rfl, b4⟩
    have HB4 := Lib.hid (HB3.out.1.then_below b4 HB3.out.1.size)
    clear b4 d0 d1 hz
    go_wp2_with fail
    go_ret
    exact ⟨rfl, HB4.out⟩
  · generalize partE key pk lv bk = E at *
    have h1 : (E != 0) = true := by simpa using h0
    clear h0
    go_enter Tryd.func48, Tryd.ntmps48
    go_wp2_with fail
    have bw1 : Below w.heap.size w (w.alloc (Obj.cells #[.slice (some ⟨g, 0, none⟩) 1 1, .slice none 0 0] 71)) := ((Below.refl _ _).alloc (Nat.le_refl _) _)
    have kC : (w.alloc (Obj.cells #[.slice (some ⟨g, 0, none⟩) 1 1, .slice none 0 0] 71)).heap[w.heap.size]? = some (.cells #[.slice (some ⟨g, 0, none⟩) 1 1, .slice none 0 0] 71 (0, 0)) := (blk_new w _ rfl)
    generalize (w.alloc (Obj.cells #[.slice (some ⟨g, 0, none⟩) 1 1, .slice none 0 0] 71)) = w1 at *
    refine (CC.out _ (blk_below bw1 hp)).mono ?_
    rintro e w2 ⟨rfl, b2⟩
    have HB := Lib.hid (bw1.then_below b2 bw1.size)
    clear b2 kC bw1
    go_wp2_with fail
    go_ret
    exact ⟨rfl, HB.out⟩
/-- The error of a part and stays. -/
def lyE (key pk : ByteArray) (lv bk : Int) (l : List Sy) : Int := if partE key pk lv bk = 0 then staysErr l else partE key pk lv bk
set_option maxHeartbeats 2000000 in
theorem checkLying_any (key pk : ByteArray) (lv bk : Int) (A : Option Addr) (c : Nat) (l : List Sy) (hl : l.length ≤ 4611686018427387904) (w : World) (hA : SyAt w A l) :
    Calls Tryd.prog 37 #[.agg #[.string key, .string pk, .int .i64 lv, .int .i64 bk], .slice A l.length c] w fun e w' => e = .returned (.int .i64 (lyE key pk lv bk l)) ∧ Below w.heap.size w w' := by
  have CC := Lib.hid (fun W g (h : PartB W g key pk lv bk) => checkCat_one key pk lv bk g W h)
  have CS := Lib.hid (fun W (h : SyAt W A l) => checkStays_any A c l hl W h)
  have HE : Hid (lyE key pk lv bk l = if partE key pk lv bk = 0 then staysErr l else partE key pk lv bk) := rfl
  generalize partE key pk lv bk = E at *
  generalize staysErr l = E2 at *
  cases h0 : (E == 0)
  · have h1 : (E != 0) = true := by simpa using h0
    have HF : Hid (lyE key pk lv bk l = E) := HE.out.trans (if_neg (by simpa using h0))
    clear h0
    go_enter Tryd.func37, Tryd.ntmps37
    go_wp2_with fail
    have bw1 : Below w.heap.size w ((w.alloc (Obj.cells #[.string key, .string pk, .int .i64 lv, .int .i64 bk] 27)).alloc (Obj.cells #[.string key, .string pk, .int .i64 lv, .int .i64 bk] 27)) := (((Below.refl _ _).alloc (Nat.le_refl _) _).alloc (by simp) _)
    have kB : ((w.alloc (Obj.cells #[.string key, .string pk, .int .i64 lv, .int .i64 bk] 27)).alloc (Obj.cells #[.string key, .string pk, .int .i64 lv, .int .i64 bk] 27)).heap[w.heap.size]? = some (.cells #[.string key, .string pk, .int .i64 lv, .int .i64 bk] 27 (0, 0)) := (blk_alloc (blk_new w _ rfl) _)
    have kC : ((w.alloc (Obj.cells #[.string key, .string pk, .int .i64 lv, .int .i64 bk] 27)).alloc (Obj.cells #[.string key, .string pk, .int .i64 lv, .int .i64 bk] 27)).heap[w.heap.size + 1]? = some (.cells #[.string key, .string pk, .int .i64 lv, .int .i64 bk] 27 (0, 0)) := (blk_new _ _ (by simp))
    generalize ((w.alloc (Obj.cells #[.string key, .string pk, .int .i64 lv, .int .i64 bk] 27)).alloc (Obj.cells #[.string key, .string pk, .int .i64 lv, .int .i64 bk] 27)) = w1 at *
    refine (CC.out _ _ kC).mono ?_
    rintro e w2 ⟨rfl, b2⟩
    have HB := Lib.hid (bw1.then_below b2 bw1.size)
    clear b2 kC bw1 kB
    go_wp2_with fail
    go_ret
    exact ⟨ret_int HF.out.symm, HB.out⟩
  · obtain rfl : E = 0 := by simpa using h0
    have HF : Hid (lyE key pk lv bk l = E2) := HE.out.trans (if_pos rfl)
    clear h0
    go_enter Tryd.func37, Tryd.ntmps37
    go_wp2_with fail
    have bw1 : Below w.heap.size w ((w.alloc (Obj.cells #[.string key, .string pk, .int .i64 lv, .int .i64 bk] 27)).alloc (Obj.cells #[.string key, .string pk, .int .i64 lv, .int .i64 bk] 27)) := (((Below.refl _ _).alloc (Nat.le_refl _) _).alloc (by simp) _)
    have kB : ((w.alloc (Obj.cells #[.string key, .string pk, .int .i64 lv, .int .i64 bk] 27)).alloc (Obj.cells #[.string key, .string pk, .int .i64 lv, .int .i64 bk] 27)).heap[w.heap.size]? = some (.cells #[.string key, .string pk, .int .i64 lv, .int .i64 bk] 27 (0, 0)) := (blk_alloc (blk_new w _ rfl) _)
    have kC : ((w.alloc (Obj.cells #[.string key, .string pk, .int .i64 lv, .int .i64 bk] 27)).alloc (Obj.cells #[.string key, .string pk, .int .i64 lv, .int .i64 bk] 27)).heap[w.heap.size + 1]? = some (.cells #[.string key, .string pk, .int .i64 lv, .int .i64 bk] 27 (0, 0)) := (blk_new _ _ (by simp))
    generalize ((w.alloc (Obj.cells #[.string key, .string pk, .int .i64 lv, .int .i64 bk] 27)).alloc (Obj.cells #[.string key, .string pk, .int .i64 lv, .int .i64 bk] 27)) = w1 at *
    refine (CC.out _ _ kC).mono ?_
    rintro e w2 ⟨rfl, b2⟩
    have HB := Lib.hid (bw1.then_below b2 bw1.size)
    clear b2 kC bw1 kB
    go_wp2_with fail
    refine (CS.out _ (hA.below HB.out)).mono ?_
    rintro e w3 ⟨rfl, b3⟩
    have HB3 := Lib.hid (HB.out.then_below b3 HB.out.size)
    clear b3
    go_wp2_with fail
    go_ret
    exact ⟨ret_int HF.out.symm, HB3.out⟩
end Go.Proofs.YtopnadilfjakiaaDoor
