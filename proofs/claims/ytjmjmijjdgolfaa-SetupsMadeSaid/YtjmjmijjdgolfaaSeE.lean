/-
  The program's Missing, Changes, Loads; the reference's loads.
-/
import Derived.Test.YtjmjmijjdgolfaaSeD
namespace Go.Proofs.Ytjmjmijjdgolfaa
open Go.RowKit
set_option linter.unusedSimpArgs false
set_option linter.unusedVariables false

/-- What is handed back where there is no error. -/
def okL {α : Type} (e : Int) (l : List α) : List α := if e = 0 then l else []
def okN (e : Int) (n : Nat) : Nat := if e = 0 then n else 0
theorem okL_ok {α : Type} {e : Int} (h : e = 0) (l : List α) : okL e l = l := if_pos h
theorem okL_bad {α : Type} {e : Int} (h : ¬ e = 0) (l : List α) : okL e l = [] := if_neg h
theorem okN_ok {e : Int} (h : e = 0) (n : Nat) : okN e n = n := if_pos h
theorem okN_bad {e : Int} (h : ¬ e = 0) (n : Nat) : okN e n = 0 := if_neg h
set_option maxHeartbeats 1000000 in
theorem check_any {b1 b2 : Nat} {s : List ByteArray} {p : List (List ByteArray)} {v1 v2 : Value} (hl : s.length ≤ 1000000) (hp : p.length ≤ 1000000) (hps : ∀ l ∈ p, l.length ≤ 1000000) {w : World} (h1 : ReadsF b1 encS v1 s w) (h2 : ListsF b2 v2 p w) :
    Calls Try.prog 73 #[v1, v2] w fun e w' => e = .returned (.int .i64 (chkErr s p)) ∧ w = w' := by
  have CS := Lib.hid (checkSetup_any hl h1)
  have CP := Lib.hid (checkParts_any (s.length : Int) hp hps h2)
  obtain ⟨A, c, rfl, _, _⟩ := h1
  obtain ⟨A2, c2, rfl, _, _⟩ := h2
  have HE : Hid (chkErr s p = if setErr s = 0 then partsErr s.length p else setErr s) := rfl
  generalize setErr s = E at *
  generalize partsErr s.length p = F at *
  by_cases h0 : E = 0
  · have HF := Lib.hid (HE.out.trans (if_pos h0))
    subst h0
    go_enter Try.func73, Try.ntmps73
    go_wp2_with fail
    refine CS.out.mono ?_
    rintro e w' ⟨rfl, rfl⟩
    go_wp2_with fail
    refine CP.out.mono ?_
    rintro e w' ⟨rfl, rfl⟩
    go_wp2_with fail
    go_ret
    exact ⟨ret_int HF.out.symm, rfl⟩
  · have HF := Lib.hid (HE.out.trans (if_neg h0))
    have hne : (E != 0) = true := by simpa using h0
    go_enter Try.func73, Try.ntmps73
    go_wp2_with fail
    refine CS.out.mono ?_
    rintro e w' ⟨rfl, rfl⟩
    go_wp2_with fail
    go_ret
    exact ⟨ret_int HF.out.symm, rfl⟩
set_option maxHeartbeats 1000000 in
theorem setsFault_any {b1 b2 : Nat} {s : List ByteArray} {p : List (List ByteArray)} {v1 v2 : Value} (hl : s.length ≤ 1000000) (hp : p.length ≤ 1000000) (hps : ∀ l ∈ p, l.length ≤ 1000000) {w : World} (h1 : ReadsF b1 encS v1 s w) (h2 : ListsF b2 v2 p w) :
    Calls Try.prog 45 #[v1, v2] w fun e w' => e = .returned (.int .i64 (chkErr s p)) ∧ w = w' := by
  have CS := Lib.hid (setupFault_any hl h1)
  have CP := Lib.hid (partsFault_any (s.length : Int) hp hps h2)
  obtain ⟨A, c, rfl, _, _⟩ := h1
  obtain ⟨A2, c2, rfl, _, _⟩ := h2
  have HE : Hid (chkErr s p = if setErr s = 0 then partsErr s.length p else setErr s) := rfl
  generalize setErr s = E at *
  generalize partsErr s.length p = F at *
  by_cases h0 : E = 0
  · have HF := Lib.hid (HE.out.trans (if_pos h0))
    subst h0
    go_enter Try.func45, Try.ntmps45
    go_wp2_with fail
    refine CS.out.mono ?_
    rintro e w' ⟨rfl, rfl⟩
    go_wp2_with fail
    refine CP.out.mono ?_
    rintro e w' ⟨rfl, rfl⟩
    go_wp2_with fail
    go_ret
    exact ⟨ret_int HF.out.symm, rfl⟩
  · have HF := Lib.hid (HE.out.trans (if_neg h0))
    have hne : (E != 0) = true := by simpa using h0
    go_enter Try.func45, Try.ntmps45
    go_wp2_with fail
    refine CS.out.mono ?_
    rintro e w' ⟨rfl, rfl⟩
    go_wp2_with fail
    go_ret
    exact ⟨ret_int HF.out.symm, rfl⟩

/-- Lists in a block that has just been built of one slice. -/
theorem listsF_one {base : Nat} {u : Value} {l : List ByteArray} {w : World} {g : Nat} {t : TypeId} (h : w.heap[g]? = some (.cells #[u] t (0, 0))) (hg : base ≤ g) (hu : ReadsF base encS u l w) : ListsF base (.slice (some ⟨g, 0, none⟩) 1 1) [l] w := by
  refine ⟨_, 1, rfl, Nat.le_refl _, .inr ⟨g, 0, rfl, hg, lt_of_blk h, fun j hj => ?_⟩⟩
  obtain rfl : j = 0 := by simp at hj; exact hj
  exact ⟨u, blk_cell0 h, hu⟩

theorem small_maxLen {x : ByteArray} (h : keyB x = true) : x.size ≤ maxLen := by
  rcases Nat.eq_zero_or_pos x.size with h0 | h0
  · rw [h0]; exact Nat.zero_le _
  · rw [keyB_some x h0] at h
    simp only [Bool.and_eq_true, decide_eq_true_eq] at h
    unfold maxLen
    omega
theorem setOk_sizes {s : List ByteArray} (h : SetOk s) : ∀ x ∈ s, x.size ≤ maxLen := fun x hx => by
  rcases h.2.2.1 x hx with h | h
  · rw [(em_iff x).mp h]; exact Nat.zero_le _
  · exact small_maxLen h
theorem paOk_sizes {l : List ByteArray} (h : PaOk l) : ∀ x ∈ l, x.size ≤ maxLen := fun x hx => small_maxLen (h.1 x hx)
theorem chkErr_ok {s : List ByteArray} {p : List (List ByteArray)} (h : chkErr s p = 0) : SetOk s ∧ p.length ≤ 200 ∧ ∀ l ∈ p, l.length ≤ s.length ∧ PaOk l := by
  unfold chkErr at h
  by_cases h0 : setErr s = 0
  · rw [if_pos h0] at h
    have := partsErr_ok h
    exact ⟨setErr_ok h0, this.2.2.1, fun l hl => ⟨by have := (this.2.2.2 l hl).1; omega, (this.2.2.2 l hl).2⟩⟩
  · rw [if_neg h0] at h; exact absurd h h0

set_option maxHeartbeats 2000000 in
theorem missing_any {b1 b2 : Nat} {s l : List ByteArray} {v1 v2 : Value} (hl : s.length ≤ 1000000) (hll : l.length ≤ 1000000) {w : World} (h1 : ReadsF b1 encS v1 s w) (h2 : ReadsF b2 encS v2 l w) (hb2 : b2 ≤ w.heap.size) :
    Calls Try.prog 28 #[v1, v2] w fun e w' => ∃ u, e = .returned (.tuple #[u, .int .i64 (chkErr s [l])]) ∧ Below w.heap.size w w' ∧ ReadsF w.heap.size encS u (okL (chkErr s [l]) (missOf s l)) w' := by
  have hW : Below w.heap.size w (w.alloc (.cells #[v2] 51)) := (Below.refl _ _).alloc (Nat.le_refl _) _
  have CC := Lib.hid (check_any hl (by simp) (by simpa using hll) (h1.below hW) (listsF_one (blk_new w _ rfl) hb2 (h2.below hW)))
  have HH := Lib.hid (And.intro (h1.below hW) (And.intro (h2.below hW) hW))
  obtain ⟨A, c, rfl, _, _⟩ := h1
  obtain ⟨A2, c2, rfl, _, _⟩ := h2
  have HO := Lib.hid (@chkErr_ok s [l])
  generalize chkErr s [l] = E at *
  by_cases h0 : E = 0
  · have hok := HO.out h0
    have CM := Lib.hid (fun (W : World) (h : ReadsF b1 encS (.slice A s.length c) s W) => missingIn_any hl (setOk_sizes hok.1) h)
    have CN := Lib.hid (fun (W : World) (fb : Nat) (hm : MissAt s fb W) (h : ReadsF b2 encS (.slice A2 l.length c2) l W) => missIn1_any hll (paOk_sizes (hok.2.2 l (by simp)).2) hm h)
    rw [okL_ok h0]
    subst h0
    clear hok HO hW
    go_enter Try.func28, Try.ntmps28
    go_wp2_with fail
    refine CC.out.mono ?_
    rintro e w' ⟨rfl, rfl⟩
    go_wp2_with fail
    refine (CM.out _ HH.out.1).mono ?_
    rintro e w2 ⟨fb, rfl, hb2, hm⟩
    have H2 := Lib.hid (And.intro hb2 hm)
    clear hb2 hm
    go_wp2_with fail
    refine (CN.out _ _ H2.out.2 (HH.out.2.1.below H2.out.1)).mono ?_
    rintro e w3 ⟨u, rfl, hb3, hown⟩
    have HF : Hid (Below w.heap.size w w3 ∧ ReadsF w.heap.size encS u (missOf s l) w3) :=
      ⟨(HH.out.2.2.then_below H2.out.1 HH.out.2.2.size).then_below hb3 (Nat.le_trans HH.out.2.2.size H2.out.1.size), (readsF_own (enc := encS) hown).least (Nat.le_trans HH.out.2.2.size H2.out.1.size)⟩
    clear hb3 hown
    go_wp2_with fail
    refine bodyPost_ret (v := .tuple #[u, .int .i64 0]) (by unfold results; simp only [Try.results28]; go_simp) rfl ⟨u, rfl, HF.out.1, HF.out.2⟩
  · have hne : (E != 0) = true := by simpa using h0
    rw [okL_bad h0]
    clear HO hW
    go_enter Try.func28, Try.ntmps28
    go_wp2_with fail
    refine CC.out.mono ?_
    rintro e w' ⟨rfl, rfl⟩
    go_wp2_with fail
    refine bodyPost_ret (v := .tuple #[.slice none 0 0, .int .i64 E]) (by unfold results; simp only [Try.results28]; go_simp) rfl ⟨_, rfl, HH.out.2.2, readsF_nil _ _ _⟩

/-- The errors of two setups. -/
def twoErr (a b : List ByteArray) : Int := if setErr a = 0 then if setErr b = 0 then if a.length = b.length then 0 else 3 else setErr b else setErr a

set_option maxHeartbeats 2000000 in
theorem changesP_any {b1 b2 : Nat} {a b : List ByteArray} {v1 v2 : Value} (ha : a.length ≤ 100000) (hb : b.length ≤ 100000) {w : World} (h1 : ReadsF b1 encS v1 a w) (h2 : ReadsF b2 encS v2 b w) :
    Calls Try.prog 29 #[v1, v2] w fun e w' => ∃ u, e = .returned (.tuple #[u, .int .i64 (twoErr a b)]) ∧ Below w.heap.size w w' ∧ ReadsF w.heap.size encC u (okL (twoErr a b) (chgOf a b)) w' := by
  have CA := Lib.hid (checkSetup_any (by omega) h1)
  have CB := Lib.hid (checkSetup_any (by omega) h2)
  have CC := Lib.hid (fun (hab : a.length = b.length) => changes_any ha hab (h1.least (Nat.zero_le _)) (h2.least (Nat.zero_le _)))
  obtain ⟨A, c, rfl, _, _⟩ := h1
  obtain ⟨A2, c2, rfl, _, _⟩ := h2
  have HE : Hid (twoErr a b = if setErr a = 0 then if setErr b = 0 then if a.length = b.length then 0 else 3 else setErr b else setErr a) := rfl
  generalize setErr a = E at *
  generalize setErr b = F at *
  generalize twoErr a b = G at *
  by_cases h0 : E = 0
  rotate_left
  · have HF := Lib.hid (HE.out.trans (if_neg h0))
    have hne : (E != 0) = true := by simpa using h0
    have HG : Hid (¬ G = 0) := by rw [HF.out]; exact h0
    go_enter Try.func29, Try.ntmps29
    go_wp2_with fail
    refine CA.out.mono ?_
    rintro e w' ⟨rfl, rfl⟩
    go_wp2_with fail
    refine bodyPost_ret (v := .tuple #[.slice none 0 0, .int .i64 E]) (by unfold results; simp only [Try.results29]; go_simp) rfl ⟨_, by rw [HF.out], Below.refl _ _, ?_⟩
    rw [okL_bad HG.out]
    exact readsF_nil _ _ _
  have HE1 := Lib.hid (HE.out.trans (if_pos h0))
  subst h0
  by_cases h0 : F = 0
  rotate_left
  · have HF := Lib.hid (HE1.out.trans (if_neg h0))
    have hne : (F != 0) = true := by simpa using h0
    have HG : Hid (¬ G = 0) := by rw [HF.out]; exact h0
    go_enter Try.func29, Try.ntmps29
    go_wp2_with fail
    refine CA.out.mono ?_
    rintro e w' ⟨rfl, rfl⟩
    go_wp2_with fail
    refine CB.out.mono ?_
    rintro e w' ⟨rfl, rfl⟩
    go_wp2_with fail
    refine bodyPost_ret (v := .tuple #[.slice none 0 0, .int .i64 F]) (by unfold results; simp only [Try.results29]; go_simp) rfl ⟨_, by rw [HF.out], Below.refl _ _, ?_⟩
    rw [okL_bad HG.out]
    exact readsF_nil _ _ _
  have HE2 := Lib.hid (HE1.out.trans (if_pos h0))
  subst h0
  by_cases h0 : a.length = b.length
  · have HF := Lib.hid (HE2.out.trans (if_pos h0))
    have CD := Lib.hid (CC.out h0)
    have hne : ((a.length : Int) != (b.length : Int)) = false := by rw [h0]; simp
    clear CC h0 HE HE1 HE2
    go_enter Try.func29, Try.ntmps29
    go_wp2_with fail
    refine CA.out.mono ?_
    rintro e w' ⟨rfl, rfl⟩
    go_wp2_with fail
    refine CB.out.mono ?_
    rintro e w' ⟨rfl, rfl⟩
    go_wp2_with fail
    refine CD.out.mono ?_
    rintro e w' ⟨u, rfl, hb, hown⟩
    have HB := Lib.hid (And.intro hb hown)
    clear hb hown
    go_wp2_with fail
    refine bodyPost_ret (v := .tuple #[u, .int .i64 0]) (by unfold results; simp only [Try.results29]; go_simp) rfl ⟨_, by rw [HF.out], HB.out.1, ?_⟩
    rw [okL_ok HF.out]
    exact readsF_own HB.out.2
  · have HF := Lib.hid (HE2.out.trans (if_neg h0))
    have hne : ((a.length : Int) != (b.length : Int)) = true := by simp; omega
    have HG : Hid (¬ G = 0) := fun h => by rw [HF.out] at h; cases h
    clear CC h0 HE HE1 HE2
    go_enter Try.func29, Try.ntmps29
    go_wp2_with fail
    refine CA.out.mono ?_
    rintro e w' ⟨rfl, rfl⟩
    go_wp2_with fail
    refine CB.out.mono ?_
    rintro e w' ⟨rfl, rfl⟩
    go_wp2_with fail
    refine bodyPost_ret (v := .tuple #[.slice none 0 0, .int .i64 3]) (by unfold results; simp only [Try.results29]; go_simp) rfl ⟨_, by rw [HF.out], Below.refl _ _, ?_⟩
    rw [okL_bad HG.out]
    exact readsF_nil _ _ _

set_option maxHeartbeats 2000000 in
theorem loadsP_any {b1 b2 : Nat} {a b : List ByteArray} {v1 v2 : Value} (ha : a.length ≤ 100000) (hb : b.length ≤ 100000) {w : World} (h1 : ReadsF b1 encS v1 a w) (h2 : ReadsF b2 encS v2 b w) :
    Calls Try.prog 30 #[v1, v2] w fun e w' => e = .returned (.tuple #[.int .i64 (okN (twoErr a b) (loadsOf a b)), .int .i64 (twoErr a b)]) ∧ Below w.heap.size w w' := by
  have CC := Lib.hid (changesP_any ha hb h1 h2)
  have HL : Hid (loadsOf a b = ldsOf (chgOf a b)) := rfl
  have HN : Hid ((chgOf a b).length ≤ 100000) := Nat.le_trans (chgK_len _ _ _) ha
  generalize twoErr a b = G at *
  by_cases h0 : G = 0
  · rw [okL_ok h0] at CC
    rw [okN_ok h0, HL.out]
    subst h0
    go_enter Try.func30, Try.ntmps30
    go_wp2_with fail
    refine CC.out.mono ?_
    rintro e w' ⟨u, rfl, hb, hr⟩
    have CL := Lib.hid (loads_any HN.out hr)
    have HB := Lib.hid hb
    clear hb hr
    go_wp2_with fail
    refine CL.out.mono ?_
    rintro e w2 ⟨rfl, hb2⟩
    have HB2 := Lib.hid (HB.out.then_below hb2 HB.out.size)
    clear hb2
    go_wp2_with fail
    refine bodyPost_ret (v := .tuple #[.int .i64 (ldsOf (chgOf a b)), .int .i64 0]) (by unfold results; simp only [Try.results30]; go_simp) rfl ⟨rfl, HB2.out⟩
  · have hne : (G != 0) = true := by simpa using h0
    rw [okL_bad h0] at CC
    rw [okN_bad h0]
    go_enter Try.func30, Try.ntmps30
    go_wp2_with fail
    refine CC.out.mono ?_
    rintro e w' ⟨u, rfl, hb, hr⟩
    have HB := Lib.hid hb
    clear hb hr
    go_wp2_with fail
    refine bodyPost_ret (v := .tuple #[.int .i64 0, .int .i64 G]) (by unfold results; simp only [Try.results30]; go_simp) rfl ⟨rfl, HB.out⟩

set_option maxHeartbeats 2000000 in
theorem loadsR_any {base : Nat} {a b : List ByteArray} {v1 v2 : Value} (ha : a.length ≤ 100000) (hab : a.length = b.length) {w : World} (h1 : ReadsF base encS v1 a w) (h2 : ReadsF base encS v2 b w) :
    Calls Try.prog 36 #[v1, v2] w fun e w' => e = .returned (.int .i64 (loadsOf a b)) ∧ Below w.heap.size w w' := by
  have CC := Lib.hid (changesOf_any ha hab h1 h2)
  obtain ⟨A1, c1, rfl, _, _⟩ := h1
  obtain ⟨A2, c2, rfl, _, _⟩ := h2
  have HL : Hid (loadsOf a b = ldsOf (chgOf a b)) := rfl
  have hl : (chgOf a b).length ≤ 100000 := Nat.le_trans (chgK_len _ _ _) ha
  generalize chgOf a b = l at *
  rw [HL.out]
  clear hab
  go_enter Try.func36, Try.ntmps36
  go_wp2_with fail
  refine CC.out.mono ?_
  rintro e w1 ⟨u, rfl, hb1, hown⟩
  have hrd := readsF_own hown
  have HH := Lib.hid (And.intro hb1 hrd)
  obtain ⟨A, c, rfl, _, _⟩ := hrd
  clear hown hb1 CC
  go_wp2_with fail
  go_loopw [5, 12] (fun mv kk wr => ∃ k : Nat, k ≤ l.length ∧ mv = .int .i64 (ldsOf (l.take k)) ∧ kk = .int .i64 k ∧ Hid (Below w1.heap.size w1 wr)) (fun _ kk _ => l.length - (intOf kk).toNat)
  case atStart => exact ⟨0, by omega, rfl, rfl, Below.refl _ _⟩
  case round =>
    obtain ⟨k, hk, rfl, rfl, HS⟩ := hrel
    by_cases hlt : k < l.length
    · obtain ⟨A', c', e, _, hr⟩ := HH.out.2.below HS.out
      cases e
      rcases hr with hr | ⟨g, rfl, _, hrow⟩
      · subst hr; simp at hlt
      have e := fun j (hj : j < 3) => flatK_at encC 3 (fun _ => rfl) l k hlt j hj
      have HT := Lib.hid (ldsOf_succ hlt)
      have hle : ldsOf (l.take k) ≤ 100000 := by
        have := List.countP_le_length (p := fun c : Nat × ByteArray × ByteArray => !em c.2.2) (l := l.take k)
        rw [List.length_take] at this
        unfold ldsOf
        omega
      generalize l[k] = p at *
      obtain ⟨sl, x, y⟩ := p
      have a0 : wr.cell? ⟨g, k * 3, none⟩ = some (.int .i64 sl) := hrow.2 _ _ (e 0 (by omega))
      have a1 : wr.cell? ⟨g, k * 3 + 1, none⟩ = some (.string x) := hrow.2 _ _ (e 1 (by omega))
      have a2 : wr.cell? ⟨g, k * 3 + 2, none⟩ = some (.string y) := hrow.2 _ _ (e 2 (by omega))
      have hgl := hrow.1
      have i1 : (0 : Int) ≤ (k : Int) := by omega
      have i2 : (k : Int) < (l.length : Int) := by omega
      generalize ldsOf (l.take k) = m at *
      clear e hrow
      cases hy : y.toList.isEmpty
      · have HF : Hid (ldsOf (l.take (k + 1)) = m + 1) := HT.out.trans (if_neg (by unfold em; rw [hy]; simp))
        clear HT
        go_wp2_with fail
        go_roundw
        case rel => exact ⟨k + 1, by omega, by rw [HF.out]; go_num, by go_num, HS.out.alloc HS.out.size _⟩
        case measure => simp [intOf]; omega
      · have HF : Hid (ldsOf (l.take (k + 1)) = m) := HT.out.trans (if_pos hy)
        clear HT
        go_wp2_with fail
        go_roundw
        case rel => exact ⟨k + 1, by omega, by rw [HF.out], by go_num, HS.out.alloc HS.out.size _⟩
        case measure => simp [intOf]; omega
    · obtain rfl : k = l.length := by omega
      rw [List.take_of_length_le (Nat.le_refl _)]
      have HF : Hid (Below w.heap.size w wr) := HH.out.1.then_below HS.out HH.out.1.size
      go_wp2_with fail
      go_ret
      exact ⟨rfl, HF.out⟩
end Go.Proofs.Ytjmjmijjdgolfaa
