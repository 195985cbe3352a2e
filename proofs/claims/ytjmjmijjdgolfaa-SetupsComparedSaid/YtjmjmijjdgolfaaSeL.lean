/-
  The next setup: the program's.
-/
import Derived.Test.YtjmjmijjdgolfaaSeJ
namespace Go.Proofs.Ytjmjmijjdgolfaa
open Go.RowKit
set_option linter.unusedSimpArgs false
set_option linter.unusedVariables false

theorem fill_step (is : List Nat) : ∀ (xs : List ByteArray) (out : List ByteArray) (k : Nat) (h1 : k < is.length) (h2 : k < xs.length), fill out (is.take (k + 1)) (xs.take (k + 1)) = (fill out (is.take k) (xs.take k)).set is[k] xs[k] := by
  induction is with
  | nil => intro xs out k h1; simp at h1
  | cons i is ih =>
    intro xs out k h1 h2
    cases xs with
    | nil => simp at h2
    | cons x xs =>
      cases k with
      | zero =>
        simp only [Nat.zero_add, List.take_succ_cons, List.take_zero, fill, List.getElem_cons_zero]
      | succ k =>
        simp only [List.take_succ_cons, fill, List.getElem_cons_succ]
        exact ih xs (out.set i x) k (by simpa using h1) (by simpa using h2)
theorem fill_take (xs : List ByteArray) : ∀ (is : List Nat) (out : List ByteArray), xs.length ≤ is.length → fill out (is.take xs.length) xs = fill out is xs := by
  induction xs with
  | nil => intro is out _; cases is <;> rfl
  | cons x xs ih =>
    intro is out h
    cases is with
    | nil => simp at h
    | cons i is =>
      simp only [List.length_cons, List.take_succ_cons, fill]
      exact ih is (out.set i x) (by simpa using h)
theorem fill_length (xs : List ByteArray) : ∀ (is : List Nat) (out : List ByteArray), (fill out is xs).length = out.length := by
  induction xs with
  | nil => intro is out; cases is <;> rfl
  | cons x xs ih =>
    intro is out
    cases is with
    | nil => rfl
    | cons i is => rw [fill, ih]; simp

def encIL (j : Nat) : List Value := [encI j]
theorem flatI_map (l : List Nat) : l.flatMap encIL = l.map encI := by
  induction l with
  | nil => rfl
  | cons a l ih => simp only [List.flatMap_cons, ih]; rfl
theorem row_int {w : World} {g : Nat} {l : List Nat} (h : LineAt w g (l.flatMap encIL)) {k : Nat} (hk : k < l.length) : w.cell? ⟨g, k, none⟩ = some (.int .i64 (l[k] : Int)) := by
  refine h.2 k _ ?_
  rw [flatI_map, List.getElem?_map, List.getElem?_eq_getElem hk]
  rfl
theorem own_strs {w : World} {base : Nat} {v : Value} {l : List ByteArray} (h : w.ownsRow base 9 1 v l.length (l.map Value.string)) : ReadsF base encS v l w := by
  refine readsF_own (T := 9) (size := 1) ?_
  rw [show l.flatMap encS = l.map Value.string from flatS_map l]
  exact h

set_option maxRecDepth 100000 in
set_option maxHeartbeats 4000000 in
theorem nextP_any {b1 b2 b3 : Nat} {s parts : List ByteArray} {later : List (List ByteArray)} {v1 v2 v3 : Value} (hs : SetOk s) (hp : PaOk parts) (hps : parts.length ≤ s.length) (hL : later.length ≤ 1000000) (hLL : ∀ l ∈ later, l.length ≤ 1000000) (hLP : ∀ l ∈ later, PaOk l)
    {w : World} (h1 : ReadsF b1 encS v1 s w) (h2 : ReadsF b2 encS v2 parts w) (h3 : ListsF b3 v3 later w) :
    Calls Try.prog 80 #[v1, v2, v3] w fun e w' => ∃ u, e = .returned u ∧ Below w.heap.size w w' ∧ w'.ownsRow w.heap.size 9 1 u (nextOf s parts later).length ((nextOf s parts later).map Value.string) := by
  have hn100 := hs.2.1
  have HH := Lib.hid (And.intro h1 (And.intro h2 h3))
  have CC := Lib.hid (clone_any (by omega) h1)
  have CM := Lib.hid (fun (W : World) (h : ReadsF b1 encS v1 s W) => missingIn_any (by omega) (setOk_sizes hs) h)
  have CR := Lib.hid (fun (W : World) (h1 : ReadsF b1 encS v1 s W) (h2 : ReadsF b2 encS v2 parts W) (h3 : ListsF b3 v3 later W) => roomFor_any hs hp (by omega) hL hLL hLP h1 h2 h3)
  have CI := Lib.hid (fun (W : World) (fb : Nat) (hm : MissAt s fb W) (h : ReadsF b2 encS v2 parts W) => missIn1_any (by omega) (paOk_sizes hp) hm h)
  have HN := Lib.hid (fun (R : List Nat) (hR : R.Perm (spares s parts s.length)) (hsort : R.Pairwise fun i j => better later (nth s j) (nth s i) = false) => And.intro (room_next hs hp hR hsort (room_enough hs hp hps hR)) (room_enough hs hp hps hR))
  have hs0 : 0 < s.length := by
    rcases Nat.eq_zero_or_pos s.length with h | h
    · exact absurd (List.length_eq_zero_iff.mp h) hs.1
    · exact h
  have hml : (missOf s parts).length ≤ parts.length := List.length_filter_le _ _
  obtain ⟨A1, c1, rfl, _, _⟩ := h1
  obtain ⟨A2, c2, rfl, _, _⟩ := h2
  obtain ⟨A3, c3, rfl, _, _⟩ := h3
  go_enter Try.func80, Try.ntmps80
  go_wp2_with fail
  refine CC.out.mono ?_
  rintro e w1 ⟨u1, rfl, b1', o1⟩
  obtain ⟨gm, capm, rfl, hgb, hgl, hcap, _, _⟩ := own_read o1 hs0
  have H1 := Lib.hid (And.intro b1' o1)
  clear b1' o1 CC
  go_wp2_with fail
  refine (CM.out _ (HH.out.1.below H1.out.1)).mono ?_
  rintro e w2 ⟨fb, rfl, b2', hm⟩
  have H2 := Lib.hid (And.intro b2' (And.intro hm (H1.out.1.then_below b2' H1.out.1.size)))
  clear b2' hm CM
  go_wp2_with fail
  refine (CR.out _ (HH.out.1.below H2.out.2.2) (HH.out.2.1.below H2.out.2.2) (HH.out.2.2.below H2.out.2.2)).mono ?_
  rintro e w3 ⟨u3, rfl, b3', R, hperm, hsort, o3⟩
  have HR := Lib.hid (HN.out R hperm hsort)
  have hRb : ∀ i ∈ empties s s.length ++ R, i < s.length := fun i hi => by
    rcases List.mem_append.mp hi with h | h
    · have := (List.mem_filter.mp h).1; simpa using this
    · exact spares_lt (hperm.mem_iff.mp h)
  have H3 := Lib.hid (And.intro b3' (And.intro o3 (And.intro (H2.out.2.2.then_below b3' H2.out.2.2.size) hRb)))
  clear b3' o3 hperm hsort hRb CR HN
  generalize empties s s.length ++ R = room at *
  obtain ⟨Ar, cr, rfl, hcr, _⟩ := own_slice H3.out.2.1
  go_wp2_with fail
  refine (CI.out _ _ (H2.out.2.1.below H3.out.1) (HH.out.2.1.below H3.out.2.2.1)).mono ?_
  rintro e w4 ⟨u4, rfl, b4, o4⟩
  have hr4 : ReadsF w1.heap.size encS u4 (missOf s parts) w4 := (readsF_own (enc := encS) o4).least (Nat.le_trans H2.out.1.size H3.out.1.size)
  have hrm4 : ReadsF w1.heap.size encIL (.slice Ar room.length cr) room w4 := ((readsF_own (enc := encIL) (T := 3) (size := 1) (by rw [flatI_map]; exact H3.out.2.1)).least (H2.out.1.size)).below b4
  have hb4 : Below w.heap.size w w4 := H3.out.2.2.1.then_below b4 H3.out.2.2.1.size
  have ho4 : w4.ownsRow w.heap.size 9 1 (.slice (some ⟨gm, 0, none⟩) s.length capm) s.length (s.map Value.string) := own_below (own_below (own_below H1.out.2 H2.out.1) H3.out.1) b4
  have H4 : Hid (Below w.heap.size w w4 ∧ w4.ownsRow w.heap.size 9 1 (.slice (some ⟨gm, 0, none⟩) s.length capm) s.length ((fill s (room.take 0) ((missOf s parts).take 0)).map Value.string) ∧ ReadsF w1.heap.size encIL (.slice Ar room.length cr) room w4 ∧ ReadsF w1.heap.size encS u4 (missOf s parts) w4) := ⟨hb4, ho4, hrm4, hr4⟩
  have HRB := Lib.hid H3.out.2.2.2
  have hmr := HR.out.2
  have HFIN : Hid (fill s room (missOf s parts) = nextOf s parts later) := HR.out.1
  have hgl1 : gm < w1.heap.size := hgl
  clear b4 o4 hr4 hrm4 hb4 ho4 H3 H2 H1 CI HR
  obtain ⟨Am, cm, rfl, hcm, _⟩ := H4.out.2.2.2
  have HML : Hid ((missOf s parts).length ≤ s.length) := Nat.le_trans hml hps
  obtain ⟨miss, hmiss⟩ : ∃ miss, missOf s parts = miss := ⟨_, rfl⟩
  rw [hmiss] at H4 HFIN HML hmr hcm ⊢
  clear hmiss hml
  have hmn : miss.length ≤ s.length := HML.out
  go_wp2_with fail
  go_loopw [24] (fun kk wr => ∃ k : Nat, k ≤ miss.length ∧ kk = .int .i64 k ∧ Hid (Below w.heap.size w wr ∧ wr.ownsRow w.heap.size 9 1 (.slice (some ⟨gm, 0, none⟩) s.length capm) s.length ((fill s (room.take k) (miss.take k)).map Value.string) ∧ ReadsF w1.heap.size encIL (.slice Ar room.length cr) room wr ∧ ReadsF w1.heap.size encS (.slice Am miss.length cm) miss wr)) (fun kk _ => miss.length - (intOf kk).toNat)
  case atStart => exact ⟨0, by omega, rfl, H4⟩
  case round =>
    obtain ⟨k, hk, rfl, HS⟩ := hrel
    by_cases hlt : k < miss.length
    · have hltr : k < room.length := by omega
      obtain ⟨A', c', e, _, hr⟩ := HS.out.2.2.1
      cases e
      rcases hr with hr | ⟨gr, rfl, hgr, hrow⟩
      · subst hr; simp at hltr
      obtain ⟨A'', c'', e, _, hr⟩ := HS.out.2.2.2
      cases e
      rcases hr with hr | ⟨gs, rfl, hgs, hrow2⟩
      · subst hr; simp at hlt
      have q1 := row_int hrow hltr
      have q2 := row_strg hrow2 hlt
      have hir := HRB.out room[k] (List.getElem_mem hltr)
      have HST := Lib.hid (fill_step room miss s k hltr hlt)
      have hg1 := hrow.1
      have hg2 := hrow2.1
      generalize room[k] = r at *
      generalize miss[k] = x at *
      have HFL : Hid ((fill s (room.take k) (miss.take k)).length = s.length) := fill_length _ _ _
      obtain ⟨old, hold⟩ : ∃ old, (fill s (room.take k) (miss.take k))[r]? = some old := ⟨_, List.getElem?_eq_getElem (by rw [HFL.out]; exact hir)⟩
      have c0 : wr.cell? ⟨gm, r, none⟩ = some (.string old) := by
        obtain ⟨g', cap', hv, _, _, _, _, hrd⟩ := own_read HS.out.2.1 hs0
        cases hv
        exact hrd r _ (by rw [List.getElem?_map, hold]; rfl)
      have f0 : wr.frozen? ⟨gm, r, none⟩ = false := own_frozen HS.out.2.1 r
      have hgm2 : gm < wr.heap.size := own_lt HS.out.2.1 gm rfl
      have i1 : (0 : Int) ≤ (k : Int) := by omega
      have i2 : (k : Int) < (miss.length : Int) := by omega
      have i3 : (k : Int) < (room.length : Int) := by omega
      have i4 : (0 : Int) ≤ (r : Int) := by omega
      have i5 : (r : Int) < (s.length : Int) := by omega
      have HF : Hid (Below w.heap.size w (wr.setCell ⟨gm, r, none⟩ (.string x)) ∧ (wr.setCell ⟨gm, r, none⟩ (.string x)).ownsRow w.heap.size 9 1 (.slice (some ⟨gm, 0, none⟩) s.length capm) s.length ((fill s (room.take (k + 1)) (miss.take (k + 1))).map Value.string) ∧ ReadsF w1.heap.size encIL (.slice (some ⟨gr, 0, none⟩) room.length cr) room (wr.setCell ⟨gm, r, none⟩ (.string x)) ∧ ReadsF w1.heap.size encS (.slice (some ⟨gs, 0, none⟩) miss.length cm) miss (wr.setCell ⟨gm, r, none⟩ (.string x))) := by
        refine ⟨HS.out.1.setCell hgb _, ?_, HS.out.2.2.1.far hgl1 _, HS.out.2.2.2.far hgl1 _⟩
        have := own_set HS.out.2.1 r (.string x)
        rw [HST.out, List.map_set]
        exact this
      clear hrow hrow2 hold
      go_wp2_with fail
      go_roundw
      case rel => exact ⟨k + 1, by omega, by go_num, HF⟩
      case measure => simp [intOf]; omega
    · obtain rfl : k = miss.length := by omega
      have HE : Hid (fill s (room.take miss.length) (miss.take miss.length) = nextOf s parts later) := by
        show _ = _
        rw [List.take_of_length_le (Nat.le_refl miss.length), fill_take miss room s hmr, HFIN.out]
      go_wp2_with fail
      go_ret
      refine ⟨_, rfl, HS.out.1, ?_⟩
      have := HS.out.2.1
      rw [HE.out] at this
      rw [nextOf_length]
      exact this
end Go.Proofs.Ytjmjmijjdgolfaa
