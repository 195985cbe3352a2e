/-
  The makers of right catalogues and of their texts.
-/
import Derived.Test.YtiooimfkobjpkaaGreatDoorTdD
import Derived.Test.YtiooimfkobjpkaaGreatDoorTcV
namespace Go.Proofs.YtiooimfkobjpkaaGreatDoor
open Go.RowKit
set_option linter.unusedSimpArgs false
set_option linter.unusedVariables false

theorem sm_pa {l : List Pa} (h : ∀ p ∈ l, p.key.size ≤ 5 ∧ p.pk.size ≤ 5) : ∀ p ∈ l, p.key.size ≤ maxLen ∧ p.pk.size ≤ maxLen := fun p hp => by
  have := h p hp
  simp only [maxLen]
  omega
theorem sm_al {l : List Al} (h : ∀ p ∈ l, p.par.size ≤ 5 ∧ p.by_.size ≤ 5) : ∀ p ∈ l, p.par.size ≤ maxLen ∧ p.by_.size ≤ maxLen := fun p hp => by
  have := h p hp
  simp only [maxLen]
  omega
/-- A catalogue without a fault that a stream makes. -/
def RightOf (sb b : Nat) (w : World) (e : Ending) (w' : World) : Prop :=
  ∃ v1 v2 l al, e = .returned (.agg #[v1, v2]) ∧ List.length l ≤ 5 ∧ List.length al ≤ 25 ∧ catErr l al = 0 ∧ Reads encPa v1 l w' ∧ Reads encAl v2 al w' ∧ Took sb b w w'

set_option maxRecDepth 100000 in
set_option maxHeartbeats 8000000 in
theorem rightOf_any (sb b : Nat) (w : World) (hb : b ≤ 600000) (hs : IsStream w sb b) :
    Calls Tryz.prog 34 #[.pointer (some ⟨sb, 0, none⟩)] w (RightOf sb (b + 6000) w) := by
  have hlt := hs.lt
  have HC := Lib.hid (fun (b : Nat) (hb : b ≤ 700000) (W : World) (hs : IsStream W sb b) => catOf_any spoil_ok sb b W hb hs)
  have HK : Hid (∀ W, Took sb b w W → W.heap[w.heap.size]? = some (.cells #[.slice none 0 0, .slice none 0 0] 29 (0, 0)) → True) := fun _ _ _ => trivial
  have H0 : Hid (Took sb b w (w.alloc (.cells #[.slice none 0 0, .slice none 0 0] 29)) ∧ (w.alloc (.cells #[.slice none 0 0, .slice none 0 0] 29)).heap[w.heap.size]? = some (.cells #[.slice none 0 0, .slice none 0 0] 29 (0, 0))) := ⟨(Took.refl hs).alloc _, blk_new w _ rfl⟩
  clear HK
  go_enter Tryz.func34, Tryz.ntmps34
  go_upto_region 1 with (fail)
  generalize w.alloc (.cells #[.slice none 0 0, .slice none 0 0] 29) = w0 at *
  have hz0 := lt_of_blk H0.out.2
  go_wp2_with fail
  go_loopw [4] (fun kk wr => ∃ k : Nat, k ≤ 8 ∧ kk = .int .i64 k ∧ w.heap.size < wr.heap.size ∧ Hid (Took sb (b + 700 * k) w wr ∧ wr.heap[w.heap.size]? = some (.cells #[.slice none 0 0, .slice none 0 0] 29 (0, 0)))) (fun kk _ => 8 - (intOf kk).toNat)
  case atStart => exact ⟨0, by omega, rfl, hz0, H0.out⟩
  case round =>
    clear H0
    obtain ⟨k, hk, rfl, hwz, HS⟩ := hrel
    by_cases hk8 : k < 8
    · go_wp2_with fail
      refine (HC.out (b + 700 * k) (by omega) wr HS.out.1.1).mono ?_
      rintro e w2 ⟨v1, v2, l, al, rfl, hl5, hal5, s1, s2, o1, o2, t2⟩
      obtain ⟨A1, c1, rfl, _⟩ := own_form o1
      obtain ⟨A2, c2, rfl, _⟩ := own_form o2
      have hb2 : Below w2.heap.size w2 (w2.alloc (.cells #[.slice A1 l.length c1, .slice A2 al.length c2] 29)) := (Below.refl _ _).alloc (Nat.le_refl _) _
      have H2 : Hid (Took sb (b + 700 * (k + 1)) w (w2.alloc (.cells #[.slice A1 l.length c1, .slice A2 al.length c2] 29)) ∧ (w2.alloc (.cells #[.slice A1 l.length c1, .slice A2 al.length c2] 29)).heap[w.heap.size]? = some (.cells #[.slice none 0 0, .slice none 0 0] 29 (0, 0)) ∧ (w2.alloc (.cells #[.slice A1 l.length c1, .slice A2 al.length c2] 29)).heap[w2.heap.size]? = some (.cells #[.slice A1 l.length c1, .slice A2 al.length c2] 29 (0, 0)) ∧ (w2.alloc (.cells #[.slice A1 l.length c1, .slice A2 al.length c2] 29)).ownsRow wr.heap.size 47 4 (.slice A1 l.length c1) l.length (l.flatMap encPa) ∧ (w2.alloc (.cells #[.slice A1 l.length c1, .slice A2 al.length c2] 29)).ownsRow wr.heap.size 51 3 (.slice A2 al.length c2) al.length (al.flatMap encAl)) :=
        ⟨((HS.out.1.trans t2).more (by omega)).below hb2, blk_below hb2 (t2.blk HS.out.2 (by omega)), blk_new w2 _ rfl, own_below o1 hb2, own_below o2 hb2⟩
      have CF := Lib.hid (fun (W : World) (h1 : Reads encPa (.slice A1 l.length c1) l W) (h2 : Reads encAl (.slice A2 al.length c2) al W) => catFault_any l (by omega) (sm_pa s1) al (by omega) (sm_al s2) h1 h2)
      clear t2 o1 o2 s1 s2 hb2 HS
      go_upto_region 4 with (fail)
      generalize w2.alloc (.cells #[.slice A1 l.length c1, .slice A2 al.length c2] 29) = w3 at *
      generalize w2.heap.size = gc at *
      obtain ⟨p0, p1, _, _⟩ := blk2 H2.out.2.2.1
      have hpl := lt_of_blk H2.out.2.2.1
      go_wp2_with fail
      refine (CF.out w3 (reads_own H2.out.2.2.2.1) (reads_own H2.out.2.2.2.2)).mono ?_
      rintro e w4 ⟨rfl, b4⟩
      have H4 : Hid (Took sb (b + 700 * (k + 1)) w w4 ∧ w4.heap[w.heap.size]? = some (.cells #[.slice none 0 0, .slice none 0 0] 29 (0, 0)) ∧ w4.heap[gc]? = some (.cells #[.slice A1 l.length c1, .slice A2 al.length c2] 29 (0, 0)) ∧ w4.ownsRow wr.heap.size 47 4 (.slice A1 l.length c1) l.length (l.flatMap encPa) ∧ w4.ownsRow wr.heap.size 51 3 (.slice A2 al.length c2) al.length (al.flatMap encAl)) :=
        ⟨H2.out.1.below b4, blk_below b4 H2.out.2.1, blk_below b4 H2.out.2.2.1, own_below H2.out.2.2.2.1 b4, own_below H2.out.2.2.2.2 b4⟩
      clear b4 H2 CF p0 p1 hpl
      by_cases hE : catErr l al = 0
      · have HE := Lib.hid hE
        have HE9 : Hid (∀ E, catErr l al = E → E = 0) := fun E h => h ▸ hE
        obtain ⟨E, hEE⟩ : ∃ E, catErr l al = E := ⟨_, rfl⟩
        rw [hEE]
        have hne : (E == 0) = true := by rw [HE9.out E hEE]; rfl
        clear hEE hE
        obtain ⟨p0, p1, _, _⟩ := blk2 H4.out.2.2.1
        have hpl := lt_of_blk H4.out.2.2.1
        obtain ⟨r0, r1, f0, f1⟩ := blk2 H4.out.2.1
        have hrl := lt_of_blk H4.out.2.1
        go_wp2_with fail
        have HF : Hid (((w4.setCell ⟨w.heap.size, 0, none⟩ (.slice A1 l.length c1)).setCell ⟨w.heap.size, 1, none⟩ (.slice A2 al.length c2)).heap[w.heap.size]? = some (.cells #[.slice A1 l.length c1, .slice A2 al.length c2] 29 (0, 0)) ∧ Reads encPa (.slice A1 l.length c1) l ((w4.setCell ⟨w.heap.size, 0, none⟩ (.slice A1 l.length c1)).setCell ⟨w.heap.size, 1, none⟩ (.slice A2 al.length c2)) ∧ Reads encAl (.slice A2 al.length c2) al ((w4.setCell ⟨w.heap.size, 0, none⟩ (.slice A1 l.length c1)).setCell ⟨w.heap.size, 1, none⟩ (.slice A2 al.length c2)) ∧ Took sb (b + 6000) w ((w4.setCell ⟨w.heap.size, 0, none⟩ (.slice A1 l.length c1)).setCell ⟨w.heap.size, 1, none⟩ (.slice A2 al.length c2))) :=
          ⟨blk_set (blk_set H4.out.2.1 _) _, reads_own (own_far (own_far H4.out.2.2.2.1 (by simp; omega) _) (by simp; omega) _), reads_own (own_far (own_far H4.out.2.2.2.2 (by simp; omega) _) (by simp; omega) _), ((H4.out.1.more (by omega)).setCell (by simp) hlt _).setCell (by simp) hlt _⟩
        generalize (w4.setCell ⟨w.heap.size, 0, none⟩ (.slice A1 l.length c1)).setCell ⟨w.heap.size, 1, none⟩ (.slice A2 al.length c2) = w9 at *
        clear p0 p1 r0 r1 f0 f1 hpl hrl
        obtain ⟨r0, r1, _, _⟩ := blk2 HF.out.1
        refine bodyPost_ret (v := .agg #[.slice A1 l.length c1, .slice A2 al.length c2]) (by unfold results; simp only [Tryz.results34]; go_simp) rfl ⟨_, _, l, al, rfl, hl5, hal5, HE.out, HF.out.2.1, HF.out.2.2.1, HF.out.2.2.2⟩
      · have hne : (catErr l al == 0) = false := by simpa using hE
        generalize catErr l al = E at *
        have hwz4 := lt_of_blk H4.out.2.1
        go_wp2_with fail
        go_roundw
        case rel => exact ⟨k + 1, by omega, by go_num, hwz4, H4.out.1, H4.out.2.1⟩
        case measure => simp [intOf]; omega
    · obtain rfl : k = 8 := by omega
      obtain ⟨r0, r1, f0, f1⟩ := blk2 HS.out.2
      go_wp2_with fail
      have HF : Hid (((wr.setCell ⟨w.heap.size, 0, none⟩ (.slice none 0 0)).setCell ⟨w.heap.size, 1, none⟩ (.slice none 0 0)).heap[w.heap.size]? = some (.cells #[.slice none 0 0, .slice none 0 0] 29 (0, 0)) ∧ Took sb (b + 6000) w ((wr.setCell ⟨w.heap.size, 0, none⟩ (.slice none 0 0)).setCell ⟨w.heap.size, 1, none⟩ (.slice none 0 0))) :=
        ⟨blk_set (blk_set HS.out.2 _) _, ((HS.out.1.more (by omega)).setCell (by simp) hlt _).setCell (by simp) hlt _⟩
      generalize (wr.setCell ⟨w.heap.size, 0, none⟩ (.slice none 0 0)).setCell ⟨w.heap.size, 1, none⟩ (.slice none 0 0) = w9 at *
      clear r0 r1 f0 f1
      obtain ⟨r0, r1, _, _⟩ := blk2 HF.out.1
      refine bodyPost_ret (v := .agg #[.slice none 0 0, .slice none 0 0]) (by unfold results; simp only [Tryz.results34]; go_simp) rfl ⟨_, _, [], [], rfl, by simp, by simp, rfl, ⟨none, 0, rfl, .inl rfl⟩, ⟨none, 0, rfl, .inl rfl⟩, HF.out.2⟩

set_option maxHeartbeats 4000000 in
theorem catString_any (sb b : Nat) (w : World) (hb : b ≤ 500000) (hs : IsStream w sb b) (hG : Gl w) (hsb : gLow ≤ sb) :
    Calls Tryz.prog 9 #[.pointer (some ⟨sb, 0, none⟩)] w (TextOf sb (b + 7000) 30000 w) := by
  have hlt := hs.lt
  have CR := Lib.hid (rightOf_any sb b w (by omega) hs)
  go_enter Tryz.func9, Tryz.ntmps9
  go_wp2_with fail
  refine CR.out.mono ?_
  rintro e w1 ⟨v1, v2, l, al, rfl, hl5, hal5, hE, h1, h2, t1⟩
  obtain ⟨A1, c1, rfl, _⟩ := id h1
  obtain ⟨A2, c2, rfl, _⟩ := id h2
  have hz1 := t1.size
  have CL := Lib.hid (catLines_any l (by omega) al (by omega) hE w1 h1 h2 (hG.kept t1.2 hsb (by omega)) (by omega))
  have HFT := catErr_fit hE
  have hts := catB_size HFT.1 HFT.2
  have T1 := Lib.hid t1
  have hss0 : (catB l al).size ≤ 4000 := by omega
  clear t1 CR h1 h2 hE HFT hts
  generalize catB l al = T at *
  go_wp2_with fail
  refine CL.out.mono ?_
  rintro e w2 ⟨rfl, b2⟩
  have T2 : Hid (Took sb (b + 6000) w w2) := T1.out.below b2
  clear b2 T1 CL
  go_wp2_with fail
  refine (pick_lit sb (b + 6000) [0, 0, 1, 2] w2 w2.heap.size 4 rfl (by omega) (by omega) rfl (by omega) T2.out.1).mono ?_
  rintro e w3 ⟨x, hx, rfl, t3⟩
  have T3 : Hid (Took sb (b + 6001) w w3) := T2.out.trans t3
  have hx0 : 0 ≤ x ∧ x ≤ 2 := by
    simp at hx
    rcases hx with rfl | rfl | rfl <;> omega
  obtain ⟨x0, x1⟩ := hx0
  obtain ⟨n, rfl⟩ := Int.eq_ofNat_of_zero_le x0
  clear hx t3 T2 x0
  have hn2 : n ≤ 2 := by omega
  clear x1
  go_wp2_with fail
  go_loopw [3, 10] (fun v3 kk wr => ∃ (k : Nat) (r : ByteArray), k ≤ n ∧ kk = .int .i64 k ∧ v3 = .string r ∧ r.size ≤ 4000 + 100 * k ∧ Hid (Took sb (b + 6001 + 3 * k) w wr)) (fun _ kk _ => n - (intOf kk).toNat)
  case atStart => exact ⟨0, T, by omega, rfl, rfl, by omega, T3⟩
  case round =>
    obtain ⟨k, r, hk, rfl, rfl, hr, HS⟩ := hrel
    by_cases hkn : k < n
    · go_wp2_with fail
      refine (changedW_any sb (b + 6001 + 3 * k) r ⟨#[32, 10, 48, 49, 112, 117, 45]⟩ (by omega) (by decide) (by decide) wr (by omega) HS.out.1).mono ?_
      rintro e w4 ⟨r4, rfl, hr4, t4⟩
      have T4 := Lib.hid ((HS.out.trans t4).more (show b + 6001 + 3 * k + 3 ≤ b + 6001 + 3 * (k + 1) by omega))
      clear t4 HS
      go_wp2_with fail
      go_roundw
      case rel => exact ⟨k + 1, r4, by omega, by go_num, rfl, by omega, T4⟩
      case measure => simp [intOf]; omega
    · obtain rfl : k = n := by omega
      have T5 := Lib.hid (HS.out.more (show b + 6001 + 3 * k ≤ b + 7000 by omega))
      clear HS
      go_wp2_with fail
      go_ret
      exact ⟨_, rfl, by omega, T5.out⟩
end Go.Proofs.YtiooimfkobjpkaaGreatDoor
