/-
  The reference finds a placement by its name.
-/
import Derived.Test.YtalconjnjaffkaaGreatDoorTxU
namespace Go.Proofs.YtalconjnjaffkaaGreatDoor
open Go.RowKit
set_option linter.unusedSimpArgs false
set_option linter.unusedVariables false

set_option maxHeartbeats 1000000 in
theorem pAt1_any (p : Pl) (n : ByteArray) (nb : Nat) (w : World) (hn : w.cell? ⟨nb, 0, none⟩ = some (.string n)) (hnl : nb < w.heap.size) :
    Calls Tryz.prog 145 #[.agg #[.string p.name, .string p.part, .int .i64 p.x, .int .i64 p.y, .int .i64 p.q], .pointer (some ⟨nb, 0, none⟩)] w fun e w' => e = .returned (.bool (p.name.toList == n.toList)) ∧ Below w.heap.size w w' := by
  have HB : Hid (Below w.heap.size w (w.alloc (.cells #[.string p.name, .string p.part, .int .i64 p.x, .int .i64 p.y, .int .i64 p.q] 124))) := (Below.refl _ _).alloc (Nat.le_refl _) _
  have hn2 : (w.alloc (.cells #[.string p.name, .string p.part, .int .i64 p.x, .int .i64 p.y, .int .i64 p.q] 124)).cell? ⟨nb, 0, none⟩ = some (.string n) := (HB.out.cell (p := ⟨nb, 0, none⟩) hnl).trans hn
  go_enter Tryz.func145, Tryz.ntmps145
  go_wp2_with fail
  go_ret
  exact ⟨rfl, HB.out⟩

set_option maxHeartbeats 2000000 in
theorem idx_any (l : List Pl) (hl : l.length ≤ 1000000) (n : ByteArray) (nb : Nat) (A : Option Addr) (c : Nat) (w : World) (hn : w.cell? ⟨nb, 0, none⟩ = some (.string n)) (hnl : nb < w.heap.size) (hA : PlAt w A l) :
    Calls Tryz.prog 144 #[.slice A l.length c, .func (.func 145) #[] #[.pointer (some ⟨nb, 0, none⟩)]] w fun e w' =>
      ∃ r : Int, e = .returned (.int .i64 r) ∧ Below w.heap.size w w' ∧ ((r = -1 ∧ findN l n = none) ∨ ∃ (k : Nat) (h : k < l.length), r = k ∧ findN l n = some l[k]) := by
  have hF : ∀ args w, (callFunc 145 args).run Tryz.prog w = .ok (.enter 145 args) w := enters_of Tryz.func145 (by kernel_rfl) rfl
  go_enter Tryz.func144, Tryz.ntmps144
  go_wp2_with fail
  go_loopw [8] (fun kk wr => ∃ k : Nat, k ≤ l.length ∧ kk = .int .i64 k ∧ w.heap.size ≤ wr.heap.size ∧ Hid (Below w.heap.size w wr ∧ findN l n = findN (l.drop k) n)) (fun kk _ => l.length - (intOf kk).toNat)
  case atStart => exact ⟨0, by omega, rfl, Nat.le_refl _, Below.refl _ _, rfl⟩
  case round =>
    obtain ⟨k, hk, rfl, hwz, HS⟩ := hrel
    by_cases hlt : k < l.length
    · obtain ⟨p, hp⟩ : ∃ p, l[k] = p := ⟨_, rfl⟩
      have HD := Lib.hid (HS.out.2.trans (by rw [drop_at l hlt, hp]))
      rcases hA with rfl | ⟨g, rfl, hrow⟩
      · simp at hlt
      obtain ⟨p0, p1, p2, p3, p4⟩ := row_pl (hrow.below HS.out.1) hlt
      rw [hp] at p0 p1 p2 p3 p4
      have hg1 : g < wr.heap.size := Nat.lt_of_lt_of_le hrow.1 hwz
      have CF := Lib.hid (pAt1_any p n nb wr ((HS.out.1.cell (p := ⟨nb, 0, none⟩) hnl).trans hn) (by omega))
      have HP := Lib.hid hp
      have HR := Lib.hid hrow
      have HB := Lib.hid HS.out.1
      clear hp hrow HS hn
      cases he : (p.name.toList == n.toList)
      · have hne : p.name ≠ n := fun e => by rw [e] at he; simp at he
        have HN : Hid (findN l n = findN (l.drop (k + 1)) n) := HD.out.trans (findN_cons_ne hne)
        clear HD hne
        rw [he] at CF
        clear he
        go_wp2_with fail
        refine CF.out.mono ?_
        rintro e w1 ⟨rfl, b1⟩
        have H1 : Hid (Below w.heap.size w w1 ∧ findN l n = findN (l.drop (k + 1)) n) := ⟨HB.out.then_below b1 hwz, HN.out⟩
        have hz1 := H1.out.1.size
        clear b1
        go_wp2_with fail
        go_roundw
        case rel => exact ⟨k + 1, by omega, by go_num, hz1, H1⟩
        case measure => simp [intOf]; omega
      · have heq : p.name = n := by
          have := eq_of_beq he
          rw [Lib.toList_data, Lib.toList_data] at this
          exact bt_inj this
        have HN : Hid (findN l n = some l[k]) := by
          show _ = _
          rw [HP.out]
          exact HD.out.trans (findN_cons_eq heq)
        clear HD heq
        rw [he] at CF
        clear he
        go_wp2_with fail
        refine CF.out.mono ?_
        rintro e w1 ⟨rfl, b1⟩
        have H1 : Hid (Below w.heap.size w w1) := HB.out.then_below b1 hwz
        clear b1
        go_wp2_with fail
        go_ret
        exact ⟨_, rfl, H1.out, .inr ⟨k, hlt, rfl, HN.out⟩⟩
    · obtain rfl : k = l.length := by omega
      go_wp2_with fail
      go_ret
      refine ⟨_, rfl, HS.out.1, .inl ⟨rfl, ?_⟩⟩
      rw [HS.out.2, List.drop_of_length_le (Nat.le_refl _)]; rfl

/-- What the search tells: a placement and whether it is there. -/
def atVal : Option Pl → Value
  | none => .tuple #[.agg #[.string ⟨#[]⟩, .string ⟨#[]⟩, .int .i64 0, .int .i64 0, .int .i64 0], .bool false]
  | some p => .tuple #[.agg #[.string p.name, .string p.part, .int .i64 p.x, .int .i64 p.y, .int .i64 p.q], .bool true]
theorem set5 {w0 w : World} {base g : Nat} {a b c d f : Value} {t : TypeId} (hB : Below base w0 w) (hg : base ≤ g) (h : w.heap[g]? = some (.cells #[a, b, c, d, f] t (0, 0))) (x y z u v : Value) :
    Below base w0 (((((w.setCell ⟨g, 0, none⟩ x).setCell ⟨g, 1, none⟩ y).setCell ⟨g, 2, none⟩ z).setCell ⟨g, 3, none⟩ u).setCell ⟨g, 4, none⟩ v) ∧ (((((w.setCell ⟨g, 0, none⟩ x).setCell ⟨g, 1, none⟩ y).setCell ⟨g, 2, none⟩ z).setCell ⟨g, 3, none⟩ u).setCell ⟨g, 4, none⟩ v).heap[g]? = some (.cells #[x, y, z, u, v] t (0, 0)) :=
  ⟨((((hB.setCell hg _).setCell hg _).setCell hg _).setCell hg _).setCell hg _, blk_set (blk_set (blk_set (blk_set (blk_set h _) _) _) _) _⟩

set_option maxHeartbeats 2000000 in
theorem placeAt_any (key : ByteArray) (Wd Hg : Int) (A : Option Addr) (c : Nat) (l : List Pl) (hl : l.length ≤ 1000000) (n : ByteArray) (w : World) (hA : PlAt w A l) :
    Calls Tryz.prog 86 #[prod key Wd Hg A l.length c, .string n] w fun e w' => e = .returned (atVal (findN l n)) ∧ Below w.heap.size w w' := by
  have HB0 : Hid (Below w.heap.size w (((w.alloc (.cells #[.string key, .int .i64 Wd, .int .i64 Hg, .slice A l.length c] 44)).alloc (.cells #[.string n] 9)).alloc (.cells #[.string ⟨#[]⟩, .string ⟨#[]⟩, .int .i64 0, .int .i64 0, .int .i64 0] 124))) := (((Below.refl _ _).alloc (Nat.le_refl _) _).alloc (by simp) _).alloc (by simp; omega) _
  have HK0 : Hid ((((w.alloc (.cells #[.string key, .int .i64 Wd, .int .i64 Hg, .slice A l.length c] 44)).alloc (.cells #[.string n] 9)).alloc (.cells #[.string ⟨#[]⟩, .string ⟨#[]⟩, .int .i64 0, .int .i64 0, .int .i64 0] 124)).heap[w.heap.size + 2]? = some (.cells #[.string ⟨#[]⟩, .string ⟨#[]⟩, .int .i64 0, .int .i64 0, .int .i64 0] 124 (0, 0)) ∧
     (((w.alloc (.cells #[.string key, .int .i64 Wd, .int .i64 Hg, .slice A l.length c] 44)).alloc (.cells #[.string n] 9)).alloc (.cells #[.string ⟨#[]⟩, .string ⟨#[]⟩, .int .i64 0, .int .i64 0, .int .i64 0] 124)).heap[w.heap.size + 1]? = some (.cells #[.string n] 9 (0, 0)) ∧
     (((w.alloc (.cells #[.string key, .int .i64 Wd, .int .i64 Hg, .slice A l.length c] 44)).alloc (.cells #[.string n] 9)).alloc (.cells #[.string ⟨#[]⟩, .string ⟨#[]⟩, .int .i64 0, .int .i64 0, .int .i64 0] 124)).heap[w.heap.size]? = some (.cells #[.string key, .int .i64 Wd, .int .i64 Hg, .slice A l.length c] 44 (0, 0))) :=
    ⟨blk_new _ _ (by simp), blk_alloc (blk_new _ _ (by simp)) _, blk_alloc (blk_alloc (blk_new w _ rfl) _) _⟩
  have HA : Hid (PlAt (((w.alloc (.cells #[.string key, .int .i64 Wd, .int .i64 Hg, .slice A l.length c] 44)).alloc (.cells #[.string n] 9)).alloc (.cells #[.string ⟨#[]⟩, .string ⟨#[]⟩, .int .i64 0, .int .i64 0, .int .i64 0] 124)) A l) := hA.below HB0.out
  clear hA
  go_enter Tryz.func86, Tryz.ntmps86
  go_upto_region 1 with (fail)
  have e12 : w.heap.size + 1 + 1 = w.heap.size + 2 := rfl
  simp only [e12]
  clear e12
  generalize ((w.alloc (.cells #[.string key, .int .i64 Wd, .int .i64 Hg, .slice A l.length c] 44)).alloc (.cells #[.string n] 9)).alloc (.cells #[.string ⟨#[]⟩, .string ⟨#[]⟩, .int .i64 0, .int .i64 0, .int .i64 0] 124) = w0 at *
  obtain ⟨p0, p1, p2, p3⟩ := blk4 HK0.out.2.2
  have hpl := lt_of_blk HK0.out.2.2
  have CI := Lib.hid (idx_any l hl n (w.heap.size + 1) A c w0 (blk_cell0 HK0.out.2.1) (lt_of_blk HK0.out.2.1) HA.out)
  go_wp2_with fail
  refine CI.out.mono ?_
  rintro e w1 ⟨r, rfl, b1, hr⟩
  have H1 : Hid (Below w.heap.size w w1 ∧ w1.heap[w.heap.size + 2]? = some (.cells #[.string ⟨#[]⟩, .string ⟨#[]⟩, .int .i64 0, .int .i64 0, .int .i64 0] 124 (0, 0)) ∧ w1.heap[w.heap.size]? = some (.cells #[.string key, .int .i64 Wd, .int .i64 Hg, .slice A l.length c] 44 (0, 0)) ∧ PlAt w1 A l) :=
    ⟨HB0.out.then_below b1 HB0.out.size, blk_below b1 HK0.out.1, blk_below b1 HK0.out.2.2, HA.out.below b1⟩
  clear b1 CI HB0 HK0 HA p0 p1 p2 p3 hpl
  obtain ⟨p0, p1, p2, p3⟩ := blk4 H1.out.2.2.1
  have hpl := lt_of_blk H1.out.2.2.1
  obtain ⟨r0, r1, r2, r3, r4⟩ := blk5p H1.out.2.1
  have f0 := frozen_of_blk H1.out.2.1 0
  have f1 := frozen_of_blk H1.out.2.1 1
  have f2 := frozen_of_blk H1.out.2.1 2
  have f3 := frozen_of_blk H1.out.2.1 3
  have f4 := frozen_of_blk H1.out.2.1 4
  have hrl := lt_of_blk H1.out.2.1
  rcases hr with ⟨rfl, hf⟩ | ⟨k, hk, rfl, hf⟩
  · have HFN := Lib.hid hf
    clear hf
    go_wp2_with fail
    have HF := Lib.hid (set5 H1.out.1 (by omega) H1.out.2.1 (.string ⟨#[]⟩) (.string ⟨#[]⟩) (.int .i64 0) (.int .i64 0) (.int .i64 0))
    generalize ((((w1.setCell ⟨w.heap.size + 2, 0, none⟩ (.string ⟨#[]⟩)).setCell ⟨w.heap.size + 2, 1, none⟩ (.string ⟨#[]⟩)).setCell ⟨w.heap.size + 2, 2, none⟩ (.int .i64 0)).setCell ⟨w.heap.size + 2, 3, none⟩ (.int .i64 0)).setCell ⟨w.heap.size + 2, 4, none⟩ (.int .i64 0) = w3 at *
    clear r0 r1 r2 r3 r4 f0 f1 f2 f3 f4 hrl
    obtain ⟨r0, r1, r2, r3, r4⟩ := blk5p HF.out.2
    refine bodyPost_ret (v := .tuple #[.agg #[.string ⟨#[]⟩, .string ⟨#[]⟩, .int .i64 0, .int .i64 0, .int .i64 0], .bool false]) (by unfold results; simp only [Tryz.results86]; go_simp) rfl ⟨by rw [HFN.out]; rfl, HF.out.1⟩
  · have HFN := Lib.hid hf
    clear hf
    obtain ⟨p, hp⟩ : ∃ p, l[k] = p := ⟨_, rfl⟩
    rcases H1.out.2.2.2 with h | ⟨g, rfl, hrow⟩
    · subst h; simp at hk
    obtain ⟨q0, q1, q2, q3, q4⟩ := row_pl hrow hk
    rw [hp] at q0 q1 q2 q3 q4 HFN
    have hgl := hrow.1
    have HROW := Lib.hid hrow
    have hneg : ¬ (k : Int) < 0 := by omega
    clear hrow hp
    go_wp2_with fail
    have HF := Lib.hid (set5 H1.out.1 (by omega) H1.out.2.1 (.string p.name) (.string p.part) (.int .i64 p.x) (.int .i64 p.y) (.int .i64 p.q))
    generalize ((((w1.setCell ⟨w.heap.size + 2, 0, none⟩ (.string p.name)).setCell ⟨w.heap.size + 2, 1, none⟩ (.string p.part)).setCell ⟨w.heap.size + 2, 2, none⟩ (.int .i64 p.x)).setCell ⟨w.heap.size + 2, 3, none⟩ (.int .i64 p.y)).setCell ⟨w.heap.size + 2, 4, none⟩ (.int .i64 p.q) = w3 at *
    clear r0 r1 r2 r3 r4 f0 f1 f2 f3 f4 hrl q0 q1 q2 q3 q4
    obtain ⟨r0, r1, r2, r3, r4⟩ := blk5p HF.out.2
    refine bodyPost_ret (v := .tuple #[.agg #[.string p.name, .string p.part, .int .i64 p.x, .int .i64 p.y, .int .i64 p.q], .bool true]) (by unfold results; simp only [Tryz.results86]; go_simp) rfl ⟨by rw [HFN.out]; rfl, HF.out.1⟩
end Go.Proofs.YtalconjnjaffkaaGreatDoor
