/-
  The makers of right products.
-/
import Derived.Test.YtmjonmoagpkdiabGreatDoorLmH
import Derived.Test.YtmjonmoagpkdiabGreatDoorAProd
namespace Go.Proofs.YtmjonmoagpkdiabGreatDoor
open Go.RowKit
set_option linter.unusedSimpArgs false
set_option linter.unusedVariables false

theorem pl_own2 {w : World} {base : Nat} {T : TypeId} {v : Value} {l : List Pl} (h : w.ownsRow base T 5 v l.length (flatP l)) : ∃ A c, v = .slice A l.length c ∧ PlAt w A l ∧ l.length ≤ c := by
  rcases h.2 with ⟨rfl, h0⟩ | ⟨g, cap, cur, rfl, hb, hc, h1, h2, h3, h4⟩
  · have : l = [] := List.length_eq_zero_iff.mp h0
    subst this
    exact ⟨none, 0, rfl, .inl rfl, by simp⟩
  · refine ⟨_, cap, rfl, ?_, h1⟩
    by_cases h0 : l.length = 0
    · exact .inl (List.length_eq_zero_iff.mp h0)
    · obtain ⟨g', _, hv, _, hlt, _, _, hrd⟩ := own_read h (by omega)
      simp only [Value.slice.injEq, true_and, Option.some.injEq, Addr.mk.injEq, and_true] at hv
      obtain ⟨rfl, rfl⟩ := hv
      exact .inr ⟨g, rfl, hlt, hrd⟩

theorem cell_farR {w : World} {q p : Addr} (h : q.block ≠ p.block) (u : Value) : (w.setCell p u).cell? q = w.cell? q := by
  have e := Below.heap_setCell w p u q.block h
  unfold World.cell?
  rw [e]
theorem line_far {w : World} {g : Nat} {l : List Value} (h : LineAt w g l) {p : Addr} (hp : g ≠ p.block) (u : Value) : LineAt (w.setCell p u) g l :=
  ⟨by simpa [World.setCell] using h.1, fun j x hx => (cell_farR (q := ⟨g, j, none⟩) hp u).trans (h.2 j x hx)⟩

def RightOf (sb b : Nat) (w : World) (e : Ending) (w' : World) : Prop :=
  ∃ (key : ByteArray) (W H : Int) (A : Option Addr) (c : Nat) (l : List Pl), e = .returned (prod key W H A l.length c) ∧ prodErr key W H l = 0 ∧ l.length ≤ 5 ∧ PlAt w' A l ∧ Took sb b w w'
theorem right_lit : prodErr ⟨#[112]⟩ 10 10 [] = 0 := by decide

set_option maxHeartbeats 4000000 in
theorem rightProd_any (sb b : Nat) (w : World) (hb : b ≤ 800000) (hs : IsStream w sb b) :
    Calls Tryz.prog 4 #[.pointer (some ⟨sb, 0, none⟩)] w (RightOf sb (b + 1200) w) := by
  have hlt := hs.lt
  have HR0 : Hid (Took sb b w (w.alloc (.cells #[.string ⟨#[]⟩, .int .i64 0, .int .i64 0, .slice none 0 0] 28)) ∧ (w.alloc (.cells #[.string ⟨#[]⟩, .int .i64 0, .int .i64 0, .slice none 0 0] 28)).heap[w.heap.size]? = some (.cells #[.string ⟨#[]⟩, .int .i64 0, .int .i64 0, .slice none 0 0] 28 (0, 0))) := ⟨(Took.refl hs).alloc _, blk_new w _ rfl⟩
  go_enter Tryz.func4, Tryz.ntmps4
  go_wp2_with fail
  generalize w.alloc (.cells #[.string ⟨#[]⟩, .int .i64 0, .int .i64 0, .slice none 0 0] 28) = w0 at *
  have hz0 := lt_of_blk HR0.out.2
  go_loopw [4] (fun kk wr => ∃ k : Nat, k ≤ 6 ∧ kk = .int .i64 k ∧ w.heap.size < wr.heap.size ∧ Hid (Took sb (b + 200 * k) w wr ∧ wr.heap[w.heap.size]? = some (.cells #[.string ⟨#[]⟩, .int .i64 0, .int .i64 0, .slice none 0 0] 28 (0, 0)))) (fun kk _ => 6 - (intOf kk).toNat)
  case atStart => exact ⟨0, by omega, rfl, hz0, HR0⟩
  case round =>
    obtain ⟨k, hk, rfl, hwz, HS⟩ := hrel
    clear HR0 hz0
    by_cases hlt6 : k < 6
    · go_wp2_with fail
      refine (aproduct_any sb (b + 200 * k) wr (by omega) HS.out.1.1).mono ?_
      rintro e w1 ⟨key, Wd, Hg, v, l, rfl, hl, how, tk⟩
      obtain ⟨A, c, rfl, hpa, hc⟩ := pl_own2 how
      have hz1 := tk.size
      have H1 : Hid (Took sb (b + 200 * k + 200) w (w1.alloc (.cells #[.string key, .int .i64 Wd, .int .i64 Hg, .slice A l.length c] 28)) ∧ (w1.alloc (.cells #[.string key, .int .i64 Wd, .int .i64 Hg, .slice A l.length c] 28)).heap[w.heap.size]? = some (.cells #[.string ⟨#[]⟩, .int .i64 0, .int .i64 0, .slice none 0 0] 28 (0, 0)) ∧ (w1.alloc (.cells #[.string key, .int .i64 Wd, .int .i64 Hg, .slice A l.length c] 28)).heap[w1.heap.size]? = some (.cells #[.string key, .int .i64 Wd, .int .i64 Hg, .slice A l.length c] 28 (0, 0)) ∧ PlAt (w1.alloc (.cells #[.string key, .int .i64 Wd, .int .i64 Hg, .slice A l.length c] 28)) A l) :=
        ⟨(HS.out.1.trans tk).alloc _, blk_alloc (tk.blk HS.out.2 (by omega)) _, blk_new w1 _ rfl, hpa.below ((Below.refl _ _).alloc (Nat.le_refl _) _)⟩
      have HRow : Hid (∀ g : Nat, A = some ⟨g, 0, none⟩ → w.heap.size < g) := fun g e => by
        have := own_row how g (by rw [e]; rfl)
        omega
      have CF := Lib.hid (productFault_any key Wd Hg A c l (by omega) _ H1.out.2.2.2)
      have hne : w.heap.size ≠ w1.heap.size := by omega
      clear how tk hpa HS
      go_upto_region 4 with (fail)
      generalize w1.alloc (.cells #[.string key, .int .i64 Wd, .int .i64 Hg, .slice A l.length c] 28) = w2 at *
      obtain ⟨p0, p1, p2, p3⟩ := blk4 H1.out.2.2.1
      have hpl := lt_of_blk H1.out.2.2.1
      obtain ⟨E, hE⟩ : ∃ E, prodErr key Wd Hg l = E := ⟨_, rfl⟩
      have HE := Lib.hid hE
      rw [hE] at CF
      clear hE
      by_cases hE0 : E = 0
      · subst hE0
        go_wp2_with fail
        refine CF.out.mono ?_
        rintro e w3 ⟨rfl, b3⟩
        have H3 : Hid (Took sb (b + 200 * k + 200) w w3 ∧ w3.heap[w.heap.size]? = some (.cells #[.string ⟨#[]⟩, .int .i64 0, .int .i64 0, .slice none 0 0] 28 (0, 0)) ∧ w3.heap[w1.heap.size]? = some (.cells #[.string key, .int .i64 Wd, .int .i64 Hg, .slice A l.length c] 28 (0, 0)) ∧ PlAt w3 A l) :=
          ⟨H1.out.1.below b3, blk_below b3 H1.out.2.1, blk_below b3 H1.out.2.2.1, H1.out.2.2.2.below b3⟩
        clear b3 CF H1 p0 p1 p2 p3 hpl
        obtain ⟨p0, p1, p2, p3⟩ := blk4 H3.out.2.2.1
        have hpl := lt_of_blk H3.out.2.2.1
        obtain ⟨r0, r1, r2, r3⟩ := blk4 H3.out.2.1
        have f0 := frozen_of_blk H3.out.2.1 0
        have f1 := frozen_of_blk H3.out.2.1 1
        have f2 := frozen_of_blk H3.out.2.1 2
        have f3 := frozen_of_blk H3.out.2.1 3
        have hrl := lt_of_blk H3.out.2.1
        go_wp2_with fail
        have HF : Hid (RightOf sb (b + 1200) w (.returned (prod key Wd Hg A l.length c)) ((((w3.setCell ⟨w.heap.size, 0, none⟩ (.string key)).setCell ⟨w.heap.size, 1, none⟩ (.int .i64 Wd)).setCell ⟨w.heap.size, 2, none⟩ (.int .i64 Hg)).setCell ⟨w.heap.size, 3, none⟩ (.slice A l.length c)) ∧ ((((w3.setCell ⟨w.heap.size, 0, none⟩ (.string key)).setCell ⟨w.heap.size, 1, none⟩ (.int .i64 Wd)).setCell ⟨w.heap.size, 2, none⟩ (.int .i64 Hg)).setCell ⟨w.heap.size, 3, none⟩ (.slice A l.length c)).heap[w.heap.size]? = some (.cells #[.string key, .int .i64 Wd, .int .i64 Hg, .slice A l.length c] 28 (0, 0))) := by
          refine ⟨⟨key, Wd, Hg, A, c, l, rfl, HE.out, hl, ?_, ((((H3.out.1.more (by omega)).setCell (by simp) hlt _).setCell (by simp) hlt _).setCell (by simp) hlt _).setCell (by simp) hlt _⟩, blk_set (blk_set (blk_set (blk_set H3.out.2.1 _) _) _) _⟩
          rcases H3.out.2.2.2 with h | ⟨ga, e, hl⟩
          · exact .inl h
          · have hga := HRow.out ga e
            have hne : ga ≠ w.heap.size := by omega
            exact .inr ⟨ga, e, line_far (line_far (line_far (line_far hl hne _) hne _) hne _) hne _⟩
        generalize (((w3.setCell ⟨w.heap.size, 0, none⟩ (.string key)).setCell ⟨w.heap.size, 1, none⟩ (.int .i64 Wd)).setCell ⟨w.heap.size, 2, none⟩ (.int .i64 Hg)).setCell ⟨w.heap.size, 3, none⟩ (.slice A l.length c) = w4 at *
        clear p0 p1 p2 p3 r0 r1 r2 r3 f0 f1 f2 f3 hrl hpl
        obtain ⟨r0, r1, r2, r3⟩ := blk4 HF.out.2
        refine bodyPost_ret (v := prod key Wd Hg A l.length c) (by unfold results; simp only [Tryz.results4]; go_simp) rfl HF.out.1
      · have hne1 : (E == 0) = false := by simpa using hE0
        go_wp2_with fail
        refine CF.out.mono ?_
        rintro e w3 ⟨rfl, b3⟩
        have H3 : Hid (Took sb (b + 200 * (k + 1)) w w3 ∧ w3.heap[w.heap.size]? = some (.cells #[.string ⟨#[]⟩, .int .i64 0, .int .i64 0, .slice none 0 0] 28 (0, 0))) :=
          ⟨(H1.out.1.below b3).more (by omega), blk_below b3 H1.out.2.1⟩
        have hz3 := lt_of_blk H3.out.2
        clear b3 CF H1 p0 p1 p2 p3 hpl
        go_wp2_with fail
        go_roundw
        case rel => exact ⟨k + 1, by omega, by go_num, hz3, H3⟩
        case measure => simp [intOf]; omega
    · obtain rfl : k = 6 := by omega
      obtain ⟨r0, r1, r2, r3⟩ := blk4 HS.out.2
      have f0 := frozen_of_blk HS.out.2 0
      have f1 := frozen_of_blk HS.out.2 1
      have f2 := frozen_of_blk HS.out.2 2
      have f3 := frozen_of_blk HS.out.2 3
      go_wp2_with fail
      have HF : Hid (RightOf sb (b + 1200) w (.returned (prod ⟨#[112]⟩ 10 10 none 0 0)) ((((wr.setCell ⟨w.heap.size, 0, none⟩ (.string ⟨#[112]⟩)).setCell ⟨w.heap.size, 1, none⟩ (.int .i64 10)).setCell ⟨w.heap.size, 2, none⟩ (.int .i64 10)).setCell ⟨w.heap.size, 3, none⟩ (.slice none 0 0)) ∧ ((((wr.setCell ⟨w.heap.size, 0, none⟩ (.string ⟨#[112]⟩)).setCell ⟨w.heap.size, 1, none⟩ (.int .i64 10)).setCell ⟨w.heap.size, 2, none⟩ (.int .i64 10)).setCell ⟨w.heap.size, 3, none⟩ (.slice none 0 0)).heap[w.heap.size]? = some (.cells #[.string ⟨#[112]⟩, .int .i64 10, .int .i64 10, .slice none 0 0] 28 (0, 0))) :=
        ⟨⟨⟨#[112]⟩, 10, 10, none, 0, [], rfl, right_lit, by simp, .inl rfl, ((((HS.out.1.more (by omega)).setCell (by simp) hlt _).setCell (by simp) hlt _).setCell (by simp) hlt _).setCell (by simp) hlt _⟩, blk_set (blk_set (blk_set (blk_set HS.out.2 _) _) _) _⟩
      generalize (((wr.setCell ⟨w.heap.size, 0, none⟩ (.string ⟨#[112]⟩)).setCell ⟨w.heap.size, 1, none⟩ (.int .i64 10)).setCell ⟨w.heap.size, 2, none⟩ (.int .i64 10)).setCell ⟨w.heap.size, 3, none⟩ (.slice none 0 0) = w4 at *
      clear r0 r1 r2 r3 f0 f1 f2 f3
      obtain ⟨r0, r1, r2, r3⟩ := blk4 HF.out.2
      refine bodyPost_ret (v := prod ⟨#[112]⟩ 10 10 none 0 0) (by unfold results; simp only [Tryz.results4]; go_simp) rfl HF.out.1
end Go.Proofs.YtmjonmoagpkdiabGreatDoor
