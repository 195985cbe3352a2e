/-
  The rate of a line: the program's answer.
-/
import Derived.Test.YtiooimfkobjpkaaLnS
namespace Go.Proofs.Ytiooimfkobjpkaa
open Go.RowKit
set_option linter.unusedSimpArgs false
set_option linter.unusedVariables false

/-- What Rate gives. -/
def rateV (cs bs : List Int) (n : Int) : Value := if bErr cs bs n = 0 then low n (lv cs bs (n.toNat - 1) (cs.length - 1)) else .agg #[.int .i64 0, .int .i64 0]
theorem lv_pos {cs : List Int} (bs : List Int) (h : CsOk cs) (b : Nat) {k : Nat} (hk : k < cs.length) : 1 ≤ lv cs bs b k := by
  have h1 := cm_bd bs h b k
  have h2 := (h cs[k] (List.getElem_mem hk)).1
  rw [lv_eq]
  unfold dn
  rw [List.getD_eq_getElem?_getD, List.getElem?_eq_getElem hk]
  simp only [Option.getD_some]
  omega
theorem low_agg (a b : Int) : ∃ x y : Int, low a b = .agg #[.int .i64 x, .int .i64 y] := ⟨_, _, rfl⟩

set_option maxRecDepth 100000 in
set_option maxHeartbeats 4000000 in
theorem rate_any (cs bs : List Int) (n : Int) (hl : cs.length ≤ 1000000) (hb : bs.length ≤ 1000000) {v1 v2 : Value} {w : World} (r1 : Reads encN v1 cs w) (r2 : Reads encN v2 bs w) :
    Calls Try.prog 27 #[v1, v2, .int .i64 n] w fun e w' => e = .returned (.tuple #[rateV cs bs n, .int .i64 (bErr cs bs n)]) ∧ Below w.heap.size w w' := by
  have hba : Below w.heap.size w (w.alloc (.cells #[.int .i64 0, .int .i64 0] 57)) := (Below.refl _ _).alloc (Nat.le_refl _) _
  have CL := Lib.hid (leave_any cs bs n hl hb (r1.below hba) (r2.below hba))
  have HA : Hid (Below w.heap.size w (w.alloc (.cells #[.int .i64 0, .int .i64 0] 57)) ∧ (w.alloc (.cells #[.int .i64 0, .int .i64 0] 57)).heap[w.heap.size]? = some (.cells #[.int .i64 0, .int .i64 0] 57 (0, 0)) ∧ (w.alloc (.cells #[.int .i64 0, .int .i64 0] 57)).heap.size = w.heap.size + 1) := ⟨hba, blk_new w _ rfl, by simp⟩
  obtain ⟨A1, c1, rfl, _⟩ := r1
  obtain ⟨A2, c2, rfl, _⟩ := r2
  by_cases h0 : bErr cs bs n = 0
  rotate_left
  · have HV : Hid (rateV cs bs n = .agg #[.int .i64 0, .int .i64 0]) := if_neg h0
    have hne : (bErr cs bs n != 0) = true := by simp [h0]
    generalize bErr cs bs n = E at *
    generalize rateV cs bs n = RV at *
    clear h0
    go_enter Try.func27, Try.ntmps27
    go_wp2_with fail
    refine CL.out.mono ?_
    rintro e w2 ⟨v, rfl, hv, b2⟩
    have H2 : Hid (Below w.heap.size w w2 ∧ w2.heap[w.heap.size]? = some (.cells #[.int .i64 0, .int .i64 0] 57 (0, 0))) := ⟨HA.out.1.then_below b2 HA.out.1.size, blk_below b2 HA.out.2.1⟩
    obtain ⟨c0, c1, f0, f1⟩ := blk2 H2.out.2
    have hl2 := lt_of_blk H2.out.2
    clear b2 hv CL hba
    go_wp2_with fail
    refine bodyPost_ret (v := .tuple #[.agg #[.int .i64 0, .int .i64 0], .int .i64 E]) (by unfold results; simp only [Try.results27]; go_simp) rfl ⟨by rw [HV.out], ?_⟩
    exact (H2.out.1.setCell (by show w.heap.size ≤ w.heap.size; omega) _).setCell (by show w.heap.size ≤ w.heap.size; omega) _
  obtain ⟨hc0, hbl, hbs, hn1, hn2⟩ := bErr_ok h0
  obtain ⟨hc1, hc6, hcs⟩ := cErr_ok hc0
  have HV : Hid (rateV cs bs n = low n (lv cs bs (n.toNat - 1) (cs.length - 1))) := if_pos h0
  rw [show leaveV cs bs n = leaveL cs bs n.toNat from if_pos h0, h0] at CL
  rw [h0]
  clear h0
  generalize rateV cs bs n = RV at *
  obtain ⟨m, rfl⟩ := Int.eq_ofNat_of_zero_le (show 0 ≤ n by omega)
  obtain ⟨d, rfl⟩ : ∃ d, m = d + 1 := ⟨m - 1, by omega⟩
  have hd2 : d < 2000 := by omega
  have hcast : ((d + 1 : Nat) : Int) - 1 = (d : Int) := by omega
  have hD : leaveL cs bs (((d + 1 : Nat) : Int)).toNat = leaveL cs bs (d + 1) := rfl
  rw [hD] at CL
  clear hD
  have hlow := low_agg ((d + 1 : Nat) : Int) (lv cs bs (((d + 1 : Nat) : Int).toNat - 1) (cs.length - 1))
  have HD : Hid (((d + 1 : Nat) : Int).toNat - 1 = d) := rfl
  rw [HD.out] at hlow HV
  have hp := lv_pos bs hcs d (show cs.length - 1 < cs.length by omega)
  have hbd := lv_bd bs hcs d (cs.length - 1)
  have CW := Lib.hid (fun W => lowest_any ((d + 1 : Nat) : Int) (lv cs bs d (cs.length - 1)) W (by omega) (by omega) hp (by omega))
  have HLN : Hid ((leaveL cs bs (d + 1))[d]? = some (lv cs bs d (cs.length - 1)) ∧ (leaveL cs bs (d + 1)).length = d + 1) := by
    refine ⟨?_, leaveL_len _ _ _⟩
    unfold leaveL
    simp
  clear hp hbd hcs hc0 hbl hbs
  generalize lv cs bs d (cs.length - 1) = P at *
  generalize leaveL cs bs (d + 1) = LL at *
  go_enter Try.func27, Try.ntmps27
  go_wp2_with fail
  refine CL.out.mono ?_
  rintro e w2 ⟨v, rfl, hv, b2⟩
  have H2 : Hid (Below w.heap.size w w2 ∧ w2.heap[w.heap.size]? = some (.cells #[.int .i64 0, .int .i64 0] 57 (0, 0))) := ⟨HA.out.1.then_below b2 HA.out.1.size, blk_below b2 HA.out.2.1⟩
  obtain ⟨A, c, rfl, hcl, hr⟩ := hv
  have hll : LL.length = d + 1 := HLN.out.2
  rcases hr with rfl | ⟨gl, rfl, hgl0, hrow⟩
  · simp at hll
  have q0 := row_n hrow (k := d) (by omega)
  rw [show LL[d] = P by have := HLN.out.1; rw [List.getElem?_eq_getElem (by omega)] at this; simpa using this] at q0
  have hgl := hrow.1
  have HLL := Lib.hid hll
  have i1 : (0 : Int) ≤ (d : Int) := by omega
  have i2 : (d : Int) < (LL.length : Int) := by omega
  clear b2 hrow CL hba hll
  go_wp2_with fail
  refine (CW.out _).mono ?_
  rintro e w3 ⟨rfl, b3⟩
  have H3 : Hid (Below w.heap.size w w3 ∧ w3.heap[w.heap.size]? = some (.cells #[.int .i64 0, .int .i64 0] 57 (0, 0))) := ⟨H2.out.1.then_below b3 H2.out.1.size, blk_below b3 H2.out.2⟩
  obtain ⟨x, y, hxy⟩ := hlow
  rw [hxy]
  rw [hxy] at HV
  obtain ⟨c0, c1, f0, f1⟩ := blk2 H3.out.2
  have hl2 := lt_of_blk H3.out.2
  clear b3 H2 CW q0 hgl hxy
  go_wp2_with fail
  refine bodyPost_ret (v := .tuple #[.agg #[.int .i64 x, .int .i64 y], .int .i64 0]) (by unfold results; simp only [Try.results27]; go_simp) rfl ⟨by rw [HV.out], ?_⟩
  exact (H3.out.1.setCell (by show w.heap.size ≤ w.heap.size; omega) _).setCell (by show w.heap.size ≤ w.heap.size; omega) _
end Go.Proofs.Ytiooimfkobjpkaa
