/-
  The maker of catalogues: whether an alternate is there already.
-/
import Derived.Test.YtiooimfkobjpkaaGreatDoorTdA
import Derived.Test.YtiooimfkobjpkaaGreatDoorTpS
namespace Go.Proofs.YtiooimfkobjpkaaGreatDoor
open Go.RowKit
set_option linter.unusedSimpArgs false
set_option linter.unusedVariables false

/-- The three captured variables. -/
structure Cap (py px pb : Nat) (y x : ByteArray) (b : Bool) (W : World) : Prop where
  ky : W.heap[py]? = some (.cells #[.string y] 9 (0, 0))
  kx : W.heap[px]? = some (.cells #[.string x] 9 (0, 0))
  kb : W.heap[pb]? = some (.cells #[.bool b] 4 (0, 0))
theorem Cap.below {py px pb : Nat} {y x : ByteArray} {b : Bool} {W W' : World} (h : Cap py px pb y x b W) (hb : Below W.heap.size W W') : Cap py px pb y x b W' := ⟨blk_below hb h.ky, blk_below hb h.kx, blk_below hb h.kb⟩

set_option maxHeartbeats 4000000 in
theorem already1_any (a : Al) (py px pb : Nat) (y x : ByteArray) (b : Bool) (w : World) (h : Cap py px pb y x b w) :
    Calls Tryz.prog 19 #[.agg #[.string a.par, .string a.by_, .bool a.both], .pointer (some ⟨py, 0, none⟩), .pointer (some ⟨px, 0, none⟩), .pointer (some ⟨pb, 0, none⟩)] w fun e w' => (∃ r, e = .returned (.bool r)) ∧ Below w.heap.size w w' := by
  obtain ⟨par, by_, both⟩ := a
  dsimp only
  have hba : Below w.heap.size w (w.alloc (.cells #[.string par, .string by_, .bool both] 51)) := (Below.refl _ _).alloc (Nat.le_refl _) _
  have H0 : Hid (Below w.heap.size w (w.alloc (.cells #[.string par, .string by_, .bool both] 51)) ∧ Cap py px pb y x b (w.alloc (.cells #[.string par, .string by_, .bool both] 51)) ∧ (w.alloc (.cells #[.string par, .string by_, .bool both] 51)).heap[w.heap.size]? = some (.cells #[.string par, .string by_, .bool both] 51 (0, 0))) := ⟨hba, h.below hba, blk_new w _ rfl⟩
  clear hba h
  go_enter Tryz.func19, Tryz.ntmps19
  go_upto_region 1 with (fail)
  generalize w.alloc (.cells #[.string par, .string by_, .bool both] 51) = wx at *
  obtain ⟨p0, p1, p2⟩ := blk3 H0.out.2.2
  have pl := lt_of_blk H0.out.2.2
  have c1 := blk_cell0 H0.out.2.1.ky
  have l1 := lt_of_blk H0.out.2.1.ky
  have c2 := blk_cell0 H0.out.2.1.kx
  have l2 := lt_of_blk H0.out.2.1.kx
  have c3 := blk_cell0 H0.out.2.1.kb
  have l3 := lt_of_blk H0.out.2.1.kb
  cases h1 : (par.toList == y.toList) <;> cases h2 : (by_.toList == x.toList) <;> cases both
  all_goals
    go_wp2_with fail
    go_ret
    exact ⟨⟨_, rfl⟩, H0.out.1⟩

set_option maxHeartbeats 4000000 in
theorem indexA_any (l : List Al) (hl : l.length ≤ 1000000) (py px pb : Nat) (y x : ByteArray) (b : Bool) {v : Value} {w : World} (hv : Reads encAl v l w) (h : Cap py px pb y x b w) :
    Calls Tryz.prog 48 #[v, .func (.func 19) #[] #[.pointer (some ⟨py, 0, none⟩), .pointer (some ⟨px, 0, none⟩), .pointer (some ⟨pb, 0, none⟩)]] w fun e w' => (∃ r : Int, e = .returned (.int .i64 r)) ∧ Below w.heap.size w w' := by
  have HR := Lib.hid hv
  have H0 := Lib.hid h
  have C1 := Lib.hid (fun (a : Al) (W : World) (h : Cap py px pb y x b W) => already1_any a py px pb y x b W h)
  obtain ⟨A, c, rfl, _⟩ := hv
  clear h
  go_enter Tryz.func48, Tryz.ntmps48
  go_wp2_with fail
  go_loopw [8] (fun kk wr => ∃ k : Nat, k ≤ l.length ∧ kk = .int .i64 k ∧ Hid (Below w.heap.size w wr)) (fun kk _ => l.length - (intOf kk).toNat)
  case atStart => exact ⟨0, by omega, rfl, Below.refl _ _⟩
  case round =>
    obtain ⟨k, hk, rfl, HB⟩ := hrel
    by_cases hlt : k < l.length
    · obtain ⟨A', c', ea, hr⟩ := HR.out.below HB.out
      cases ea
      rcases hr with rfl | ⟨g, rfl, hrow⟩
      · simp at hlt
      obtain ⟨q0, q1, q2⟩ := row_al hrow hlt
      have hgl := hrow.1
      have i1 : (0 : Int) ≤ (k : Int) := by omega
      have i2 : (k : Int) < (l.length : Int) := by omega
      clear hrow
      generalize l[k] = a at *
      have CA := Lib.hid (C1.out a)
      obtain ⟨par, by_, both⟩ := a
      dsimp only at q0 q1 q2 CA
      go_wp2_with fail
      refine (CA.out _ (H0.out.below HB.out)).mono ?_
      rintro e w2 ⟨⟨r, rfl⟩, b2⟩
      have H2 := Lib.hid (HB.out.then_below b2 HB.out.size)
      clear b2
      cases r
      · go_wp2_with fail
        go_roundw
        case rel => exact ⟨k + 1, by omega, by go_num, H2⟩
        case measure => simp [intOf]; omega
      · go_wp2_with fail
        go_ret
        exact ⟨⟨_, rfl⟩, H2.out⟩
    · obtain rfl : k = l.length := by omega
      go_wp2_with fail
      go_ret
      exact ⟨⟨_, rfl⟩, HB.out⟩

set_option maxHeartbeats 2000000 in
theorem containsA_any (l : List Al) (hl : l.length ≤ 1000000) (py px pb : Nat) (y x : ByteArray) (b : Bool) {v : Value} {w : World} (hv : Reads encAl v l w) (h : Cap py px pb y x b w) :
    Calls Tryz.prog 18 #[v, .func (.func 19) #[] #[.pointer (some ⟨py, 0, none⟩), .pointer (some ⟨px, 0, none⟩), .pointer (some ⟨pb, 0, none⟩)]] w fun e w' => (∃ r, e = .returned (.bool r)) ∧ Below w.heap.size w w' := by
  have CI := Lib.hid (indexA_any l hl py px pb y x b hv h)
  obtain ⟨A, c, rfl, _⟩ := hv
  go_enter Tryz.func18, Tryz.ntmps18
  go_wp2_with fail
  refine CI.out.mono ?_
  rintro e w2 ⟨⟨r, rfl⟩, b2⟩
  have H2 := Lib.hid b2
  clear b2
  go_wp2_with fail
  go_ret
  exact ⟨⟨_, rfl⟩, H2.out⟩
end Go.Proofs.YtiooimfkobjpkaaGreatDoor
