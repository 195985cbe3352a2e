/-
  The checks of machines: the keys that are there already; one machine.
-/
import Derived.Test.YtmjonmoagpkdiabGreatDoorLmB
import Derived.Test.YtmjonmoagpkdiabGreatDoorLmE
namespace Go.Proofs.YtmjonmoagpkdiabGreatDoor
open Go.RowKit
set_option linter.unusedSimpArgs false
set_option linter.unusedVariables false

theorem blk5 {w : World} {g : Nat} {a b c d e : Value} {t : TypeId} (h : w.heap[g]? = some (.cells #[a, b, c, d, e] t (0, 0))) :
    w.cell? ⟨g, 0, none⟩ = some a ∧ w.cell? ⟨g, 1, none⟩ = some b ∧ w.cell? ⟨g, 2, none⟩ = some c ∧ w.cell? ⟨g, 3, none⟩ = some d ∧ w.cell? ⟨g, 4, none⟩ = some e :=
  ⟨by rw [cell_of_blk h]; rfl, by rw [cell_of_blk h]; rfl, by rw [cell_of_blk h]; rfl, by rw [cell_of_blk h]; rfl, by rw [cell_of_blk h]; rfl⟩
/-- Block p starts with a key. -/
def KAt (p : Nat) (k : ByteArray) (W : World) : Prop := p < W.heap.size ∧ W.cell? ⟨p, 0, none⟩ = some (.string k)
theorem KAt.below {p : Nat} {k : ByteArray} {W W' : World} (h : KAt p k W) (hb : Below W.heap.size W W') : KAt p k W' := ⟨Nat.lt_of_lt_of_le h.1 hb.size, (hb.cell (p := ⟨p, 0, none⟩) h.1).trans h.2⟩

set_option maxHeartbeats 2000000 in
theorem sameP_any (key : ByteArray) (each fixed feed : Int) (A : Option Addr) (n c : Nat) (p : Nat) (k : ByteArray) (w : World) (h : KAt p k w) :
    Calls Tryz.prog 88 #[.agg #[.string key, .int .i64 each, .int .i64 fixed, .int .i64 feed, .slice A n c], .pointer (some ⟨p, 0, none⟩)] w fun e w' => e = .returned (.bool (key.toList == k.toList)) ∧ Below w.heap.size w w' := by
  have hba : Below w.heap.size w (w.alloc (.cells #[.string key, .int .i64 each, .int .i64 fixed, .int .i64 feed, .slice A n c] 38)) := (Below.refl _ _).alloc (Nat.le_refl _) _
  have H0 : Hid (Below w.heap.size w (w.alloc (.cells #[.string key, .int .i64 each, .int .i64 fixed, .int .i64 feed, .slice A n c] 38)) ∧ KAt p k (w.alloc (.cells #[.string key, .int .i64 each, .int .i64 fixed, .int .i64 feed, .slice A n c] 38)) ∧ (w.alloc (.cells #[.string key, .int .i64 each, .int .i64 fixed, .int .i64 feed, .slice A n c] 38)).heap[w.heap.size]? = some (.cells #[.string key, .int .i64 each, .int .i64 fixed, .int .i64 feed, .slice A n c] 38 (0, 0))) := ⟨hba, h.below hba, blk_new w _ rfl⟩
  clear hba h
  go_enter Tryz.func88, Tryz.ntmps88
  go_upto_region 1 with (fail)
  generalize w.alloc (.cells #[.string key, .int .i64 each, .int .i64 fixed, .int .i64 feed, .slice A n c] 38) = wx at *
  obtain ⟨p0, _, _, _, _⟩ := blk5 H0.out.2.2
  have pl := lt_of_blk H0.out.2.2
  obtain ⟨l1, c1⟩ := H0.out.2.1
  go_wp2_with fail
  go_ret
  exact ⟨rfl, H0.out.1⟩
set_option maxHeartbeats 4000000 in
theorem indexM_any {F : FuncId} (hF : ∀ args w, (callFunc F args).run Tryz.prog w = .ok (.enter F args) w) (p : Nat) (k : ByteArray)
    (hp : ∀ (key : ByteArray) (each fixed feed : Int) (A : Option Addr) (n c : Nat) (W : World), KAt p k W → Calls Tryz.prog F #[.agg #[.string key, .int .i64 each, .int .i64 fixed, .int .i64 feed, .slice A n c], .pointer (some ⟨p, 0, none⟩)] W fun e w' => e = .returned (.bool (key.toList == k.toList)) ∧ Below W.heap.size W w')
    (l : List Mc) (hl : l.length ≤ 1000000) {base : Nat} {v : Value} {w : World} (h : MsF base v l w) (hk : KAt p k w) :
    Calls Tryz.prog 109 #[v, .func (.func F) #[] #[.pointer (some ⟨p, 0, none⟩)]] w fun e w' => ∃ r : Int, e = .returned (.int .i64 r) ∧ decide (0 ≤ r) = keyIn l k ∧ Below w.heap.size w w' := by
  have HH := Lib.hid (And.intro h hk)
  have HP := Lib.hid hp
  obtain ⟨A, c, rfl, _, _⟩ := h
  clear hp hk
  go_enter Tryz.func109, Tryz.ntmps109
  go_wp2_with fail
  go_loopw [8] (fun kk wr => ∃ i : Nat, i ≤ l.length ∧ kk = .int .i64 i ∧ Hid (keyIn l k = keyIn (l.drop i) k) ∧ Hid (Below w.heap.size w wr)) (fun kk _ => l.length - (intOf kk).toNat)
  case atStart => exact ⟨0, by omega, rfl, rfl, Below.refl _ _⟩
  case round =>
    obtain ⟨i, hi, rfl, HI, HB⟩ := hrel
    by_cases hlt : i < l.length
    · obtain ⟨A', c', e, _, hr⟩ := HH.out.1.below HB.out
      cases e
      rcases hr with rfl | ⟨g, rfl, hgl, hrow⟩
      · simp at hlt
      have hI : keyIn l k = (l[i].key.toList == k.toList || keyIn (l.drop (i + 1)) k) := HI.out.trans (by rw [drop_at l hlt]; rfl)
      have HI2 := Lib.hid hI
      obtain ⟨q0, q1, q2, q3, u, q4, A2, c2, rfl, _⟩ := hrow i hlt
      clear hI HI hrow
      generalize l[i] = m at *
      obtain ⟨key, each, fixed, feed, can⟩ := m
      dsimp only at q0 q1 q2 q3 q4 HI2
      have i1 : (0 : Int) ≤ (i : Int) := by omega
      have i2 : (i : Int) < (l.length : Int) := by omega
      go_wp2_with fail
      refine (HP.out key each fixed feed A2 can.length c2 _ (HH.out.2.below HB.out)).mono ?_
      rintro e w2 ⟨rfl, b2⟩
      have HB2 := Lib.hid (HB.out.then_below b2 HB.out.size)
      clear b2 HB q0 q1 q2 q3 q4
      cases hb : (key.toList == k.toList)
      · have HF : Hid (keyIn l k = keyIn (l.drop (i + 1)) k) := HI2.out.trans (by rw [hb]; rfl)
        clear HI2
        go_wp2_with fail
        go_roundw
        case rel => exact ⟨i + 1, by omega, by go_num, HF, HB2⟩
        case measure => simp [intOf]; omega
      · have HFF : Hid (keyIn l k = true) := HI2.out.trans (by rw [hb]; rfl)
        clear HI2
        go_wp2_with fail
        go_ret
        exact ⟨_, rfl, by rw [HFF.out]; simp, HB2.out⟩
    · have HFF : Hid (keyIn l k = false) := HI.out.trans (by rw [List.drop_eq_nil_of_le (by omega)]; rfl)
      go_wp2_with fail
      go_ret
      exact ⟨_, rfl, by rw [HFF.out]; simp, HB.out⟩
theorem containsM_any {F : FuncId} (hF : ∀ args w, (callFunc F args).run Tryz.prog w = .ok (.enter F args) w) (p : Nat) (k : ByteArray)
    (hp : ∀ (key : ByteArray) (each fixed feed : Int) (A : Option Addr) (n c : Nat) (W : World), KAt p k W → Calls Tryz.prog F #[.agg #[.string key, .int .i64 each, .int .i64 fixed, .int .i64 feed, .slice A n c], .pointer (some ⟨p, 0, none⟩)] W fun e w' => e = .returned (.bool (key.toList == k.toList)) ∧ Below W.heap.size W w')
    (l : List Mc) (hl : l.length ≤ 1000000) {base : Nat} {v : Value} {w : World} (h : MsF base v l w) (hk : KAt p k w) :
    Calls Tryz.prog 87 #[v, .func (.func F) #[] #[.pointer (some ⟨p, 0, none⟩)]] w fun e w' => e = .returned (.bool (keyIn l k)) ∧ Below w.heap.size w w' := by
  have CI := Lib.hid (indexM_any hF p k hp l hl h hk)
  obtain ⟨A, c, rfl, _⟩ := h
  generalize keyIn l k = r at *
  clear hp hF
  go_enter Tryz.func87, Tryz.ntmps87
  go_wp2_with fail
  refine CI.out.mono ?_
  rintro e w2 ⟨ix, rfl, hx, b2⟩
  have HB2 := Lib.hid b2
  have HX := Lib.hid hx
  clear b2 hx
  go_wp2_with fail
  go_ret
  exact ⟨ret_bool HX.out, HB2.out⟩

theorem validTime_any (n : Int) (w : World) : Calls Tryz.prog 89 #[.int .i64 n] w fun e w' => e = .returned (.bool (inR n 0 10000000)) ∧ w = w' := by
  have CW := Lib.hid (withinR n 0 10000000 w)
  generalize inR n 0 10000000 = b at *
  go_enter Tryz.func89, Tryz.ntmps89
  go_wp2_with fail
  refine CW.out.mono ?_
  rintro e w2 ⟨rfl, rfl⟩
  go_wp2_with fail
  go_ret
  exact ⟨rfl, rfl⟩

set_option maxHeartbeats 8000000 in
theorem checkMachine_any (pre : List Mc) (hpl : pre.length ≤ 1000000) (m : Mc) (hml : m.can.length ≤ 1000000) {base : Nat} {v u : Value} {w : World} (hv : MsF base v pre w) (hu : ReadsF base encS u m.can w) :
    Calls Tryz.prog 66 #[.agg #[.string m.key, .int .i64 m.each, .int .i64 m.fixed, .int .i64 m.feed, u], v] w fun e w' => e = .returned (.int .i64 (mcErr pre m)) ∧ Below w.heap.size w w' := by
  obtain ⟨key, each, fixed, feed, can⟩ := m
  dsimp only at *
  have HE : Hid (mcErr pre ⟨key, each, fixed, feed, can⟩ = if keyB key = false then 5 else if keyIn pre key = true then 6 else if (inR each 0 10000000 && (inR fixed 0 10000000 && inR feed 0 100)) = false then 1 else if 1000 < can.length then 2 else paErr can none) := rfl
  generalize mcErr pre ⟨key, each, fixed, feed, can⟩ = E at *
  have hba : Below w.heap.size w (w.alloc (.cells #[.string key, .int .i64 each, .int .i64 fixed, .int .i64 feed, u] 38)) := (Below.refl _ _).alloc (Nat.le_refl _) _
  have H0 : Hid (Below w.heap.size w (w.alloc (.cells #[.string key, .int .i64 each, .int .i64 fixed, .int .i64 feed, u] 38)) ∧ MsF base v pre (w.alloc (.cells #[.string key, .int .i64 each, .int .i64 fixed, .int .i64 feed, u] 38)) ∧ ReadsF base encS u can (w.alloc (.cells #[.string key, .int .i64 each, .int .i64 fixed, .int .i64 feed, u] 38)) ∧ (w.alloc (.cells #[.string key, .int .i64 each, .int .i64 fixed, .int .i64 feed, u] 38)).heap[w.heap.size]? = some (.cells #[.string key, .int .i64 each, .int .i64 fixed, .int .i64 feed, u] 38 (0, 0))) := ⟨hba, hv.below hba, hu.below hba, blk_new w _ rfl⟩
  clear hba
  obtain ⟨A, c, rfl, _, _⟩ := hv
  obtain ⟨A', c', rfl, _, _⟩ := hu
  go_enter Tryz.func66, Tryz.ntmps66
  go_upto_region 1 with (fail)
  generalize w.alloc (.cells #[.string key, .int .i64 each, .int .i64 fixed, .int .i64 feed, .slice A' can.length c'] 38) = wx at *
  obtain ⟨p0, p1, p2, p3, p4⟩ := blk5 H0.out.2.2.2
  have pl := lt_of_blk H0.out.2.2.2
  have CK := Lib.hid (key_any key wx)
  have CC := Lib.hid (containsM_any (enters_of Tryz.func88 (by kernel_rfl) rfl) w.heap.size key (fun key' each fixed feed A n c W h => sameP_any key' each fixed feed A n c w.heap.size key W h) pre hpl H0.out.2.1 ⟨pl, p0⟩)
  cases hk : keyB key
  · have HF := Lib.hid (HE.out.trans (if_pos hk))
    rw [hk] at CK
    clear hk CC
    go_wp2_with fail
    refine CK.out.mono ?_
    rintro e w2 ⟨rfl, rfl⟩
    go_wp2_with fail
    go_ret
    exact ⟨ret_int HF.out.symm, H0.out.1⟩
  have HE1 := Lib.hid (HE.out.trans (if_neg (by rw [hk]; simp)))
  rw [hk] at CK
  clear hk HE
  go_wp2_with fail
  refine CK.out.mono ?_
  rintro e w2 ⟨rfl, rfl⟩
  clear CK
  cases ht : keyIn pre key
  case true =>
    have HF := Lib.hid (HE1.out.trans (if_pos ht))
    rw [ht] at CC
    clear ht
    go_wp2_with fail
    refine CC.out.mono ?_
    rintro e w3 ⟨rfl, b3⟩
    have HB := Lib.hid (H0.out.1.then_below b3 H0.out.1.size)
    clear b3
    go_wp2_with fail
    go_ret
    exact ⟨ret_int HF.out.symm, HB.out⟩
  case false =>
    have HE2 := Lib.hid (HE1.out.trans (if_neg (by rw [ht]; simp)))
    rw [ht] at CC
    clear ht HE1 p0 p1 p2 p3 p4
    go_wp2_with fail
    refine CC.out.mono ?_
    rintro e w3 ⟨rfl, b3⟩
    have H3 : Hid (Below w.heap.size w w3 ∧ ReadsF base encS (.slice A' can.length c') can w3 ∧ w3.heap[w.heap.size]? = some (.cells #[.string key, .int .i64 each, .int .i64 fixed, .int .i64 feed, .slice A' can.length c'] 38 (0, 0))) := ⟨H0.out.1.then_below b3 H0.out.1.size, H0.out.2.2.1.below b3, blk_below b3 H0.out.2.2.2⟩
    clear b3 pl CC H0
    obtain ⟨p0, p1, p2, p3, p4⟩ := blk5 H3.out.2.2
    have pl := lt_of_blk H3.out.2.2
    have C1 := Lib.hid (validTime_any each w3)
    have C2 := Lib.hid (validTime_any fixed w3)
    have C3 := Lib.hid (withinR feed 0 100 w3)
    generalize inR each 0 10000000 = b1 at *
    generalize inR fixed 0 10000000 = b2 at *
    generalize inR feed 0 100 = b3 at *
    cases b1
    · have HF : Hid (E = 1) := HE2.out.trans (if_pos rfl)
      go_wp2_with fail
      refine C1.out.mono ?_
      rintro e w4 ⟨rfl, rfl⟩
      go_wp2_with fail
      go_ret
      exact ⟨ret_int HF.out.symm, H3.out.1⟩
    cases b2
    · have HF : Hid (E = 1) := HE2.out.trans (if_pos rfl)
      go_wp2_with fail
      refine C1.out.mono ?_
      rintro e w4 ⟨rfl, rfl⟩
      go_wp2_with fail
      refine C2.out.mono ?_
      rintro e w4 ⟨rfl, rfl⟩
      go_wp2_with fail
      go_ret
      exact ⟨ret_int HF.out.symm, H3.out.1⟩
    cases b3
    · have HF : Hid (E = 1) := HE2.out.trans (if_pos rfl)
      go_wp2_with fail
      refine C1.out.mono ?_
      rintro e w4 ⟨rfl, rfl⟩
      go_wp2_with fail
      refine C2.out.mono ?_
      rintro e w4 ⟨rfl, rfl⟩
      go_wp2_with fail
      refine C3.out.mono ?_
      rintro e w4 ⟨rfl, rfl⟩
      go_wp2_with fail
      go_ret
      exact ⟨ret_int HF.out.symm, H3.out.1⟩
    have HE3 := Lib.hid (HE2.out.trans (if_neg (by simp)))
    clear HE2
    go_wp2_with fail
    refine C1.out.mono ?_
    rintro e w4 ⟨rfl, rfl⟩
    go_wp2_with fail
    refine C2.out.mono ?_
    rintro e w4 ⟨rfl, rfl⟩
    go_wp2_with fail
    refine C3.out.mono ?_
    rintro e w4 ⟨rfl, rfl⟩
    clear C1 C2 C3
    by_cases hl : 1000 < can.length
    · have HF := Lib.hid (HE3.out.trans (if_pos hl))
      go_wp2_with fail
      go_ret
      exact ⟨ret_int HF.out.symm, H3.out.1⟩
    · have HF := Lib.hid (HE3.out.trans (if_neg hl))
      have CR := Lib.hid (rising_any hml H3.out.2.1)
      generalize paErr can none = r at *
      go_wp2_with fail
      refine CR.out.mono ?_
      rintro e w4 ⟨rfl, rfl⟩
      go_wp2_with fail
      go_ret
      exact ⟨ret_int HF.out.symm, H3.out.1⟩
end Go.Proofs.YtmjonmoagpkdiabGreatDoor
