/-
  The reference on whether a part may be used in a window: the search through the moments.
-/
import Derived.Test.YtopnadilfjakiaaDoorPx10
import Derived.Test.YtopnadilfjakiaaDoorPx11
import Derived.Test.YtopnadilfjakiaaDoorRg
namespace Go.Proofs.YtopnadilfjakiaaDoor
open Go.RowKit
set_option linter.unusedSimpArgs false
set_option linter.unusedVariables false

/-- What the search sees: the part, its stays and its life. -/
def UsEnv (key pk : ByteArray) (lv bk : Int) (A : Option Addr) (n c : Nat) (lf : Int) (hp hs hl : Nat) (W : World) : Prop :=
  W.heap[hp]? = some (.cells #[.string key, .string pk, .int .i64 lv, .int .i64 bk] 27 (0, 0)) ∧ W.heap[hs]? = some (.cells #[.slice A n c] 29 (0, 0)) ∧ W.heap[hl]? = some (.cells #[.int .i64 lf] 3 (0, 0))
theorem UsEnv.below {key pk : ByteArray} {lv bk : Int} {A : Option Addr} {n c : Nat} {lf : Int} {hp hs hl : Nat} {W W' : World} (h : UsEnv key pk lv bk A n c lf hp hs hl W) (hb : Below W.heap.size W W') : UsEnv key pk lv bk A n c lf hp hs hl W' := ⟨blk_below hb h.1, blk_below hb h.2.1, blk_below hb h.2.2⟩

set_option maxRecDepth 100000 in
set_option maxHeartbeats 4000000 in
theorem usClos_any (key pk : ByteArray) (lv bk : Int) (A : Option Addr) (c : Nat) (l : List Sy) (hl : l.length ≤ 400) (lf t : Int) (h1 h2 h3 : Nat) (w : World) (hA : SyAt w A l) (hg : GoodS l) (ht : -1000000000000 ≤ t ∧ t ≤ 345686400000) (he : UsEnv key pk lv bk A l.length c lf h1 h2 h3 w) :
    Calls Tryd.prog 42 #[.int .i64 t, .pointer (some ⟨h1, 0, none⟩), .pointer (some ⟨h2, 0, none⟩), .pointer (some ⟨h3, 0, none⟩)] w fun r w' => r = .returned (.bool (decide (lf < expo lv bk t 0 l))) ∧ Below w.heap.size w w' := by
  have CE := Lib.hid (fun W (h : SyAt W A l) => exposedOf_any key pk lv bk A c l hl t W h hg ht)
  have HE := Lib.hid he
  clear he hg
  generalize expo lv bk t 0 l = xv at *
  go_enter Tryd.func42, Tryd.ntmps42
  go_upto_region 1 with (fail)
  refine Rg.rgL (fun a b => Below a.heap.size a b)
    [(fun vs u => vs 0 = .agg #[.string key, .string pk, .int .i64 lv, .int .i64 bk]), (fun vs u => vs 1 = .slice A l.length c), (fun vs u => vs 2 = .int .i64 t), (fun vs u => vs 3 = .int .i64 xv), (fun vs u => vs 4 = .int .i64 lf)]
    [[], [], [], [0, 1, 2], []] [some 6, some 7, some 8, some 9, some 10, some 11, some 5] [] (fun _ _ => True) [[], [], [], [0, 1, 2], [], [0, 1, 2, 3, 4], [0, 1, 2, 3, 4, 5]]
    (by kernel_rfl) (by decide) (by kernel_rfl) (by kernel_rfl) (by kernel_rfl) (by kernel_rfl) (by kernel_rfl) (fun _ => Below.refl _ _) (fun _ _ _ h k => h.ext k) (fun _ _ h => h.size) ?_ trivial ?_ ?_
  · intro t ht vs w w' h hE
    simp only [List.mem_cons, List.not_mem_nil, or_false] at ht
    rcases ht with rfl | rfl | rfl | rfl | rfl
    · exact h
    · exact h
    · exact h
    · exact h
    · exact h
  ·
    refine Rg.cons 0 1 rfl (Rg.plain rfl ?_) ?_
    · intro vs W n hn hI hG hT hF K hK
      simp only [Rg.putsD, List.getD_cons_zero, List.getD_cons_succ, Act.put, List.setIfInBounds_toArray, List.set_cons_zero, List.set_cons_succ] at hK ⊢
      clear hn
      clear hF hI
      obtain ⟨m0, m1, m2, m3⟩ := blk4 (blk_below hG HE.out.1)
      have m4 := lt_of_blk (blk_below hG HE.out.1)
      have H := Lib.hid hK
      clear hK hT
      go_simp
      exact H.out _ _ (Below.refl _ _) rfl (fun h => by cases h) trivial
    refine Rg.cons 1 2 rfl (Rg.plain rfl ?_) ?_
    · intro vs W n hn hI hG hT hF K hK
      simp only [Rg.putsD, List.getD_cons_zero, List.getD_cons_succ, Act.put, List.setIfInBounds_toArray, List.set_cons_zero, List.set_cons_succ] at hK ⊢
      clear hn
      clear hF hI
      obtain ⟨m0, m1, m2⟩ := blk1 (blk_below hG HE.out.2.1)
      have H := Lib.hid hK
      clear hK hT
      go_simp
      exact H.out _ _ (Below.refl _ _) rfl (fun h => by cases h) trivial
    refine Rg.cons 2 3 rfl (Rg.plain rfl ?_) ?_
    · intro vs W n hn hI hG hT hF K hK
      simp only [Rg.putsD, List.getD_cons_zero, List.getD_cons_succ, Act.put, List.setIfInBounds_toArray, List.set_cons_zero, List.set_cons_succ] at hK ⊢
      clear hn
      clear hF hI
      have H := Lib.hid hK
      clear hK hT
      go_simp
      exact H.out _ _ (Below.refl _ _) rfl (fun h => by cases h) trivial
    refine Rg.cons 3 4 rfl (Rg.plain rfl ?_) ?_
    · intro vs W n hn hI hG hT hF K hK
      simp only [Rg.putsD, List.getD_cons_zero, List.getD_cons_succ, Act.put, List.setIfInBounds_toArray, List.set_cons_zero, List.set_cons_succ] at hK ⊢
      clear hn
      clear hF hI
      have t0 : vs 0 = .agg #[.string key, .string pk, .int .i64 lv, .int .i64 bk] := hT 0 (by decide)
      have t1 : vs 1 = .slice A l.length c := hT 1 (by decide)
      have t2 : vs 2 = .int .i64 t := hT 2 (by decide)
      have HG2 := Lib.hid hG
      clear hG
      simp only [t0, t1, t2] at hK
      have H := Lib.hid hK
      clear hK hT
      go_simp
      refine (CE.out _ (hA.below ((Below.refl _ _).drew.then_below HG2.out (Nat.le_refl _)))).mono ?_
      rintro e wa ⟨rfl, ba⟩
      exact H.out _ _ ba rfl (fun h => by cases h) trivial
    refine Rg.cons 4 5 rfl (Rg.plain rfl ?_) ?_
    · intro vs W n hn hI hG hT hF K hK
      simp only [Rg.putsD, List.getD_cons_zero, List.getD_cons_succ, Act.put, List.setIfInBounds_toArray, List.set_cons_zero, List.set_cons_succ] at hK ⊢
      clear hn
      clear hF hI
      obtain ⟨m0, m1, m2⟩ := blk1 (blk_below hG HE.out.2.2)
      have H := Lib.hid hK
      clear hK hT
      go_simp
      exact H.out _ _ (Below.refl _ _) rfl (fun h => by cases h) trivial
    exact Rg.nil
  · intro vs W hG hI hT hF
    have t0 : vs 0 = .agg #[.string key, .string pk, .int .i64 lv, .int .i64 bk] := hT 0 (by decide)
    have t1 : vs 1 = .slice A l.length c := hT 1 (by decide)
    have t2 : vs 2 = .int .i64 t := hT 2 (by decide)
    have t3 : vs 3 = .int .i64 xv := hT 3 (by decide)
    have t4 : vs 4 = .int .i64 lf := hT 4 (by decide)
    simp only [List.length_cons, List.length_nil, Nat.reduceAdd, List.range, List.range.loop, List.drop_succ_cons, List.drop_zero, Rg.putsD, List.getD_cons_zero, List.getD_cons_succ, Act.put, List.setIfInBounds_toArray, List.set_cons_zero, List.set_cons_succ, t0, t1, t2, t3, t4]
    clear hT t0 t1 t2 t3 t4
    have HB5 : Hid (Below w.heap.size w W) := (Below.refl _ _).drew.then_below hG (Nat.le_refl _)
    clear hG hI hF
    go_wp2_with fail
    go_ret
    exact ⟨rfl, HB5.out⟩

def ixF (p : Int → Bool) : List Int → Int → Int
  | [], _ => -1
  | x :: l, k => if p x = true then k else ixF p l (k + 1)
theorem ixF_any (p : Int → Bool) : ∀ (l : List Int) (k : Int), 0 ≤ k → decide (0 ≤ ixF p l k) = l.any p
  | [], _, _ => rfl
  | x :: l, k, hk => by
    rw [ixF, List.any_cons]
    by_cases h : p x = true
    · rw [if_pos h, h]; simpa using hk
    · rw [if_neg h, ixF_any p l (k + 1) (by omega)]; simp [h]

set_option maxRecDepth 100000 in
set_option maxHeartbeats 4000000 in
theorem usIndex_any (key pk : ByteArray) (lv bk : Int) (A : Option Addr) (c : Nat) (l : List Sy) (hl : l.length ≤ 400) (lf : Int) (h1 h2 h3 : Nat) (acc : List Int) (hn : acc.length ≤ 1000000) (hacc : ∀ t ∈ acc, -1000000000000 ≤ t ∧ t ≤ 345686400000) (g d : Nat) (w : World) (hA : SyAt w A l) (hg : GoodS l) (he : UsEnv key pk lv bk A l.length c lf h1 h2 h3 w) (hx : LineAt w g (acc.map (Value.int .i64))) :
    Calls Tryd.prog 51 #[.slice (some ⟨g, 0, none⟩) acc.length d, .func (.func 42) #[] #[.pointer (some ⟨h1, 0, none⟩), .pointer (some ⟨h2, 0, none⟩), .pointer (some ⟨h3, 0, none⟩)]] w fun r w' => r = .returned (.int .i64 (ixF (fun t => decide (lf < expo lv bk t 0 l)) acc 0)) ∧ Below w.heap.size w w' := by
  obtain ⟨p, hpd⟩ : ∃ p : Int → Bool, p = fun t => decide (lf < expo lv bk t 0 l) := ⟨_, rfl⟩
  have CC : Hid (∀ W t, (-1000000000000 ≤ t ∧ t ≤ 345686400000) → SyAt W A l → UsEnv key pk lv bk A l.length c lf h1 h2 h3 W → Calls Tryd.prog 42 #[.int .i64 t, .pointer (some ⟨h1, 0, none⟩), .pointer (some ⟨h2, 0, none⟩), .pointer (some ⟨h3, 0, none⟩)] W fun r w' => r = .returned (.bool (p t)) ∧ Below W.heap.size W w') := by
    show ∀ _, _
    rw [hpd]
    exact fun W t ht hA he => usClos_any key pk lv bk A c l hl lf t h1 h2 h3 W hA hg ht he
  rw [← hpd]
  have HH := Lib.hid (And.intro hA (And.intro he (And.intro hx hacc)))
  clear hA he hx hg hacc hpd
  go_enter Tryd.func51, Tryd.ntmps51
  go_wp2_with fail
  go_loopw [8] (fun kk wr => ∃ k : Nat, k ≤ acc.length ∧ kk = .int .i64 k ∧ Hid (ixF p acc 0 = ixF p (acc.drop k) k) ∧ Hid (Below w.heap.size w wr)) (fun kk _ => acc.length - (intOf kk).toNat)
  case atStart => exact ⟨0, by omega, rfl, by simp [Hid], Below.refl _ _⟩
  case round =>
    obtain ⟨k, hk, rfl, HI, HB⟩ := hrel
    by_cases hlt : k < acc.length
    · obtain ⟨x, hx⟩ : ∃ x, acc[k] = x := ⟨_, rfl⟩
      have hr2 := HH.out.2.2.1.below HB.out
      have hc := hr2.2 k (.int .i64 x) (by simp [hlt, hx])
      have hgl := hr2.1
      have hI : ixF p acc 0 = if p x = true then (k : Int) else ixF p (acc.drop (k + 1)) (k + 1) := HI.out.trans (by rw [drop_at acc hlt, hx]; rfl)
      have HI2 := Lib.hid hI
      have hxb := HH.out.2.2.2 x (by rw [← hx]; exact List.getElem_mem hlt)
      have CP := Lib.hid (fun W' h1 h2 => CC.out W' x hxb h1 h2)
      clear hx hI HI hr2 hxb
      have i1 : (0 : Int) ≤ (k : Int) := by omega
      have i2 : (k : Int) < (acc.length : Int) := by omega
      go_wp2_with fail
      refine (CP.out _ (HH.out.1.below HB.out) (HH.out.2.1.below HB.out)).mono ?_
      rintro e w2 ⟨rfl, b2⟩
      have HB2 := Lib.hid (HB.out.then_below b2 HB.out.size)
      clear b2 HB CP hc
      cases hb : p x
      · have HF : Hid (ixF p acc 0 = ixF p (acc.drop (k + 1)) (k + 1)) := HI2.out.trans (if_neg (by rw [hb]; simp))
        clear HI2
        go_wp2_with fail
        go_roundw
        case rel => exact ⟨k + 1, by omega, by go_num, HF, HB2⟩
        case measure => simp [intOf]; omega
      · have HF : Hid (ixF p acc 0 = k) := HI2.out.trans (if_pos hb)
        clear HI2
        go_wp2_with fail
        go_ret
        exact ⟨ret_int HF.out.symm, HB2.out⟩
    · have HF : Hid (ixF p acc 0 = -1) := HI.out.trans (by rw [List.drop_eq_nil_of_le (by omega)]; rfl)
      go_wp2_with fail
      go_ret
      exact ⟨ret_int HF.out.symm, HB.out⟩

set_option maxRecDepth 100000 in
set_option maxHeartbeats 4000000 in
theorem usContains_any (key pk : ByteArray) (lv bk : Int) (A : Option Addr) (c : Nat) (l : List Sy) (hl : l.length ≤ 400) (lf : Int) (h1 h2 h3 : Nat) (acc : List Int) (hn : acc.length ≤ 1000000) (hacc : ∀ t ∈ acc, -1000000000000 ≤ t ∧ t ≤ 345686400000) (g d : Nat) (w : World) (hA : SyAt w A l) (hg : GoodS l) (he : UsEnv key pk lv bk A l.length c lf h1 h2 h3 w) (hx : LineAt w g (acc.map (Value.int .i64))) :
    Calls Tryd.prog 41 #[.slice (some ⟨g, 0, none⟩) acc.length d, .func (.func 42) #[] #[.pointer (some ⟨h1, 0, none⟩), .pointer (some ⟨h2, 0, none⟩), .pointer (some ⟨h3, 0, none⟩)]] w fun r w' => r = .returned (.bool (acc.any fun t => decide (lf < expo lv bk t 0 l))) ∧ Below w.heap.size w w' := by
  have CI := Lib.hid (usIndex_any key pk lv bk A c l hl lf h1 h2 h3 acc hn hacc g d w hA hg he hx)
  have HX := Lib.hid (ixF_any (fun t => decide (lf < expo lv bk t 0 l)) acc 0 (Int.le_refl _))
  generalize ixF (fun t => decide (lf < expo lv bk t 0 l)) acc 0 = ix at *
  generalize (acc.any fun t => decide (lf < expo lv bk t 0 l)) = r at *
  clear hacc hA hg he hx
  go_enter Tryd.func41, Tryd.ntmps41
  go_wp2_with fail
  refine CI.out.mono ?_
  rintro e w2 ⟨rfl, b2⟩
  have HB2 := Lib.hid b2
  clear b2
  go_wp2_with fail
  go_ret
  exact ⟨ret_bool HX.out, HB2.out⟩
end Go.Proofs.YtopnadilfjakiaaDoor
