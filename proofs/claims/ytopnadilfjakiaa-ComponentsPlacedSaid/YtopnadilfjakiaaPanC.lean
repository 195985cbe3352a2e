/-
  The walks of the checks of panels.
-/
import Derived.Test.YtopnadilfjakiaaPanM
import Derived.Test.YtopnadilfjakiaaRefP
namespace Go.Proofs.Ytopnadilfjakiaa
open Go.RowKit


theorem all_drop_bad {l : List Sl} {k : Nat} (h : k < l.length) (hb : slOk l[k] = false) : l.all slOk = false := by
  rw [List.all_eq_false]
  exact ⟨l[k], List.getElem_mem h, by rw [hb]; simp⟩

set_option maxHeartbeats 4000000 in
theorem checkPanel_any (key : ByteArray) (W H : Int) (A : Option Addr) (c : Nat) (l : List Pl) (hl : l.length ≤ 4611686018427387904) (PW PH : Int) (B : Option Addr) (d : Nat) (s : List Sl) (hsl : s.length ≤ 4611686018427387904) (w : World) (hA : PlAt w A l) (hB : SlAt w B s) :
    Calls Try.prog 20 #[prod key W H A l.length c, pan PW PH B s.length d] w fun e w' => e = .returned (.int .i64 (panErr key W H l PW PH s)) ∧ Below w.heap.size w w' := by
  have HE : Hid (panErr key W H l PW PH s = if prodErr key W H l = 0 then pnErr PW PH s else prodErr key W H l) := rfl
  have HN : Hid (pnErr PW PH s = if (inR PW 1 500000 && inR PH 1 500000) = false then 1 else if 100 < s.length then 2 else if s.all slOk = true then 0 else 1) := rfl
  have CP := Lib.hid (fun (W' : World) (h : PlAt W' A l) => checkProduct_any key W H A c l hl W' h)
  generalize prodErr key W H l = e1 at *
  have kP : ((w.alloc (Obj.cells #[.string key, .int .i64 W, .int .i64 H, .slice A l.length c] 28)).alloc (Obj.cells #[.int .i64 PW, .int .i64 PH, .slice B s.length d] 32)).heap[w.heap.size + 1]? = some (.cells #[.int .i64 PW, .int .i64 PH, .slice B s.length d] 32 (0, 0)) := blk_new _ _ (by simp)
  have bP : Below w.heap.size w ((w.alloc (Obj.cells #[.string key, .int .i64 W, .int .i64 H, .slice A l.length c] 28)).alloc (Obj.cells #[.int .i64 PW, .int .i64 PH, .slice B s.length d] 32)) := ((Below.refl _ _).alloc (Nat.le_refl _) _).alloc (by simp) _
  have HP := Lib.hid (And.intro kP bP)
  clear kP bP
  cases h1 : (e1 == 0)
  · have h2 : (e1 != 0) = true := by simpa using h1
    go_enter Try.func20, Try.ntmps20
    go_wp2_with fail
    refine (CP.out _ (hA.below HP.out.2)).mono ?_
    rintro e w1 ⟨rfl, b1⟩
    have HB1 := Lib.hid (HP.out.2.then_below b1 HP.out.2.size)
    clear b1
    go_wp2_with fail
    go_ret
    exact ⟨ret_int (by rw [HE.out, if_neg (by simpa using h1)]), HB1.out⟩
  obtain rfl : e1 = 0 := by simpa using h1
  have HE2 : Hid (panErr key W H l PW PH s = pnErr PW PH s) := HE.out.trans (if_pos rfl)
  clear HE h1
  cases hz : (inR PW 1 500000 && inR PH 1 500000)
  · have HS := Lib.hid hz
    clear hz
    go_enter Try.func20, Try.ntmps20
    go_wp2_with fail
    refine (CP.out _ (hA.below HP.out.2)).mono ?_
    rintro e w1 ⟨rfl, b1⟩
    have HB1 := Lib.hid (HP.out.2.then_below b1 HP.out.2.size)
    obtain ⟨c0, c1, c2, _⟩ := blk3 (blk_below b1 HP.out.1)
    clear b1
    go_wp2_with fail
    refine (vsize_any _ _ _).mono ?_
    rw [HS.out]
    rintro e w2 ⟨rfl, rfl⟩
    go_wp2_with fail
    go_ret
    exact ⟨ret_int (by rw [HE2.out, HN.out, if_pos HS.out]), HB1.out⟩
  have HS := Lib.hid hz
  clear hz
  by_cases hn : 100 < s.length
  · go_enter Try.func20, Try.ntmps20
    go_wp2_with fail
    refine (CP.out _ (hA.below HP.out.2)).mono ?_
    rintro e w1 ⟨rfl, b1⟩
    have HB1 := Lib.hid (HP.out.2.then_below b1 HP.out.2.size)
    obtain ⟨c0, c1, c2, _⟩ := blk3 (blk_below b1 HP.out.1)
    clear b1
    go_wp2_with fail
    refine (vsize_any _ _ _).mono ?_
    rw [HS.out]
    rintro e w2 ⟨rfl, rfl⟩
    go_wp2_with fail
    go_ret
    exact ⟨ret_int (by rw [HE2.out, HN.out, if_neg (by rw [HS.out]; simp), if_pos hn]), HB1.out⟩
  have HN2 : Hid (panErr key W H l PW PH s = if s.all slOk = true then 0 else 1) := HE2.out.trans (HN.out.trans (by rw [if_neg (by rw [HS.out]; simp), if_neg hn]))
  clear HE2 HN
  go_enter Try.func20, Try.ntmps20
  go_wp2_with fail
  refine (CP.out _ (hA.below HP.out.2)).mono ?_
  rintro e w1 ⟨rfl, b1⟩
  have HB1 := Lib.hid (HP.out.2.then_below b1 HP.out.2.size)
  obtain ⟨c0, c1, c2, _⟩ := blk3 (blk_below b1 HP.out.1)
  clear b1
  go_wp2_with fail
  refine (vsize_any _ _ _).mono ?_
  rw [HS.out]
  rintro e w2 ⟨rfl, rfl⟩
  go_wp2_with fail
  clear c0 c1 c2
  go_loopw [26] (fun kk wr => ∃ k : Nat, k ≤ s.length ∧ kk = .int .i64 k ∧ Hid (Below w.heap.size w wr) ∧ Hid (∀ j (h : j < s.length), j < k → slOk (s[j]'h) = true)) (fun kk _ => s.length - (intOf kk).toNat)
  case atStart => exact ⟨0, by omega, rfl, HB1.out, fun j _ h => by omega⟩
  case round =>
    clear HB1
    obtain ⟨k, hk, rfl, HB, HO⟩ := hrel
    by_cases hlt : k < s.length
    · obtain ⟨p, hp⟩ : ∃ p, s[k] = p := ⟨_, rfl⟩
      rcases hB with rfl | ⟨g, rfl, hrow⟩
      · simp at hlt
      have hr2 := hrow.below HB.out
      obtain ⟨p0, p1, p2, p3⟩ := row_sl hr2 hlt
      rw [hp] at p0 p1 p2 p3
      have hg : g < wr.heap.size := hr2.1
      have HPP := Lib.hid hp
      have HROW := Lib.hid hrow
      clear hp hrow hr2
      obtain ⟨x, y, q, sk⟩ := p
      dsimp only at p0 p1 p2 p3
      have HK : Hid (slOk ⟨x, y, q, sk⟩ = (inR x 0 500000 && inR y 0 500000 && inR q 0 3)) := rfl
      have HBE : Hid (∀ o, Below w.heap.size w (wr.alloc o)) := fun o => HB.out.alloc HB.out.size _
      cases hx : inR x 0 500000
      · have HF : Hid (panErr key W H l PW PH s = 1) := HN2.out.trans (by rw [all_drop_bad hlt (by rw [HPP.out, HK.out, hx]; rfl)]; rfl)
        go_wp2_with fail
        (refine (vdist_any _ _).mono ?_; rintro e w' ⟨rfl, rfl⟩; go_wp2_with fail)
        go_ret
        exact ⟨ret_int HF.out.symm, HBE.out _⟩
      cases hy : inR y 0 500000
      · have HF : Hid (panErr key W H l PW PH s = 1) := HN2.out.trans (by rw [all_drop_bad hlt (by rw [HPP.out, HK.out, hx, hy]; rfl)]; rfl)
        go_wp2_with fail
        (refine (vdist_any _ _).mono ?_; rintro e w' ⟨rfl, rfl⟩; go_wp2_with fail)
        (refine (vdist_any _ _).mono ?_; rintro e w' ⟨rfl, rfl⟩; go_wp2_with fail)
        go_ret
        exact ⟨ret_int HF.out.symm, HBE.out _⟩
      cases hq : inR q 0 3
      · have HF : Hid (panErr key W H l PW PH s = 1) := HN2.out.trans (by rw [all_drop_bad hlt (by rw [HPP.out, HK.out, hx, hy, hq]; rfl)]; rfl)
        go_wp2_with fail
        (refine (vdist_any _ _).mono ?_; rintro e w' ⟨rfl, rfl⟩; go_wp2_with fail)
        (refine (vdist_any _ _).mono ?_; rintro e w' ⟨rfl, rfl⟩; go_wp2_with fail)
        (refine (vquarter_any _ _).mono ?_; rintro e w' ⟨rfl, rfl⟩; go_wp2_with fail)
        go_ret
        exact ⟨ret_int HF.out.symm, HBE.out _⟩
      have HOK : Hid (slOk (s[k]'hlt) = true) := by show _ = true; rw [HPP.out, HK.out, hx, hy, hq]; rfl
      go_wp2_with fail
      (refine (vdist_any _ _).mono ?_; rintro e w' ⟨rfl, rfl⟩; go_wp2_with fail)
      (refine (vdist_any _ _).mono ?_; rintro e w' ⟨rfl, rfl⟩; go_wp2_with fail)
      (refine (vquarter_any _ _).mono ?_; rintro e w' ⟨rfl, rfl⟩; go_wp2_with fail)
      go_roundw
      case rel => exact ⟨k + 1, by omega, by go_num, HBE.out _, fun j h hj => by
        by_cases e : j = k
        · subst e; exact HOK.out
        · exact HO.out j h (by omega)⟩
      case measure => simp [intOf]; omega
    · have HALL : Hid (panErr key W H l PW PH s = 0) := HN2.out.trans (if_pos (List.all_eq_true.mpr fun x hx => by
        obtain ⟨j, hj, rfl⟩ := List.getElem_of_mem hx
        exact HO.out j hj (by omega)))
      go_wp2_with fail
      go_ret
      exact ⟨ret_int HALL.out.symm, HB.out⟩

set_option maxHeartbeats 4000000 in
theorem panelFault1_any (PW PH : Int) (B : Option Addr) (d : Nat) (s : List Sl) (hsl : s.length ≤ 4611686018427387904) (w : World) (hB : SlAt w B s) :
    Calls Try.prog 34 #[pan PW PH B s.length d] w fun e w' => e = .returned (.int .i64 (pnErr PW PH s)) ∧ Below w.heap.size w w' := by
  have HN : Hid (pnErr PW PH s = if (inR PW 1 500000 && inR PH 1 500000) = false then 1 else if 100 < s.length then 2 else if s.all slOk = true then 0 else 1) := rfl
  have HP : Hid (Below w.heap.size w (w.alloc (Obj.cells #[.int .i64 PW, .int .i64 PH, .slice B s.length d] 32))) := (Below.refl _ _).alloc (Nat.le_refl _) _
  cases hx : inR PW 1 500000
  · go_enter Try.func34, Try.ntmps34
    go_wp2_with fail
    (refine (refinR _ _ _ _).mono ?_; rintro e w' ⟨rfl, rfl⟩; go_wp2_with fail)
    go_ret
    exact ⟨ret_int (by rw [HN.out, if_pos (by rw [hx]; rfl)]), HP.out⟩
  cases hy : inR PH 1 500000
  · go_enter Try.func34, Try.ntmps34
    go_wp2_with fail
    (refine (refinR _ _ _ _).mono ?_; rintro e w' ⟨rfl, rfl⟩; go_wp2_with fail)
    (refine (refinR _ _ _ _).mono ?_; rintro e w' ⟨rfl, rfl⟩; go_wp2_with fail)
    go_ret
    exact ⟨ret_int (by rw [HN.out, if_pos (by rw [hx, hy]; rfl)]), HP.out⟩
  by_cases hn : 100 < s.length
  · go_enter Try.func34, Try.ntmps34
    go_wp2_with fail
    (refine (refinR _ _ _ _).mono ?_; rintro e w' ⟨rfl, rfl⟩; go_wp2_with fail)
    (refine (refinR _ _ _ _).mono ?_; rintro e w' ⟨rfl, rfl⟩; go_wp2_with fail)
    go_ret
    exact ⟨ret_int (by rw [HN.out, if_neg (by rw [hx, hy]; simp), if_pos hn]), HP.out⟩
  have HN2 : Hid (pnErr PW PH s = if s.all slOk = true then 0 else 1) := HN.out.trans (by rw [if_neg (by rw [hx, hy]; simp), if_neg hn])
  clear HN
  go_enter Try.func34, Try.ntmps34
  go_wp2_with fail
  (refine (refinR _ _ _ _).mono ?_; rintro e w' ⟨rfl, rfl⟩; go_wp2_with fail)
  (refine (refinR _ _ _ _).mono ?_; rintro e w' ⟨rfl, rfl⟩; go_wp2_with fail)
  clear hx hy
  go_loopw [24] (fun kk wr => ∃ k : Nat, k ≤ s.length ∧ kk = .int .i64 k ∧ Hid (Below w.heap.size w wr) ∧ Hid (∀ j (h : j < s.length), j < k → slOk (s[j]'h) = true)) (fun kk _ => s.length - (intOf kk).toNat)
  case atStart => exact ⟨0, by omega, rfl, HP.out, fun j _ h => by omega⟩
  case round =>
    clear HP
    obtain ⟨k, hk, rfl, HB, HO⟩ := hrel
    by_cases hlt : k < s.length
    · obtain ⟨p, hp⟩ : ∃ p, s[k] = p := ⟨_, rfl⟩
      rcases hB with rfl | ⟨g, rfl, hrow⟩
      · simp at hlt
      have hr2 := hrow.below HB.out
      obtain ⟨p0, p1, p2, p3⟩ := row_sl hr2 hlt
      rw [hp] at p0 p1 p2 p3
      have hg : g < wr.heap.size := hr2.1
      have HPP := Lib.hid hp
      have HROW := Lib.hid hrow
      clear hp hrow hr2
      obtain ⟨x, y, q, sk⟩ := p
      dsimp only at p0 p1 p2 p3
      have HK : Hid (slOk ⟨x, y, q, sk⟩ = (inR x 0 500000 && inR y 0 500000 && inR q 0 3)) := rfl
      have HBE : Hid (∀ o, Below w.heap.size w (wr.alloc o)) := fun o => HB.out.alloc HB.out.size _
      cases hx : inR x 0 500000
      · have HF : Hid (pnErr PW PH s = 1) := HN2.out.trans (by rw [all_drop_bad hlt (by rw [HPP.out, HK.out, hx]; rfl)]; rfl)
        go_wp2_with fail
        (refine (refinR _ _ _ _).mono ?_; rintro e w' ⟨rfl, rfl⟩; go_wp2_with fail)
        go_ret
        exact ⟨ret_int HF.out.symm, HBE.out _⟩
      cases hy : inR y 0 500000
      · have HF : Hid (pnErr PW PH s = 1) := HN2.out.trans (by rw [all_drop_bad hlt (by rw [HPP.out, HK.out, hx, hy]; rfl)]; rfl)
        go_wp2_with fail
        (refine (refinR _ _ _ _).mono ?_; rintro e w' ⟨rfl, rfl⟩; go_wp2_with fail)
        (refine (refinR _ _ _ _).mono ?_; rintro e w' ⟨rfl, rfl⟩; go_wp2_with fail)
        go_ret
        exact ⟨ret_int HF.out.symm, HBE.out _⟩
      cases hq : inR q 0 3
      · have HF : Hid (pnErr PW PH s = 1) := HN2.out.trans (by rw [all_drop_bad hlt (by rw [HPP.out, HK.out, hx, hy, hq]; rfl)]; rfl)
        go_wp2_with fail
        (refine (refinR _ _ _ _).mono ?_; rintro e w' ⟨rfl, rfl⟩; go_wp2_with fail)
        (refine (refinR _ _ _ _).mono ?_; rintro e w' ⟨rfl, rfl⟩; go_wp2_with fail)
        (refine (refinR _ _ _ _).mono ?_; rintro e w' ⟨rfl, rfl⟩; go_wp2_with fail)
        go_ret
        exact ⟨ret_int HF.out.symm, HBE.out _⟩
      have HOK : Hid (slOk (s[k]'hlt) = true) := by show _ = true; rw [HPP.out, HK.out, hx, hy, hq]; rfl
      go_wp2_with fail
      (refine (refinR _ _ _ _).mono ?_; rintro e w' ⟨rfl, rfl⟩; go_wp2_with fail)
      (refine (refinR _ _ _ _).mono ?_; rintro e w' ⟨rfl, rfl⟩; go_wp2_with fail)
      (refine (refinR _ _ _ _).mono ?_; rintro e w' ⟨rfl, rfl⟩; go_wp2_with fail)
      go_roundw
      case rel => exact ⟨k + 1, by omega, by go_num, HBE.out _, fun j h hj => by
        by_cases e : j = k
        · subst e; exact HOK.out
        · exact HO.out j h (by omega)⟩
      case measure => simp [intOf]; omega
    · have HALL : Hid (pnErr PW PH s = 0) := HN2.out.trans (if_pos (List.all_eq_true.mpr fun x hx => by
        obtain ⟨j, hj, rfl⟩ := List.getElem_of_mem hx
        exact HO.out j hj (by omega)))
      go_wp2_with fail
      go_ret
      exact ⟨ret_int HALL.out.symm, HB.out⟩

set_option maxHeartbeats 2000000 in
theorem panelFault_any (key : ByteArray) (W H : Int) (A : Option Addr) (c : Nat) (l : List Pl) (hl : l.length ≤ 4611686018427387904) (PW PH : Int) (B : Option Addr) (d : Nat) (s : List Sl) (hsl : s.length ≤ 4611686018427387904) (w : World) (hA : PlAt w A l) (hB : SlAt w B s) :
    Calls Try.prog 12 #[prod key W H A l.length c, pan PW PH B s.length d] w fun e w' => e = .returned (.int .i64 (panErr key W H l PW PH s)) ∧ Below w.heap.size w w' := by
  have HE : Hid (panErr key W H l PW PH s = if prodErr key W H l = 0 then pnErr PW PH s else prodErr key W H l) := rfl
  have CP := Lib.hid (fun (W' : World) (h : PlAt W' A l) => productFault_any key W H A c l hl W' h)
  have CQ := Lib.hid (fun (W' : World) (h : SlAt W' B s) => panelFault1_any PW PH B d s hsl W' h)
  generalize prodErr key W H l = e1 at *
  generalize pnErr PW PH s = e2 at *
  have kP : ((w.alloc (Obj.cells #[.string key, .int .i64 W, .int .i64 H, .slice A l.length c] 28)).alloc (Obj.cells #[.int .i64 PW, .int .i64 PH, .slice B s.length d] 32)).heap[w.heap.size + 1]? = some (.cells #[.int .i64 PW, .int .i64 PH, .slice B s.length d] 32 (0, 0)) := blk_new _ _ (by simp)
  have bP : Below w.heap.size w ((w.alloc (Obj.cells #[.string key, .int .i64 W, .int .i64 H, .slice A l.length c] 28)).alloc (Obj.cells #[.int .i64 PW, .int .i64 PH, .slice B s.length d] 32)) := ((Below.refl _ _).alloc (Nat.le_refl _) _).alloc (by simp) _
  have HP := Lib.hid (And.intro kP bP)
  clear kP bP
  cases h1 : (e1 == 0)
  · have h2 : (e1 != 0) = true := by simpa using h1
    go_enter Try.func12, Try.ntmps12
    go_wp2_with fail
    refine (CP.out _ (hA.below HP.out.2)).mono ?_
    rintro e w1 ⟨rfl, b1⟩
    have HB1 := Lib.hid (HP.out.2.then_below b1 HP.out.2.size)
    clear b1
    go_wp2_with fail
    go_ret
    exact ⟨ret_int (by rw [HE.out, if_neg (by simpa using h1)]), HB1.out⟩
  obtain rfl : e1 = 0 := by simpa using h1
  have HE2 : Hid (panErr key W H l PW PH s = e2) := HE.out.trans (if_pos rfl)
  clear HE h1
  go_enter Try.func12, Try.ntmps12
  go_wp2_with fail
  refine (CP.out _ (hA.below HP.out.2)).mono ?_
  rintro e w1 ⟨rfl, b1⟩
  have HB1 := Lib.hid (HP.out.2.then_below b1 HP.out.2.size)
  obtain ⟨c0, c1, c2, _⟩ := blk3 (blk_below b1 HP.out.1)
  have hs1 : w.heap.size + 1 < w1.heap.size := by have := b1.size; simp at this; omega
  clear b1
  go_wp2_with fail
  refine (CQ.out _ (hB.below HB1.out)).mono ?_
  rintro e w2 ⟨rfl, b2⟩
  go_wp2_with fail
  go_ret
  exact ⟨ret_int HE2.out.symm, HB1.out.then_below b2 HB1.out.size⟩
end Go.Proofs.Ytopnadilfjakiaa
