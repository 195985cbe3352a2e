/-
  The walks of the checks of bodies and distances. The walks of bodies: sizes, distances, the check, the search. The walks of the reference's faults of products, bodies and gaps.
-/
import Derived.Test.YtmjonmoagpkdiabGreatDoorLmA
import Derived.Test.YtmjonmoagpkdiabGreatDoorShelf
import Derived.Deep.LoopGhost
import Derived.Test.YtmjonmoagpkdiabGreatDoorLmE
namespace Go.Proofs.YtmjonmoagpkdiabGreatDoor
open Go.RowKit


end Go.Proofs.YtmjonmoagpkdiabGreatDoor
namespace Go.Proofs.YtmjonmoagpkdiabGreatDoor
open Go.RowKit

/-- What a search for a key says. -/
def Found {α : Type} (key : α → ByteArray) (l : List α) (t : ByteArray) (e : Ending) : Prop :=
  ∃ (i : Nat) (f : Bool), e = .returned (.tuple #[.int .i64 i, .bool f]) ∧ (f = true → ∃ h : i < l.length, bt (key l[i]) = bt t) ∧ (f = false → ∀ x ∈ l, bt (key x) ≠ bt t)

theorem rising_le {α : Type} {key : α → ByteArray} {l : List α} (h : Rising key l) {i j : Nat} (hij : i ≤ j) (hj : j < l.length) {t : List UInt8} (hlt : bt (key l[j]) < t) : bt (key (l[i]'(by omega))) < t := by
  rcases Nat.lt_or_ge i j with h1 | h1
  · exact List.lt_trans (h i j h1 hj) hlt
  · obtain rfl : i = j := by omega
    exact hlt

end Go.Proofs.YtmjonmoagpkdiabGreatDoor
namespace Go.Proofs.YtmjonmoagpkdiabGreatDoor
open Go.RowKit

theorem keyB_pos {s : ByteArray} (h : keyB s = true) : bt s ≠ [] := by
  unfold keyB at h
  intro e
  rw [show s.data.toList = [] from e] at h
  cases h
theorem leS_empty {s : ByteArray} (h : keyB s = true) : leS s ⟨#[]⟩ = false := by
  rw [leS_false]
  have := keyB_pos h
  show ([] : List UInt8) < bt s
  cases hb : bt s with
  | nil => exact absurd hb this
  | cons a l => simp
def lastS (o : Option ByteArray) : ByteArray := o.getD ⟨#[]⟩
theorem prev_last {s : ByteArray} (h : keyB s = true) (o : Option ByteArray) : o.any (leS s) = leS s (lastS o) := by
  cases o with
  | none => rw [lastS, Option.getD_none, leS_empty h]; rfl
  | some x => rfl
theorem plErr_cons (W H : Int) (p : Pl) (l : List Pl) (o : Option ByteArray) : plErr W H (p :: l) o = if (keyB p.name && keyB p.part) = false then 5 else if leS p.name (lastS o) = true then 7 else if plOk W H p = false then 1 else plErr W H l (some p.name) := by
  rw [plErr]
  by_cases h : (keyB p.name && keyB p.part) = false
  · rw [if_pos h, if_pos h]
  · rw [if_neg h, if_neg h]
    have : keyB p.name = true := by simp at h; exact h.1
    rw [prev_last this]
theorem bodyErr_cons (p : Bo) (l : List Bo) (o : Option ByteArray) : bodyErr (p :: l) o = if keyB p.part = false then 5 else if (inR p.w 1 500000 && inR p.h 1 500000) = false then 1 else if leS p.part (lastS o) = true then 7 else bodyErr l (some p.part) := by
  rw [bodyErr]
  by_cases h : keyB p.part = false
  · rw [if_pos h, if_pos h]
  · rw [if_neg h, if_neg h]
    have : keyB p.part = true := by simpa using h
    rw [prev_last this]


set_option maxHeartbeats 4000000 in
theorem productFault_any (key : ByteArray) (W H : Int) (A : Option Addr) (c : Nat) (l : List Pl) (hl : l.length ≤ 4611686018427387904) (w : World) (hA : PlAt w A l) :
    Calls Tryz.prog 11 #[prod key W H A l.length c] w fun e w' => e = .returned (.int .i64 (prodErr key W H l)) ∧ Below w.heap.size w w' := by
  have HE : Hid (prodErr key W H l = if keyB key = false then 5 else if (inR W 1 500000 && inR H 1 500000) = false then 1 else if 1000 < l.length then 2 else plErr W H l none) := rfl
  have HB0 : Hid (Below w.heap.size w (w.alloc (.cells #[.string key, .int .i64 W, .int .i64 H, .slice A l.length c] 28))) := (Below.refl _ _).alloc (Nat.le_refl _) _
  cases hk : keyB key
  · go_enter Tryz.func11, Tryz.ntmps11
    go_wp2_with fail
    (refine (refKey_any _ _).mono ?_; rintro e w' ⟨rfl, rfl⟩; go_wp2_with fail)
    go_ret
    exact ⟨ret_int (by rw [HE.out, if_pos hk]), HB0.out⟩
  cases hx : inR W 1 500000
  · go_enter Tryz.func11, Tryz.ntmps11
    go_wp2_with fail
    (refine (refKey_any _ _).mono ?_; rintro e w' ⟨rfl, rfl⟩; go_wp2_with fail)
    (refine (refinR _ _ _ _).mono ?_; rintro e w' ⟨rfl, rfl⟩; go_wp2_with fail)
    go_ret
    exact ⟨ret_int (by rw [HE.out, if_neg (by rw [hk]; simp), if_pos (by rw [hx]; rfl)]), HB0.out⟩
  cases hy : inR H 1 500000
  · go_enter Tryz.func11, Tryz.ntmps11
    go_wp2_with fail
    (refine (refKey_any _ _).mono ?_; rintro e w' ⟨rfl, rfl⟩; go_wp2_with fail)
    (refine (refinR _ _ _ _).mono ?_; rintro e w' ⟨rfl, rfl⟩; go_wp2_with fail)
    (refine (refinR _ _ _ _).mono ?_; rintro e w' ⟨rfl, rfl⟩; go_wp2_with fail)
    go_ret
    exact ⟨ret_int (by rw [HE.out, if_neg (by rw [hk]; simp), if_pos (by rw [hx, hy]; rfl)]), HB0.out⟩
  by_cases hn : 1000 < l.length
  · go_enter Tryz.func11, Tryz.ntmps11
    go_wp2_with fail
    (refine (refKey_any _ _).mono ?_; rintro e w' ⟨rfl, rfl⟩; go_wp2_with fail)
    (refine (refinR _ _ _ _).mono ?_; rintro e w' ⟨rfl, rfl⟩; go_wp2_with fail)
    (refine (refinR _ _ _ _).mono ?_; rintro e w' ⟨rfl, rfl⟩; go_wp2_with fail)
    go_ret
    exact ⟨ret_int (by rw [HE.out, if_neg (by rw [hk]; simp), if_neg (by rw [hx, hy]; simp), if_pos hn]), HB0.out⟩
  have HE2 : Hid (prodErr key W H l = plErr W H l none) := by
    refine HE.out.trans ?_
    rw [if_neg (by rw [hk]; simp), if_neg (by rw [hx, hy]; simp), if_neg hn]
  clear HE
  go_enter Tryz.func11, Tryz.ntmps11
  go_wp2_with fail
  (refine (refKey_any _ _).mono ?_; rintro e w' ⟨rfl, rfl⟩; go_wp2_with fail)
  (refine (refinR _ _ _ _).mono ?_; rintro e w' ⟨rfl, rfl⟩; go_wp2_with fail)
  (refine (refinR _ _ _ _).mono ?_; rintro e w' ⟨rfl, rfl⟩; go_wp2_with fail)
  clear hk hx hy
  go_loopw [3, 30] (fun s3 kk wr => ∃ k : Nat, k ≤ l.length ∧ kk = .int .i64 k ∧ s3 = .string (lastS (prevOf l k)) ∧ w.heap.size < wr.heap.size ∧ Hid (Below w.heap.size w wr ∧ wr.heap[w.heap.size]? = some (.cells #[.string key, .int .i64 W, .int .i64 H, .slice A l.length c] 28 (0, 0))) ∧ Hid (plErr W H l none = plErr W H (l.drop k) (prevOf l k))) (fun _ kk _ => l.length - (intOf kk).toNat)
  case atStart => exact ⟨0, by omega, rfl, rfl, by simp, ⟨HB0.out, blk_new w _ rfl⟩, rfl⟩
  case round =>
    obtain ⟨k, hk, rfl, rfl, hsz, HB, HO⟩ := hrel
    by_cases hlt : k < l.length
    · obtain ⟨p, hp⟩ : ∃ p, l[k] = p := ⟨_, rfl⟩
      have hD : plErr W H l none = plErr W H (p :: l.drop (k + 1)) (prevOf l k) := HO.out.trans (by rw [drop_at l hlt, hp])
      rw [plErr_cons] at hD
      have hN : prevOf l (k + 1) = some p.name := by simp [prevOf, hlt, hp]
      generalize prevOf l k = pv at *
      obtain ⟨ls, hls⟩ : ∃ ls, lastS pv = ls := ⟨_, rfl⟩
      rw [hls] at hD
      rw [hls]
      rcases hA with rfl | ⟨g, rfl, hrow⟩
      · simp at hlt
      obtain ⟨p0, p1, p2, p3, p4⟩ := row_pl (hrow.below HB.out.1) hlt
      rw [hp] at p0 p1 p2 p3 p4
      obtain ⟨nm, pt, x, y, q⟩ := p
      dsimp only at p0 p1 p2 p3 p4 hN hD
      obtain ⟨b0, b1, b2, b3⟩ := blk4 HB.out.2
      have hg1 : g < wr.heap.size := Nat.lt_of_lt_of_le hrow.1 HB.out.1.size
      have HD := Lib.hid hD
      have HN := Lib.hid hN
      have HROW := Lib.hid hrow
      have HP : Hid (plOk W H ⟨nm, pt, x, y, q⟩ = (inR x 0 W && inR y 0 H && inR q 0 3)) := rfl
      have HBE : Hid (∀ o, Below w.heap.size w (wr.alloc o)) := fun o => HB.out.1.alloc HB.out.1.size _
      clear hD hN hp hrow HO hls
      cases hk1 : keyB nm
      · have HF : Hid (prodErr key W H l = 5) := by
          refine HE2.out.trans (HD.out.trans ?_)
          rw [if_pos (by rw [hk1]; rfl)]
        go_wp2_with fail
        (refine (refKey_any _ _).mono ?_; rintro e w' ⟨rfl, rfl⟩; go_wp2_with fail)
        go_ret
        exact ⟨ret_int HF.out.symm, HBE.out _⟩
      cases hk2 : keyB pt
      · have HF : Hid (prodErr key W H l = 5) := by
          refine HE2.out.trans (HD.out.trans ?_)
          rw [if_pos (by rw [hk1, hk2]; rfl)]
        go_wp2_with fail
        (refine (refKey_any _ _).mono ?_; rintro e w' ⟨rfl, rfl⟩; go_wp2_with fail)
        (refine (refKey_any _ _).mono ?_; rintro e w' ⟨rfl, rfl⟩; go_wp2_with fail)
        go_ret
        exact ⟨ret_int HF.out.symm, HBE.out _⟩
      have HLES : leS nm ls = (Op.bytesLess nm.toList ls.toList || (nm.toList == ls.toList)) := rfl
      cases ho : leS nm ls
      case true =>
        have HF : Hid (prodErr key W H l = 7) := by
          refine HE2.out.trans (HD.out.trans ?_)
          rw [if_neg (by rw [hk1, hk2]; simp), if_pos ho]
        rw [ho] at HLES
        have hl1 := HLES.symm
        clear ho HLES
        go_wp2_with fail
        (refine (refKey_any _ _).mono ?_; rintro e w' ⟨rfl, rfl⟩; go_wp2_with fail)
        (refine (refKey_any _ _).mono ?_; rintro e w' ⟨rfl, rfl⟩; go_wp2_with fail)
        go_ret
        exact ⟨ret_int HF.out.symm, HBE.out _⟩
      have HD1 : Hid (plErr W H l none = if plOk W H ⟨nm, pt, x, y, q⟩ = false then 1 else plErr W H (l.drop (k + 1)) (some nm)) := by
        refine HD.out.trans ?_
        rw [if_neg (by rw [hk1, hk2]; simp), if_neg (by rw [ho]; simp)]
      rw [ho] at HLES
      have hl0 := HLES.symm
      obtain ⟨hl1, hl2⟩ := Bool.or_eq_false_iff.mp HLES.symm
      clear ho HLES
      cases hx : inR x 0 W
      · have HF : Hid (prodErr key W H l = 1) := by
          refine HE2.out.trans (HD1.out.trans ?_)
          rw [if_pos (by rw [HP.out, hx]; rfl)]
        go_wp2_with fail
        (refine (refKey_any _ _).mono ?_; rintro e w' ⟨rfl, rfl⟩; go_wp2_with fail)
        (refine (refKey_any _ _).mono ?_; rintro e w' ⟨rfl, rfl⟩; go_wp2_with fail)
        (refine (refinR _ _ _ _).mono ?_; rintro e w' ⟨rfl, rfl⟩; go_wp2_with fail)
        go_ret
        exact ⟨ret_int HF.out.symm, HBE.out _⟩
      cases hy : inR y 0 H
      · have HF : Hid (prodErr key W H l = 1) := by
          refine HE2.out.trans (HD1.out.trans ?_)
          rw [if_pos (by rw [HP.out, hx, hy]; rfl)]
        go_wp2_with fail
        (refine (refKey_any _ _).mono ?_; rintro e w' ⟨rfl, rfl⟩; go_wp2_with fail)
        (refine (refKey_any _ _).mono ?_; rintro e w' ⟨rfl, rfl⟩; go_wp2_with fail)
        (refine (refinR _ _ _ _).mono ?_; rintro e w' ⟨rfl, rfl⟩; go_wp2_with fail)
        (refine (refinR _ _ _ _).mono ?_; rintro e w' ⟨rfl, rfl⟩; go_wp2_with fail)
        go_ret
        exact ⟨ret_int HF.out.symm, HBE.out _⟩
      cases hq : inR q 0 3
      · have HF : Hid (prodErr key W H l = 1) := by
          refine HE2.out.trans (HD1.out.trans ?_)
          rw [if_pos (by rw [HP.out, hx, hy, hq]; rfl)]
        go_wp2_with fail
        (refine (refKey_any _ _).mono ?_; rintro e w' ⟨rfl, rfl⟩; go_wp2_with fail)
        (refine (refKey_any _ _).mono ?_; rintro e w' ⟨rfl, rfl⟩; go_wp2_with fail)
        (refine (refinR _ _ _ _).mono ?_; rintro e w' ⟨rfl, rfl⟩; go_wp2_with fail)
        (refine (refinR _ _ _ _).mono ?_; rintro e w' ⟨rfl, rfl⟩; go_wp2_with fail)
        (refine (refinR _ _ _ _).mono ?_; rintro e w' ⟨rfl, rfl⟩; go_wp2_with fail)
        go_ret
        exact ⟨ret_int HF.out.symm, HBE.out _⟩
      have HF : Hid (plErr W H l none = plErr W H (l.drop (k + 1)) (some nm)) := by
        refine HD1.out.trans ?_
        rw [if_neg (by rw [HP.out, hx, hy, hq]; simp)]
      go_wp2_with fail
      (refine (refKey_any _ _).mono ?_; rintro e w' ⟨rfl, rfl⟩; go_wp2_with fail)
      (refine (refKey_any _ _).mono ?_; rintro e w' ⟨rfl, rfl⟩; go_wp2_with fail)
      (refine (refinR _ _ _ _).mono ?_; rintro e w' ⟨rfl, rfl⟩; go_wp2_with fail)
      (refine (refinR _ _ _ _).mono ?_; rintro e w' ⟨rfl, rfl⟩; go_wp2_with fail)
      (refine (refinR _ _ _ _).mono ?_; rintro e w' ⟨rfl, rfl⟩; go_wp2_with fail)
      go_roundw
      case rel => exact ⟨k + 1, by omega, by go_num, by rw [HN.out]; rfl, by simp; omega, ⟨HBE.out _, blk_alloc HB.out.2 _⟩, HF.out.trans (by rw [HN.out])⟩
      case measure => simp [intOf]; omega
    · have HALL : Hid (prodErr key W H l = 0) := by
        refine HE2.out.trans (HO.out.trans ?_)
        rw [List.drop_eq_nil_of_le (by omega)]
        rfl
      go_wp2_with fail
      go_ret
      exact ⟨ret_int HALL.out.symm, HB.out.1⟩
end Go.Proofs.YtmjonmoagpkdiabGreatDoor
