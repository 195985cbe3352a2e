/-
  The walk of the check of products.
-/
import Derived.Test.YtalconjnjaffkaaGreatDoorWord
import Derived.Test.YtalconjnjaffkaaGreatDoorFid
namespace Go.Proofs.YtalconjnjaffkaaGreatDoor
open Go.RowKit

structure Pl where
  name : ByteArray
  part : ByteArray
  x : Int
  y : Int
  q : Int

def Pl.cells (p : Pl) : List Value := [.string p.name, .string p.part, .int .i64 p.x, .int .i64 p.y, .int .i64 p.q]
def flatP (l : List Pl) : List Value := l.flatMap Pl.cells
theorem flatP_len (l : List Pl) : (flatP l).length = l.length * 5 := by
  induction l with
  | nil => rfl
  | cons p l ih => simp only [flatP, List.flatMap_cons, List.length_append] at ih ⊢; simp [ih, Pl.cells]; omega
theorem flatP_append (a b : List Pl) : flatP (a ++ b) = flatP a ++ flatP b := List.flatMap_append
theorem flatP_at (l : List Pl) : ∀ (k : Nat) (h : k < l.length) (j : Nat), j < 5 → (flatP l)[k * 5 + j]? = l[k].cells[j]? := by
  induction l with
  | nil => intro k h; simp at h
  | cons p l ih =>
    intro k h j hj
    have e : flatP (p :: l) = p.cells ++ flatP l := rfl
    have hc : p.cells.length = 5 := rfl
    cases k with
    | zero => rw [e, List.getElem?_append_left (by omega)]; simp
    | succ k =>
      have := ih k (by simpa using h) j hj
      rw [e, List.getElem?_append_right (by omega), show (k + 1) * 5 + j - p.cells.length = k * 5 + j by omega, this]
      rfl
theorem flatP_one (l : List Pl) : ∀ u ∈ flatP l, u.oneCell' = true := by
  intro u hu
  simp only [flatP, List.mem_flatMap] at hu
  obtain ⟨p, _, hp⟩ := hu
  simp [Pl.cells] at hp
  rcases hp with rfl | rfl | rfl | rfl | rfl <;> rfl

/-- A row of cells at a block's beginning. -/
def LineAt (w : World) (g : Nat) (l : List Value) : Prop := g < w.heap.size ∧ ∀ j u, l[j]? = some u → w.cell? ⟨g, j, none⟩ = some u
theorem LineAt.below {w w' : World} {g : Nat} {l : List Value} (h : LineAt w g l) (hb : Below w.heap.size w w') : LineAt w' g l :=
  ⟨Nat.lt_of_lt_of_le h.1 hb.size, fun j u hu => (hb.cell (p := ⟨g, j, none⟩) h.1).trans (h.2 j u hu)⟩
/-- Placements that come in. -/
def PlAt (w : World) (A : Option Addr) (l : List Pl) : Prop := l = [] ∨ ∃ g : Nat, A = some ⟨g, 0, none⟩ ∧ LineAt w g (flatP l)
theorem PlAt.below {w w' : World} {A : Option Addr} {l : List Pl} (h : PlAt w A l) (hb : Below w.heap.size w w') : PlAt w' A l := by
  rcases h with h | ⟨g, e, h⟩
  · exact .inl h
  · exact .inr ⟨g, e, h.below hb⟩
theorem row_pl {w : World} {g : Nat} {l : List Pl} (h : LineAt w g (flatP l)) {k : Nat} (hk : k < l.length) :
    w.cell? ⟨g, k * 5, none⟩ = some (.string l[k].name) ∧ w.cell? ⟨g, k * 5 + 1, none⟩ = some (.string l[k].part) ∧ w.cell? ⟨g, k * 5 + 2, none⟩ = some (.int .i64 l[k].x) ∧
    w.cell? ⟨g, k * 5 + 3, none⟩ = some (.int .i64 l[k].y) ∧ w.cell? ⟨g, k * 5 + 4, none⟩ = some (.int .i64 l[k].q) :=
  ⟨h.2 _ _ (flatP_at l k hk 0 (by omega)), h.2 _ _ (flatP_at l k hk 1 (by omega)), h.2 _ _ (flatP_at l k hk 2 (by omega)), h.2 _ _ (flatP_at l k hk 3 (by omega)), h.2 _ _ (flatP_at l k hk 4 (by omega))⟩

def inR (n lo hi : Int) : Bool := decide (lo ≤ n) && decide (n ≤ hi)
theorem withinR (n lo hi : Int) (w : World) : Calls Tryz.prog 127 #[.int .i64 n, .int .i64 lo, .int .i64 hi] w fun e w' => e = .returned (.bool (inR n lo hi)) ∧ w = w' := within_any n lo hi w
theorem refinR (n lo hi : Int) (w : World) : Calls Tryz.prog 85 #[.int .i64 n, .int .i64 lo, .int .i64 hi] w fun e w' => e = .returned (.bool (inR n lo hi)) ∧ w = w' := in_any n lo hi w

set_option maxHeartbeats 400000 in
theorem vsize_any (a b : Int) (w : World) : Calls Tryz.prog 140 #[.int .i64 a, .int .i64 b] w fun e w' => e = .returned (.bool (inR a 1 500000 && inR b 1 500000)) ∧ w = w' := by
  cases h1 : inR a 1 500000 <;> cases h2 : inR b 1 500000
  all_goals
    go_enter Tryz.func140, Tryz.ntmps140
    go_wp2_with fail
    repeat (refine (withinR _ _ _ _).mono ?_; rintro e w' ⟨rfl, rfl⟩; go_wp2_with fail)
    go_ret
    exact ⟨rfl, rfl⟩
set_option maxHeartbeats 400000 in
theorem vquarter_any (a : Int) (w : World) : Calls Tryz.prog 141 #[.int .i64 a] w fun e w' => e = .returned (.bool (inR a 0 3)) ∧ w = w' := by
  go_enter Tryz.func141, Tryz.ntmps141
  go_wp2_with fail
  refine (withinR _ _ _ _).mono ?_
  rintro e w' ⟨rfl, rfl⟩
  go_wp2_with fail
  go_ret
  exact ⟨rfl, rfl⟩

def leS (a b : ByteArray) : Bool := Op.bytesLess a.toList b.toList || (a.toList == b.toList)
def plOk (W H : Int) (p : Pl) : Bool := inR p.x 0 W && inR p.y 0 H && inR p.q 0 3
/-- The error of placements. -/
def plErr (W H : Int) : List Pl → Option ByteArray → Int
  | [], _ => 0
  | p :: l, prev => if (keyB p.name && keyB p.part) = false then 5 else if prev.any (leS p.name) = true then 7 else if plOk W H p = false then 1 else plErr W H l (some p.name)
/-- The error of a product. -/
def prodErr (key : ByteArray) (W H : Int) (l : List Pl) : Int :=
  if keyB key = false then 5 else if (inR W 1 500000 && inR H 1 500000) = false then 1 else if 1000 < l.length then 2 else plErr W H l none
def prevOf (l : List Pl) : Nat → Option ByteArray
  | 0 => none
  | k + 1 => l[k]?.map Pl.name

theorem drop_at {α : Type} (l : List α) {k : Nat} (h : k < l.length) : l.drop k = l[k] :: l.drop (k + 1) := List.drop_eq_getElem_cons h

abbrev prod (key : ByteArray) (W H : Int) (A : Option Addr) (n c : Nat) : Value := .agg #[.string key, .int .i64 W, .int .i64 H, .slice A n c]


set_option maxHeartbeats 2000000 in
theorem checkProduct_any (key : ByteArray) (W H : Int) (A : Option Addr) (c : Nat) (l : List Pl) (hl : l.length ≤ 4611686018427387904) (w : World) (hA : PlAt w A l) :
    Calls Tryz.prog 81 #[prod key W H A l.length c] w fun e w' => e = .returned (.int .i64 (prodErr key W H l)) ∧ Below w.heap.size w w' := by
  have HE : Hid (prodErr key W H l = if keyB key = false then 5 else if (inR W 1 500000 && inR H 1 500000) = false then 1 else if 1000 < l.length then 2 else plErr W H l none) := rfl
  cases hk : keyB key
  · go_enter Tryz.func81, Tryz.ntmps81
    go_wp2_with fail
    refine (key_any _ _).mono ?_
    rintro e w' ⟨rfl, rfl⟩
    go_wp2_with fail
    go_ret
    exact ⟨ret_int (by rw [HE.out, if_pos hk]), (Below.refl _ _).alloc (Nat.le_refl _) _⟩
  cases hs : (inR W 1 500000 && inR H 1 500000)
  · have HS := Lib.hid hs
    go_enter Tryz.func81, Tryz.ntmps81
    go_wp2_with fail
    refine (key_any _ _).mono ?_
    rintro e w' ⟨rfl, rfl⟩
    go_wp2_with fail
    refine (vsize_any _ _ _).mono ?_
    rw [HS.out]
    clear hs
    rintro e w' ⟨rfl, rfl⟩
    go_wp2_with fail
    go_ret
    exact ⟨ret_int (by rw [HE.out, if_neg (by rw [hk]; simp), if_pos HS.out]), (Below.refl _ _).alloc (Nat.le_refl _) _⟩
  have HS := Lib.hid hs
  clear hs
  by_cases hn : 1000 < l.length
  · go_enter Tryz.func81, Tryz.ntmps81
    go_wp2_with fail
    refine (key_any _ _).mono ?_
    rintro e w' ⟨rfl, rfl⟩
    go_wp2_with fail
    refine (vsize_any _ _ _).mono ?_
    rw [HS.out]
    rintro e w' ⟨rfl, rfl⟩
    go_wp2_with fail
    go_ret
    exact ⟨ret_int (by rw [HE.out, if_neg (by rw [hk]; simp), if_neg (by rw [HS.out]; simp), if_pos hn]), (Below.refl _ _).alloc (Nat.le_refl _) _⟩
  have HE2 : Hid (prodErr key W H l = plErr W H l none) := by
    refine HE.out.trans ?_
    rw [if_neg (by rw [hk]; simp), if_neg (by rw [HS.out]; simp), if_neg hn]
  clear HE
  go_enter Tryz.func81, Tryz.ntmps81
  go_wp2_with fail
  refine (key_any _ _).mono ?_
  rintro e w' ⟨rfl, rfl⟩
  go_wp2_with fail
  refine (vsize_any _ _ _).mono ?_
  rw [HS.out]
  rintro e w' ⟨rfl, rfl⟩
  go_wp2_with fail
  clear hk
  go_loopw [22] (fun kk wr => ∃ k : Nat, k ≤ l.length ∧ kk = .int .i64 k ∧ Below (w.alloc (.cells #[.string key, .int .i64 W, .int .i64 H, .slice A l.length c] 44)).heap.size (w.alloc (.cells #[.string key, .int .i64 W, .int .i64 H, .slice A l.length c] 44)) wr ∧ Hid (plErr W H l none = plErr W H (l.drop k) (prevOf l k))) (fun kk _ => l.length - (intOf kk).toNat)
  case atStart => exact ⟨0, by omega, rfl, Below.refl _ _, rfl⟩
  case round =>
    obtain ⟨k, hk, rfl, hb, HO⟩ := hrel
    by_cases hlt : k < l.length
    · obtain ⟨p, hp⟩ : ∃ p, l[k] = p := ⟨_, rfl⟩
      have hD : plErr W H l none = plErr W H (p :: l.drop (k + 1)) (prevOf l k) := HO.out.trans (by rw [drop_at l hlt, hp])
      have hN : prevOf l (k + 1) = some p.name := by simp [prevOf, hlt, hp]
      rcases hA with rfl | ⟨g, rfl, hrow⟩
      · simp at hlt
      obtain ⟨p0, p1, p2, p3, p4⟩ := row_pl (hrow.below ((Below.refl w.heap.size w).alloc (Nat.le_refl _) _ |>.then_below hb)) hlt
      obtain ⟨b0, b1, b2, b3⟩ := blk4 (blk_below hb (blk_new w _ rfl))
      rw [hp] at p0 p1 p2 p3 p4
      obtain ⟨nm, pt, x, y, q⟩ := p
      dsimp only at p0 p1 p2 p3 p4 hN
      have hg1 : g < wr.heap.size := Nat.lt_of_lt_of_le (Nat.lt_trans hrow.1 (by simp)) hb.size
      have hw1 : w.heap.size < wr.heap.size := Nat.lt_of_lt_of_le (by simp) hb.size
      have HD := Lib.hid hD
      have HN := Lib.hid hN
      have HP := Lib.hid hp
      have HROW := Lib.hid hrow
      have HBE : Hid (Below w.heap.size w wr) := ((Below.refl w.heap.size w).alloc (Nat.le_refl _) _).then_below hb
      clear hD hN hp hrow
      cases hk1 : keyB nm
      · have HF : Hid (prodErr key W H l = 5) := by
          refine HE2.out.trans (HD.out.trans ?_)
          rw [plErr, if_pos (by simp [hk1])]
        go_wp2_with fail
        (refine (key_any _ _).mono ?_; rintro e w' ⟨rfl, rfl⟩; go_wp2_with fail)
        go_ret
        exact ⟨ret_int HF.out.symm, HBE.out.alloc HBE.out.size _⟩
      cases hk2 : keyB pt
      · have HF : Hid (prodErr key W H l = 5) := by
          refine HE2.out.trans (HD.out.trans ?_)
          rw [plErr, if_pos (by simp [hk1, hk2])]
        go_wp2_with fail
        (refine (key_any _ _).mono ?_; rintro e w' ⟨rfl, rfl⟩; go_wp2_with fail)
        (refine (key_any _ _).mono ?_; rintro e w' ⟨rfl, rfl⟩; go_wp2_with fail)
        go_ret
        exact ⟨ret_int HF.out.symm, HBE.out.alloc HBE.out.size _⟩
      have HK : Hid ((keyB nm && keyB pt) = true) := by show _ = true; rw [hk1, hk2]; rfl
      by_cases hk0 : k = 0
      · have HD1 : Hid (prodErr key W H l = if plOk W H ⟨nm, pt, x, y, q⟩ = false then 1 else plErr W H (l.drop (k + 1)) (some nm)) := by
          refine HE2.out.trans (HD.out.trans ?_)
          rw [plErr, if_neg (by rw [HK.out]; simp), if_neg (by rw [hk0]; simp [prevOf])]
        have hd0 : decide (0 < k) = false := decide_eq_false (by omega)
        clear hk0
        go_wp2_with fail
        (refine (key_any _ _).mono ?_; rintro e w' ⟨rfl, rfl⟩; go_wp2_with fail)
        (refine (key_any _ _).mono ?_; rintro e w' ⟨rfl, rfl⟩; go_wp2_with fail)
        clear hk1 hk2
        go_quiet (fail)
        clear hd0
        cases hx : inR x 0 W
        · have HF : Hid (prodErr key W H l = 1) := HD1.out.trans (by rw [if_pos (by simp [plOk, hx])])
          go_wp2_with fail
          (refine (withinR _ _ _ _).mono ?_; rintro e w' ⟨rfl, rfl⟩; go_wp2_with fail)
          go_ret
          exact ⟨ret_int HF.out.symm, (HBE.out.alloc HBE.out.size _).drawN _⟩
        cases hy : inR y 0 H
        · have HF : Hid (prodErr key W H l = 1) := HD1.out.trans (by rw [if_pos (by simp [plOk, hx, hy])])
          go_wp2_with fail
          (refine (withinR _ _ _ _).mono ?_; rintro e w' ⟨rfl, rfl⟩; go_wp2_with fail)
          (refine (withinR _ _ _ _).mono ?_; rintro e w' ⟨rfl, rfl⟩; go_wp2_with fail)
          go_ret
          exact ⟨ret_int HF.out.symm, (HBE.out.alloc HBE.out.size _).drawN _⟩
        cases hq : inR q 0 3
        · have HF : Hid (prodErr key W H l = 1) := HD1.out.trans (by rw [if_pos (by simp [plOk, hx, hy, hq])])
          go_wp2_with fail
          (refine (withinR _ _ _ _).mono ?_; rintro e w' ⟨rfl, rfl⟩; go_wp2_with fail)
          (refine (withinR _ _ _ _).mono ?_; rintro e w' ⟨rfl, rfl⟩; go_wp2_with fail)
          (refine (vquarter_any _ _).mono ?_; rintro e w' ⟨rfl, rfl⟩; go_wp2_with fail)
          go_ret
          exact ⟨ret_int HF.out.symm, (HBE.out.alloc HBE.out.size _).drawN _⟩
        have HF : Hid (plErr W H l none = plErr W H (l.drop (k + 1)) (prevOf l (k + 1))) := HE2.out.symm.trans (HD1.out.trans (by rw [if_neg (by simp [plOk, hx, hy, hq]), HN.out]))
        go_wp2_with fail
        (refine (withinR _ _ _ _).mono ?_; rintro e w' ⟨rfl, rfl⟩; go_wp2_with fail)
        (refine (withinR _ _ _ _).mono ?_; rintro e w' ⟨rfl, rfl⟩; go_wp2_with fail)
        (refine (vquarter_any _ _).mono ?_; rintro e w' ⟨rfl, rfl⟩; go_wp2_with fail)
        go_roundw
        case rel => exact ⟨k + 1, by omega, by go_num, (hb.alloc hb.size _).drawN _, HF.out⟩
        case measure => simp [intOf]; omega
      · obtain ⟨pm, hpm⟩ : ∃ p, l[k - 1] = p := ⟨_, rfl⟩
        have hwi : IntKind.i64.wrap ((k : Int) - 1) = (k : Int) - 1 := IntWalk.i64_in ((k : Int) - 1) (by omega)
        obtain ⟨m0, _⟩ := row_pl ((HROW.out).below HBE.out) (show k - 1 < l.length by omega)
        have hPV : prevOf l k = some pm.name := by
          obtain ⟨m, rfl⟩ : ∃ m, k = m + 1 := ⟨k - 1, by omega⟩
          simp only [Nat.add_sub_cancel] at hpm
          simp [prevOf, show m < l.length by omega, hpm]
        have HPV := Lib.hid hPV
        rw [hpm] at m0
        have hd0 : 0 < k := by omega
        obtain ⟨pn, hpn⟩ : ∃ n, pm.name = n := ⟨_, rfl⟩
        rw [hpn] at m0
        have HPN := Lib.hid hpn
        clear hpm hPV hpn
        go_wp2_with fail
        (refine (key_any _ _).mono ?_; rintro e w' ⟨rfl, rfl⟩; go_wp2_with fail)
        (refine (key_any _ _).mono ?_; rintro e w' ⟨rfl, rfl⟩; go_wp2_with fail)
        clear hk1 hk2
        have HLES : leS nm pn = (Op.bytesLess nm.toList pn.toList || (nm.toList == pn.toList)) := rfl
        cases ho : leS nm pn
        · have HD1 : Hid (prodErr key W H l = if plOk W H ⟨nm, pt, x, y, q⟩ = false then 1 else plErr W H (l.drop (k + 1)) (some nm)) := by
            refine HE2.out.trans (HD.out.trans ?_)
            rw [plErr, if_neg (by rw [HK.out]; simp), if_neg (by rw [HPV.out]; simp only [Option.any_some]; rw [HPN.out, ho]; simp)]
          rw [ho] at HLES
          obtain ⟨hl1, hl2⟩ := Bool.or_eq_false_iff.mp HLES.symm
          clear ho HLES
          go_quiet (fail)
          clear hd0 hl1 hl2
          cases hx : inR x 0 W
          · have HF : Hid (prodErr key W H l = 1) := HD1.out.trans (by rw [if_pos (by simp [plOk, hx])])
            go_wp2_with fail
            (refine (withinR _ _ _ _).mono ?_; rintro e w' ⟨rfl, rfl⟩; go_wp2_with fail)
            go_ret
            exact ⟨ret_int HF.out.symm, (HBE.out.alloc HBE.out.size _).drawN _⟩
          cases hy : inR y 0 H
          · have HF : Hid (prodErr key W H l = 1) := HD1.out.trans (by rw [if_pos (by simp [plOk, hx, hy])])
            go_wp2_with fail
            (refine (withinR _ _ _ _).mono ?_; rintro e w' ⟨rfl, rfl⟩; go_wp2_with fail)
            (refine (withinR _ _ _ _).mono ?_; rintro e w' ⟨rfl, rfl⟩; go_wp2_with fail)
            go_ret
            exact ⟨ret_int HF.out.symm, (HBE.out.alloc HBE.out.size _).drawN _⟩
          cases hq : inR q 0 3
          · have HF : Hid (prodErr key W H l = 1) := HD1.out.trans (by rw [if_pos (by simp [plOk, hx, hy, hq])])
            go_wp2_with fail
            (refine (withinR _ _ _ _).mono ?_; rintro e w' ⟨rfl, rfl⟩; go_wp2_with fail)
            (refine (withinR _ _ _ _).mono ?_; rintro e w' ⟨rfl, rfl⟩; go_wp2_with fail)
            (refine (vquarter_any _ _).mono ?_; rintro e w' ⟨rfl, rfl⟩; go_wp2_with fail)
            go_ret
            exact ⟨ret_int HF.out.symm, (HBE.out.alloc HBE.out.size _).drawN _⟩
          have HF : Hid (plErr W H l none = plErr W H (l.drop (k + 1)) (prevOf l (k + 1))) := HE2.out.symm.trans (HD1.out.trans (by rw [if_neg (by simp [plOk, hx, hy, hq]), HN.out]))
          go_wp2_with fail
          (refine (withinR _ _ _ _).mono ?_; rintro e w' ⟨rfl, rfl⟩; go_wp2_with fail)
          (refine (withinR _ _ _ _).mono ?_; rintro e w' ⟨rfl, rfl⟩; go_wp2_with fail)
          (refine (vquarter_any _ _).mono ?_; rintro e w' ⟨rfl, rfl⟩; go_wp2_with fail)
          go_roundw
          case rel => exact ⟨k + 1, by omega, by go_num, (hb.alloc hb.size _).drawN _, HF.out⟩
          case measure => simp [intOf]; omega
        · have HF : Hid (prodErr key W H l = 7) := by
            refine HE2.out.trans (HD.out.trans ?_)
            rw [plErr, if_neg (by rw [HK.out]; simp), if_pos (by rw [HPV.out]; simp only [Option.any_some]; rw [HPN.out, ho])]
          rw [ho] at HLES
          have hl1 := HLES.symm
          clear ho HLES
          go_quiet (fail)
          go_wp2_with fail
          go_ret
          exact ⟨ret_int HF.out.symm, (HBE.out.alloc HBE.out.size _).drawN _⟩
    · have HALL : Hid (prodErr key W H l = 0) := by
        refine HE2.out.trans (HO.out.trans ?_)
        rw [List.drop_eq_nil_of_le (by omega)]
        rfl
      go_wp2_with fail
      go_ret
      exact ⟨ret_int HALL.out.symm, ((Below.refl _ _).alloc (Nat.le_refl _) _).then_below hb⟩
end Go.Proofs.YtalconjnjaffkaaGreatDoor
