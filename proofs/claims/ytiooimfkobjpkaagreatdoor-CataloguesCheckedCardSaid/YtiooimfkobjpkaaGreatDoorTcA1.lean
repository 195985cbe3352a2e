/-
  Catalogues: small functions, parts, places, alternates, the search for a part.
-/
import Derived.Test.YtiooimfkobjpkaaGreatDoorBodM
import Derived.Test.YtiooimfkobjpkaaGreatDoorSeR
import Derived.Test.YtiooimfkobjpkaaGreatDoorTpA
import Derived.Maps.OwnOps
import Derived.Carry
import Derived.Test.YtiooimfkobjpkaaGreatDoorShelf
import Derived.Test.YtiooimfkobjpkaaGreatDoorRg
import Derived.Maps.OwnSet
/-
  The small functions of exposures.
-/
namespace Go.Proofs.YtiooimfkobjpkaaGreatDoor
open Go.RowKit

set_option maxHeartbeats 400000 in
theorem inZ_any (n lo hi : Int) (w : World) : Calls Tryz.prog 22 #[.int .i64 n, .int .i64 lo, .int .i64 hi] w fun e w' => e = .returned (.bool (inR n lo hi)) ∧ w = w' := by
  by_cases h1 : lo ≤ n <;> by_cases h2 : n ≤ hi
  all_goals
    go_enter Tryz.func22, Tryz.ntmps22
    go_wp2
    go_ret
    exact ⟨by simp [inR, h1, h2], rfl⟩
theorem vlevel_any (n : Int) (w : World) : Calls Tryz.prog 55 #[.int .i64 n] w fun e w' => e = .returned (.bool (inR n 1 6)) ∧ w = w' := by
  go_enter Tryz.func55, Tryz.ntmps55
  go_wp2_with fail
  refine (withinR _ _ _ _).mono ?_
  rintro e w' ⟨rfl, rfl⟩
  go_wp2_with fail
  go_ret
  exact ⟨rfl, rfl⟩
def spanE (n lo hi : Int) : Int := if inR n lo hi = true then 0 else 1
/-- The floor life of a level. -/
def lifeV (lv : Int) : Int := if lv = 2 then 31536000000 else if lv = 3 then 604800000 else if lv = 4 then 259200000 else if lv = 5 then 86400000 else if lv = 6 then 21600000 else 0
def limB (lv : Int) : Bool := decide (2 ≤ lv) && decide (lv ≤ 6)
theorem lifeV_nn (lv : Int) : 0 ≤ lifeV lv ∧ lifeV lv ≤ 31536000000 := by
  unfold lifeV
  by_cases h2 : lv = 2
  · rw [if_pos h2]; omega
  · rw [if_neg h2]
    by_cases h3 : lv = 3
    · rw [if_pos h3]; omega
    · rw [if_neg h3]
      by_cases h4 : lv = 4
      · rw [if_pos h4]; omega
      · rw [if_neg h4]
        by_cases h5 : lv = 5
        · rw [if_pos h5]; omega
        · rw [if_neg h5]
          split <;> omega
set_option maxHeartbeats 1000000 in
theorem life_bad (lv : Int) (h : inR lv 1 6 = false) (w : World) : Calls Tryz.prog 46 #[.int .i64 lv] w fun e w' => e = .returned (.tuple #[.int .i64 0, .bool false, .int .i64 1]) ∧ w = w' := by
  have C := Lib.hid (fun W => vlevel_any lv W)
  rw [h] at C
  clear h
  go_enter Tryz.func46, Tryz.ntmps46
  go_wp2_with fail
  refine (C.out _).mono ?_
  rintro e w' ⟨rfl, rfl⟩
  go_wp2_with fail
  go_ret3
  exact ⟨rfl, rfl⟩
theorem level_cases {lv : Int} (h : inR lv 1 6 = true) : lv = 1 ∨ lv = 2 ∨ lv = 3 ∨ lv = 4 ∨ lv = 5 ∨ lv = 6 := by
  simp [inR] at h; omega
set_option maxHeartbeats 1000000 in
theorem life_lv (lv hr : Int) (h : inR lv 1 6 = true) (h0 : 0 ≤ hr) (h1 : hr ≤ 8760) (hix : ∀ W' : World, (Instr.index 113 (.agg #[.int .i64 0, .int .i64 0, .int .i64 8760, .int .i64 168, .int .i64 72, .int .i64 24, .int .i64 6]) (.int .i64 lv)).run Tryz.prog W' = .ok (.int .i64 hr) W') (w : World) :
    Calls Tryz.prog 46 #[.int .i64 lv] w fun e w' => e = .returned (.tuple #[.int .i64 (hr * 3600000), .bool (decide (0 < hr)), .int .i64 0]) ∧ w = w' := by
  have C := Lib.hid (fun W => vlevel_any lv W)
  rw [h] at C
  clear h
  go_enter Tryz.func46, Tryz.ntmps46
  go_wp2_with fail
  refine (C.out _).mono ?_
  rintro e w' ⟨rfl, rfl⟩
  go_wp2_with fail
  go_ret3
  exact ⟨rfl, rfl⟩
theorem life_ok (lv : Int) (h : inR lv 1 6 = true) (w : World) : Calls Tryz.prog 46 #[.int .i64 lv] w fun e w' => e = .returned (.tuple #[.int .i64 (lifeV lv), .bool (limB lv), .int .i64 0]) ∧ w = w' := by
  rcases level_cases h with rfl | rfl | rfl | rfl | rfl | rfl
  · exact life_lv 1 0 h (by omega) (by omega) (fun _ => by kernel_rfl) w
  · exact life_lv 2 8760 h (by omega) (by omega) (fun _ => by kernel_rfl) w
  · exact life_lv 3 168 h (by omega) (by omega) (fun _ => by kernel_rfl) w
  · exact life_lv 4 72 h (by omega) (by omega) (fun _ => by kernel_rfl) w
  · exact life_lv 5 24 h (by omega) (by omega) (fun _ => by kernel_rfl) w
  · exact life_lv 6 6 h (by omega) (by omega) (fun _ => by kernel_rfl) w
set_option maxHeartbeats 1000000 in
theorem aged_any (w : World) : Calls Tryz.prog 13 #[] w fun e w' => e = .returned (.bool true) ∧ w = w' := by
  go_enter Tryz.func13, Tryz.ntmps13
  go_wp2_with fail
  refine (life_ok 4 rfl _).mono ?_
  rintro e w' ⟨rfl, rfl⟩
  go_wp2_with fail
  go_ret
  exact ⟨rfl, rfl⟩
end Go.Proofs.YtiooimfkobjpkaaGreatDoor

/-
  Catalogues: the check of the parts, in plain words and in the program.
-/
namespace Go.Proofs.YtiooimfkobjpkaaGreatDoor
open Go.RowKit
set_option linter.unusedSimpArgs false
set_option linter.unusedVariables false

/-- A part. -/
structure Pa where
  key : ByteArray
  pk : ByteArray
  lv : Int
  bk : Int
def encPa (p : Pa) : List Value := [.string p.key, .string p.pk, .int .i64 p.lv, .int .i64 p.bk]
theorem row_pa {w : World} {g : Nat} {l : List Pa} (h : LineAt w g (l.flatMap encPa)) {k : Nat} (hk : k < l.length) :
    w.cell? ⟨g, k * 4, none⟩ = some (.string l[k].key) ∧ w.cell? ⟨g, k * 4 + 1, none⟩ = some (.string l[k].pk) ∧ w.cell? ⟨g, k * 4 + 2, none⟩ = some (.int .i64 l[k].lv) ∧ w.cell? ⟨g, k * 4 + 3, none⟩ = some (.int .i64 l[k].bk) := by
  have e := fun j (hj : j < 4) => flatK_at encPa 4 (fun _ => rfl) l k hk j hj
  exact ⟨h.2 _ _ (e 0 (by omega)), h.2 _ _ (e 1 (by omega)), h.2 _ _ (e 2 (by omega)), h.2 _ _ (e 3 (by omega))⟩
/-- What is wrong with a part. -/
def paE (p : Pa) : Int := if (keyB p.key && keyB p.pk) = false then 5 else if (inR p.lv 1 6 && inR p.bk 0 720000000) = false then 1 else 0
/-- A part's key does not come behind the one before. -/
def leK (a b : ByteArray) : Bool := Op.bytesLess a.toList b.toList || a.toList == b.toList
def partsE : Option ByteArray → List Pa → Int
  | _, [] => 0
  | prev, p :: r => if paE p = 0 then (if (match prev with | none => false | some q => leK p.key q) = true then 7 else partsE (some p.key) r) else paE p
def paErrs (l : List Pa) : Int := if 1000 < l.length then 2 else partsE none l
def prevK (l : List Pa) (k : Nat) : Option ByteArray := if k = 0 then none else (l[k - 1]?).map Pa.key
theorem partsE_drop {l : List Pa} {k : Nat} (hk : k < l.length) (prev : Option ByteArray) : partsE prev (l.drop k) = if paE l[k] = 0 then (if (match prev with | none => false | some q => leK l[k].key q) = true then 7 else partsE (some l[k].key) (l.drop (k + 1))) else paE l[k] := by
  rw [List.drop_eq_getElem_cons hk]
  rfl

set_option maxHeartbeats 4000000 in
theorem checkPartsN_any (l : List Pa) (hl : l.length ≤ 1000000) {v : Value} {w : World} (h : Reads encPa v l w) :
    Calls Tryz.prog 26 #[v] w fun e w' => e = .returned (.int .i64 (paErrs l)) ∧ Below w.heap.size w w' := by
  have HR := Lib.hid h
  obtain ⟨A, c, rfl, _⟩ := h
  by_cases hbig : 1000 < l.length
  · have HF : Hid (paErrs l = 2) := if_pos hbig
    have hb2 : (1000 : Int) < (l.length : Int) := by omega
    go_enter Tryz.func26, Tryz.ntmps26
    go_wp2_with fail
    go_ret
    exact ⟨ret_int HF.out.symm, Below.refl _ _⟩
  have HF : Hid (paErrs l = partsE none l) := if_neg hbig
  have hb2 : ¬ (1000 : Int) < (l.length : Int) := by omega
  generalize paErrs l = E at *
  go_enter Tryz.func26, Tryz.ntmps26
  go_wp2_with fail
  go_loopw [10] (fun kk wr => ∃ k : Nat, k ≤ l.length ∧ kk = .int .i64 k ∧ Hid (Below w.heap.size w wr ∧ E = partsE (prevK l k) (l.drop k))) (fun kk _ => l.length - (intOf kk).toNat)
  case atStart => exact ⟨0, by omega, rfl, Below.refl _ _, HF.out⟩
  case round =>
    obtain ⟨k, hk, rfl, HS⟩ := hrel
    by_cases hlt : k < l.length
    · obtain ⟨A', c', ea, hr⟩ := HR.out.below HS.out.1
      cases ea
      rcases hr with rfl | ⟨g, rfl, hrow⟩
      · simp at hlt
      have HE : Hid (E = _) := HS.out.2.trans (partsE_drop hlt (prevK l k))
      have HB := Lib.hid HS.out.1
      obtain ⟨q0, q1, q2, q3⟩ := row_pa hrow hlt
      have hgl := hrow.1
      have i1 : (0 : Int) ≤ (k : Int) := by omega
      have i2 : (k : Int) < (l.length : Int) := by omega
      have HPK : Hid (prevK l (k + 1) = some l[k].key) := by
        show (if k + 1 = 0 then none else (l[k + 1 - 1]?).map Pa.key) = _
        rw [if_neg (by omega), Nat.add_sub_cancel, List.getElem?_eq_getElem hlt]
        rfl
      have HPR : Hid (∀ hk0 : 0 < k, prevK l k = some (l[k - 1]'(by omega)).key ∧ wr.cell? ⟨g, (k - 1) * 4, none⟩ = some (.string (l[k - 1]'(by omega)).key)) := fun hk0 => by
        have hk1 : k - 1 < l.length := by omega
        refine ⟨?_, (row_pa hrow hk1).1⟩
        show (if k = 0 then none else (l[k - 1]?).map Pa.key) = _
        rw [if_neg (by omega), List.getElem?_eq_getElem hk1]
        rfl
      have HP0 : Hid (k = 0 → prevK l k = none) := fun h => if_pos h
      clear hrow HS
      generalize l[k] = p at *
      obtain ⟨key, pk, lv, bk⟩ := p
      dsimp only at q0 q1 q2 q3 HE HPK
      have CK := Lib.hid (fun W => key_any key W)
      have CP := Lib.hid (fun W => key_any pk W)
      have CL := Lib.hid (fun W => vlevel_any lv W)
      have CB := Lib.hid (fun W => withinR bk 0 720000000 W)
      have HPE : Hid (paE ⟨key, pk, lv, bk⟩ = if (keyB key && keyB pk) = false then 5 else if (inR lv 1 6 && inR bk 0 720000000) = false then 1 else 0) := rfl
      cases hk1 : keyB key
      · have HX : Hid (E = 5) := by rw [HE.out, HPE.out, hk1]; rfl
        rw [hk1] at CK
        clear hk1
        go_wp2_with fail
        (refine (CK.out _).mono ?_; rintro e w' ⟨rfl, rfl⟩; go_wp2_with fail)
        go_ret
        exact ⟨ret_int HX.out.symm, HB.out.alloc HB.out.size _⟩
      rw [hk1] at CK
      cases hk2 : keyB pk
      · have HX : Hid (E = 5) := by rw [HE.out, HPE.out, hk1, hk2]; rfl
        rw [hk2] at CP
        clear hk1 hk2
        go_wp2_with fail
        (refine (CK.out _).mono ?_; rintro e w' ⟨rfl, rfl⟩; go_wp2_with fail)
        (refine (CP.out _).mono ?_; rintro e w' ⟨rfl, rfl⟩; go_wp2_with fail)
        go_ret
        exact ⟨ret_int HX.out.symm, HB.out.alloc HB.out.size _⟩
      rw [hk2] at CP
      cases hk3 : inR lv 1 6
      · have HX : Hid (E = 1) := by rw [HE.out, HPE.out, hk1, hk2, hk3]; rfl
        rw [hk3] at CL
        clear hk1 hk2 hk3
        go_wp2_with fail
        (refine (CK.out _).mono ?_; rintro e w' ⟨rfl, rfl⟩; go_wp2_with fail)
        (refine (CP.out _).mono ?_; rintro e w' ⟨rfl, rfl⟩; go_wp2_with fail)
        (refine (CL.out _).mono ?_; rintro e w' ⟨rfl, rfl⟩; go_wp2_with fail)
        go_ret
        exact ⟨ret_int HX.out.symm, HB.out.alloc HB.out.size _⟩
      rw [hk3] at CL
      cases hk4 : inR bk 0 720000000
      · have HX : Hid (E = 1) := by rw [HE.out, HPE.out, hk1, hk2, hk3, hk4]; rfl
        rw [hk4] at CB
        clear hk1 hk2 hk3 hk4
        go_wp2_with fail
        (refine (CK.out _).mono ?_; rintro e w' ⟨rfl, rfl⟩; go_wp2_with fail)
        (refine (CP.out _).mono ?_; rintro e w' ⟨rfl, rfl⟩; go_wp2_with fail)
        (refine (CL.out _).mono ?_; rintro e w' ⟨rfl, rfl⟩; go_wp2_with fail)
        (refine (CB.out _).mono ?_; rintro e w' ⟨rfl, rfl⟩; go_wp2_with fail)
        go_ret
        exact ⟨ret_int HX.out.symm, HB.out.alloc HB.out.size _⟩
      rw [hk4] at CB
      have HP1 : Hid (paE ⟨key, pk, lv, bk⟩ = 0) := by rw [HPE.out, hk1, hk2, hk3, hk4]; rfl
      clear hk1 hk2 hk3 hk4 HPE
      rw [HP1.out, if_pos rfl] at HE
      clear HP1
      by_cases hk0 : 0 < k
      · obtain ⟨e1, e2⟩ := HPR.out hk0
        rw [e1] at HE
        clear e1 HPR HP0
        generalize (l[k - 1]'(by omega)).key = pkey at *
        dsimp only at HE
        have hk0' : (0 : Int) < (k : Int) := by omega
        obtain ⟨k', rfl⟩ : ∃ k', k = k' + 1 := ⟨k - 1, by omega⟩
        go_wp2_with fail
        (refine (CK.out _).mono ?_; rintro e w' ⟨rfl, rfl⟩; go_wp2_with fail)
        (refine (CP.out _).mono ?_; rintro e w' ⟨rfl, rfl⟩; go_wp2_with fail)
        (refine (CL.out _).mono ?_; rintro e w' ⟨rfl, rfl⟩; go_wp2_with fail)
        (refine (CB.out _).mono ?_; rintro e w' ⟨rfl, rfl⟩; go_wp2_with fail)
        have e3 : wr.cell? ⟨g, k' * 4, none⟩ = some (.string pkey) := e2
        have H0 : Hid (Below w.heap.size w (wr.alloc (.cells #[.string key, .string pk, .int .i64 lv, .int .i64 bk] 47)) ∧ (wr.alloc (.cells #[.string key, .string pk, .int .i64 lv, .int .i64 bk] 47)).heap[wr.heap.size]? = some (.cells #[.string key, .string pk, .int .i64 lv, .int .i64 bk] 47 (0, 0))) := ⟨HB.out.alloc HB.out.size _, blk_new wr _ rfl⟩
        have e4 : (wr.alloc (.cells #[.string key, .string pk, .int .i64 lv, .int .i64 bk] 47)).cell? ⟨g, k' * 4, none⟩ = some (.string pkey) := (((Below.refl _ _).alloc (Nat.le_refl _) _).cell (p := ⟨g, k' * 4, none⟩) hgl).trans e3
        have hgl2 : g < (wr.alloc (.cells #[.string key, .string pk, .int .i64 lv, .int .i64 bk] 47)).heap.size := by simp; omega
        generalize wr.alloc (.cells #[.string key, .string pk, .int .i64 lv, .int .i64 bk] 47) = wx at *
        obtain ⟨p0, p1, p2, p3⟩ := blk4 H0.out.2
        have hpl := lt_of_blk H0.out.2
        clear e2 e3 q0 q1 q2 q3 CK CP CL CB
        have hw : IntKind.i64.wrap ((k' : Int) + 1 - 1) = (k' : Int) := by rw [show (k' : Int) + 1 - 1 = (k' : Int) from by omega]; exact IntWalk.i64_in _ (by omega)
        have j1 : (0 : Int) ≤ (k' : Int) := by omega
        have j2 : (k' : Int) < (l.length : Int) := by omega
        have j3 : (0 : Int) < (k' : Int) + 1 := by omega
        go_quiet (fail)
        rw [show (Op.bytesLess key.toList pkey.toList || key.toList == pkey.toList) = leK key pkey from rfl]
        cases hle : leK key pkey
        · have HX : Hid (E = partsE (prevK l (k' + 1 + 1)) (l.drop (k' + 1 + 1))) := (HE.out.trans (if_neg (by show ¬ leK key pkey = true; rw [hle]; simp))).trans (by rw [HPK.out])
          clear hle p0 p1 p2 p3 e4
          go_wp2_with fail
          go_roundw
          case rel => exact ⟨k' + 1 + 1, by omega, by go_num, below_drewN H0.out.1 _, HX.out⟩
          case measure => simp [intOf]; omega
        · have HX : Hid (E = 7) := HE.out.trans (if_pos (by show leK key pkey = true; exact hle))
          clear hle
          go_wp2_with fail
          go_ret
          exact ⟨ret_int HX.out.symm, below_drewN H0.out.1 _⟩
      · obtain rfl : k = 0 := by omega
        have HX : Hid (E = partsE (prevK l (0 + 1)) (l.drop (0 + 1))) := by
          have h := HE.out
          rw [HP0.out rfl] at h
          rw [HPK.out]
          exact h.trans (if_neg (by simp))
        have H0 : Hid (Below w.heap.size w (wr.alloc (.cells #[.string key, .string pk, .int .i64 lv, .int .i64 bk] 47))) := HB.out.alloc HB.out.size _
        have hd0 : decide ((0 : Int) < 0) = false := by decide
        go_wp2_with fail
        (refine (CK.out _).mono ?_; rintro e w' ⟨rfl, rfl⟩; go_wp2_with fail)
        (refine (CP.out _).mono ?_; rintro e w' ⟨rfl, rfl⟩; go_wp2_with fail)
        (refine (CL.out _).mono ?_; rintro e w' ⟨rfl, rfl⟩; go_wp2_with fail)
        (refine (CB.out _).mono ?_; rintro e w' ⟨rfl, rfl⟩; go_wp2_with fail)
        generalize wr.alloc (.cells #[.string key, .string pk, .int .i64 lv, .int .i64 bk] 47) = wx at *
        clear q0 q1 q2 q3 CK CP CL CB
        go_quiet (fail)
        go_wp2_with fail
        go_roundw
        case rel => exact ⟨1, by omega, by go_num, below_drewN H0.out _, HX.out⟩
        case measure => simp [intOf]; omega
    · obtain rfl : k = l.length := by omega
      have HX : Hid (E = 0) := by rw [HS.out.2, List.drop_length]; cases prevK l l.length <;> rfl
      go_wp2_with fail
      go_ret
      exact ⟨ret_int HX.out.symm, HS.out.1⟩
end Go.Proofs.YtiooimfkobjpkaaGreatDoor

/-
  Catalogues: where each part is, in a map.
-/
namespace Go.Proofs.YtiooimfkobjpkaaGreatDoor
open Go.RowKit Go.WideMaps Go.Maps
set_option linter.unusedSimpArgs false
set_option linter.unusedVariables false

/-- The last place of an element. -/
def lastI (l : List (List UInt8)) (s : List UInt8) : Nat := l.length - 1 - l.reverse.idxOf s
theorem lastI_snoc (l : List (List UInt8)) (s t : List UInt8) (h : t = s ∨ t ∈ l) : lastI (l ++ [s]) t = if t = s then l.length else lastI l t := by
  unfold lastI
  rw [List.reverse_append, List.length_append]
  show l.length + 1 - 1 - (s :: l.reverse).idxOf t = _
  by_cases e : t = s
  · rw [if_pos e, e, List.idxOf_cons_self]
    omega
  · have h2 : (s == t) = false := by simpa using Ne.symm e
    rw [if_neg e, List.idxOf_cons, h2]
    show l.length + 1 - 1 - (l.reverse.idxOf t + 1) = _
    omega
/-- A map that says where the elements of a list are. -/
def PlaceIs (D : DataW Unit) (l : List (List UInt8)) : Prop := IsMap D ∧ ∀ s z, D.atKey (.string s) z = if s ∈ l then .lit (.int .i64 (lastI l s : Int)) else z
theorem placeIs_nil : PlaceIs (.map []) [] := ⟨isMap_empty, fun s z => by simp; rfl⟩
theorem placeIs_put {D : DataW Unit} {l : List (List UInt8)} (h : PlaceIs D l) {s : List UInt8} {c : Int} (hc : c = (l.length : Int)) : PlaceIs (D.put (.string s) (.lit (.int .i64 c))) (l ++ [s]) := by
  refine ⟨h.1.put _ _, fun t z => ?_⟩
  by_cases e : t = s
  · subst e
    rw [atKey_put_same (k := .string t) h.1 trivial, if_pos (by simp), lastI_snoc l t t (.inl rfl), if_pos rfl, hc]
  · rw [atKey_put_other (by simpa using e), h.2]
    by_cases hm : t ∈ l
    · rw [if_pos hm, if_pos (by simp [hm]), lastI_snoc l s t (.inr hm), if_neg e]
    · rw [if_neg hm, if_neg (by simp [hm, e])]
theorem lawStr : Keyed Tryz.prog 9 := string_keyed Tryz.underlying9
theorem wf_place (c : Int) (h0 : 0 ≤ c) (h1 : c ≤ 1000000) : (Lit.int .i64 c).wf = true := by
  have e1 : IntKind.i64.min = -9223372036854775808 := by decide
  have e2 : IntKind.i64.max = 9223372036854775807 := by decide
  simp only [Lit.wf, e1, e2, Bool.and_eq_true, decide_eq_true_eq]
  omega
/-- The keys of some parts. -/
def keysOf (l : List Pa) : List (List UInt8) := l.map fun p => p.key.data.toList
set_option maxHeartbeats 2000000 in
theorem placesN_any (l : List Pa) (hl : l.length ≤ 1000000) (hk : ∀ p ∈ l, p.key.size ≤ maxLen) {v : Value} {w : World} (h : Reads encPa v l w) :
    Calls Tryz.prog 57 #[v] w fun e w' => ∃ (g n : Nat) (D : DataW Unit), e = .returned (.map (some g)) ∧ Below w.heap.size w w' ∧ w.heap.size ≤ g ∧ w'.ownsMap (H := Unit) Tryz.prog 9 (plainElem Tryz.prog 3) g n D ∧ n ≤ l.length ∧ PlaceIs D (keysOf l) := by
  have hmm := @run_makeMap Tryz.prog
  have HR := Lib.hid h
  have HKS := Lib.hid hk
  obtain ⟨A, c, rfl, _⟩ := h
  clear hk
  go_enter Tryz.func57, Tryz.ntmps57
  go_wp2_with fail
  have H0 : Hid (Below w.heap.size w (w.alloc (.map #[] 0)) ∧ ∃ D n, (w.alloc (.map #[] 0)).ownsMap (H := Unit) Tryz.prog 9 (plainElem Tryz.prog 3) w.heap.size n D ∧ n ≤ 0 ∧ PlaceIs D (keysOf (l.take 0))) := ⟨(Below.refl _ _).alloc (Nat.le_refl _) _, _, 0, World.ownsMap_made w _ _ _, Nat.le_refl _, placeIs_nil⟩
  clear hmm
  go_loopw [9] (fun kk wr => ∃ k : Nat, k ≤ l.length ∧ kk = .int .i64 k ∧ Hid (Below w.heap.size w wr ∧ ∃ D n, wr.ownsMap (H := Unit) Tryz.prog 9 (plainElem Tryz.prog 3) w.heap.size n D ∧ n ≤ k ∧ PlaceIs D (keysOf (l.take k)))) (fun kk _ => l.length - (intOf kk).toNat)
  case atStart => exact ⟨0, by omega, rfl, H0⟩
  case round =>
    obtain ⟨k, hk, rfl, HS⟩ := hrel
    by_cases hlt : k < l.length
    · obtain ⟨A', c', ea, hr⟩ := HR.out.below HS.out.1
      cases ea
      rcases hr with rfl | ⟨g, rfl, hrow⟩
      · simp at hlt
      obtain ⟨q0, q1, q2, q3⟩ := row_pa hrow hlt
      have hgl := hrow.1
      have i1 : (0 : Int) ≤ (k : Int) := by omega
      have i2 : (k : Int) < (l.length : Int) := by omega
      have HKK := Lib.hid (HKS.out l[k] (List.getElem_mem hlt))
      have HTK : Hid (keysOf (l.take (k + 1)) = keysOf (l.take k) ++ [l[k].key.data.toList]) := by
        unfold keysOf
        rw [← List.take_append_getElem hlt, List.map_append]
        rfl
      have HLK : Hid ((keysOf (l.take k)).length = k) := by
        show (keysOf (l.take k)).length = k
        unfold keysOf
        rw [List.length_map, List.length_take]
        omega
      clear hrow
      generalize l[k] = p at *
      obtain ⟨key, pk, lv, bk⟩ := p
      dsimp only at q0 q1 q2 q3 HKK HTK
      obtain ⟨hb, D, n, hown, hn, hD⟩ := HS.out
      have HOW := Lib.hid (hown.alloc (Obj.cells #[.string key, .string pk, .int .i64 lv, .int .i64 bk] 47))
      have HB := Lib.hid (And.intro hb hD)
      clear HS hown hb hD
      go_wp2_with (at_mapUpdate; refine hold ?_)
      refine loose ?_
      refine wpList_mapUpdate_own _ rfl _ _ _ 98 rfl 9 3 lawStr Tryz.underlying98 _ w.heap.size n D rfl HOW.out (by unfold maxLen; omega) _ _ _ rfl rfl (keyOf_string_mk Tryz.underlying9 HKK.out) _ [] (plainElem_int Tryz.underlying3 (wf_place k (by omega) (by omega))) ?_
      intro w2 hown2 hgrow2
      have hsz2 := hgrow2.size
      simp at hsz2
      have HF : Hid (Below w.heap.size w w2 ∧ ∃ D n, w2.ownsMap (H := Unit) Tryz.prog 9 (plainElem Tryz.prog 3) w.heap.size n D ∧ n ≤ k + 1 ∧ PlaceIs D (keysOf (l.take (k + 1)))) :=
        ⟨(HB.out.1.alloc HB.out.1.size _).grown hgrow2 (by have := HB.out.1.size; simp; omega) (fun j hj => by cases hj; exact Nat.le_refl _), _, n + 1, hown2, by omega, by rw [HTK.out]; exact placeIs_put HB.out.2 (by rw [HLK.out])⟩
      clear hown2 hgrow2
      go_wp2_with fail
      go_roundw
      case rel => exact ⟨k + 1, by omega, by go_num, HF⟩
      case measure => simp [intOf]; omega
    · obtain rfl : k = l.length := by omega
      obtain ⟨hb, D, n, hown, hn, hD⟩ := HS.out
      rw [List.take_length] at hD
      have HX := Lib.hid (And.intro hb (And.intro hown hD))
      clear HS hb hown hD
      go_wp2_with fail
      go_ret
      exact ⟨_, n, D, rfl, HX.out.1, Nat.le_refl _, HX.out.2.1, hn, HX.out.2.2⟩
end Go.Proofs.YtiooimfkobjpkaaGreatDoor

/-
  Catalogues: the order of alternates.
-/
namespace Go.Proofs.YtiooimfkobjpkaaGreatDoor
open Go.RowKit
set_option linter.unusedSimpArgs false
set_option linter.unusedVariables false

set_option maxHeartbeats 1000000 in
theorem orI_any (l : List Int) (hl : l.length ≤ 1000) (g c : Nat) (w : World) (h : LineAt w g (l.map (Value.int .i64))) :
    Calls Tryz.prog 52 #[.slice (some ⟨g, 0, none⟩) l.length c] w fun e w' => e = .returned (.int .i64 (errsL l)) ∧ w = w' := by
  have HL := Lib.hid h
  clear h
  go_enter Tryz.func52, Tryz.ntmps52
  go_wp2_with fail
  go_loopw [8] (fun kk wr => ∃ k : Nat, k ≤ l.length ∧ kk = .int .i64 k ∧ w = wr ∧ Hid (errsL l = errsL (l.drop k))) (fun kk _ => l.length - (intOf kk).toNat)
  case atStart => exact ⟨0, by omega, rfl, rfl, rfl⟩
  case round =>
    obtain ⟨k, hk, rfl, rfl, HO⟩ := hrel
    by_cases hlt : k < l.length
    · obtain ⟨x, hx⟩ : ∃ x, l[k] = x := ⟨_, rfl⟩
      have hc := HL.out.2 k (.int .i64 x) (by simp [hlt, hx])
      have hD : errsL l = if x = 0 then errsL (l.drop (k + 1)) else x := HO.out.trans (by rw [drop_at l hlt, hx]; rfl)
      have HD := Lib.hid hD
      clear hD hx HO
      cases h0 : (x == 0)
      · have hne : ¬ x = 0 := by simpa using h0
        have HF : Hid (errsL l = x) := HD.out.trans (if_neg hne)
        have h1 : (x != 0) = true := by simpa using hne
        go_wp2_with fail
        go_ret
        exact ⟨ret_int HF.out.symm, rfl⟩
      · obtain rfl : x = 0 := by simpa using h0
        have HF : Hid (errsL l = errsL (l.drop (k + 1))) := HD.out.trans (if_pos rfl)
        go_wp2_with fail
        go_roundw
        case rel => exact ⟨k + 1, by omega, by go_num, by trivial, HF⟩
        case measure => simp [intOf]; omega
    · have HF : Hid (errsL l = 0) := HO.out.trans (by rw [List.drop_eq_nil_of_le (by omega)]; rfl)
      go_wp2_with fail
      go_ret
      exact ⟨ret_int HF.out.symm, rfl⟩
theorem lineI {w : World} {g : Nat} {l : List Int} {t : TypeId} (h : w.heap[g]? = some (.cells (l.map (Value.int .i64)).toArray t (0, 0))) : LineAt w g (l.map (Value.int .i64)) :=
  ⟨lt_of_blk h, fun j u hu => by rw [cell_of_blk h]; simpa using hu⟩
theorem blk3 {w : World} {g : Nat} {a b c : Value} {t : TypeId} (h : w.heap[g]? = some (.cells #[a, b, c] t (0, 0))) : w.cell? ⟨g, 0, none⟩ = some a ∧ w.cell? ⟨g, 1, none⟩ = some b ∧ w.cell? ⟨g, 2, none⟩ = some c :=
  ⟨by rw [cell_of_blk h]; rfl, by rw [cell_of_blk h]; rfl, by rw [cell_of_blk h]; rfl⟩
/-- An alternate. -/
structure Al where
  par : ByteArray
  by_ : ByteArray
  both : Bool
def encAl (a : Al) : List Value := [.string a.par, .string a.by_, .bool a.both]
def cmpAl (a b : Al) : Int := errsL [Lib.compareBytes a.par.data.toList b.par.data.toList, Lib.compareBytes a.by_.data.toList b.by_.data.toList]

set_option maxHeartbeats 2000000 in
theorem compareAl_any (a b : Al) (w : World) :
    Calls Tryz.prog 58 #[.agg #[.string a.par, .string a.by_, .bool a.both], .agg #[.string b.par, .string b.by_, .bool b.both]] w fun e w' => e = .returned (.int .i64 (cmpAl a b)) ∧ Below w.heap.size w w' := by
  have HC : Hid (cmpAl a b = errsL [Lib.compareBytes a.par.data.toList b.par.data.toList, Lib.compareBytes a.by_.data.toList b.by_.data.toList]) := rfl
  have C1 := Lib.hid (fun W => Tryz.strings_Compare a.par b.par W)
  have C2 := Lib.hid (fun W => Tryz.strings_Compare a.by_ b.by_ W)
  generalize cmpAl a b = R at *
  generalize Lib.compareBytes a.par.data.toList b.par.data.toList = c1 at *
  generalize Lib.compareBytes a.by_.data.toList b.by_.data.toList = c2 at *
  have CO := Lib.hid (fun (W : World) (g c : Nat) (h : LineAt W g ([c1, c2].map (Value.int .i64))) => orI_any [c1, c2] (by simp) g c W h)
  rw [← HC.out] at CO
  simp only [List.length_cons, List.length_nil, Nat.zero_add, Nat.reduceAdd] at CO
  obtain ⟨a1, a2, a3⟩ := a
  obtain ⟨b1, b2, b3⟩ := b
  dsimp only at *
  have H0 : Hid (Below w.heap.size w ((w.alloc (.cells #[.string a1, .string a2, .bool a3] 51)).alloc (.cells #[.string b1, .string b2, .bool b3] 51)) ∧ ((w.alloc (.cells #[.string a1, .string a2, .bool a3] 51)).alloc (.cells #[.string b1, .string b2, .bool b3] 51)).heap[w.heap.size]? = some (.cells #[.string a1, .string a2, .bool a3] 51 (0, 0)) ∧ ((w.alloc (.cells #[.string a1, .string a2, .bool a3] 51)).alloc (.cells #[.string b1, .string b2, .bool b3] 51)).heap[w.heap.size + 1]? = some (.cells #[.string b1, .string b2, .bool b3] 51 (0, 0))) :=
    ⟨((Below.refl _ _).alloc (Nat.le_refl _) _).alloc (by simp) _, blk_alloc (blk_new w _ rfl) _, blk_new _ _ (by simp)⟩
  go_enter Tryz.func58, Tryz.ntmps58
  go_upto_region 1 with (fail)
  generalize (w.alloc (.cells #[.string a1, .string a2, .bool a3] 51)).alloc (.cells #[.string b1, .string b2, .bool b3] 51) = wx at *
  refine Rg.rgL (fun a b => Below a.heap.size a b)
    [(fun vs u => vs 0 = .pointer (some ⟨w.heap.size, 0, none⟩)), (fun vs u => vs 1 = .string a1), (fun vs u => vs 2 = .pointer (some ⟨w.heap.size + 1, 0, none⟩)), (fun vs u => vs 3 = .string b1), (fun vs u => vs 4 = .int .i64 c1), (fun vs u => vs 5 = .pointer (some ⟨w.heap.size, 1, none⟩)), (fun vs u => vs 6 = .string a2), (fun vs u => vs 7 = .pointer (some ⟨w.heap.size + 1, 1, none⟩)), (fun vs u => vs 8 = .string b2)]
    [[], [0], [], [2], [0, 1, 2, 3], [], [5], [], [7]] [some 5, some 6, some 7, some 8, some 9, some 10, some 11, some 12, some 13, some 14, some 15, some 16, some 4] [] (fun _ _ => True) [[], [0], [], [2], [0, 1, 2, 3], [], [5], [], [7], [0, 1, 2, 3, 4, 5, 6, 7, 8], [0, 1, 2, 3, 4, 5, 6, 7, 8, 9], [0, 1, 2, 3, 4, 5, 6, 7, 8, 9, 10], [0, 1, 2, 3, 4, 5, 6, 7, 8, 9, 10, 11]]
    (by kernel_rfl) (by decide) (by kernel_rfl) (by kernel_rfl) (by kernel_rfl) (by kernel_rfl) (by kernel_rfl) (fun _ => Below.refl _ _) (fun _ _ _ h k => h.ext k) (fun _ _ h => h.size) ?_ trivial ?_ ?_
  · intro t ht vs w w' h hE
    simp only [List.mem_cons, List.not_mem_nil, or_false] at ht
    rcases ht with rfl | rfl | rfl | rfl | rfl | rfl | rfl | rfl | rfl
    · exact h
    · exact h
    · exact h
    · exact h
    · exact h
    · exact h
    · exact h
    · exact h
    · exact h
  ·
    refine Rg.cons 0 1 rfl (Rg.plain rfl ?_) ?_
    · intro vs W n hn hI hG hT hF K hK
      simp only [Rg.putsD, List.getD_cons_zero, List.getD_cons_succ, Act.put, List.setIfInBounds_toArray, List.set_cons_zero, List.set_cons_succ] at hK ⊢
      clear hn
      clear hF hI
      have H := Lib.hid hK
      clear hK hT
      go_simp
      exact H.out _ _ (Below.refl _ _) rfl (fun h => by cases h) trivial
    refine Rg.cons 1 2 rfl (Rg.plain rfl ?_) ?_
    · intro vs W n hn hI hG hT hF K hK
      simp only [Rg.putsD, List.getD_cons_zero, List.getD_cons_succ, Act.put, List.setIfInBounds_toArray, List.set_cons_zero, List.set_cons_succ] at hK ⊢
      clear hn
      clear hF hI
      have t0 : vs 0 = .pointer (some ⟨w.heap.size, 0, none⟩) := hT 0 (by decide)
      obtain ⟨k0, k1, k2⟩ := blk3 (blk_below hG H0.out.2.1)
      simp only [t0] at hK
      have H := Lib.hid hK
      clear hK hT
      go_simp
      exact H.out _ _ (Below.refl _ _) rfl (fun h => by cases h) trivial
    refine Rg.cons 2 3 rfl (Rg.plain rfl ?_) ?_
    · intro vs W n hn hI hG hT hF K hK
      simp only [Rg.putsD, List.getD_cons_zero, List.getD_cons_succ, Act.put, List.setIfInBounds_toArray, List.set_cons_zero, List.set_cons_succ] at hK ⊢
      clear hn
      clear hF hI
      have H := Lib.hid hK
      clear hK hT
      go_simp
      exact H.out _ _ (Below.refl _ _) rfl (fun h => by cases h) trivial
    refine Rg.cons 3 4 rfl (Rg.plain rfl ?_) ?_
    · intro vs W n hn hI hG hT hF K hK
      simp only [Rg.putsD, List.getD_cons_zero, List.getD_cons_succ, Act.put, List.setIfInBounds_toArray, List.set_cons_zero, List.set_cons_succ] at hK ⊢
      clear hn
      clear hF hI
      have t2 : vs 2 = .pointer (some ⟨w.heap.size + 1, 0, none⟩) := hT 2 (by decide)
      obtain ⟨k0, k1, k2⟩ := blk3 (blk_below hG H0.out.2.2)
      simp only [t2] at hK
      have H := Lib.hid hK
      clear hK hT
      go_simp
      exact H.out _ _ (Below.refl _ _) rfl (fun h => by cases h) trivial
    refine Rg.cons 4 5 rfl (Rg.plain rfl ?_) ?_
    · intro vs W n hn hI hG hT hF K hK
      simp only [Rg.putsD, List.getD_cons_zero, List.getD_cons_succ, Act.put, List.setIfInBounds_toArray, List.set_cons_zero, List.set_cons_succ] at hK ⊢
      clear hn
      clear hF hI
      have t0 : vs 0 = .pointer (some ⟨w.heap.size, 0, none⟩) := hT 0 (by decide)
      have t1 : vs 1 = .string a1 := hT 1 (by decide)
      have t2 : vs 2 = .pointer (some ⟨w.heap.size + 1, 0, none⟩) := hT 2 (by decide)
      have t3 : vs 3 = .string b1 := hT 3 (by decide)
      simp only [t0, t1, t2, t3] at hK
      have H := Lib.hid hK
      clear hK hT
      go_simp
      refine (C1.out _).mono ?_
      rintro e w6 ⟨rfl, rfl⟩
      exact H.out _ _ (Below.refl _ _) rfl (fun h => by cases h) trivial
    refine Rg.cons 5 6 rfl (Rg.plain rfl ?_) ?_
    · intro vs W n hn hI hG hT hF K hK
      simp only [Rg.putsD, List.getD_cons_zero, List.getD_cons_succ, Act.put, List.setIfInBounds_toArray, List.set_cons_zero, List.set_cons_succ] at hK ⊢
      clear hn
      clear hF hI
      have H := Lib.hid hK
      clear hK hT
      go_simp
      exact H.out _ _ (Below.refl _ _) rfl (fun h => by cases h) trivial
    refine Rg.cons 6 7 rfl (Rg.plain rfl ?_) ?_
    · intro vs W n hn hI hG hT hF K hK
      simp only [Rg.putsD, List.getD_cons_zero, List.getD_cons_succ, Act.put, List.setIfInBounds_toArray, List.set_cons_zero, List.set_cons_succ] at hK ⊢
      clear hn
      clear hF hI
      have t5 : vs 5 = .pointer (some ⟨w.heap.size, 1, none⟩) := hT 5 (by decide)
      obtain ⟨k0, k1, k2⟩ := blk3 (blk_below hG H0.out.2.1)
      simp only [t5] at hK
      have H := Lib.hid hK
      clear hK hT
      go_simp
      exact H.out _ _ (Below.refl _ _) rfl (fun h => by cases h) trivial
    refine Rg.cons 7 8 rfl (Rg.plain rfl ?_) ?_
    · intro vs W n hn hI hG hT hF K hK
      simp only [Rg.putsD, List.getD_cons_zero, List.getD_cons_succ, Act.put, List.setIfInBounds_toArray, List.set_cons_zero, List.set_cons_succ] at hK ⊢
      clear hn
      clear hF hI
      have H := Lib.hid hK
      clear hK hT
      go_simp
      exact H.out _ _ (Below.refl _ _) rfl (fun h => by cases h) trivial
    refine Rg.cons 8 9 rfl (Rg.plain rfl ?_) ?_
    · intro vs W n hn hI hG hT hF K hK
      simp only [Rg.putsD, List.getD_cons_zero, List.getD_cons_succ, Act.put, List.setIfInBounds_toArray, List.set_cons_zero, List.set_cons_succ] at hK ⊢
      clear hn
      clear hF hI
      have t7 : vs 7 = .pointer (some ⟨w.heap.size + 1, 1, none⟩) := hT 7 (by decide)
      obtain ⟨k0, k1, k2⟩ := blk3 (blk_below hG H0.out.2.2)
      simp only [t7] at hK
      have H := Lib.hid hK
      clear hK hT
      go_simp
      exact H.out _ _ (Below.refl _ _) rfl (fun h => by cases h) trivial
    exact Rg.nil
  · intro vs W hG hI hT hF
    have t0 : vs 0 = .pointer (some ⟨w.heap.size, 0, none⟩) := hT 0 (by decide)
    have t1 : vs 1 = .string a1 := hT 1 (by decide)
    have t2 : vs 2 = .pointer (some ⟨w.heap.size + 1, 0, none⟩) := hT 2 (by decide)
    have t3 : vs 3 = .string b1 := hT 3 (by decide)
    have t4 : vs 4 = .int .i64 c1 := hT 4 (by decide)
    have t5 : vs 5 = .pointer (some ⟨w.heap.size, 1, none⟩) := hT 5 (by decide)
    have t6 : vs 6 = .string a2 := hT 6 (by decide)
    have t7 : vs 7 = .pointer (some ⟨w.heap.size + 1, 1, none⟩) := hT 7 (by decide)
    have t8 : vs 8 = .string b2 := hT 8 (by decide)
    simp only [List.length_cons, List.length_nil, Nat.reduceAdd, List.range, List.range.loop, List.drop_succ_cons, List.drop_zero, Rg.putsD, List.getD_cons_zero, List.getD_cons_succ, Act.put, List.setIfInBounds_toArray, List.set_cons_zero, List.set_cons_succ, t0, t1, t2, t3, t4, t5, t6, t7, t8]
    clear hT t0 t1 t2 t3 t4 t5 t6 t7 t8
    have HB := Lib.hid (H0.out.1.drew.then_below hG H0.out.1.size)
    clear hG hF hI H0
    go_wp2_with fail
    refine (C2.out _).mono ?_
    rintro e w7 ⟨rfl, rfl⟩
    go_wp2_with fail
    refine (CO.out _ _ _ (lineI (blk_new w7 _ rfl))).mono ?_
    rintro e w8 ⟨rfl, rfl⟩
    have HB2 := Lib.hid (HB.out.alloc HB.out.size (.cells (List.map (Value.int .i64) [c1, c2]).toArray 3))
    generalize w7.alloc (.cells (List.map (Value.int .i64) [c1, c2]).toArray 3) = w9 at *
    go_wp2_with fail
    refine bodyPost_ret (v := .int .i64 R) (by unfold results; simp only [Tryz.results58]; go_simp) rfl ⟨rfl, HB2.out⟩

set_option maxHeartbeats 2000000 in
theorem byAl_any (a b : Al) (w : World) :
    Calls Tryz.prog 24 #[.agg #[.string a.par, .string a.by_, .bool a.both], .agg #[.string b.par, .string b.by_, .bool b.both]] w fun e w' => e = .returned (.int .i64 (cmpAl a b)) ∧ Below w.heap.size w w' := by
  have HC : Hid (cmpAl a b = errsL [Lib.compareBytes a.par.data.toList b.par.data.toList, Lib.compareBytes a.by_.data.toList b.by_.data.toList]) := rfl
  have C1 := Lib.hid (fun W => Tryz.strings_Compare a.par b.par W)
  have C2 := Lib.hid (fun W => Tryz.strings_Compare a.by_ b.by_ W)
  generalize cmpAl a b = R at *
  generalize Lib.compareBytes a.par.data.toList b.par.data.toList = c1 at *
  generalize Lib.compareBytes a.by_.data.toList b.by_.data.toList = c2 at *
  have CO := Lib.hid (fun (W : World) (g c : Nat) (h : LineAt W g ([c1, c2].map (Value.int .i64))) => orI_any [c1, c2] (by simp) g c W h)
  rw [← HC.out] at CO
  simp only [List.length_cons, List.length_nil, Nat.zero_add, Nat.reduceAdd] at CO
  obtain ⟨a1, a2, a3⟩ := a
  obtain ⟨b1, b2, b3⟩ := b
  dsimp only at *
  have H0 : Hid (Below w.heap.size w ((w.alloc (.cells #[.string a1, .string a2, .bool a3] 51)).alloc (.cells #[.string b1, .string b2, .bool b3] 51)) ∧ ((w.alloc (.cells #[.string a1, .string a2, .bool a3] 51)).alloc (.cells #[.string b1, .string b2, .bool b3] 51)).heap[w.heap.size]? = some (.cells #[.string a1, .string a2, .bool a3] 51 (0, 0)) ∧ ((w.alloc (.cells #[.string a1, .string a2, .bool a3] 51)).alloc (.cells #[.string b1, .string b2, .bool b3] 51)).heap[w.heap.size + 1]? = some (.cells #[.string b1, .string b2, .bool b3] 51 (0, 0))) :=
    ⟨((Below.refl _ _).alloc (Nat.le_refl _) _).alloc (by simp) _, blk_alloc (blk_new w _ rfl) _, blk_new _ _ (by simp)⟩
  go_enter Tryz.func24, Tryz.ntmps24
  go_upto_region 1 with (fail)
  generalize (w.alloc (.cells #[.string a1, .string a2, .bool a3] 51)).alloc (.cells #[.string b1, .string b2, .bool b3] 51) = wx at *
  refine Rg.rgL (fun a b => Below a.heap.size a b)
    [(fun vs u => vs 0 = .pointer (some ⟨w.heap.size, 0, none⟩)), (fun vs u => vs 1 = .string a1), (fun vs u => vs 2 = .pointer (some ⟨w.heap.size + 1, 0, none⟩)), (fun vs u => vs 3 = .string b1), (fun vs u => vs 4 = .int .i64 c1), (fun vs u => vs 5 = .pointer (some ⟨w.heap.size, 1, none⟩)), (fun vs u => vs 6 = .string a2), (fun vs u => vs 7 = .pointer (some ⟨w.heap.size + 1, 1, none⟩)), (fun vs u => vs 8 = .string b2)]
    [[], [0], [], [2], [0, 1, 2, 3], [], [5], [], [7]] [some 5, some 6, some 7, some 8, some 9, some 10, some 11, some 12, some 13, some 14, some 15, some 16, some 4] [] (fun _ _ => True) [[], [0], [], [2], [0, 1, 2, 3], [], [5], [], [7], [0, 1, 2, 3, 4, 5, 6, 7, 8], [0, 1, 2, 3, 4, 5, 6, 7, 8, 9], [0, 1, 2, 3, 4, 5, 6, 7, 8, 9, 10], [0, 1, 2, 3, 4, 5, 6, 7, 8, 9, 10, 11]]
    (by kernel_rfl) (by decide) (by kernel_rfl) (by kernel_rfl) (by kernel_rfl) (by kernel_rfl) (by kernel_rfl) (fun _ => Below.refl _ _) (fun _ _ _ h k => h.ext k) (fun _ _ h => h.size) ?_ trivial ?_ ?_
  · intro t ht vs w w' h hE
    simp only [List.mem_cons, List.not_mem_nil, or_false] at ht
    rcases ht with rfl | rfl | rfl | rfl | rfl | rfl | rfl | rfl | rfl
    · exact h
    · exact h
    · exact h
    · exact h
    · exact h
    · exact h
    · exact h
    · exact h
    · exact h
  ·
    refine Rg.cons 0 1 rfl (Rg.plain rfl ?_) ?_
    · intro vs W n hn hI hG hT hF K hK
      simp only [Rg.putsD, List.getD_cons_zero, List.getD_cons_succ, Act.put, List.setIfInBounds_toArray, List.set_cons_zero, List.set_cons_succ] at hK ⊢
      clear hn
      clear hF hI
      have H := Lib.hid hK
      clear hK hT
      go_simp
      exact H.out _ _ (Below.refl _ _) rfl (fun h => by cases h) trivial
    refine Rg.cons 1 2 rfl (Rg.plain rfl ?_) ?_
    · intro vs W n hn hI hG hT hF K hK
      simp only [Rg.putsD, List.getD_cons_zero, List.getD_cons_succ, Act.put, List.setIfInBounds_toArray, List.set_cons_zero, List.set_cons_succ] at hK ⊢
      clear hn
      clear hF hI
      have t0 : vs 0 = .pointer (some ⟨w.heap.size, 0, none⟩) := hT 0 (by decide)
      obtain ⟨k0, k1, k2⟩ := blk3 (blk_below hG H0.out.2.1)
      simp only [t0] at hK
      have H := Lib.hid hK
      clear hK hT
      go_simp
      exact H.out _ _ (Below.refl _ _) rfl (fun h => by cases h) trivial
    refine Rg.cons 2 3 rfl (Rg.plain rfl ?_) ?_
    · intro vs W n hn hI hG hT hF K hK
      simp only [Rg.putsD, List.getD_cons_zero, List.getD_cons_succ, Act.put, List.setIfInBounds_toArray, List.set_cons_zero, List.set_cons_succ] at hK ⊢
      clear hn
      clear hF hI
      have H := Lib.hid hK
      clear hK hT
      go_simp
      exact H.out _ _ (Below.refl _ _) rfl (fun h => by cases h) trivial
    refine Rg.cons 3 4 rfl (Rg.plain rfl ?_) ?_
    · intro vs W n hn hI hG hT hF K hK
      simp only [Rg.putsD, List.getD_cons_zero, List.getD_cons_succ, Act.put, List.setIfInBounds_toArray, List.set_cons_zero, List.set_cons_succ] at hK ⊢
      clear hn
      clear hF hI
      have t2 : vs 2 = .pointer (some ⟨w.heap.size + 1, 0, none⟩) := hT 2 (by decide)
      obtain ⟨k0, k1, k2⟩ := blk3 (blk_below hG H0.out.2.2)
      simp only [t2] at hK
      have H := Lib.hid hK
      clear hK hT
      go_simp
      exact H.out _ _ (Below.refl _ _) rfl (fun h => by cases h) trivial
    refine Rg.cons 4 5 rfl (Rg.plain rfl ?_) ?_
    · intro vs W n hn hI hG hT hF K hK
      simp only [Rg.putsD, List.getD_cons_zero, List.getD_cons_succ, Act.put, List.setIfInBounds_toArray, List.set_cons_zero, List.set_cons_succ] at hK ⊢
      clear hn
      clear hF hI
      have t0 : vs 0 = .pointer (some ⟨w.heap.size, 0, none⟩) := hT 0 (by decide)
      have t1 : vs 1 = .string a1 := hT 1 (by decide)
      have t2 : vs 2 = .pointer (some ⟨w.heap.size + 1, 0, none⟩) := hT 2 (by decide)
      have t3 : vs 3 = .string b1 := hT 3 (by decide)
      simp only [t0, t1, t2, t3] at hK
      have H := Lib.hid hK
      clear hK hT
      go_simp
      refine (C1.out _).mono ?_
      rintro e w6 ⟨rfl, rfl⟩
      exact H.out _ _ (Below.refl _ _) rfl (fun h => by cases h) trivial
    refine Rg.cons 5 6 rfl (Rg.plain rfl ?_) ?_
    · intro vs W n hn hI hG hT hF K hK
      simp only [Rg.putsD, List.getD_cons_zero, List.getD_cons_succ, Act.put, List.setIfInBounds_toArray, List.set_cons_zero, List.set_cons_succ] at hK ⊢
      clear hn
      clear hF hI
      have H := Lib.hid hK
      clear hK hT
      go_simp
      exact H.out _ _ (Below.refl _ _) rfl (fun h => by cases h) trivial
    refine Rg.cons 6 7 rfl (Rg.plain rfl ?_) ?_
    · intro vs W n hn hI hG hT hF K hK
      simp only [Rg.putsD, List.getD_cons_zero, List.getD_cons_succ, Act.put, List.setIfInBounds_toArray, List.set_cons_zero, List.set_cons_succ] at hK ⊢
      clear hn
      clear hF hI
      have t5 : vs 5 = .pointer (some ⟨w.heap.size, 1, none⟩) := hT 5 (by decide)
      obtain ⟨k0, k1, k2⟩ := blk3 (blk_below hG H0.out.2.1)
      simp only [t5] at hK
      have H := Lib.hid hK
      clear hK hT
      go_simp
      exact H.out _ _ (Below.refl _ _) rfl (fun h => by cases h) trivial
    refine Rg.cons 7 8 rfl (Rg.plain rfl ?_) ?_
    · intro vs W n hn hI hG hT hF K hK
      simp only [Rg.putsD, List.getD_cons_zero, List.getD_cons_succ, Act.put, List.setIfInBounds_toArray, List.set_cons_zero, List.set_cons_succ] at hK ⊢
      clear hn
      clear hF hI
      have H := Lib.hid hK
      clear hK hT
      go_simp
      exact H.out _ _ (Below.refl _ _) rfl (fun h => by cases h) trivial
    refine Rg.cons 8 9 rfl (Rg.plain rfl ?_) ?_
    · intro vs W n hn hI hG hT hF K hK
      simp only [Rg.putsD, List.getD_cons_zero, List.getD_cons_succ, Act.put, List.setIfInBounds_toArray, List.set_cons_zero, List.set_cons_succ] at hK ⊢
      clear hn
      clear hF hI
      have t7 : vs 7 = .pointer (some ⟨w.heap.size + 1, 1, none⟩) := hT 7 (by decide)
      obtain ⟨k0, k1, k2⟩ := blk3 (blk_below hG H0.out.2.2)
      simp only [t7] at hK
      have H := Lib.hid hK
      clear hK hT
      go_simp
      exact H.out _ _ (Below.refl _ _) rfl (fun h => by cases h) trivial
    exact Rg.nil
  · intro vs W hG hI hT hF
    have t0 : vs 0 = .pointer (some ⟨w.heap.size, 0, none⟩) := hT 0 (by decide)
    have t1 : vs 1 = .string a1 := hT 1 (by decide)
    have t2 : vs 2 = .pointer (some ⟨w.heap.size + 1, 0, none⟩) := hT 2 (by decide)
    have t3 : vs 3 = .string b1 := hT 3 (by decide)
    have t4 : vs 4 = .int .i64 c1 := hT 4 (by decide)
    have t5 : vs 5 = .pointer (some ⟨w.heap.size, 1, none⟩) := hT 5 (by decide)
    have t6 : vs 6 = .string a2 := hT 6 (by decide)
    have t7 : vs 7 = .pointer (some ⟨w.heap.size + 1, 1, none⟩) := hT 7 (by decide)
    have t8 : vs 8 = .string b2 := hT 8 (by decide)
    simp only [List.length_cons, List.length_nil, Nat.reduceAdd, List.range, List.range.loop, List.drop_succ_cons, List.drop_zero, Rg.putsD, List.getD_cons_zero, List.getD_cons_succ, Act.put, List.setIfInBounds_toArray, List.set_cons_zero, List.set_cons_succ, t0, t1, t2, t3, t4, t5, t6, t7, t8]
    clear hT t0 t1 t2 t3 t4 t5 t6 t7 t8
    have HB := Lib.hid (H0.out.1.drew.then_below hG H0.out.1.size)
    clear hG hF hI H0
    go_wp2_with fail
    refine (C2.out _).mono ?_
    rintro e w7 ⟨rfl, rfl⟩
    go_wp2_with fail
    refine (CO.out _ _ _ (lineI (blk_new w7 _ rfl))).mono ?_
    rintro e w8 ⟨rfl, rfl⟩
    have HB2 := Lib.hid (HB.out.alloc HB.out.size (.cells (List.map (Value.int .i64) [c1, c2]).toArray 3))
    generalize w7.alloc (.cells (List.map (Value.int .i64) [c1, c2]).toArray 3) = w9 at *
    go_wp2_with fail
    refine bodyPost_ret (v := .int .i64 R) (by unfold results; simp only [Tryz.results24]; go_simp) rfl ⟨rfl, HB2.out⟩
end Go.Proofs.YtiooimfkobjpkaaGreatDoor

/-
  Catalogues: the check of the alternates.
-/
namespace Go.Proofs.YtiooimfkobjpkaaGreatDoor
open Go.RowKit Go.WideMaps Go.Maps
set_option linter.unusedSimpArgs false
set_option linter.unusedVariables false

theorem map_below {w w' : World} {mb n : Nat} {D : DataW Unit} {k : TypeId} {R : Value → Option (DataW Unit × List MemPlace)} (h : w.ownsMap Tryz.prog k R mb n D) (hb : Below w.heap.size w w') : w'.ownsMap Tryz.prog k R mb n D := by
  have hlt := h.lt
  obtain ⟨es, clock, h1, h2⟩ := h
  exact ⟨es, clock, (hb.block _ hlt).trans h1, h2⟩
theorem zeroInt (w : World) : (zeroValue 3).run Tryz.prog w = .ok (.int .i64 0) w := by kernel_rfl
theorem placeIs_has {D : DataW Unit} {l : List (List UInt8)} (h : PlaceIs D l) (s : List UInt8) : Maps.has D (.string s) = decide (s ∈ l) := by
  by_cases hm : s ∈ l
  · rw [has_true_of_atKey (y := .lit (.int .i64 (lastI l s : Int))) (fun z => by rw [h.2, if_pos hm])]; simp [hm]
  · rw [has_false_of_atKey (fun z => by rw [h.2, if_neg hm])]; simp [hm]
/-- A part has the key. -/
def hasK (l : List Pa) (s : ByteArray) : Bool := decide (s.data.toList ∈ keysOf l)
/-- The strings are one. -/
def sameS (a b : ByteArray) : Bool := a.toList == b.toList
def altsE (l : List Pa) : Option Al → List Al → Int
  | _, [] => 0
  | prev, a :: r => if (hasK l a.par && hasK l a.by_) = false then 8 else if sameS a.par a.by_ = true then 3 else if (match prev with | none => false | some q => decide (cmpAl a q ≤ 0)) = true then 7 else altsE l (some a) r
def altsErr (l : List Pa) (al : List Al) : Int := if 2000 < al.length then 2 else altsE l none al
def prevA (al : List Al) (k : Nat) : Option Al := if k = 0 then none else al[k - 1]?
theorem altsE_drop (l : List Pa) {al : List Al} {k : Nat} (hk : k < al.length) (prev : Option Al) : altsE l prev (al.drop k) = if (hasK l al[k].par && hasK l al[k].by_) = false then 8 else if sameS al[k].par al[k].by_ = true then 3 else if (match prev with | none => false | some q => decide (cmpAl al[k] q ≤ 0)) = true then 7 else altsE l (some al[k]) (al.drop (k + 1)) := by
  rw [List.drop_eq_getElem_cons hk]
  rfl
theorem row_al {w : World} {g : Nat} {l : List Al} (h : LineAt w g (l.flatMap encAl)) {k : Nat} (hk : k < l.length) :
    w.cell? ⟨g, k * 3, none⟩ = some (.string l[k].par) ∧ w.cell? ⟨g, k * 3 + 1, none⟩ = some (.string l[k].by_) ∧ w.cell? ⟨g, k * 3 + 2, none⟩ = some (.bool l[k].both) := by
  have e := fun j (hj : j < 3) => flatK_at encAl 3 (fun _ => rfl) l k hk j hj
  exact ⟨h.2 _ _ (e 0 (by omega)), h.2 _ _ (e 1 (by omega)), h.2 _ _ (e 2 (by omega))⟩
/-- What stands in memory. -/
structure AS (w : World) (pv av : Value) (gm n : Nat) (D : DataW Unit) (W : World) : Prop where
  bel : Below w.heap.size w W
  k0 : W.heap[w.heap.size]? = some (.cells #[pv, av] 29 (0, 0))
  mp : W.ownsMap (H := Unit) Tryz.prog 9 (plainElem Tryz.prog 3) gm n D
theorem AS.below {w : World} {pv av : Value} {gm n : Nat} {D : DataW Unit} {W W' : World} (h : AS w pv av gm n D W) (hb : Below W.heap.size W W') : AS w pv av gm n D W' :=
  ⟨h.bel.then_below hb h.bel.size, blk_below hb h.k0, map_below h.mp hb⟩

set_option maxRecDepth 100000 in
set_option maxHeartbeats 8000000 in
theorem checkAlternatesN_any (l : List Pa) (hl : l.length ≤ 1000000) (hk : ∀ p ∈ l, p.key.size ≤ maxLen) (al : List Al) (ha : al.length ≤ 1000000) (hz : ∀ a ∈ al, a.par.size ≤ maxLen ∧ a.by_.size ≤ maxLen) {pv av : Value} {w : World} (h1 : Reads encPa pv l w) (h2 : Reads encAl av al w) :
    Calls Tryz.prog 27 #[.agg #[pv, av]] w fun e w' => e = .returned (.int .i64 (altsErr l al)) ∧ Below w.heap.size w w' := by
  have CPL := Lib.hid (fun (W : World) (h : Reads encPa pv l W) => placesN_any l hl hk h)
  have HR1 := Lib.hid h1
  have HR2 := Lib.hid h2
  have HZ := Lib.hid hz
  obtain ⟨Ap, cp, rfl, _⟩ := h1
  obtain ⟨Aa, ca, rfl, _⟩ := h2
  clear hk hz
  have H0 : Hid (Below w.heap.size w (w.alloc (.cells #[.slice Ap l.length cp, .slice Aa al.length ca] 29)) ∧ (w.alloc (.cells #[.slice Ap l.length cp, .slice Aa al.length ca] 29)).heap[w.heap.size]? = some (.cells #[.slice Ap l.length cp, .slice Aa al.length ca] 29 (0, 0))) := ⟨(Below.refl _ _).alloc (Nat.le_refl _) _, blk_new w _ rfl⟩
  by_cases hbig : 2000 < al.length
  · have HF : Hid (altsErr l al = 2) := if_pos hbig
    have hb2 : (2000 : Int) < (al.length : Int) := by omega
    go_enter Tryz.func27, Tryz.ntmps27
    go_wp2_with fail
    go_ret
    exact ⟨ret_int HF.out.symm, H0.out.1⟩
  have HF : Hid (altsErr l al = altsE l none al) := if_neg hbig
  have hb2 : ¬ (2000 : Int) < (al.length : Int) := by omega
  generalize altsErr l al = E at *
  go_enter Tryz.func27, Tryz.ntmps27
  go_upto_region 1 with (fail)
  generalize w.alloc (.cells #[.slice Ap l.length cp, .slice Aa al.length ca] 29) = w0 at *
  obtain ⟨c0, c1, _, _⟩ := blk2 H0.out.2
  have hgl := lt_of_blk H0.out.2
  go_wp2_with fail
  refine (CPL.out w0 (HR1.out.below H0.out.1)).mono ?_
  rintro e w1 ⟨gm, n, D, rfl, b1, hgm, hmp, hn, hD⟩
  have HS0 : Hid (AS w (.slice Ap l.length cp) (.slice Aa al.length ca) gm n D w1) := ⟨H0.out.1.then_below b1 H0.out.1.size, blk_below b1 H0.out.2, hmp⟩
  have HD := Lib.hid hD
  clear b1 hmp hD H0 c0 c1 hgl CPL
  obtain ⟨c0, c1, _, _⟩ := blk2 HS0.out.k0
  have hgl := lt_of_blk HS0.out.k0
  go_wp2_with fail
  clear c0 c1 hgl
  go_loopw [20] (fun kk wr => ∃ k : Nat, k ≤ al.length ∧ kk = .int .i64 k ∧ Hid (AS w (.slice Ap l.length cp) (.slice Aa al.length ca) gm n D wr ∧ E = altsE l (prevA al k) (al.drop k))) (fun kk _ => al.length - (intOf kk).toNat)
  case atStart => exact ⟨0, by omega, rfl, HS0.out, HF.out⟩
  case round =>
    obtain ⟨k, hk, rfl, HS⟩ := hrel
    clear HS0
    by_cases hlt : k < al.length
    · obtain ⟨A', c', ea, hr⟩ := HR2.out.below HS.out.1.bel
      cases ea
      rcases hr with rfl | ⟨g, rfl, hrow⟩
      · simp at hlt
      have HE : Hid (E = _) := HS.out.2.trans (altsE_drop l hlt (prevA al k))
      obtain ⟨q0, q1, q2⟩ := row_al hrow hlt
      have hgl := hrow.1
      have i1 : (0 : Int) ≤ (k : Int) := by omega
      have i2 : (k : Int) < (al.length : Int) := by omega
      have HZK := Lib.hid (HZ.out al[k] (List.getElem_mem hlt))
      have HPK : Hid (prevA al (k + 1) = some al[k]) := by
        show (if k + 1 = 0 then none else al[k + 1 - 1]?) = _
        rw [if_neg (by omega), Nat.add_sub_cancel, List.getElem?_eq_getElem hlt]
      have HB := Lib.hid HS.out.1
      clear hrow HS
      generalize al[k] = a at *
      obtain ⟨par, by_, both⟩ := a
      dsimp only at q0 q1 q2 HE HZK
      have HX : Hid (AS w (.slice Ap l.length cp) (.slice (some ⟨g, 0, none⟩) al.length ca) gm n D (wr.alloc (.cells #[.string par, .string by_, .bool both] 51)) ∧ (wr.alloc (.cells #[.string par, .string by_, .bool both] 51)).heap[wr.heap.size]? = some (.cells #[.string par, .string by_, .bool both] 51 (0, 0))) := ⟨HB.out.below ((Below.refl _ _).alloc (Nat.le_refl _) _), blk_new wr _ rfl⟩
      go_wp2_with (at_lookup; refine hold ?_)
      refine loose ?_
      refine wpList_lookup_own_ok_int _ rfl _ _ 98 rfl 9 3 .i64 lawStr Tryz.underlying98 Tryz.underlying3 (zeroInt _) gm n D rfl HX.out.1.mp _ _ rfl (keyOf_string_mk Tryz.underlying9 HZK.out.1) ?_
      intro v1 _ _
      rw [show Maps.has D (.string par.data.toList) = hasK l par from placeIs_has HD.out _]
      go_wp2_with (at_lookup; refine hold ?_)
      refine loose ?_
      refine wpList_lookup_own_ok_int _ rfl _ _ 98 rfl 9 3 .i64 lawStr Tryz.underlying98 Tryz.underlying3 (zeroInt _) gm n D rfl HX.out.1.mp _ _ rfl (keyOf_string_mk Tryz.underlying9 HZK.out.2) ?_
      intro v2 _ _
      rw [show Maps.has D (.string by_.data.toList) = hasK l by_ from placeIs_has HD.out _]
      generalize wr.alloc (.cells #[.string par, .string by_, .bool both] 51) = wx at *
      obtain ⟨p0, p1, p2⟩ := blk3 HX.out.2
      have hbl := lt_of_blk HX.out.2
      clear q0 q1 q2
      cases hh1 : hasK l par
      · have HV : Hid (E = 8) := HE.out.trans (if_pos (by rw [hh1]; rfl))
        clear hh1
        go_wp2_with fail
        go_ret
        exact ⟨ret_int HV.out.symm, HX.out.1.bel⟩
      cases hh2 : hasK l by_
      · have HV : Hid (E = 8) := HE.out.trans (if_pos (by rw [hh1, hh2]; rfl))
        clear hh1 hh2
        go_wp2_with fail
        go_ret
        exact ⟨ret_int HV.out.symm, HX.out.1.bel⟩
      have HE2 : Hid (E = _) := HE.out.trans (if_neg (by rw [hh1, hh2]; simp))
      clear hh1 hh2 HE
      go_upto_if 46 with (fail)
      rw [show (par.toList == by_.toList) = sameS par by_ from rfl]
      cases hsm : sameS par by_
      rotate_left
      · have HV : Hid (E = 3) := HE2.out.trans (if_pos hsm)
        clear hsm
        go_wp2_with fail
        go_ret
        exact ⟨ret_int HV.out.symm, HX.out.1.bel⟩
      have HE3 : Hid (E = _) := HE2.out.trans (if_neg (by rw [hsm]; simp))
      clear hsm HE2
      by_cases hk0 : 0 < k
      · obtain ⟨k', rfl⟩ : ∃ k', k = k' + 1 := ⟨k - 1, by omega⟩
        have hk1 : k' < al.length := by omega
        obtain ⟨A2, c2, ea2, hr2⟩ := HR2.out.below HX.out.1.bel
        cases ea2
        rcases hr2 with rfl | ⟨g2, eg2, hrow2⟩
        · simp at hk1
        cases eg2
        have HRW := Lib.hid (row_al hrow2 hk1)
        have hgx := hrow2.1
        have HPV : Hid (prevA al (k' + 1) = some al[k']) := by
          show (if k' + 1 = 0 then none else al[k' + 1 - 1]?) = _
          rw [if_neg (by omega), Nat.add_sub_cancel, List.getElem?_eq_getElem hk1]
        have HE4 : Hid (E = if decide (cmpAl ⟨par, by_, both⟩ al[k'] ≤ 0) = true then 7 else altsE l (some ⟨par, by_, both⟩) (al.drop (k' + 1 + 1))) := by
          have h := HE3.out
          rw [HPV.out] at h
          exact h
        clear HE3 hrow2 HPV
        generalize al[k'] = q at *
        obtain ⟨qpar, qby, qboth⟩ := q
        have CC := Lib.hid (fun W => compareAl_any ⟨par, by_, both⟩ ⟨qpar, qby, qboth⟩ W)
        dsimp only at HRW CC
        generalize cmpAl ⟨par, by_, both⟩ ⟨qpar, qby, qboth⟩ = cc at *
        have hw : IntKind.i64.wrap (k' : Int) = (k' : Int) := IntWalk.i64_in _ (by omega)
        have j1 : (0 : Int) ≤ (k' : Int) := by omega
        have j2 : (k' : Int) < (al.length : Int) := by omega
        have j3 : (0 : Int) < (k' : Int) + 1 := by omega
        clear p0 p1 p2
        go_upto_region 13 with (fail)
        refine Rg.rgL (fun a b => Below a.heap.size a b)
          [(fun vs u => vs 0 = .int .i64 ((k' : Int) + 1)), (fun vs u => vs 1 = .bool true), (fun vs u => vs 2 = .bool true), (fun vs u => vs 3 = .agg #[.string par, .string by_, .bool both]), (fun vs u => vs 4 = .pointer (some ⟨w.heap.size, 1, none⟩)), (fun vs u => vs 5 = .slice (some ⟨g, 0, none⟩) al.length ca), (fun vs u => vs 6 = .int .i64 ((k' : Int) + 1)), (fun vs u => vs 7 = .int .i64 k'), (fun vs u => vs 8 = .pointer (some ⟨g, k' * 3, none⟩)), (fun vs u => vs 9 = .agg #[.string qpar, .string qby, .bool qboth])]
          [[], [0], [0, 1], [0, 1, 2], [0, 1, 2], [0, 1, 2, 4], [0, 1, 2], [0, 1, 2, 6], [0, 1, 2, 4, 5, 6, 7], [0, 1, 2, 4, 5, 6, 7, 8]] [some 53, some 54, some 55, some 56, some 57, some 58, some 59, some 60, some 61, some 62, some 63, some 64, some 65, some 52] [] (fun _ _ => True) [[], [0], [0, 1], [0, 1, 2], [0, 1, 2], [0, 1, 2, 4], [0, 1, 2], [0, 1, 2, 6], [0, 1, 2, 4, 5, 6, 7], [0, 1, 2, 4, 5, 6, 7, 8], [0, 1, 2, 3, 4, 5, 6, 7, 8, 9], [0, 1, 2, 3, 4, 5, 6, 7, 8, 9, 10], [0, 1, 2, 3, 4, 5, 6, 7, 8, 9, 10, 11], [0, 1, 2, 3, 4, 5, 6, 7, 8, 9, 10, 11, 12]]
          (by kernel_rfl) (by decide) (by kernel_rfl) (by kernel_rfl) (by kernel_rfl) (by kernel_rfl) (by kernel_rfl) (fun _ => Below.refl _ _) (fun _ _ _ h k => h.ext k) (fun _ _ h => h.size) ?_ trivial ?_ ?_
        · intro t ht vs w w' h hE
          simp only [List.mem_cons, List.not_mem_nil, or_false] at ht
          rcases ht with rfl | rfl | rfl | rfl | rfl | rfl | rfl | rfl | rfl | rfl
          · exact h
          · exact h
          · exact h
          · exact h
          · exact h
          · exact h
          · exact h
          · exact h
          · exact h
          · exact h
        ·
          refine Rg.cons 0 1 rfl (Rg.plain rfl ?_) ?_
          · intro vs W n hn hI hG hT hF K hK
            simp only [Rg.putsD, List.getD_cons_zero, List.getD_cons_succ, Act.put, List.setIfInBounds_toArray, List.set_cons_zero, List.set_cons_succ] at hK ⊢
            clear hn
            clear hF hI
            have H := Lib.hid hK
            clear hK hT
            go_simp
            exact H.out _ _ (Below.refl _ _) rfl (fun h => by cases h) trivial
          refine Rg.cons 1 2 rfl (Rg.plain rfl ?_) ?_
          · intro vs W n hn hI hG hT hF K hK
            simp only [Rg.putsD, List.getD_cons_zero, List.getD_cons_succ, Act.put, List.setIfInBounds_toArray, List.set_cons_zero, List.set_cons_succ] at hK ⊢
            clear hn
            clear hF hI
            have t0 : vs 0 = .int .i64 ((k' : Int) + 1) := hT 0 (by decide)
            simp only [t0] at hK
            have H := Lib.hid hK
            clear hK hT
            go_simp
            exact H.out _ _ (Below.refl _ _) rfl (fun h => by cases h) trivial
          refine Rg.cons 2 3 rfl (Rg.plain rfl ?_) ?_
          · intro vs W n hn hI hG hT hF K hK
            simp only [Rg.putsD, List.getD_cons_zero, List.getD_cons_succ, Act.put, List.setIfInBounds_toArray, List.set_cons_zero, List.set_cons_succ] at hK ⊢
            clear hn
            clear hF hI
            have t0 : vs 0 = .int .i64 ((k' : Int) + 1) := hT 0 (by decide)
            have t1 : vs 1 = .bool true := hT 1 (by decide)
            simp only [t0, t1] at hK
            have H := Lib.hid hK
            clear hK hT
            go_simp
            exact H.out _ _ (Below.refl _ _) rfl (fun h => by cases h) trivial
          refine Rg.cons 3 4 rfl (Rg.guarded ?_ ?_) ?_
          · intro vs W hT
            have tg : vs 2 = .bool true := hT 2 (by decide)
            simp only [Rg.putsD, List.getD_cons_zero, List.getD_cons_succ, Act.put, List.setIfInBounds_toArray, List.set_cons_zero, List.set_cons_succ, tg]
            rfl
          · intro vs W n hn hI hG hT hF K hK
            simp only [Rg.putsD, List.getD_cons_zero, List.getD_cons_succ, Act.put, List.setIfInBounds_toArray, List.set_cons_zero, List.set_cons_succ] at hK ⊢
            clear hn
            clear hF hI
            have t0 : vs 0 = .int .i64 ((k' : Int) + 1) := hT 0 (by decide)
            have t1 : vs 1 = .bool true := hT 1 (by decide)
            have t2 : vs 2 = .bool true := hT 2 (by decide)
            obtain ⟨p0, p1, p2⟩ := blk3 (blk_below (a := wx.drew) hG HX.out.2)
            have hpl := lt_of_blk (blk_below (a := wx.drew) hG HX.out.2)
            simp only [t0, t1, t2] at hK
            have H := Lib.hid hK
            clear hK hT
            go_simp
            exact H.out _ _ (Below.refl _ _) rfl (fun h => by cases h) trivial
          refine Rg.cons 4 5 rfl (Rg.guarded ?_ ?_) ?_
          · intro vs W hT
            have tg : vs 2 = .bool true := hT 2 (by decide)
            simp only [Rg.putsD, List.getD_cons_zero, List.getD_cons_succ, Act.put, List.setIfInBounds_toArray, List.set_cons_zero, List.set_cons_succ, tg]
            rfl
          · intro vs W n hn hI hG hT hF K hK
            simp only [Rg.putsD, List.getD_cons_zero, List.getD_cons_succ, Act.put, List.setIfInBounds_toArray, List.set_cons_zero, List.set_cons_succ] at hK ⊢
            clear hn
            clear hF hI
            have t0 : vs 0 = .int .i64 ((k' : Int) + 1) := hT 0 (by decide)
            have t1 : vs 1 = .bool true := hT 1 (by decide)
            have t2 : vs 2 = .bool true := hT 2 (by decide)
            simp only [t0, t1, t2] at hK
            have H := Lib.hid hK
            clear hK hT
            go_simp
            exact H.out _ _ (Below.refl _ _) rfl (fun h => by cases h) trivial
          refine Rg.cons 5 6 rfl (Rg.guarded ?_ ?_) ?_
          · intro vs W hT
            have tg : vs 2 = .bool true := hT 2 (by decide)
            simp only [Rg.putsD, List.getD_cons_zero, List.getD_cons_succ, Act.put, List.setIfInBounds_toArray, List.set_cons_zero, List.set_cons_succ, tg]
            rfl
          · intro vs W n hn hI hG hT hF K hK
            simp only [Rg.putsD, List.getD_cons_zero, List.getD_cons_succ, Act.put, List.setIfInBounds_toArray, List.set_cons_zero, List.set_cons_succ] at hK ⊢
            clear hn
            clear hF hI
            have t0 : vs 0 = .int .i64 ((k' : Int) + 1) := hT 0 (by decide)
            have t1 : vs 1 = .bool true := hT 1 (by decide)
            have t2 : vs 2 = .bool true := hT 2 (by decide)
            have t4 : vs 4 = .pointer (some ⟨w.heap.size, 1, none⟩) := hT 4 (by decide)
            obtain ⟨p0, p1, _, _⟩ := blk2 (blk_below (a := wx.drew) hG HX.out.1.k0)
            simp only [t0, t1, t2, t4] at hK
            have H := Lib.hid hK
            clear hK hT
            go_simp
            exact H.out _ _ (Below.refl _ _) rfl (fun h => by cases h) trivial
          refine Rg.cons 6 7 rfl (Rg.guarded ?_ ?_) ?_
          · intro vs W hT
            have tg : vs 2 = .bool true := hT 2 (by decide)
            simp only [Rg.putsD, List.getD_cons_zero, List.getD_cons_succ, Act.put, List.setIfInBounds_toArray, List.set_cons_zero, List.set_cons_succ, tg]
            rfl
          · intro vs W n hn hI hG hT hF K hK
            simp only [Rg.putsD, List.getD_cons_zero, List.getD_cons_succ, Act.put, List.setIfInBounds_toArray, List.set_cons_zero, List.set_cons_succ] at hK ⊢
            clear hn
            clear hF hI
            have t0 : vs 0 = .int .i64 ((k' : Int) + 1) := hT 0 (by decide)
            have t1 : vs 1 = .bool true := hT 1 (by decide)
            have t2 : vs 2 = .bool true := hT 2 (by decide)
            simp only [t0, t1, t2] at hK
            have H := Lib.hid hK
            clear hK hT
            go_simp
            exact H.out _ _ (Below.refl _ _) rfl (fun h => by cases h) trivial
          refine Rg.cons 7 8 rfl (Rg.guarded ?_ ?_) ?_
          · intro vs W hT
            have tg : vs 2 = .bool true := hT 2 (by decide)
            simp only [Rg.putsD, List.getD_cons_zero, List.getD_cons_succ, Act.put, List.setIfInBounds_toArray, List.set_cons_zero, List.set_cons_succ, tg]
            rfl
          · intro vs W n hn hI hG hT hF K hK
            simp only [Rg.putsD, List.getD_cons_zero, List.getD_cons_succ, Act.put, List.setIfInBounds_toArray, List.set_cons_zero, List.set_cons_succ] at hK ⊢
            clear hn
            clear hF hI
            have t0 : vs 0 = .int .i64 ((k' : Int) + 1) := hT 0 (by decide)
            have t1 : vs 1 = .bool true := hT 1 (by decide)
            have t2 : vs 2 = .bool true := hT 2 (by decide)
            have t6 : vs 6 = .int .i64 ((k' : Int) + 1) := hT 6 (by decide)
            simp only [t0, t1, t2, t6] at hK
            have H := Lib.hid hK
            clear hK hT
            go_simp
            exact H.out _ _ (Below.refl _ _) rfl (fun h => by cases h) trivial
          refine Rg.cons 8 9 rfl (Rg.guarded ?_ ?_) ?_
          · intro vs W hT
            have tg : vs 2 = .bool true := hT 2 (by decide)
            simp only [Rg.putsD, List.getD_cons_zero, List.getD_cons_succ, Act.put, List.setIfInBounds_toArray, List.set_cons_zero, List.set_cons_succ, tg]
            rfl
          · intro vs W n hn hI hG hT hF K hK
            simp only [Rg.putsD, List.getD_cons_zero, List.getD_cons_succ, Act.put, List.setIfInBounds_toArray, List.set_cons_zero, List.set_cons_succ] at hK ⊢
            clear hn
            clear hF hI
            have t0 : vs 0 = .int .i64 ((k' : Int) + 1) := hT 0 (by decide)
            have t1 : vs 1 = .bool true := hT 1 (by decide)
            have t2 : vs 2 = .bool true := hT 2 (by decide)
            have t4 : vs 4 = .pointer (some ⟨w.heap.size, 1, none⟩) := hT 4 (by decide)
            have t5 : vs 5 = .slice (some ⟨g, 0, none⟩) al.length ca := hT 5 (by decide)
            have t6 : vs 6 = .int .i64 ((k' : Int) + 1) := hT 6 (by decide)
            have t7 : vs 7 = .int .i64 k' := hT 7 (by decide)
            simp only [t0, t1, t2, t4, t5, t6, t7] at hK
            have H := Lib.hid hK
            clear hK hT
            go_simp
            exact H.out _ _ (Below.refl _ _) rfl (fun h => by cases h) trivial
          refine Rg.cons 9 10 rfl (Rg.guarded ?_ ?_) ?_
          · intro vs W hT
            have tg : vs 2 = .bool true := hT 2 (by decide)
            simp only [Rg.putsD, List.getD_cons_zero, List.getD_cons_succ, Act.put, List.setIfInBounds_toArray, List.set_cons_zero, List.set_cons_succ, tg]
            rfl
          · intro vs W n hn hI hG hT hF K hK
            simp only [Rg.putsD, List.getD_cons_zero, List.getD_cons_succ, Act.put, List.setIfInBounds_toArray, List.set_cons_zero, List.set_cons_succ] at hK ⊢
            clear hn
            clear hF hI
            have t0 : vs 0 = .int .i64 ((k' : Int) + 1) := hT 0 (by decide)
            have t1 : vs 1 = .bool true := hT 1 (by decide)
            have t2 : vs 2 = .bool true := hT 2 (by decide)
            have t4 : vs 4 = .pointer (some ⟨w.heap.size, 1, none⟩) := hT 4 (by decide)
            have t5 : vs 5 = .slice (some ⟨g, 0, none⟩) al.length ca := hT 5 (by decide)
            have t6 : vs 6 = .int .i64 ((k' : Int) + 1) := hT 6 (by decide)
            have t7 : vs 7 = .int .i64 k' := hT 7 (by decide)
            have t8 : vs 8 = .pointer (some ⟨g, k' * 3, none⟩) := hT 8 (by decide)
            have r0 := (hG.cell (p := ⟨g, k' * 3, none⟩) hgx).trans HRW.out.1
            have r1 := (hG.cell (p := ⟨g, k' * 3 + 1, none⟩) hgx).trans HRW.out.2.1
            have r2 := (hG.cell (p := ⟨g, k' * 3 + 2, none⟩) hgx).trans HRW.out.2.2
            have hgW : g < W.heap.size := Nat.lt_of_lt_of_le hgx hG.size
            simp only [t0, t1, t2, t4, t5, t6, t7, t8] at hK
            have H := Lib.hid hK
            clear hK hT
            go_simp
            exact H.out _ _ (Below.refl _ _) rfl (fun h => by cases h) trivial
          exact Rg.nil
        · intro vs W hG hI hT hF
          have t0 : vs 0 = .int .i64 ((k' : Int) + 1) := hT 0 (by decide)
          have t1 : vs 1 = .bool true := hT 1 (by decide)
          have t2 : vs 2 = .bool true := hT 2 (by decide)
          have t3 : vs 3 = .agg #[.string par, .string by_, .bool both] := hT 3 (by decide)
          have t4 : vs 4 = .pointer (some ⟨w.heap.size, 1, none⟩) := hT 4 (by decide)
          have t5 : vs 5 = .slice (some ⟨g, 0, none⟩) al.length ca := hT 5 (by decide)
          have t6 : vs 6 = .int .i64 ((k' : Int) + 1) := hT 6 (by decide)
          have t7 : vs 7 = .int .i64 k' := hT 7 (by decide)
          have t8 : vs 8 = .pointer (some ⟨g, k' * 3, none⟩) := hT 8 (by decide)
          have t9 : vs 9 = .agg #[.string qpar, .string qby, .bool qboth] := hT 9 (by decide)
          simp only [List.length_cons, List.length_nil, Nat.reduceAdd, List.range, List.range.loop, List.drop_succ_cons, List.drop_zero, Rg.putsD, List.getD_cons_zero, List.getD_cons_succ, Act.put, List.setIfInBounds_toArray, List.set_cons_zero, List.set_cons_succ, t0, t1, t2, t3, t4, t5, t6, t7, t8, t9]
          clear hT t0 t1 t2 t3 t4 t5 t6 t7 t8 t9
          have HY := Lib.hid (HX.out.1.below ((Below.refl _ _).drew.ext hG))
          clear hG hF hI
          go_wp2_with fail
          refine (CC.out _).mono ?_
          rintro e w6 ⟨rfl, b6⟩
          have HY6 := Lib.hid (HY.out.below b6)
          clear b6 HY HX
          by_cases hle : cc ≤ 0
          · have HV : Hid (E = 7) := HE4.out.trans (if_pos (decide_eq_true hle))
            clear HE4
            go_wp2_with fail
            go_ret
            exact ⟨ret_int HV.out.symm, HY6.out.bel⟩
          · have HV : Hid (E = altsE l (prevA al (k' + 1 + 1)) (al.drop (k' + 1 + 1))) := (HE4.out.trans (if_neg (by simpa using hle))).trans (by rw [HPK.out])
            clear HE4
            go_wp2_with fail
            go_roundw
            case rel => exact ⟨k' + 1 + 1, by omega, by go_num, HY6.out, HV.out⟩
            case measure => simp [intOf]; omega
      · obtain rfl : k = 0 := by omega
        have HV : Hid (E = altsE l (prevA al (0 + 1)) (al.drop (0 + 1))) := by
          have h := HE3.out
          rw [show prevA al 0 = none from rfl] at h
          rw [HPK.out]
          exact h.trans (if_neg (by simp))
        go_wp2_with fail
        go_quiet (fail)
        go_wp2_with fail
        go_roundw
        case rel => exact ⟨1, by omega, by go_num, HX.out.1.below (below_drewN (Below.refl _ _) _), HV.out⟩
        case measure => simp [intOf]; omega
    · obtain rfl : k = al.length := by omega
      have HX : Hid (E = 0) := by rw [HS.out.2, List.drop_length]; cases prevA al al.length <;> rfl
      go_wp2_with fail
      go_ret
      exact ⟨ret_int HX.out.symm, HS.out.1.bel⟩
end Go.Proofs.YtiooimfkobjpkaaGreatDoor

/-
  Catalogues: the reference's search for a part.
-/
namespace Go.Proofs.YtiooimfkobjpkaaGreatDoor
open Go.RowKit
set_option linter.unusedSimpArgs false
set_option linter.unusedVariables false

theorem hasK_none {l : List Pa} {key : ByteArray} (h : ∀ j, (hj : j < l.length) → (l[j].key.toList == key.toList) = false) : hasK l key = false := by
  refine decide_eq_false fun hm => ?_
  obtain ⟨p, hp, e⟩ := List.mem_map.mp hm
  obtain ⟨j, hj, rfl⟩ := List.getElem_of_mem hp
  have h1 := h j hj
  rw [Lib.toList_data, Lib.toList_data, e] at h1
  simp at h1
theorem hasK_some {l : List Pa} {key : ByteArray} {j : Nat} (hj : j < l.length) (h : (l[j].key.toList == key.toList) = true) : hasK l key = true := by
  refine decide_eq_true (List.mem_map.mpr ⟨l[j], List.getElem_mem hj, ?_⟩)
  have h1 := eq_of_beq h
  rwa [Lib.toList_data, Lib.toList_data] at h1
set_option maxRecDepth 100000 in
set_option maxHeartbeats 4000000 in
theorem partOf_any (l : List Pa) (hl : l.length ≤ 1000000) (key : ByteArray) {pv av : Value} {w : World} (h1 : Reads encPa pv l w) (hav : ∃ A n c, av = .slice A n c) :
    Calls Tryz.prog 51 #[.agg #[pv, av], .string key] w fun e w' => ∃ p : Pa, e = .returned (.tuple #[.agg (encPa p).toArray, .bool (hasK l key)]) ∧ Below w.heap.size w w' := by
  have HR := Lib.hid h1
  obtain ⟨Ap, cp, rfl, _⟩ := h1
  obtain ⟨Aa, na, ca, rfl⟩ := hav
  go_enter Tryz.func51, Tryz.ntmps51
  go_wp2_with fail
  have H0 : Hid (Below w.heap.size w ((w.alloc (.cells #[.slice Ap l.length cp, .slice Aa na ca] 29)).alloc (.cells #[.string ⟨#[]⟩, .string ⟨#[]⟩, .int .i64 0, .int .i64 0] 47)) ∧ ((w.alloc (.cells #[.slice Ap l.length cp, .slice Aa na ca] 29)).alloc (.cells #[.string ⟨#[]⟩, .string ⟨#[]⟩, .int .i64 0, .int .i64 0] 47)).heap[w.heap.size + 1]? = some (.cells #[.string ⟨#[]⟩, .string ⟨#[]⟩, .int .i64 0, .int .i64 0] 47 (0, 0))) := ⟨((Below.refl _ _).alloc (Nat.le_refl _) _).alloc (by simp) _, blk_new _ _ (by simp)⟩
  go_loopw [11] (fun kk wr => ∃ k : Nat, k ≤ l.length ∧ kk = .int .i64 k ∧ Hid ((Below w.heap.size w wr ∧ wr.heap[w.heap.size + 1]? = some (.cells #[.string ⟨#[]⟩, .string ⟨#[]⟩, .int .i64 0, .int .i64 0] 47 (0, 0))) ∧ ∀ j, (hj : j < l.length) → j < k → (l[j].key.toList == key.toList) = false)) (fun kk _ => l.length - (intOf kk).toNat)
  case atStart => exact ⟨0, by omega, rfl, H0, fun j _ h => by omega⟩
  case round =>
    obtain ⟨k, hk, rfl, HS⟩ := hrel
    clear H0
    by_cases hlt : k < l.length
    · obtain ⟨A', c', ea, hr⟩ := HR.out.below HS.out.1.1
      cases ea
      rcases hr with rfl | ⟨g, rfl, hrow⟩
      · simp at hlt
      obtain ⟨q0, q1, q2, q3⟩ := row_pa hrow hlt
      have hgl := hrow.1
      have i1 : (0 : Int) ≤ (k : Int) := by omega
      have i2 : (k : Int) < (l.length : Int) := by omega
      have HY : Hid ((l[k].key.toList == key.toList) = true → hasK l key = true) := hasK_some hlt
      have HN : Hid ((l[k].key.toList == key.toList) = false → ∀ j, (hj : j < l.length) → j < k + 1 → (l[j].key.toList == key.toList) = false) := fun h j hj hjk => by
        by_cases e : j = k
        · subst e; exact h
        · exact HS.out.2 j hj (by omega)
      clear hrow
      generalize l[k] = p at *
      obtain ⟨pkey, pk, lv, bk⟩ := p
      dsimp only at q0 q1 q2 q3 HY HN
      have HX : Hid (Below w.heap.size w (wr.alloc (.cells #[.string pkey, .string pk, .int .i64 lv, .int .i64 bk] 47)) ∧ (wr.alloc (.cells #[.string pkey, .string pk, .int .i64 lv, .int .i64 bk] 47)).heap[w.heap.size + 1]? = some (.cells #[.string ⟨#[]⟩, .string ⟨#[]⟩, .int .i64 0, .int .i64 0] 47 (0, 0)) ∧ (wr.alloc (.cells #[.string pkey, .string pk, .int .i64 lv, .int .i64 bk] 47)).heap[wr.heap.size]? = some (.cells #[.string pkey, .string pk, .int .i64 lv, .int .i64 bk] 47 (0, 0)) ∧ w.heap.size + 1 < wr.heap.size) := ⟨HS.out.1.1.alloc HS.out.1.1.size _, blk_alloc HS.out.1.2 _, blk_new wr _ rfl, lt_of_blk HS.out.1.2⟩
      clear HS
      go_upto_if 18 with (fail)
      generalize wr.alloc (.cells #[.string pkey, .string pk, .int .i64 lv, .int .i64 bk] 47) = wx at *
      cases hc : (pkey.toList == key.toList)
      · have HN2 := Lib.hid (HN.out hc)
        clear hc HY HN
        go_wp2_with fail
        go_roundw
        case rel => exact ⟨k + 1, by omega, by go_num, ⟨HX.out.1, HX.out.2.1⟩, HN2.out⟩
        case measure => simp [intOf]; omega
      · have HV := Lib.hid (HY.out hc)
        clear hc HY HN q0 q1 q2 q3
        obtain ⟨p0, p1, p2, p3⟩ := blk4 HX.out.2.2.1
        have hpl := lt_of_blk HX.out.2.2.1
        obtain ⟨r0, r1, r2, r3⟩ := blk4 HX.out.2.1
        have hrl := lt_of_blk HX.out.2.1
        have f0 := frozen_of_blk HX.out.2.1 0
        have f1 := frozen_of_blk HX.out.2.1 1
        have f2 := frozen_of_blk HX.out.2.1 2
        have f3 := frozen_of_blk HX.out.2.1 3
        go_wp2_with fail
        refine bodyPost_ret (v := .tuple #[.agg #[.string pkey, .string pk, .int .i64 lv, .int .i64 bk], .bool true]) (by unfold results; simp only [Tryz.results51]; go_simp) rfl ?_
        refine ⟨⟨pkey, pk, lv, bk⟩, by rw [HV.out]; rfl, ?_⟩
        exact ((((HX.out.1.setCell (by show _ ≤ w.heap.size + 1; omega) _).setCell (by show _ ≤ w.heap.size + 1; omega) _).setCell (by show _ ≤ w.heap.size + 1; omega) _).setCell (by show _ ≤ w.heap.size + 1; omega) _)
    · obtain rfl : k = l.length := by omega
      have HV : Hid (hasK l key = false) := hasK_none fun j hj => HS.out.2 j hj hj
      obtain ⟨r0, r1, r2, r3⟩ := blk4 HS.out.1.2
      have hrl := lt_of_blk HS.out.1.2
      have f0 := frozen_of_blk HS.out.1.2 0
      have f1 := frozen_of_blk HS.out.1.2 1
      have f2 := frozen_of_blk HS.out.1.2 2
      have f3 := frozen_of_blk HS.out.1.2 3
      have HB := Lib.hid HS.out.1.1
      clear HS
      go_wp2_with fail
      refine bodyPost_ret (v := .tuple #[.agg #[.string ⟨#[]⟩, .string ⟨#[]⟩, .int .i64 0, .int .i64 0], .bool false]) (by unfold results; simp only [Tryz.results51]; go_simp) rfl ?_
      refine ⟨⟨⟨#[]⟩, ⟨#[]⟩, 0, 0⟩, by rw [HV.out]; rfl, ?_⟩
      exact ((((HB.out.setCell (by show _ ≤ w.heap.size + 1; omega) _).setCell (by show _ ≤ w.heap.size + 1; omega) _).setCell (by show _ ≤ w.heap.size + 1; omega) _).setCell (by show _ ≤ w.heap.size + 1; omega) _)
set_option maxHeartbeats 4000000 in
theorem hasPart_any (l : List Pa) (hl : l.length ≤ 1000000) (key : ByteArray) {pv av : Value} {w : World} (h1 : Reads encPa pv l w) (hav : ∃ A n c, av = .slice A n c) :
    Calls Tryz.prog 23 #[.agg #[pv, av], .string key] w fun e w' => e = .returned (.bool (hasK l key)) ∧ Below w.heap.size w w' := by
  have CP := Lib.hid (fun (W : World) (h : Reads encPa pv l W) => partOf_any l hl key h hav)
  have HR := Lib.hid h1
  obtain ⟨Ap, cp, rfl, _⟩ := h1
  obtain ⟨Aa, na, ca, rfl⟩ := hav
  have H0 : Hid (Below w.heap.size w (w.alloc (.cells #[.slice Ap l.length cp, .slice Aa na ca] 29)) ∧ (w.alloc (.cells #[.slice Ap l.length cp, .slice Aa na ca] 29)).heap[w.heap.size]? = some (.cells #[.slice Ap l.length cp, .slice Aa na ca] 29 (0, 0))) := ⟨(Below.refl _ _).alloc (Nat.le_refl _) _, blk_new w _ rfl⟩
  generalize hasK l key = R at *
  go_enter Tryz.func23, Tryz.ntmps23
  go_upto_region 1 with (fail)
  generalize w.alloc (.cells #[.slice Ap l.length cp, .slice Aa na ca] 29) = w0 at *
  obtain ⟨c0, c1, _, _⟩ := blk2 H0.out.2
  have hgl := lt_of_blk H0.out.2
  go_wp2_with fail
  refine (CP.out _ (HR.out.below H0.out.1)).mono ?_
  rintro e w1 ⟨p, rfl, b1⟩
  have H1 := Lib.hid (H0.out.1.then_below b1 H0.out.1.size)
  obtain ⟨a1, a2, a3, a4⟩ := p
  clear b1 H0 c0 c1 hgl CP
  simp only [encPa]
  go_wp2_with fail
  refine bodyPost_ret (v := .bool R) (by unfold results; simp only [Tryz.results23]; go_simp) rfl ⟨rfl, ?_⟩
  exact H1.out.alloc H1.out.size _
end Go.Proofs.YtiooimfkobjpkaaGreatDoor
