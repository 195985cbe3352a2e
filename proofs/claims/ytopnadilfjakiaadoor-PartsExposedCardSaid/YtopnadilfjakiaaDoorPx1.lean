/-
  The small functions of exposures.
-/
import Derived.Test.YtopnadilfjakiaaDoorBodM
import Derived.Test.YtopnadilfjakiaaDoorPxM
namespace Go.Proofs.YtopnadilfjakiaaDoor
open Go.RowKit

set_option maxHeartbeats 400000 in
theorem in1_any (n lo hi : Int) (w : World) : Calls Tryd.prog 33 #[.int .i64 n, .int .i64 lo, .int .i64 hi] w fun e w' => e = .returned (.bool (inR n lo hi)) ∧ w = w' := by
  by_cases h1 : lo ≤ n <;> by_cases h2 : n ≤ hi
  all_goals
    go_enter Tryd.func33, Tryd.ntmps33
    go_wp2
    go_ret
    exact ⟨by simp [inR, h1, h2], rfl⟩
theorem moment_any (n : Int) (w : World) : Calls Tryd.prog 32 #[.int .i64 n] w fun e w' => e = .returned (.bool (inR n 0 345686399999)) ∧ w = w' := by
  go_enter Tryd.func32, Tryd.ntmps32
  go_wp2_with fail
  refine (withinR _ _ _ _).mono ?_
  rintro e w' ⟨rfl, rfl⟩
  go_wp2_with fail
  go_ret
  exact ⟨rfl, rfl⟩
theorem momentR_any (n : Int) (w : World) : Calls Tryd.prog 34 #[.int .i64 n] w fun e w' => e = .returned (.bool (inR n 0 345686399999)) ∧ w = w' := by
  go_enter Tryd.func34, Tryd.ntmps34
  go_wp2_with fail
  refine (in1_any _ _ _ _).mono ?_
  rintro e w' ⟨rfl, rfl⟩
  go_wp2_with fail
  go_ret
  exact ⟨rfl, rfl⟩
theorem vlevel_any (n : Int) (w : World) : Calls Tryd.prog 35 #[.int .i64 n] w fun e w' => e = .returned (.bool (inR n 1 6)) ∧ w = w' := by
  go_enter Tryd.func35, Tryd.ntmps35
  go_wp2_with fail
  refine (withinR _ _ _ _).mono ?_
  rintro e w' ⟨rfl, rfl⟩
  go_wp2_with fail
  go_ret
  exact ⟨rfl, rfl⟩
def spanE (n lo hi : Int) : Int := if inR n lo hi = true then 0 else 1
theorem span_any (n lo hi : Int) (w : World) : Calls Tryd.prog 12 #[.int .i64 n, .int .i64 lo, .int .i64 hi] w fun e w' => e = .returned (.int .i64 (spanE n lo hi)) ∧ w = w' := by
  cases h : inR n lo hi
  · have HE : Hid (spanE n lo hi = 1) := by show _ = _; unfold spanE; rw [h]; rfl
    have C := Lib.hid (fun W => in1_any n lo hi W)
    rw [h] at C
    clear h
    go_enter Tryd.func12, Tryd.ntmps12
    go_wp2_with fail
    refine (C.out _).mono ?_
    rintro e w' ⟨rfl, rfl⟩
    go_wp2_with fail
    go_ret
    exact ⟨ret_int HE.out.symm, rfl⟩
  · have HE : Hid (spanE n lo hi = 0) := by show _ = _; unfold spanE; rw [h]; rfl
    have C := Lib.hid (fun W => in1_any n lo hi W)
    rw [h] at C
    clear h
    go_enter Tryd.func12, Tryd.ntmps12
    go_wp2_with fail
    refine (C.out _).mono ?_
    rintro e w' ⟨rfl, rfl⟩
    go_wp2_with fail
    go_ret
    exact ⟨ret_int HE.out.symm, rfl⟩
theorem momentF_any (n : Int) (w : World) : Calls Tryd.prog 20 #[.int .i64 n] w fun e w' => e = .returned (.int .i64 (spanE n 0 345686399999)) ∧ w = w' := by
  go_enter Tryd.func20, Tryd.ntmps20
  go_wp2_with fail
  refine (span_any _ _ _ _).mono ?_
  rintro e w' ⟨rfl, rfl⟩
  go_wp2_with fail
  go_ret
  exact ⟨rfl, rfl⟩

/-- The floor life of a level. -/
def lifeV (lv : Int) : Int := if lv = 2 then 31536000000 else if lv = 3 then 604800000 else if lv = 4 then 259200000 else if lv = 5 then 86400000 else if lv = 6 then 21600000 else 0
def limB (lv : Int) : Bool := decide (2 ≤ lv) && decide (lv ≤ 6)
theorem lifeV_nn (lv : Int) : 0 ≤ lifeV lv ∧ lifeV lv ≤ 31536000000 := by
  unfold lifeV
  by_cases h2 : lv = 2
  · rw [if_pos h2]; omega
  · rw [if_neg h2]
    by_cases h3 : lv = 3
    · rw [if_pos h3]; omega
    · rw [if_neg h3]
      by_cases h4 : lv = 4
      · rw [if_pos h4]; omega
      · rw [if_neg h4]
        by_cases h5 : lv = 5
        · rw [if_pos h5]; omega
        · rw [if_neg h5]
          split <;> omega
set_option maxHeartbeats 1000000 in
theorem life_bad (lv : Int) (h : inR lv 1 6 = false) (w : World) : Calls Tryd.prog 11 #[.int .i64 lv] w fun e w' => e = .returned (.tuple #[.int .i64 0, .bool false, .int .i64 1]) ∧ w = w' := by
  have C := Lib.hid (fun W => vlevel_any lv W)
  rw [h] at C
  clear h
  go_enter Tryd.func11, Tryd.ntmps11
  go_wp2_with fail
  refine (C.out _).mono ?_
  rintro e w' ⟨rfl, rfl⟩
  go_wp2_with fail
  go_ret3
  exact ⟨rfl, rfl⟩
theorem level_cases {lv : Int} (h : inR lv 1 6 = true) : lv = 1 ∨ lv = 2 ∨ lv = 3 ∨ lv = 4 ∨ lv = 5 ∨ lv = 6 := by
  simp [inR] at h; omega
set_option maxHeartbeats 1000000 in
theorem life_lv (lv hr : Int) (h : inR lv 1 6 = true) (h0 : 0 ≤ hr) (h1 : hr ≤ 8760) (hix : ∀ W' : World, (Instr.index 66 (.agg #[.int .i64 0, .int .i64 0, .int .i64 8760, .int .i64 168, .int .i64 72, .int .i64 24, .int .i64 6]) (.int .i64 lv)).run Tryd.prog W' = .ok (.int .i64 hr) W') (w : World) :
    Calls Tryd.prog 11 #[.int .i64 lv] w fun e w' => e = .returned (.tuple #[.int .i64 (hr * 3600000), .bool (decide (0 < hr)), .int .i64 0]) ∧ w = w' := by
  have C := Lib.hid (fun W => vlevel_any lv W)
  rw [h] at C
  clear h
  go_enter Tryd.func11, Tryd.ntmps11
  go_wp2_with fail
  refine (C.out _).mono ?_
  rintro e w' ⟨rfl, rfl⟩
  go_wp2_with fail
  go_ret3
  exact ⟨rfl, rfl⟩
theorem life_ok (lv : Int) (h : inR lv 1 6 = true) (w : World) : Calls Tryd.prog 11 #[.int .i64 lv] w fun e w' => e = .returned (.tuple #[.int .i64 (lifeV lv), .bool (limB lv), .int .i64 0]) ∧ w = w' := by
  rcases level_cases h with rfl | rfl | rfl | rfl | rfl | rfl
  · exact life_lv 1 0 h (by omega) (by omega) (fun _ => by kernel_rfl) w
  · exact life_lv 2 8760 h (by omega) (by omega) (fun _ => by kernel_rfl) w
  · exact life_lv 3 168 h (by omega) (by omega) (fun _ => by kernel_rfl) w
  · exact life_lv 4 72 h (by omega) (by omega) (fun _ => by kernel_rfl) w
  · exact life_lv 5 24 h (by omega) (by omega) (fun _ => by kernel_rfl) w
  · exact life_lv 6 6 h (by omega) (by omega) (fun _ => by kernel_rfl) w
set_option maxHeartbeats 1000000 in
theorem lifeOf_ok (lv : Int) (h : inR lv 1 6 = true) (w : World) : Calls Tryd.prog 13 #[.int .i64 lv] w fun e w' => e = .returned (.tuple #[.int .i64 (lifeV lv), .bool (limB lv)]) ∧ Below w.heap.size w w' := by
  rcases level_cases h with rfl | rfl | rfl | rfl | rfl | rfl
  all_goals
    clear h
    go_enter Tryd.func13, Tryd.ntmps13
    go_wp2_with fail
    go_ret2
    exact ⟨rfl, (Below.refl _ _).alloc (Nat.le_refl _) _⟩
set_option maxHeartbeats 1000000 in
theorem aged_any (w : World) : Calls Tryd.prog 25 #[] w fun e w' => e = .returned (.bool true) ∧ w = w' := by
  go_enter Tryd.func25, Tryd.ntmps25
  go_wp2_with fail
  refine (life_ok 4 rfl _).mono ?_
  rintro e w' ⟨rfl, rfl⟩
  go_wp2_with fail
  go_ret
  exact ⟨rfl, rfl⟩

def errsL : List Int → Int
  | [] => 0
  | e :: l => if e = 0 then errsL l else e
set_option maxHeartbeats 1000000 in
theorem or_any (l : List Int) (hl : l.length ≤ 1000) (g c : Nat) (w : World) (h : LineAt w g (l.map (Value.int .i64))) :
    Calls Tryd.prog 19 #[.slice (some ⟨g, 0, none⟩) l.length c] w fun e w' => e = .returned (.int .i64 (errsL l)) ∧ w = w' := by
  have HL := Lib.hid h
  clear h
  go_enter Tryd.func19, Tryd.ntmps19
  go_wp2_with fail
  go_loopw [8] (fun kk wr => ∃ k : Nat, k ≤ l.length ∧ kk = .int .i64 k ∧ w = wr ∧ Hid (errsL l = errsL (l.drop k))) (fun kk _ => l.length - (intOf kk).toNat)
  case atStart => exact ⟨0, by omega, rfl, rfl, rfl⟩
  case round =>
    obtain ⟨k, hk, rfl, rfl, HO⟩ := hrel
    by_cases hlt : k < l.length
    · obtain ⟨x, hx⟩ : ∃ x, l[k] = x := ⟨_, rfl⟩
      have hc := HL.out.2 k (.int .i64 x) (by simp [hlt, hx])
      have hD : errsL l = if x = 0 then errsL (l.drop (k + 1)) else x := HO.out.trans (by rw [drop_at l hlt, hx]; rfl)
      have HD := Lib.hid hD
      clear hD hx HO
      cases h0 : (x == 0)
      · have hne : ¬ x = 0 := by simpa using h0
        have HF : Hid (errsL l = x) := HD.out.trans (if_neg hne)
        have h1 : (x != 0) = true := by simpa using hne
        go_wp2_with fail
        go_ret
        exact ⟨ret_int HF.out.symm, rfl⟩
      · obtain rfl : x = 0 := by simpa using h0
        have HF : Hid (errsL l = errsL (l.drop (k + 1))) := HD.out.trans (if_pos rfl)
        go_wp2_with fail
        go_roundw
        case rel => exact ⟨k + 1, by omega, by go_num, by trivial, HF⟩
        case measure => simp [intOf]; omega
    · have HF : Hid (errsL l = 0) := HO.out.trans (by rw [List.drop_eq_nil_of_le (by omega)]; rfl)
      go_wp2_with fail
      go_ret
      exact ⟨ret_int HF.out.symm, rfl⟩

/-! ### stays in memory -/
def Sy.cells (s : Sy) : List Value := [.int .i64 s.place, .int .i64 s.frm]
def flatSy (l : List Sy) : List Value := l.flatMap Sy.cells
def SyAt (w : World) (A : Option Addr) (l : List Sy) : Prop := l = [] ∨ ∃ g : Nat, A = some ⟨g, 0, none⟩ ∧ LineAt w g (flatSy l)
theorem SyAt.below {w w' : World} {A : Option Addr} {l : List Sy} (h : SyAt w A l) (hb : Below w.heap.size w w') : SyAt w' A l := by
  rcases h with h | ⟨g, e, h⟩
  · exact .inl h
  · exact .inr ⟨g, e, h.below hb⟩
theorem row_sy {w : World} {g : Nat} {l : List Sy} (h : LineAt w g (flatSy l)) {k : Nat} (hk : k < l.length) :
    w.cell? ⟨g, k * 2, none⟩ = some (.int .i64 l[k].place) ∧ w.cell? ⟨g, k * 2 + 1, none⟩ = some (.int .i64 l[k].frm) := by
  have e := fun j (hj : j < 2) => flatK_at Sy.cells 2 (fun _ => rfl) l k hk j hj
  exact ⟨h.2 _ _ (e 0 (by omega)), h.2 _ _ (e 1 (by omega))⟩
/-- The error of stays. -/
def syErr : List Sy → Option Int → Int
  | [], _ => 0
  | x :: l, prev => if inR x.place 1 4 = false then 4 else if inR x.frm 0 345686399999 = false then 1 else if prev.any (fun p => decide (x.frm ≤ p)) = true then 7 else syErr l (some x.frm)
def staysErr (l : List Sy) : Int := if l = [] then 8 else if 500 < l.length then 2 else syErr l none
def prevS (l : List Sy) : Nat → Option Int
  | 0 => none
  | k + 1 => l[k]?.map Sy.frm
theorem syErr_ok : ∀ (l : List Sy) (prev : Option Int), syErr l prev = 0 → (∀ x ∈ l, 1 ≤ x.place ∧ x.place ≤ 4 ∧ 0 ≤ x.frm ∧ x.frm < finT) ∧ l.Pairwise (fun a b => a.frm < b.frm) ∧ ∀ p ∈ prev, ∀ x ∈ l, p < x.frm
  | [], _, _ => ⟨fun x hx => by simp at hx, List.Pairwise.nil, fun p _ x hx => by simp at hx⟩
  | x :: l, prev, h => by
    unfold syErr at h
    split at h
    · cases h
    split at h
    · cases h
    split at h
    · cases h
    rename_i h1 h2 h3
    obtain ⟨i1, i2, i3⟩ := syErr_ok l _ h
    simp [inR] at h1 h2
    have hx : 1 ≤ x.place ∧ x.place ≤ 4 ∧ 0 ≤ x.frm ∧ x.frm < finT := by unfold finT; omega
    refine ⟨fun y hy => ?_, List.pairwise_cons.mpr ⟨fun y hy => i3 x.frm rfl y hy, i2⟩, fun p hp y hy => ?_⟩
    · rcases List.mem_cons.mp hy with rfl | hy
      · exact hx
      · exact i1 y hy
    · have hpx : p < x.frm := by
        rw [Option.mem_def.mp hp] at h3
        simpa using h3
      rcases List.mem_cons.mp hy with rfl | hy
      · exact hpx
      · have := i3 x.frm rfl y hy; omega
theorem staysErr_ok {l : List Sy} (h : staysErr l = 0) : GoodS l ∧ l ≠ [] ∧ l.length ≤ 500 := by
  unfold staysErr at h
  split at h
  · cases h
  split at h
  · cases h
  obtain ⟨a, b, _⟩ := syErr_ok l none h
  exact ⟨⟨a, b⟩, by assumption, by omega⟩
end Go.Proofs.YtopnadilfjakiaaDoor
