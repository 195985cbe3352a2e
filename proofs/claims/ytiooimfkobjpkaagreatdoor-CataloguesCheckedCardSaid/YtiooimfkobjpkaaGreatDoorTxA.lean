/-
  The program's numerals: word.Number, word.Numbers.
-/
import Derived.Test.YtiooimfkobjpkaaGreatDoorTxS
import Derived.Test.YtiooimfkobjpkaaGreatDoorShelf
import Derived.Lib.SmallJoins
namespace Go.Proofs.YtiooimfkobjpkaaGreatDoor
open Go.RowKit
set_option linter.unusedSimpArgs false
set_option linter.unusedVariables false

theorem dig_int (c : UInt8) : digB c = digitB (c.toNat : Int) := by
  unfold digB digitB
  rw [Bool.eq_iff_iff]
  simp
  omega
theorem allDig_all (s : ByteArray) : allDig (bt s) = true ↔ ∀ i (h : i < s.size), digitB ((s[i]'h).toNat : Int) = true := by
  unfold allDig
  rw [List.all_eq_true]
  constructor
  · intro h i hi
    rw [← dig_int]
    exact h _ (by obtain ⟨d⟩ := s; show d[i]'hi ∈ d.toList; simp)
  · intro h x hx
    obtain ⟨j, hj, rfl⟩ := List.getElem_of_mem hx
    rw [dig_int]
    exact h j (by simpa using hj)
theorem head_at (s : ByteArray) (h : 0 < s.size) : (bt s).head? = some (s[0]'h) := by
  obtain ⟨⟨l⟩⟩ := s
  cases l with
  | nil => simp [ByteArray.size] at h
  | cons a l => rfl
theorem atoi_some {s : List UInt8} (h1 : (digsOf s).length ≠ 0) (hd : allDig (digsOf s) = true) : Lib.atoi s = some (sgn s) := by
  have hdec : ∀ (l : List UInt8) acc, allDig l = true → Lib.decFrom acc l = some (valF acc l) := by
    intro l
    induction l with
    | nil => intro acc _; unfold Lib.decFrom valF; rfl
    | cons c l ih =>
      intro acc h
      obtain ⟨hc, hl⟩ := allDig_cons h
      unfold Lib.decFrom
      rw [show Lib.digitVal c = some (c.toNat - 48) by unfold Lib.digitVal; rw [if_pos hc]]
      rw [valF_cons]
      exact ih _ hl
  cases s with
  | nil => exact absurd rfl h1
  | cons c r =>
    unfold Lib.atoi
    by_cases hc : c = 45
    · subst hc
      have e : digsOf (45 :: r) = r := by unfold digsOf; simp
      rw [e] at h1 hd
      have hr : r.isEmpty = false := by cases r with | nil => exact absurd rfl h1 | cons a b => rfl
      have hs : sgn (45 :: r) = -(valD r : Int) := by unfold sgn; rw [e]; simp
      have hn : Lib.decNat r = some (valD r) := by unfold Lib.decNat; rw [hr]; exact hdec r 0 hd
      simp [hn, hs]
    · have e : digsOf (c :: r) = c :: r := by unfold digsOf; simp [hc]
      rw [e] at h1 hd
      have hs : sgn (c :: r) = (valD (c :: r) : Int) := by unfold sgn; rw [e]; simp [hc]
      have hn : Lib.decNat (c :: r) = some (valD (c :: r)) := by unfold Lib.decNat; exact hdec (c :: r) 0 hd
      have hcd := (allDig_cons hd).1
      have h43 : c ≠ 43 := fun e => by rw [e] at hcd; have : (43 : UInt8).toNat = 43 := rfl; omega
      simp [hn, hs, hc, h43]
def numI (most : Nat) (s : ByteArray) : Int := (numP most (bt s)).getD 0
def numB (most : Nat) (s : ByteArray) : Bool := (numP most (bt s)).isSome
def digB' (s : ByteArray) : ByteArray := ⟨(digsOf (bt s)).toArray⟩
theorem digs_bt (s : ByteArray) : bt (digB' s) = digsOf (bt s) := by simp [digB', bt]
theorem digs_size (s : ByteArray) : (digB' s).size = (digsOf (bt s)).length := by rw [← digs_bt]; rfl
theorem digs_le (s : ByteArray) : s.size ≤ (digB' s).size + 1 ∧ (digB' s).size ≤ s.size := by
  rw [digs_size]
  have : s.size = (bt s).length := rfl
  rw [this]
  unfold digsOf
  split
  · rw [List.length_tail]; omega
  · omega
theorem num_none {most : Nat} {s : ByteArray} (h : (digB' s).size = 0 ∨ most < (digB' s).size ∨ ((bt (digB' s)).head? = some 48 ∧ s ≠ ⟨#[48]⟩) ∨ allDig (bt (digB' s)) = false) : numB most s = false ∧ numI most s = 0 := by
  have : numP most (bt s) = none := by
    unfold numP
    rw [if_pos]
    rw [digs_bt, digs_size] at h
    refine h.imp id (Or.imp id (Or.imp (And.imp id fun h2 h3 => h2 (bt_inj h3)) id))
  unfold numB numI
  rw [this]
  exact ⟨rfl, rfl⟩
theorem num_some {most : Nat} {s : ByteArray} (h1 : (digB' s).size ≠ 0) (h2 : (digB' s).size ≤ most) (h3 : ¬ ((bt (digB' s)).head? = some 48 ∧ s ≠ ⟨#[48]⟩)) (h4 : allDig (bt (digB' s)) = true) : numB most s = true ∧ numI most s = sgn (bt s) := by
  have : numP most (bt s) = some (sgn (bt s)) := by
    unfold numP
    rw [if_neg]
    rw [digs_bt] at h3 h4
    rw [digs_size] at h1 h2
    rintro (h | h | ⟨h, h'⟩ | h)
    · exact h1 h
    · omega
    · exact h3 ⟨h, fun e => h' (by rw [e])⟩
    · rw [h4] at h; cases h
  unfold numB numI
  rw [this]
  exact ⟨rfl, rfl⟩

set_option maxHeartbeats 2000000 in
theorem number_any (s : ByteArray) (most : Nat) (hm : most ≤ 15) (hs : s.size ≤ 10000000) (w : World) :
    Calls Tryz.prog 87 #[.string s, .int .i64 most] w fun e w' => e = .returned (.tuple #[.int .i64 (numI most s), .bool (numB most s)]) ∧ Below w.heap.size w w' := by
  have CT : Hid (Calls Tryz.prog 88 #[.string s, .string ⟨#[45]⟩] w fun e w' => e = .returned (.string (digB' s)) ∧ w' = w) := by
    have := Tryz.strings_TrimPrefix s ⟨#[45]⟩ w
    rw [show (⟨#[45]⟩ : ByteArray).data.toList = [45] from rfl, digsOf_trim] at this
    exact this
  have HN := Lib.hid (@num_none most s)
  have HS := Lib.hid (@num_some most s)
  have HA := Lib.hid (@atoi_some (bt s))
  have hsz := digs_le s
  have HZ := Lib.hid (digs_size s)
  have HB := Lib.hid (digs_bt s)
  generalize digB' s = d at *
  generalize numI most s = n at *
  generalize numB most s = b at *
  by_cases h0 : d.size = 0
  · obtain ⟨rfl, rfl⟩ := HN.out (.inl h0)
    clear HN HS HA HZ HB
    go_enter Tryz.func87, Tryz.ntmps87
    go_wp2_with fail
    refine CT.out.mono ?_
    rintro e w' ⟨rfl, rfl⟩
    go_wp2_with fail
    refine bodyPost_ret (v := .tuple #[.int .i64 0, .bool false]) (by unfold results; simp only [Tryz.results87]; go_simp) rfl ⟨rfl, Below.refl _ _⟩
  have e0 : ((d.size : Int) == 0) = false := beq_eq_false_iff_ne.mpr (by omega)
  by_cases hlt : most < d.size
  · obtain ⟨rfl, rfl⟩ := HN.out (.inr (.inl hlt))
    clear HN HS HA HZ HB
    go_enter Tryz.func87, Tryz.ntmps87
    go_wp2_with fail
    refine CT.out.mono ?_
    rintro e w' ⟨rfl, rfl⟩
    go_wp2_with fail
    refine bodyPost_ret (v := .tuple #[.int .i64 0, .bool false]) (by unfold results; simp only [Tryz.results87]; go_simp) rfl ⟨rfl, Below.refl _ _⟩
  have hp : 0 < d.size := by omega
  obtain ⟨b0, hb0⟩ : ∃ b : Int, ((d[0]'hp).toNat : Int) = b := ⟨_, rfl⟩
  have HH : Hid ((bt d).head? = some 48 ↔ b0 = 48) := by
    show _ ↔ _
    rw [head_at d hp, ← hb0]
    constructor
    · intro h; injection h with h; rw [h]; rfl
    · intro h; congr 1; exact UInt8.toNat_inj.mp (by rw [show (48 : UInt8).toNat = 48 from rfl]; omega)
  have e1 : decide ((most : Int) < (d.size : Int)) = false := decide_eq_false (by omega)
  have HD := Lib.hid (allDig_all d)
  by_cases hz : b0 = 48 ∧ s ≠ ⟨#[48]⟩
  · obtain ⟨rfl, rfl⟩ := HN.out (.inr (.inr (.inl ⟨HH.out.mpr hz.1, hz.2⟩)))
    obtain ⟨rfl, hz2⟩ := hz
    have e2 : (s.toList == [48]) = false := beq_eq_false_iff_ne.mpr fun e => hz2 (bt_inj (show s.data.toList = [48] by rw [← Lib.toList_data, e]))
    clear HN HS HA HZ HB HD HH hz2
    go_enter Tryz.func87, Tryz.ntmps87
    go_wp2_with fail
    refine CT.out.mono ?_
    rintro e w' ⟨rfl, rfl⟩
    go_wp2_with fail
    refine bodyPost_ret (v := .tuple #[.int .i64 0, .bool false]) (by unfold results; simp only [Tryz.results87]; go_simp) rfl ⟨rfl, Below.refl _ _⟩
  have H3 : Hid (¬ ((bt d).head? = some 48 ∧ s ≠ ⟨#[48]⟩)) := fun h => hz ⟨HH.out.mp h.1, h.2⟩
  have e2 : b0 ≠ 48 ∨ b0 = 48 ∧ (s.toList == [48]) = true := by
    by_cases hb : b0 = 48
    · right
      refine ⟨hb, ?_⟩
      have : s = ⟨#[48]⟩ := Classical.byContradiction fun h => hz ⟨hb, h⟩
      rw [this, Lib.toList_data]; rfl
    · left; exact hb
  have CA := Lib.hid (fun (W : World) (h : Lib.atoi s.data.toList = some (sgn (bt s))) => Tryz.strconv_Atoi s (sgn (bt s)) (by omega) h W)
  have HX : Hid (allDig (bt d) = true → Lib.atoi s.data.toList = some (sgn (bt s)) ∧ b = true ∧ n = sgn (bt s)) := fun h =>
    ⟨HA.out (by rw [← HZ.out]; omega) (by rw [← HB.out]; exact h), HS.out h0 (by omega) H3.out h⟩
  have HY : Hid (allDig (bt d) = false → b = false ∧ n = 0) := fun h => HN.out (.inr (.inr (.inr h)))
  clear hz HH HN HS HA HZ HB H3
  rcases e2 with e2 | ⟨rfl, e2⟩
  all_goals
    go_enter Tryz.func87, Tryz.ntmps87
    go_wp2_with fail
    refine CT.out.mono ?_
    rintro e w' ⟨rfl, rfl⟩
    clear CT
    go_wp2_with fail
    go_loopw [32] (fun kk wr => ∃ k : Nat, k ≤ d.size ∧ kk = .int .i64 k ∧ w' = wr ∧ Hid (∀ j (h : j < d.size), j < k → digitB ((d[j]'h).toNat : Int) = true)) (fun kk _ => d.size - (intOf kk).toNat)
    case atStart => exact ⟨0, by omega, rfl, rfl, fun j _ h => by omega⟩
    case round =>
      obtain ⟨k, hk, rfl, rfl, HO⟩ := hrel
      by_cases hlt : k < d.size
      · obtain ⟨bk, hb⟩ : ∃ b : Int, ((d[k]'hlt).toNat : Int) = b := ⟨_, rfl⟩
        have HBB := Lib.hid hb
        cases h1 : digitB bk
        · obtain ⟨rfl, rfl⟩ := HY.out (by
            rw [Bool.eq_false_iff]
            intro hc
            have := (HD.out).mp hc k hlt
            rw [HBB.out, h1] at this
            cases this)
          go_wp2_with fail
          refine (digit_any _ _).mono ?_
          rintro e w' ⟨rfl, rfl⟩
          go_wp2_with fail
          refine bodyPost_ret (v := .tuple #[.int .i64 0, .bool false]) (by unfold results; simp only [Tryz.results87]; go_simp) rfl ⟨rfl, Below.refl _ _⟩
        · have HGOOD := Lib.hid h1
          go_wp2_with fail
          refine (digit_any _ _).mono ?_
          rintro e w' ⟨rfl, rfl⟩
          go_wp2_with fail
          go_roundw
          case rel => exact ⟨k + 1, by omega, by go_num, by trivial, fun j h hj => by
            by_cases e : j = k
            · subst e; rw [HBB.out]; exact HGOOD.out
            · exact HO.out j h (by omega)⟩
          case measure => simp [intOf]; omega
      · obtain ⟨ha, rfl, rfl⟩ := HX.out (HD.out.mpr fun i hi => HO.out i hi (by omega))
        go_wp2_with fail
        refine (CA.out _ ha).mono ?_
        rintro e w2 ⟨rfl, t, rfl⟩
        have HF := Lib.hid (Go.Joins.below_bytesWorld w'.heap.size w' 5 t (Nat.le_refl _))
        generalize Lib.bytesWorld w' 5 t = w2 at *
        go_wp2_with fail
        refine bodyPost_ret (v := .tuple #[.int .i64 (sgn (bt s)), .bool true]) (by unfold results; simp only [Tryz.results87]; go_simp) rfl ⟨rfl, HF.out⟩
end Go.Proofs.YtiooimfkobjpkaaGreatDoor
