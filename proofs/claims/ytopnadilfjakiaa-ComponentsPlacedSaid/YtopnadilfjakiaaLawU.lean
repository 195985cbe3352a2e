/-
  Words for the law on components placed: what the program and the reference both give.
-/
import Derived.Test.YtopnadilfjakiaaPaneled
import Derived.Test.YtopnadilfjakiaaRefC
import Derived.Test.YtopnadilfjakiaaAProd
import Derived.Test.YtopnadilfjakiaaGenP
import Derived.Test.YtopnadilfjakiaaAt
import Derived.Test.YtopnadilfjakiaaSpots
import Derived.Test.YtopnadilfjakiaaNdW
namespace Go.Proofs.Ytopnadilfjakiaa
open Go.RowKit

theorem kept_below3 {sb : Nat} {w w' : World} {o : Obj} (hs : sb = w.heap.size) (h : Kept sb (w.alloc o) w') : Below w.heap.size w w' := by
  subst hs
  obtain ⟨a, b, c⟩ := h.outer
  refine ⟨a, b, c, by have := h.more; simp at this; omega, fun k hk => ?_⟩
  exact (h.old k (by simp; omega) (by omega)).trans (Below.heap_alloc w o k hk)
theorem pl_own {w : World} {base : Nat} {T : TypeId} {v : Value} {l : List Pl} (h : w.ownsRow base T 5 v l.length (flatP l)) : ∃ A c, v = .slice A l.length c ∧ PlAt w A l := by
  obtain ⟨A, c, rfl, _⟩ := own_form h
  refine ⟨A, c, rfl, ?_⟩
  by_cases h0 : l.length = 0
  · exact .inl (List.length_eq_zero_iff.mp h0)
  · obtain ⟨g', _, hv, _, hlt, _, _, hrd⟩ := own_read h (by omega)
    simp only [Value.slice.injEq, true_and] at hv
    exact .inr ⟨g', hv.1, hlt, hrd⟩
theorem slat_own {w : World} {base : Nat} {T : TypeId} {v : Value} {l : List Sl} (h : w.ownsRow base T 4 v l.length (flatSl l)) : ∃ A c, v = .slice A l.length c ∧ SlAt w A l := by
  obtain ⟨A, c, rfl, _⟩ := own_form h
  refine ⟨A, c, rfl, ?_⟩
  by_cases h0 : l.length = 0
  · exact .inl (List.length_eq_zero_iff.mp h0)
  · obtain ⟨g', _, hv, _, hlt, _, _, hrd⟩ := own_read h (by omega)
    simp only [Value.slice.injEq, true_and] at hv
    exact .inr ⟨g', hv.1, hlt, hrd⟩

/-- What stands when all is made. -/
def MadeP (w : World) (g h : Nat) (key : ByteArray) (W H : Int) (A : Option Addr) (c : Nat) (l : List Pl) (PW PH : Int) (B : Option Addr) (d : Nat) (s : List Sl) (wc : World) : Prop :=
  wc.heap[g]? = some (.cells #[.string key, .int .i64 W, .int .i64 H, .slice A l.length c] 28 (0, 0)) ∧ wc.heap[h]? = some (.cells #[.int .i64 PW, .int .i64 PH, .slice B s.length d] 32 (0, 0)) ∧ PlAt wc A l ∧ SlAt wc B s ∧ Below w.heap.size w wc
theorem MadeP.below {w : World} {g h : Nat} {key : ByteArray} {W H : Int} {A : Option Addr} {c : Nat} {l : List Pl} {PW PH : Int} {B : Option Addr} {d : Nat} {s : List Sl} {wc wd : World} (hm : MadeP w g h key W H A c l PW PH B d s wc) (hb : Below wc.heap.size wc wd) : MadeP w g h key W H A c l PW PH B d s wd :=
  ⟨blk_below hb hm.1, blk_below hb hm.2.1, hm.2.2.1.below hb, hm.2.2.2.1.below hb, hm.2.2.2.2.then_below hb hm.2.2.2.2.size⟩

set_option maxHeartbeats 1000000 in
theorem needs_bad (key : ByteArray) (W H : Int) (A : Option Addr) (c : Nat) (l : List Pl) (hl : l.length ≤ 4611686018427387904) (w : World) (hA : PlAt w A l) (hE : ¬ prodErr key W H l = 0) :
    Calls Try.prog 8 #[prod key W H A l.length c] w fun e w' => e = .returned (.tuple #[.slice none 0 0, .int .i64 (prodErr key W H l)]) ∧ Below w.heap.size w w' := by
  have CP := Lib.hid (fun (W' : World) (h : PlAt W' A l) => checkProduct_any key W H A c l hl W' h)
  generalize prodErr key W H l = E at *
  have h2 : (E != 0) = true := by simpa using hE
  clear hE
  go_enter Try.func8, Try.ntmps8
  go_wp2_with fail
  refine (CP.out _ (hA.below ((Below.refl _ _).alloc (Nat.le_refl _) _))).mono ?_
  rintro e w1 ⟨rfl, b1⟩
  have HB1 := Lib.hid (((Below.refl w.heap.size w).alloc (Nat.le_refl _) _).then_below b1 (by simp))
  clear b1
  go_wp2_with fail
  go_ret2
  exact ⟨rfl, HB1.out⟩
theorem needs_all (key : ByteArray) (W H : Int) (A : Option Addr) (c : Nat) (l : List Pl) (hl : l.length ≤ 12) : ∃ LN : List (List UInt8 × Int), LN.length ≤ 2000000 ∧
    (∀ w, PlAt w A l → Calls Try.prog 8 #[prod key W H A l.length c] w fun e w' => ∃ v, e = .returned (.tuple #[v, .int .i64 (prodErr key W H l)]) ∧ Below w.heap.size w w' ∧ Reads encNd v LN w') ∧
    (prodErr key W H l = 0 → ∀ w, PlAt w A l → Calls Try.prog 16 #[prod key W H A l.length c] w fun e w' => ∃ v, e = .returned v ∧ Below w.heap.size w w' ∧ ReadsF w.heap.size encNd v LN w') ∧
    (¬ prodErr key W H l = 0 → LN = []) := by
  by_cases h : prodErr key W H l = 0
  · refine ⟨needsOf ((l.map partOf).mergeSort fun x y => decide (x ≤ y)), ?_, fun w hA => ?_, fun _ w hA => needsR_any key W H A c l w hA h hl, fun h' => absurd h h'⟩
    · have := needsOf_len ((l.map partOf).mergeSort fun x y => decide (x ≤ y))
      simp at this
      omega
    · rw [h]
      exact (needs_any key W H A c l (by omega) w hA h).mono fun e w' ⟨v, he, hb, ho⟩ => ⟨v, he, hb, reads_own (enc := encNd) ho⟩
  · refine ⟨[], by simp, fun w hA => ?_, fun h' => absurd h' h, fun _ => rfl⟩
    exact (needs_bad key W H A c l (by omega) w hA h).mono fun e w' ⟨he, hb⟩ => ⟨_, he, hb, none, 0, rfl, .inl rfl⟩
theorem spots_all (key : ByteArray) (W H : Int) (A : Option Addr) (c : Nat) (l : List Pl) (hl : l.length ≤ 12) (PW PH : Int) (B : Option Addr) (d : Nat) (s : List Sl) (hsl : s.length ≤ 1000) : ∃ LS : List Sp, LS.length ≤ 2000000 ∧
    (∀ w, PlAt w A l → SlAt w B s → Calls Try.prog 10 #[prod key W H A l.length c, pan PW PH B s.length d] w fun e w' => ∃ v, e = .returned (.tuple #[v, .int .i64 (panErr key W H l PW PH s)]) ∧ Below w.heap.size w w' ∧ Reads Sp.cells v LS w') ∧
    (panErr key W H l PW PH s = 0 → ∀ w, PlAt w A l → SlAt w B s → Calls Try.prog 17 #[prod key W H A l.length c, pan PW PH B s.length d] w fun e w' => ∃ v, e = .returned v ∧ Below w.heap.size w w' ∧ ReadsF w.heap.size Sp.cells v LS w') ∧
    (¬ panErr key W H l PW PH s = 0 → LS = []) := by
  refine ⟨if panErr key W H l PW PH s = 0 then spIdx W H s l s.length else [], ?_, fun w hA hB => spots_any key W H A c l (by omega) PW PH B d s (by omega) w hA hB, fun h w hA hB => ?_, fun h => if_neg h⟩
  · have h1 := spIdx_len W H s l s.length
    have h2 : s.length * l.length ≤ 1000 * 12 := Nat.mul_le_mul hsl hl
    split
    · omega
    · simp
  · rw [if_pos h]
    exact spotsOf_any key W H A c l PW PH B d s w hA hB h
/-- What a component of the board at a place is, by the reference. -/
theorem at_all (key : ByteArray) (W H : Int) (A : Option Addr) (c : Nat) (l : List Pl) (hl : l.length ≤ 1000) (PW PH : Int) (B : Option Addr) (d : Nat) (s : List Sl) (hsl : s.length ≤ 1000) (k : Int) (nm : ByteArray) : ∃ (E3 : Int) (sp : Sp),
    (∀ w, PlAt w A l → SlAt w B s → Calls Try.prog 9 #[prod key W H A l.length c, pan PW PH B s.length d, .int .i64 k, .string nm] w (AtPost E3 sp w)) ∧
    (E3 = errsL [panErr key W H l PW PH s, if (k < 0 ∨ (s.length : Int) ≤ k) ∨ plIdx nm l 0 = -1 then 8 else 0]) ∧
    (¬ E3 = 0 → sp = ⟨0, ⟨#[]⟩, 0, 0, 0⟩) ∧
    (E3 = 0 → ∀ (i : Nat) (hi : i < l.length), plIdx nm l 0 = i → ∀ w, SlAt w B s → Calls Try.prog 18 #[prod key W H A l.length c, pan PW PH B s.length d, .int .i64 k, .agg #[.string l[i].name, .string l[i].part, .int .i64 l[i].x, .int .i64 l[i].y, .int .i64 l[i].q]] w fun e w' => e = .returned (.agg sp.cells.toArray) ∧ Below w.heap.size w w') := by
  refine ⟨atE key W H l PW PH s k nm, atSp key W H l PW PH s k nm, fun w hA hB => at_any key W H A c l (by omega) PW PH B d s (by omega) k nm w hA hB, ?_, fun h => if_neg h, fun h i hi hpi w hB => ?_⟩
  · unfold atE errsL errsL errsL
    by_cases h1 : panErr key W H l PW PH s = 0
    · rw [if_pos h1, if_pos h1]
      split
      · rfl
      · rfl
    · rw [if_neg h1, if_neg h1]
  · have hs : atSp key W H l PW PH s k nm = spotP W H k.toNat (s.getD k.toNat dSl) (l.getD (plIdx nm l 0).toNat dPl) := if_pos h
    unfold atE at h
    by_cases h1 : panErr key W H l PW PH s = 0
    · rw [if_pos h1] at h
      by_cases h2 : (k < 0 ∨ (s.length : Int) ≤ k) ∨ plIdx nm l 0 = -1
      · rw [if_pos h2] at h; cases h
      · have hk0 : 0 ≤ k := by omega
        obtain ⟨kn, rfl⟩ := Int.eq_ofNat_of_zero_le hk0
        have hkn : kn < s.length := by omega
        obtain ⟨hpe, _, ho⟩ := pan_ok h1
        have e1 : s.getD ((kn : Int)).toNat dSl = s[kn] := by rw [show ((kn : Int)).toNat = kn from rfl, List.getD_eq_getElem?_getD, List.getElem?_eq_getElem hkn]; rfl
        have e2 : l.getD (plIdx nm l 0).toNat dPl = l[i] := by rw [hpi, show ((i : Int)).toNat = i from rfl, List.getD_eq_getElem?_getD, List.getElem?_eq_getElem hi]; rfl
        rw [hs, e1, e2, show ((kn : Int)).toNat = kn from rfl]
        exact spotOf_any key W H A l.length c PW PH B d s kn hkn (by omega) l[i] w hB ho.w ho.h (ho.sl _ (List.getElem_mem hkn)) (pl_in hpe _ (List.getElem_mem hi))
    · rw [if_neg h1] at h; exact absurd h h1
end Go.Proofs.Ytopnadilfjakiaa
