/-
  The walk of At.
-/
import Derived.Test.YtopnadilfjakiaaAtM
import Derived.Test.YtopnadilfjakiaaPlacing1
namespace Go.Proofs.Ytopnadilfjakiaa
open Go.RowKit

def dPl : Pl := ⟨⟨#[]⟩, ⟨#[]⟩, 0, 0, 0⟩
/-- The error of At, and its spot. -/
def atE (key : ByteArray) (W H : Int) (l : List Pl) (PW PH : Int) (s : List Sl) (k : Int) (nm : ByteArray) : Int :=
  if panErr key W H l PW PH s = 0 then (if (k < 0 ∨ (s.length : Int) ≤ k) ∨ plIdx nm l 0 = -1 then 8 else 0) else panErr key W H l PW PH s
def atSp (key : ByteArray) (W H : Int) (l : List Pl) (PW PH : Int) (s : List Sl) (k : Int) (nm : ByteArray) : Sp :=
  if atE key W H l PW PH s k nm = 0 then spotP W H k.toNat (s.getD k.toNat dSl) (l.getD (plIdx nm l 0).toNat dPl) else ⟨0, ⟨#[]⟩, 0, 0, 0⟩
def AtPost (E : Int) (sp : Sp) (w : World) (e : Ending) (w' : World) : Prop := e = .returned (.tuple #[.agg sp.cells.toArray, .int .i64 E]) ∧ Below w.heap.size w w'


set_option maxRecDepth 100000 in
set_option maxHeartbeats 4000000 in
theorem at_any (key : ByteArray) (Wd Hg : Int) (A : Option Addr) (c : Nat) (l : List Pl) (hl : l.length ≤ 4611686018427387904) (PW PH : Int) (B : Option Addr) (d : Nat) (s : List Sl) (hsl : s.length ≤ 4611686018427387904) (k : Int) (nm : ByteArray) (w : World) (hA : PlAt w A l) (hB : SlAt w B s) :
    Calls Try.prog 9 #[prod key Wd Hg A l.length c, pan PW PH B s.length d, .int .i64 k, .string nm] w (AtPost (atE key Wd Hg l PW PH s k nm) (atSp key Wd Hg l PW PH s k nm) w) := by
  have CP := Lib.hid (fun (W' : World) (h : PlAt W' A l) (h2 : SlAt W' B s) => checkPanel_any key Wd Hg A c l hl PW PH B d s hsl W' h h2)
  have HSZ : Hid (¬ atE key Wd Hg l PW PH s k nm = 0 → atSp key Wd Hg l PW PH s k nm = ⟨0, ⟨#[]⟩, 0, 0, 0⟩) := fun h => if_neg h
  by_cases h1 : panErr key Wd Hg l PW PH s = 0
  rotate_left
  · have HE : Hid (atE key Wd Hg l PW PH s k nm = panErr key Wd Hg l PW PH s) := if_neg h1
    have HS := Lib.hid (HSZ.out (by rw [HE.out]; exact h1))
    rw [HE.out, HS.out]
    generalize panErr key Wd Hg l PW PH s = E at *
    have h2 : (E != 0) = true := by simpa using h1
    clear h1 HE HS HSZ
    go_enter Try.func9, Try.ntmps9
    go_wp2_with fail
    have bw1 : Below w.heap.size w (((w.alloc (Obj.cells #[.string key, .int .i64 Wd, .int .i64 Hg, .slice A l.length c] 28)).alloc (Obj.cells #[.int .i64 PW, .int .i64 PH, .slice B s.length d] 32)).alloc (Obj.cells #[.int .i64 0, .string ⟨#[]⟩, .int .i64 0, .int .i64 0, .int .i64 0] 41)) := ((((Below.refl _ _).alloc (Nat.le_refl _) _).alloc (by simp) _).alloc (by simp; omega) _)
    have kP : (((w.alloc (Obj.cells #[.string key, .int .i64 Wd, .int .i64 Hg, .slice A l.length c] 28)).alloc (Obj.cells #[.int .i64 PW, .int .i64 PH, .slice B s.length d] 32)).alloc (Obj.cells #[.int .i64 0, .string ⟨#[]⟩, .int .i64 0, .int .i64 0, .int .i64 0] 41)).heap[w.heap.size]? = some (.cells #[.string key, .int .i64 Wd, .int .i64 Hg, .slice A l.length c] 28 (0, 0)) := (blk_alloc (blk_alloc (blk_new w _ rfl) _) _)
    have kN : (((w.alloc (Obj.cells #[.string key, .int .i64 Wd, .int .i64 Hg, .slice A l.length c] 28)).alloc (Obj.cells #[.int .i64 PW, .int .i64 PH, .slice B s.length d] 32)).alloc (Obj.cells #[.int .i64 0, .string ⟨#[]⟩, .int .i64 0, .int .i64 0, .int .i64 0] 41)).heap[w.heap.size + 1]? = some (.cells #[.int .i64 PW, .int .i64 PH, .slice B s.length d] 32 (0, 0)) := (blk_alloc (blk_new _ _ (by simp)) _)
    have kR : (((w.alloc (Obj.cells #[.string key, .int .i64 Wd, .int .i64 Hg, .slice A l.length c] 28)).alloc (Obj.cells #[.int .i64 PW, .int .i64 PH, .slice B s.length d] 32)).alloc (Obj.cells #[.int .i64 0, .string ⟨#[]⟩, .int .i64 0, .int .i64 0, .int .i64 0] 41)).heap[w.heap.size + 1 + 1]? = some (.cells #[.int .i64 0, .string ⟨#[]⟩, .int .i64 0, .int .i64 0, .int .i64 0] 41 (0, 0)) := (blk_new _ _ (by simp))
    generalize (((w.alloc (Obj.cells #[.string key, .int .i64 Wd, .int .i64 Hg, .slice A l.length c] 28)).alloc (Obj.cells #[.int .i64 PW, .int .i64 PH, .slice B s.length d] 32)).alloc (Obj.cells #[.int .i64 0, .string ⟨#[]⟩, .int .i64 0, .int .i64 0, .int .i64 0] 41)) = w1 at *
    refine (CP.out _ (hA.below bw1) (hB.below bw1)).mono ?_
    rintro e w2 ⟨rfl, b2⟩
    have kR2 := blk_below b2 kR
    have HB2 := Lib.hid (bw1.then_below b2 bw1.size)
    obtain ⟨r0, r1, r2, r3, r4⟩ := five kR2
    have f0 := frozen_of_blk kR2 0
    have f1 := frozen_of_blk kR2 1
    have f2 := frozen_of_blk kR2 2
    have f3 := frozen_of_blk kR2 3
    have f4 := frozen_of_blk kR2 4
    clear b2 kR2 kP kN kR bw1
    go_wp2_with fail
    refine bodyPost_ret (v := .tuple #[.agg #[.int .i64 0, .string ⟨#[]⟩, .int .i64 0, .int .i64 0, .int .i64 0], .int .i64 E]) (by unfold results; simp only [Try.results9]; go_simp) rfl ⟨rfl, ?_⟩
    exact ((((HB2.out.setCell (by simp; omega) _).setCell (by simp; omega) _).setCell (by simp; omega) _).setCell (by simp; omega) _).setCell (by simp; omega) _
  · have HE : Hid (atE key Wd Hg l PW PH s k nm = if (k < 0 ∨ (s.length : Int) ≤ k) ∨ plIdx nm l 0 = -1 then 8 else 0) := if_pos h1
    have HS : Hid (atE key Wd Hg l PW PH s k nm = 0 → atSp key Wd Hg l PW PH s k nm = spotP Wd Hg k.toNat (s.getD k.toNat dSl) (l.getD (plIdx nm l 0).toNat dPl)) := fun h => if_pos h
    obtain ⟨hpe, _, ho⟩ := pan_ok h1
    obtain ⟨_, _, _, _, _, hri⟩ := prodErr_ok hpe
    rw [h1] at CP
    have hsl2 := ho.slen
    have hln2 := ho.len
    have HO := Lib.hid ho
    have HPI := Lib.hid (pl_in hpe)
    have HRI := Lib.hid hri
    clear h1 ho hpe hri
    generalize atE key Wd Hg l PW PH s k nm = E at *
    generalize atSp key Wd Hg l PW PH s k nm = sp at *
    go_enter Try.func9, Try.ntmps9
    go_wp2_with fail
    have bw1 : Below w.heap.size w (((w.alloc (Obj.cells #[.string key, .int .i64 Wd, .int .i64 Hg, .slice A l.length c] 28)).alloc (Obj.cells #[.int .i64 PW, .int .i64 PH, .slice B s.length d] 32)).alloc (Obj.cells #[.int .i64 0, .string ⟨#[]⟩, .int .i64 0, .int .i64 0, .int .i64 0] 41)) := ((((Below.refl _ _).alloc (Nat.le_refl _) _).alloc (by simp) _).alloc (by simp; omega) _)
    have kP : (((w.alloc (Obj.cells #[.string key, .int .i64 Wd, .int .i64 Hg, .slice A l.length c] 28)).alloc (Obj.cells #[.int .i64 PW, .int .i64 PH, .slice B s.length d] 32)).alloc (Obj.cells #[.int .i64 0, .string ⟨#[]⟩, .int .i64 0, .int .i64 0, .int .i64 0] 41)).heap[w.heap.size]? = some (.cells #[.string key, .int .i64 Wd, .int .i64 Hg, .slice A l.length c] 28 (0, 0)) := (blk_alloc (blk_alloc (blk_new w _ rfl) _) _)
    have kN : (((w.alloc (Obj.cells #[.string key, .int .i64 Wd, .int .i64 Hg, .slice A l.length c] 28)).alloc (Obj.cells #[.int .i64 PW, .int .i64 PH, .slice B s.length d] 32)).alloc (Obj.cells #[.int .i64 0, .string ⟨#[]⟩, .int .i64 0, .int .i64 0, .int .i64 0] 41)).heap[w.heap.size + 1]? = some (.cells #[.int .i64 PW, .int .i64 PH, .slice B s.length d] 32 (0, 0)) := (blk_alloc (blk_new _ _ (by simp)) _)
    have kR : (((w.alloc (Obj.cells #[.string key, .int .i64 Wd, .int .i64 Hg, .slice A l.length c] 28)).alloc (Obj.cells #[.int .i64 PW, .int .i64 PH, .slice B s.length d] 32)).alloc (Obj.cells #[.int .i64 0, .string ⟨#[]⟩, .int .i64 0, .int .i64 0, .int .i64 0] 41)).heap[w.heap.size + 1 + 1]? = some (.cells #[.int .i64 0, .string ⟨#[]⟩, .int .i64 0, .int .i64 0, .int .i64 0] 41 (0, 0)) := (blk_new _ _ (by simp))
    generalize (((w.alloc (Obj.cells #[.string key, .int .i64 Wd, .int .i64 Hg, .slice A l.length c] 28)).alloc (Obj.cells #[.int .i64 PW, .int .i64 PH, .slice B s.length d] 32)).alloc (Obj.cells #[.int .i64 0, .string ⟨#[]⟩, .int .i64 0, .int .i64 0, .int .i64 0] 41)) = w1 at *
    refine (CP.out _ (hA.below bw1) (hB.below bw1)).mono ?_
    rintro e w2 ⟨rfl, b2⟩
    have kR2 := blk_below b2 kR
    have HB2 : Hid (Below w.heap.size w w2 ∧ w2.heap[w.heap.size]? = some (.cells #[.string key, .int .i64 Wd, .int .i64 Hg, .slice A l.length c] 28 (0, 0)) ∧ w2.heap[w.heap.size + 1]? = some (.cells #[.int .i64 PW, .int .i64 PH, .slice B s.length d] 32 (0, 0)) ∧ w2.heap[w.heap.size + 1 + 1]? = some (.cells #[.int .i64 0, .string ⟨#[]⟩, .int .i64 0, .int .i64 0, .int .i64 0] 41 (0, 0))) := ⟨bw1.then_below b2 bw1.size, blk_below b2 kP, blk_below b2 kN, kR2⟩
    obtain ⟨n0, n1, n2, hnl⟩ := blk3 HB2.out.2.2.1
    obtain ⟨p0, p1, p2, p3⟩ := blk4 HB2.out.2.1
    have hpl := lt_of_blk HB2.out.2.1
    obtain ⟨r0, r1, r2, r3, r4⟩ := five kR2
    have f0 := frozen_of_blk kR2 0
    have f1 := frozen_of_blk kR2 1
    have f2 := frozen_of_blk kR2 2
    have f3 := frozen_of_blk kR2 3
    have f4 := frozen_of_blk kR2 4
    have hrl := lt_of_blk kR2
    clear b2 kR2 kP kN kR bw1 CP
    by_cases hk0 : k < 0
    · have h8 : Hid (E = 8) := HE.out.trans (if_pos (.inl (.inl hk0)))
      have HZ := Lib.hid (HSZ.out (by rw [h8.out]; decide))
      go_wp2_with fail
      (refine bodyPost_ret (v := .tuple #[.agg #[.int .i64 0, .string ⟨#[]⟩, .int .i64 0, .int .i64 0, .int .i64 0], .int .i64 8]) (by unfold results; simp only [Try.results9]; go_simp) rfl ?_)
      unfold AtPost
      rw [h8.out, HZ.out]
      exact ⟨rfl, ((((HB2.out.1.setCell (by simp; omega) _).setCell (by simp; omega) _).setCell (by simp; omega) _).setCell (by simp; omega) _).setCell (by simp; omega) _⟩
    by_cases hk1 : (s.length : Int) ≤ k
    · have h8 : Hid (E = 8) := HE.out.trans (if_pos (.inl (.inr hk1)))
      have HZ := Lib.hid (HSZ.out (by rw [h8.out]; decide))
      go_wp2_with fail
      (refine bodyPost_ret (v := .tuple #[.agg #[.int .i64 0, .string ⟨#[]⟩, .int .i64 0, .int .i64 0, .int .i64 0], .int .i64 8]) (by unfold results; simp only [Try.results9]; go_simp) rfl ?_)
      unfold AtPost
      rw [h8.out, HZ.out]
      exact ⟨rfl, ((((HB2.out.1.setCell (by simp; omega) _).setCell (by simp; omega) _).setCell (by simp; omega) _).setCell (by simp; omega) _).setCell (by simp; omega) _⟩
    obtain ⟨kn, rfl⟩ := Int.eq_ofNat_of_zero_le (show 0 ≤ k by omega)
    have hkn : kn < s.length := by omega
    have CS := Lib.hid (fun (W' : World) (h : PlAt W' A l) => searchPl_any A c l nm W' h (by omega) HRI.out)
    have HEE : Hid (E = if plIdx nm l 0 = -1 then 8 else 0) := by
      refine HE.out.trans ?_
      by_cases hp : plIdx nm l 0 = -1
      · rw [if_pos (.inr hp), if_pos hp]
      · rw [if_neg (fun h => h.elim (fun h => by omega) hp), if_neg hp]
    clear HE
    go_wp2_with fail
    refine (CS.out _ (hA.below HB2.out.1)).mono ?_
    rintro e w3 ⟨hfo, b3⟩
    have HB3 : Hid (Below w.heap.size w w3 ∧ w3.heap[w.heap.size]? = some (.cells #[.string key, .int .i64 Wd, .int .i64 Hg, .slice A l.length c] 28 (0, 0)) ∧ w3.heap[w.heap.size + 1]? = some (.cells #[.int .i64 PW, .int .i64 PH, .slice B s.length d] 32 (0, 0)) ∧ w3.heap[w.heap.size + 1 + 1]? = some (.cells #[.int .i64 0, .string ⟨#[]⟩, .int .i64 0, .int .i64 0, .int .i64 0] 41 (0, 0))) := ⟨HB2.out.1.then_below b3 HB2.out.1.size, blk_below b3 HB2.out.2.1, blk_below b3 HB2.out.2.2.1, blk_below b3 HB2.out.2.2.2⟩
    clear b3 HB2 n0 n1 n2 hnl p0 p1 p2 p3 hpl r0 r1 r2 r3 r4 f0 f1 f2 f3 f4 hrl CS
    have kR3 := HB3.out.2.2.2
    obtain ⟨r0, r1, r2, r3, r4⟩ := five kR3
    have f0 := frozen_of_blk kR3 0
    have f1 := frozen_of_blk kR3 1
    have f2 := frozen_of_blk kR3 2
    have f3 := frozen_of_blk kR3 3
    have f4 := frozen_of_blk kR3 4
    have hrl := lt_of_blk kR3
    clear kR3
    rcases found_idx HRI.out hfo with ⟨hi, i, rfl⟩ | ⟨i, hil, hi, rfl⟩
    · have h8 : Hid (E = 8) := HEE.out.trans (if_pos hi)
      have HZ := Lib.hid (HSZ.out (by rw [h8.out]; decide))
      clear hfo hi
      go_wp2_with fail
      (refine bodyPost_ret (v := .tuple #[.agg #[.int .i64 0, .string ⟨#[]⟩, .int .i64 0, .int .i64 0, .int .i64 0], .int .i64 8]) (by unfold results; simp only [Try.results9]; go_simp) rfl ?_)
      unfold AtPost
      rw [h8.out, HZ.out]
      exact ⟨rfl, ((((HB3.out.1.setCell (by simp; omega) _).setCell (by simp; omega) _).setCell (by simp; omega) _).setCell (by simp; omega) _).setCell (by simp; omega) _⟩
    · have h8 : Hid (E = 0) := HEE.out.trans (if_neg (by rw [hi]; omega))
      have hs9 := HS.out h8.out
      have e1 : s.getD ((kn : Int)).toNat dSl = s[kn] := by rw [show ((kn : Int)).toNat = kn from rfl, List.getD_eq_getElem?_getD, List.getElem?_eq_getElem hkn]; rfl
      have e2 : l.getD (plIdx nm l 0).toNat dPl = l[i] := by rw [hi, show ((i : Int)).toNat = i from rfl, List.getD_eq_getElem?_getD, List.getElem?_eq_getElem hil]; rfl
      rw [e1, e2, show ((kn : Int)).toNat = kn from rfl] at hs9
      have hpi := HPI.out l[i] (List.getElem_mem hil)
      have hti : SlIn s[kn] := HO.out.sl _ (List.getElem_mem hkn)
      have CPL := Lib.hid (fun W' (h : SlAt W' B s) => placing_any key Wd Hg A l.length c PW PH B d s kn hkn (by omega) W' h hti)
      obtain ⟨p, hp'⟩ : ∃ p, l[i] = p := ⟨_, rfl⟩
      obtain ⟨t, ht'⟩ : ∃ t, s[kn] = t := ⟨_, rfl⟩
      rw [hp'] at hpi hs9
      rw [ht'] at hti CPL hs9
      have CA := Lib.hid (fun W' h8 h5 h7 hp (h : PlacingB key Wd Hg A l.length c kn t h8 h5 h7 hp W') => placing1_any key Wd Hg A l.length c kn t p h8 h5 h7 hp W' HO.out.w HO.out.h hti hpi h)
      have HSP : Hid (sp.cells.toArray = (spotP Wd Hg kn t p).cells.toArray) := by rw [hs9]; rfl
      rcases hA with rfl | ⟨g, rfl, hrow⟩
      · simp at hil
      have HROW := Lib.hid hrow
      have HPP := Lib.hid hp'
      have i1 : (0 : Int) ≤ (i : Int) := by omega
      have i2 : (i : Int) < (l.length : Int) := by omega
      clear hfo hi hs9 e1 e2 hpi hti hp' ht' hrow HS HSZ HEE
      generalize spotP Wd Hg kn t p = sq at *
      obtain ⟨sa, sn, sx, sy, sqq⟩ := sq
      dsimp only [Sp.cells] at CA
      obtain ⟨pn, pp, px, py, pq⟩ := p
      dsimp only at CA
      go_upto_region 9 with (fail)
      clear r0 r1 r2 r3 r4 f0 f1 f2 f3 f4
      refine Rg.rgL (fun a b => Below a.heap.size a b)
        [(fun vs u => vs 0 = prod key Wd Hg (some ⟨g, 0, none⟩) l.length c), (fun vs u => vs 1 = pan PW PH B s.length d), (fun vs u => vs 2 = .int .i64 kn), (fun vs u => PlacingAt key Wd Hg (some ⟨g, 0, none⟩) l.length c kn t (vs 3) u), (fun vs u => vs 4 = .pointer (some ⟨w.heap.size, 3, none⟩)), (fun vs u => vs 5 = .slice (some ⟨g, 0, none⟩) l.length c), (fun vs u => vs 6 = .int .i64 i), (fun vs u => vs 7 = .pointer (some ⟨g, i * 5, none⟩)), (fun vs u => vs 8 = .agg #[.string pn, .string pp, .int .i64 px, .int .i64 py, .int .i64 pq])]
        [[], [], [], [0, 1, 2], [], [4], [], [4, 5, 6], [4, 5, 6, 7]] [some 40, some 41, some 42, some 43, some 44, some 45, some 46, some 47, some 48, some 49, none, some 9] [] (fun _ _ => True) [[], [], [], [0, 1, 2], [], [4], [], [4, 5, 6], [4, 5, 6, 7], [0, 1, 2, 3, 4, 5, 6, 7, 8], [0, 1, 2, 3, 4, 5, 6, 7, 8, 9], [0, 1, 2, 3, 4, 5, 6, 7, 8, 9, 10]]
        (by kernel_rfl) (by decide) (by kernel_rfl) (by kernel_rfl) (by kernel_rfl) (by kernel_rfl) (by kernel_rfl) (fun _ => Below.refl _ _) (fun _ _ _ h k => h.ext k) (fun _ _ h => h.size) ?_ trivial ?_ ?_
      · intro t ht vs w w' h hE
        simp only [List.mem_cons, List.not_mem_nil, or_false] at ht
        rcases ht with rfl | rfl | rfl | rfl | rfl | rfl | rfl | rfl | rfl
        · exact h
        · exact h
        · exact h
        · exact PlacingAt.below h hE
        · exact h
        · exact h
        · exact h
        · exact h
        · exact h
      ·
        refine Rg.cons 0 1 rfl (Rg.plain rfl ?_) ?_
        · intro vs W n hn hI hG hT hF K hK
          simp only [Rg.putsD, List.getD_cons_zero, List.getD_cons_succ, Act.put, List.setIfInBounds_toArray, List.set_cons_zero, List.set_cons_succ] at hK ⊢
          clear hn
          clear hF hI
          obtain ⟨m0, m1, m2, m3⟩ := blk4 (blk_below hG HB3.out.2.1)
          have H := Lib.hid hK
          clear hK hT
          go_simp
          exact H.out _ _ (Below.refl _ _) rfl (fun h => by cases h) trivial
        refine Rg.cons 1 2 rfl (Rg.plain rfl ?_) ?_
        · intro vs W n hn hI hG hT hF K hK
          simp only [Rg.putsD, List.getD_cons_zero, List.getD_cons_succ, Act.put, List.setIfInBounds_toArray, List.set_cons_zero, List.set_cons_succ] at hK ⊢
          clear hn
          clear hF hI
          obtain ⟨m0, m1, m2, _⟩ := blk3 (blk_below hG HB3.out.2.2.1)
          have H := Lib.hid hK
          clear hK hT
          go_simp
          exact H.out _ _ (Below.refl _ _) rfl (fun h => by cases h) trivial
        refine Rg.cons 2 3 rfl (Rg.plain rfl ?_) ?_
        · intro vs W n hn hI hG hT hF K hK
          simp only [Rg.putsD, List.getD_cons_zero, List.getD_cons_succ, Act.put, List.setIfInBounds_toArray, List.set_cons_zero, List.set_cons_succ] at hK ⊢
          clear hn
          clear hF hI
          have H := Lib.hid hK
          clear hK hT
          go_simp
          exact H.out _ _ (Below.refl _ _) rfl (fun h => by cases h) trivial
        refine Rg.cons 3 4 rfl (Rg.plain rfl ?_) ?_
        · intro vs W n hn hI hG hT hF K hK
          simp only [Rg.putsD, List.getD_cons_zero, List.getD_cons_succ, Act.put, List.setIfInBounds_toArray, List.set_cons_zero, List.set_cons_succ] at hK ⊢
          clear hn
          clear hF hI
          have t0 : vs 0 = prod key Wd Hg (some ⟨g, 0, none⟩) l.length c := hT 0 (by decide)
          have t1 : vs 1 = pan PW PH B s.length d := hT 1 (by decide)
          have t2 : vs 2 = .int .i64 kn := hT 2 (by decide)
          have HG := Lib.hid hG
          clear hG
          simp only [t0, t1, t2] at hK
          have H := Lib.hid hK
          clear hK hT
          go_simp
          refine (CPL.out _ (hB.below (HB3.out.1.drew.then_below HG.out HB3.out.1.size))).mono ?_
          rintro e wa ⟨v, rfl, ba, pa⟩
          exact H.out _ _ ba pa (fun h => by cases h) trivial
        refine Rg.cons 4 5 rfl (Rg.plain rfl ?_) ?_
        · intro vs W n hn hI hG hT hF K hK
          simp only [Rg.putsD, List.getD_cons_zero, List.getD_cons_succ, Act.put, List.setIfInBounds_toArray, List.set_cons_zero, List.set_cons_succ] at hK ⊢
          clear hn
          clear hF hI
          have H := Lib.hid hK
          clear hK hT
          go_simp
          exact H.out _ _ (Below.refl _ _) rfl (fun h => by cases h) trivial
        refine Rg.cons 5 6 rfl (Rg.plain rfl ?_) ?_
        · intro vs W n hn hI hG hT hF K hK
          simp only [Rg.putsD, List.getD_cons_zero, List.getD_cons_succ, Act.put, List.setIfInBounds_toArray, List.set_cons_zero, List.set_cons_succ] at hK ⊢
          clear hn
          clear hF hI
          have t4 : vs 4 = .pointer (some ⟨w.heap.size, 3, none⟩) := hT 4 (by decide)
          obtain ⟨m0, m1, m2, m3⟩ := blk4 (blk_below hG HB3.out.2.1)
          simp only [t4] at hK
          have H := Lib.hid hK
          clear hK hT
          go_simp
          exact H.out _ _ (Below.refl _ _) rfl (fun h => by cases h) trivial
        refine Rg.cons 6 7 rfl (Rg.plain rfl ?_) ?_
        · intro vs W n hn hI hG hT hF K hK
          simp only [Rg.putsD, List.getD_cons_zero, List.getD_cons_succ, Act.put, List.setIfInBounds_toArray, List.set_cons_zero, List.set_cons_succ] at hK ⊢
          clear hn
          clear hF hI
          have H := Lib.hid hK
          clear hK hT
          go_simp
          exact H.out _ _ (Below.refl _ _) rfl (fun h => by cases h) trivial
        refine Rg.cons 7 8 rfl (Rg.plain rfl ?_) ?_
        · intro vs W n hn hI hG hT hF K hK
          simp only [Rg.putsD, List.getD_cons_zero, List.getD_cons_succ, Act.put, List.setIfInBounds_toArray, List.set_cons_zero, List.set_cons_succ] at hK ⊢
          clear hn
          clear hF hI
          have t4 : vs 4 = .pointer (some ⟨w.heap.size, 3, none⟩) := hT 4 (by decide)
          have t5 : vs 5 = .slice (some ⟨g, 0, none⟩) l.length c := hT 5 (by decide)
          have t6 : vs 6 = .int .i64 i := hT 6 (by decide)
          simp only [t4, t5, t6] at hK
          have H := Lib.hid hK
          clear hK hT
          go_simp
          exact H.out _ _ (Below.refl _ _) rfl (fun h => by cases h) trivial
        refine Rg.cons 8 9 rfl (Rg.plain rfl ?_) ?_
        · intro vs W n hn hI hG hT hF K hK
          simp only [Rg.putsD, List.getD_cons_zero, List.getD_cons_succ, Act.put, List.setIfInBounds_toArray, List.set_cons_zero, List.set_cons_succ] at hK ⊢
          clear hn
          clear hF hI
          have t4 : vs 4 = .pointer (some ⟨w.heap.size, 3, none⟩) := hT 4 (by decide)
          have t5 : vs 5 = .slice (some ⟨g, 0, none⟩) l.length c := hT 5 (by decide)
          have t6 : vs 6 = .int .i64 i := hT 6 (by decide)
          have t7 : vs 7 = .pointer (some ⟨g, i * 5, none⟩) := hT 7 (by decide)
          obtain ⟨q0, q1, q2, q3, q4⟩ := row_pl (HROW.out.below (HB3.out.1.drew.then_below hG HB3.out.1.size)) hil
          rw [HPP.out] at q0 q1 q2 q3 q4
          simp only [t4, t5, t6, t7] at hK
          have H := Lib.hid hK
          clear hK hT
          go_simp
          exact H.out _ _ (Below.refl _ _) rfl (fun h => by cases h) trivial
        exact Rg.nil
      · intro vs W hG hI hT hF
        have t0 : vs 0 = prod key Wd Hg (some ⟨g, 0, none⟩) l.length c := hT 0 (by decide)
        have t1 : vs 1 = pan PW PH B s.length d := hT 1 (by decide)
        have t2 : vs 2 = .int .i64 kn := hT 2 (by decide)
        have t3 : PlacingAt key Wd Hg (some ⟨g, 0, none⟩) l.length c kn t (vs 3) W := hT 3 (by decide)
        have t4 : vs 4 = .pointer (some ⟨w.heap.size, 3, none⟩) := hT 4 (by decide)
        have t5 : vs 5 = .slice (some ⟨g, 0, none⟩) l.length c := hT 5 (by decide)
        have t6 : vs 6 = .int .i64 i := hT 6 (by decide)
        have t7 : vs 7 = .pointer (some ⟨g, i * 5, none⟩) := hT 7 (by decide)
        have t8 : vs 8 = .agg #[.string pn, .string pp, .int .i64 px, .int .i64 py, .int .i64 pq] := hT 8 (by decide)
        simp only [List.length_cons, List.length_nil, Nat.reduceAdd, List.range, List.range.loop, List.drop_succ_cons, List.drop_zero, Rg.putsD, List.getD_cons_zero, List.getD_cons_succ, Act.put, List.setIfInBounds_toArray, List.set_cons_zero, List.set_cons_succ, t0, t1, t2, t4, t5, t6, t7, t8]
        clear hT t0 t1 t2 t4 t5 t6 t7 t8
        obtain ⟨x8, x5, x7, xp, e3, hpb⟩ := t3
        simp only [e3]
        have HPB := Lib.hid hpb
        have HB4 := Lib.hid (And.intro (HB3.out.1.drew.then_below hG HB3.out.1.size) (blk_below hG HB3.out.2.2.2))
        clear e3 hpb hG hI hF
        go_wp2_with fail
        refine (CA.out _ x8 x5 x7 xp HPB.out).mono ?_
        rintro e wa ⟨rfl, ba⟩
        have kR4 := blk_below ba HB4.out.2
        have HB5 := Lib.hid (HB4.out.1.then_below ba HB4.out.1.size)
        obtain ⟨r0, r1, r2, r3, r4⟩ := five kR4
        have f0 := frozen_of_blk kR4 0
        have f1 := frozen_of_blk kR4 1
        have f2 := frozen_of_blk kR4 2
        have f3 := frozen_of_blk kR4 3
        have f4 := frozen_of_blk kR4 4
        have hrl4 := lt_of_blk kR4
        clear kR4 ba HB4 HPB
        go_wp2_with fail
        refine bodyPost_ret (v := .tuple #[.agg #[.int .i64 sa, .string sn, .int .i64 sx, .int .i64 sy, .int .i64 sqq], .int .i64 0]) (by unfold results; simp only [Try.results9]; go_simp) rfl ?_
        unfold AtPost
        rw [h8.out, HSP.out]
        exact ⟨rfl, ((((HB5.out.setCell (by show w.heap.size ≤ w.heap.size + 1 + 1; omega) _).setCell (by show w.heap.size ≤ w.heap.size + 1 + 1; omega) _).setCell (by show w.heap.size ≤ w.heap.size + 1 + 1; omega) _).setCell (by show w.heap.size ≤ w.heap.size + 1 + 1; omega) _).setCell (by show w.heap.size ≤ w.heap.size + 1 + 1; omega) _⟩
end Go.Proofs.Ytopnadilfjakiaa
