/-
  The walk of the law PanelsTurned.
-/
import Derived.Test.YtiehkcbjfamnkaaLaw3
import Derived.Test.YtiehkcbjfamnkaaPanR
import Derived.Test.YtiehkcbjfamnkaaPanW
import Derived.Test.YtiehkcbjfamnkaaPanU
import Derived.Test.YtiehkcbjfamnkaaEq2
namespace Go.Proofs.Ytiehkcbjfamnkaa
open Go.RowKit

theorem out_all (key : ByteArray) (W H : Int) (A : Option Addr) (c : Nat) (l : List Pl) (hl : l.length ≤ 1000) (PW PH : Int) (B : Option Addr) (d : Nat) (s : List Sl) (hsl : s.length ≤ 1000) : ∃ LO : List Nat, LO.length ≤ 2000000 ∧
    (∀ w, PlAt w A l → SlAt w B s → Calls Try.prog 27 #[prod key W H A l.length c, pan PW PH B s.length d] w fun e w' => ∃ v, e = .returned (.tuple #[v, .int .i64 (panErr key W H l PW PH s)]) ∧ Below w.heap.size w w' ∧ Reads natC v LO w') ∧
    (panErr key W H l PW PH s = 0 → ∀ w, SlAt w B s → Calls Try.prog 30 #[prod key W H A l.length c, pan PW PH B s.length d] w fun e w' => ∃ v, e = .returned v ∧ Below w.heap.size w w' ∧ ReadsF w.heap.size natC v LO w') ∧
    (¬ panErr key W H l PW PH s = 0 → LO = []) := by
  refine ⟨if panErr key W H l PW PH s = 0 then outs W H PW PH s s.length else [], ?_, fun w hA hB => ?_, fun h w hB => ?_, fun h => if_neg h⟩
  · have := outs_len W H PW PH s s.length
    split
    · omega
    · simp
  · exact outside_any key W H A c l (by omega) PW PH B d s (by omega) w hA hB
  · rw [if_pos h]
    exact outsideOf_any key W H A c l PW PH B d s w hB (pan_ok h).2.2
theorem ov_all (key : ByteArray) (W H : Int) (A : Option Addr) (c : Nat) (l : List Pl) (hl : l.length ≤ 1000) (PW PH : Int) (B : Option Addr) (d : Nat) (s : List Sl) (hsl : s.length ≤ 1000) : ∃ LV : List (Nat × Nat), LV.length ≤ 2000000 ∧
    (∀ w, PlAt w A l → SlAt w B s → Calls Try.prog 28 #[prod key W H A l.length c, pan PW PH B s.length d] w fun e w' => ∃ v, e = .returned (.tuple #[v, .int .i64 (panErr key W H l PW PH s)]) ∧ Below w.heap.size w w' ∧ Reads natP v LV w') ∧
    (panErr key W H l PW PH s = 0 → ∀ w, SlAt w B s → Calls Try.prog 31 #[prod key W H A l.length c, pan PW PH B s.length d] w fun e w' => ∃ v, e = .returned v ∧ Below w.heap.size w w' ∧ ReadsF w.heap.size natP v LV w') ∧
    (¬ panErr key W H l PW PH s = 0 → LV = []) := by
  refine ⟨if panErr key W H l PW PH s = 0 then nearIdx 0 (s.map (slAr W H)) s.length else [], ?_, fun w hA hB => ?_, fun h w hB => ?_, fun h => if_neg h⟩
  · have h0 := nearIdx_len 0 (s.map (slAr W H)) s.length
    rw [List.length_map] at h0
    have h1 : s.length * s.length ≤ 1000 * 1000 := Nat.mul_le_mul hsl hsl
    split
    · omega
    · simp
  · exact overlaps_any key W H A c l (by omega) PW PH B d s (by omega) w hA hB
  · rw [if_pos h]
    exact overlapsOf_any key W H A c l PW PH B d s w hB (pan_ok h).2.2
theorem turn_all (key : ByteArray) (W H : Int) (A : Option Addr) (c : Nat) (l : List Pl) (hl : l.length ≤ 1000) (PW PH : Int) (B : Option Addr) (d : Nat) (s : List Sl) (hsl : s.length ≤ 1000) : ∃ (ET TW TH : Int) (LT : List Sl), LT.length ≤ 2000000 ∧
    (∀ w, PlAt w A l → SlAt w B s → Calls Try.prog 29 #[prod key W H A l.length c, pan PW PH B s.length d] w fun e w' => ∃ A2 c2, e = .returned (.tuple #[.agg #[.int .i64 TW, .int .i64 TH, .slice A2 LT.length c2], .int .i64 ET]) ∧ Below w.heap.size w w' ∧ Reads Sl.cells (.slice A2 LT.length c2) LT w') ∧
    (panErr key W H l PW PH s = 0 → ∀ w, SlAt w B s → Calls Try.prog 32 #[prod key W H A l.length c, pan PW PH B s.length d] w fun e w' => ∃ A2 c2, e = .returned (.tuple #[.agg #[.int .i64 TW, .int .i64 TH, .slice A2 LT.length c2], .int .i64 ET]) ∧ Below w.heap.size w w' ∧ ReadsF w.heap.size Sl.cells (.slice A2 LT.length c2) LT w') ∧
    (¬ panErr key W H l PW PH s = 0 → ET = panErr key W H l PW PH s ∧ TW = 0 ∧ TH = 0 ∧ LT = []) := by
  refine ⟨turnE key W H l PW PH s, if turnE key W H l PW PH s = 0 then PH else 0, if turnE key W H l PW PH s = 0 then PW else 0, if turnE key W H l PW PH s = 0 then tSls W H PH s else [], ?_, fun w hA hB => ?_, fun h w hB => ?_, fun h => ?_⟩
  · split
    · unfold tSls; rw [List.length_map]; omega
    · simp
  · refine (turnedP_any key W H A c l (by omega) PW PH B d s (by omega) w hA hB).mono ?_
    rintro e w' ⟨v, he, hb, hr⟩
    obtain ⟨A2, c2, rfl, hr2⟩ := hr
    exact ⟨A2, c2, he, hb, A2, c2, rfl, hr2⟩
  · refine (turnedOf_any key W H A c l PW PH B d s w hB h).mono ?_
    rintro e w' ⟨v, he, hb, hr⟩
    obtain ⟨A2, c2, rfl, hr2⟩ := hr
    exact ⟨A2, c2, he, hb, A2, c2, rfl, hr2⟩
  · have h2 : turnE key W H l PW PH s = panErr key W H l PW PH s := if_neg h
    have h3 : ¬ turnE key W H l PW PH s = 0 := by rw [h2]; exact h
    exact ⟨h2, if_neg h3, if_neg h3, if_neg h3⟩

/-- What stands when all is made. -/
def MadeP (w : World) (g h : Nat) (key : ByteArray) (W H : Int) (A : Option Addr) (c : Nat) (l : List Pl) (PW PH : Int) (B : Option Addr) (d : Nat) (s : List Sl) (wc : World) : Prop :=
  wc.heap[g]? = some (.cells #[.string key, .int .i64 W, .int .i64 H, .slice A l.length c] 28 (0, 0)) ∧ wc.heap[h]? = some (.cells #[.int .i64 PW, .int .i64 PH, .slice B s.length d] 32 (0, 0)) ∧ PlAt wc A l ∧ SlAt wc B s ∧ Below w.heap.size w wc
theorem MadeP.below {w : World} {g h : Nat} {key : ByteArray} {W H : Int} {A : Option Addr} {c : Nat} {l : List Pl} {PW PH : Int} {B : Option Addr} {d : Nat} {s : List Sl} {wc wd : World} (hm : MadeP w g h key W H A c l PW PH B d s wc) (hb : Below wc.heap.size wc wd) : MadeP w g h key W H A c l PW PH B d s wd :=
  ⟨blk_below hb hm.1, blk_below hb hm.2.1, hm.2.2.1.below hb, hm.2.2.2.1.below hb, hm.2.2.2.2.then_below hb hm.2.2.2.2.size⟩
/-- What stands behind the choice. -/
def PanFin (w : World) (j k : Nat) (TW TH : Int) (A2 : Option Addr) (c2 : Nat) (LT : List Sl) (LO : List Nat) (LV : List (Nat × Nat)) (v6 v8 v13 v14 : Value) (wc : World) : Prop :=
  (∃ A3 c3, wc.heap[k]? = some (.cells #[.int .i64 TW, .int .i64 TH, .slice A3 LT.length c3] 32 (0, 0)) ∧ Reads Sl.cells (.slice A3 LT.length c3) LT wc) ∧
    wc.heap[j]? = some (.cells #[.int .i64 TW, .int .i64 TH, .slice A2 LT.length c2] 32 (0, 0)) ∧ Reads Sl.cells (.slice A2 LT.length c2) LT wc ∧ Reads natC v13 LO wc ∧ Reads natP v14 LV wc ∧ Reads natC v6 LO wc ∧ Reads natP v8 LV wc ∧ Below w.heap.size w wc
theorem PanFin.below {w : World} {j k : Nat} {TW TH : Int} {A2 : Option Addr} {c2 : Nat} {LT : List Sl} {LO : List Nat} {LV : List (Nat × Nat)} {v6 v8 v13 v14 : Value} {wc wd : World} (h : PanFin w j k TW TH A2 c2 LT LO LV v6 v8 v13 v14 wc) (hb : Below wc.heap.size wc wd) : PanFin w j k TW TH A2 c2 LT LO LV v6 v8 v13 v14 wd := by
  obtain ⟨⟨A3, c3, hk, rk⟩, hj, r2, r13, r14, r6, r8, h0⟩ := h
  exact ⟨⟨A3, c3, blk_below hb hk, rk.below hb⟩, blk_below hb hj, r2.below hb, r13.below hb, r14.below hb, r6.below hb, r8.below hb, h0.then_below hb h0.size⟩

set_option maxRecDepth 100000 in
set_option maxHeartbeats 4000000 in
theorem law2_any (A0 : Option Addr) (n c0 : Nat) (w : World) (hc : n ≤ c0) (hm : c0 ≤ 9223372036854775807) (hA : IntsAt w A0 n w.heap.size) :
    Calls Try.prog 4 #[.slice A0 n c0] w fun e w' => e = .returned (.bool true) ∧ Below w.heap.size w w' := by
  have hs0 : IsStream (w.alloc (.cells #[.slice A0 n c0, .int .i64 0] 25)) w.heap.size 0 := by
    refine ⟨A0, n, c0, 0, hc, hm, Nat.le_refl _, blk_new w _ rfl, fun hn => ?_⟩
    obtain ⟨ad, e, h1, h2, h3⟩ := hA hn
    refine ⟨ad, e, by simp; omega, h2, fun k hk => ?_⟩
    obtain ⟨x, hx⟩ := h3 k hk
    exact ⟨x, ((((Below.refl w.heap.size w).alloc (Nat.le_refl _) _).cell (by rw [addr_block]; exact h1))).trans hx⟩
  go_enter Try.func4, Try.ntmps4
  go_wp2_with fail
  refine (aproduct_any w.heap.size 0 _ (by omega) hs0).mono ?_
  rintro e w1 ⟨key, Wd, Hg, v, l, rfl, hl, o1, t1⟩
  obtain ⟨A, c, rfl, _, hlc, hcm⟩ := pl_own o1
  have O1 := Lib.hid o1
  clear o1
  go_wp2_with fail
  refine (apanel_any w.heap.size 200 key Wd Hg A l.length c _ (by omega) (t1.1.alloc _)).mono ?_
  rintro e w2 ⟨PW, PH, v, s, rfl, hsl, o2, t2⟩
  obtain ⟨B, d, rfl, hSB⟩ := slat_own o2
  have o1 := kept_own O1.out t2.from_alloc.2 (by simp)
  obtain ⟨A', c', he, hPA, _⟩ := pl_own o1
  obtain ⟨rfl, rfl⟩ : A = A' ∧ c = c' := by simpa using he
  have hB := kept_below3 rfl (t1.trans t2.from_alloc).2
  have hg0 : w.heap.size < w1.heap.size := by have := t1.2.more; simp at this; omega
  have hbg := (t2.2.old w1.heap.size (by simp) (by omega)).trans (blk_new w1 _ rfl)
  have HM : Hid (MadeP w w1.heap.size w2.heap.size key Wd Hg A c l PW PH B d s (w2.alloc (.cells #[.int .i64 PW, .int .i64 PH, .slice B s.length d] 32))) :=
    ⟨blk_alloc hbg _, blk_new w2 _ rfl, hPA.below ((Below.refl _ _).alloc (Nat.le_refl _) _), hSB.below ((Below.refl _ _).alloc (Nat.le_refl _) _), hB.alloc hB.size _⟩
  clear o1 o2 hPA hSB hB t1 t2 O1 he hg0 hbg
  go_upto_region 4 with (fail)
  obtain ⟨LO, hLO, hO, hOo, hO0⟩ := out_all key Wd Hg A c l (by omega) PW PH B d s (by omega)
  obtain ⟨LV, hLV, hV, hVo, hV0⟩ := ov_all key Wd Hg A c l (by omega) PW PH B d s (by omega)
  obtain ⟨ET, TW, TH, LT, hLT, hT, hTo, hT0⟩ := turn_all key Wd Hg A c l (by omega) PW PH B d s (by omega)
  have hF := fun W' (h : PlAt W' A l) (h2 : SlAt W' B s) => panelFault_any key Wd Hg A c l (by omega) PW PH B d s (by omega) W' h h2
  generalize panErr key Wd Hg l PW PH s = E at *
  have HO := Lib.hid hO
  have HOo := Lib.hid hOo
  have HO0 := Lib.hid hO0
  have HV := Lib.hid hV
  have HVo := Lib.hid hVo
  have HV0 := Lib.hid hV0
  have HT := Lib.hid hT
  have HTo := Lib.hid hTo
  have HT0 := Lib.hid hT0
  have HFA := Lib.hid hF
  clear hO hOo hO0 hV hVo hV0 hT hTo hT0 hF
  generalize w2.alloc (.cells #[.int .i64 PW, .int .i64 PH, .slice B s.length d] 32) = w3 at *
  generalize w1.heap.size = g at *
  generalize w2.heap.size = h at *
  obtain ⟨p0, p1, p2, p3⟩ := blk4 HM.out.1
  obtain ⟨q0, q1, q2, hh⟩ := blk3 HM.out.2.1
  have hg := lt_of_blk HM.out.1
  go_wp2_with fail
  refine (HO.out _ HM.out.2.2.1 HM.out.2.2.2.1).mono ?_
  rintro e w4 ⟨v6, rfl, b4, r6⟩
  have HM4 := Lib.hid (And.intro (HM.out.below b4) r6)
  have hg4 : g < w4.heap.size := by have := b4.size; omega
  have hh4 : h < w4.heap.size := by have := b4.size; omega
  clear b4 r6 HM p0 p1 p2 p3 q0 q1 q2 hg hh
  obtain ⟨p0, p1, p2, p3⟩ := blk4 HM4.out.1.1
  obtain ⟨q0, q1, q2, _⟩ := blk3 HM4.out.1.2.1
  go_wp2_with fail
  refine (HV.out _ HM4.out.1.2.2.1 HM4.out.1.2.2.2.1).mono ?_
  rintro e w5 ⟨v8, rfl, b5, r8⟩
  have HM5 := Lib.hid (And.intro (HM4.out.1.below b5) (And.intro (HM4.out.2.below b5) r8))
  have hg5 : g < w5.heap.size := by have := b5.size; omega
  have hh5 : h < w5.heap.size := by have := b5.size; omega
  clear b5 r8 HM4 p0 p1 p2 p3 q0 q1 q2 hg4 hh4
  obtain ⟨p0, p1, p2, p3⟩ := blk4 HM5.out.1.1
  obtain ⟨q0, q1, q2, _⟩ := blk3 HM5.out.1.2.1
  go_wp2_with fail
  refine (HT.out _ HM5.out.1.2.2.1 HM5.out.1.2.2.2.1).mono ?_
  rintro e w6 ⟨A2, c2, rfl, b6, r10⟩
  have HM6 : Hid (MadeP w g h key Wd Hg A c l PW PH B d s (w6.alloc (.cells #[.int .i64 TW, .int .i64 TH, .slice A2 LT.length c2] 32)) ∧ Reads natC v6 LO (w6.alloc (.cells #[.int .i64 TW, .int .i64 TH, .slice A2 LT.length c2] 32)) ∧ Reads natP v8 LV (w6.alloc (.cells #[.int .i64 TW, .int .i64 TH, .slice A2 LT.length c2] 32)) ∧ Reads Sl.cells (.slice A2 LT.length c2) LT (w6.alloc (.cells #[.int .i64 TW, .int .i64 TH, .slice A2 LT.length c2] 32)) ∧ (w6.alloc (.cells #[.int .i64 TW, .int .i64 TH, .slice A2 LT.length c2] 32)).heap[w6.heap.size]? = some (.cells #[.int .i64 TW, .int .i64 TH, .slice A2 LT.length c2] 32 (0, 0))) := by
    have hb := (Below.refl w6.heap.size w6).alloc (Nat.le_refl _) (.cells #[.int .i64 TW, .int .i64 TH, .slice A2 LT.length c2] 32)
    exact ⟨(HM5.out.1.below b6).below hb, (HM5.out.2.1.below b6).below hb, (HM5.out.2.2.below b6).below hb, r10.below hb, blk_new w6 _ rfl⟩
  have hg6 : g < w6.heap.size := by have := b6.size; omega
  have hh6 : h < w6.heap.size := by have := b6.size; omega
  clear b6 r10 HM5 p0 p1 p2 p3 q0 q1 q2 hg5 hh5
  go_upto_region 7 with (fail)
  generalize w6.alloc (.cells #[.int .i64 TW, .int .i64 TH, .slice A2 LT.length c2] 32) = w7 at *
  generalize w6.heap.size = j at *
  obtain ⟨p0, p1, p2, p3⟩ := blk4 HM6.out.1.1
  obtain ⟨q0, q1, q2, hh7⟩ := blk3 HM6.out.1.2.1
  have hg7 := lt_of_blk HM6.out.1.1
  have hj7 := lt_of_blk HM6.out.2.2.2.2
  clear hg6 hh6
  go_wp2_with fail
  refine (HFA.out _ HM6.out.1.2.2.1 HM6.out.1.2.2.2.1).mono ?_
  rintro e w8 ⟨rfl, b8⟩
  have HM8 : Hid (MadeP w g h key Wd Hg A c l PW PH B d s w8 ∧ Reads natC v6 LO w8 ∧ Reads natP v8 LV w8 ∧ Reads Sl.cells (.slice A2 LT.length c2) LT w8 ∧ w8.heap[j]? = some (.cells #[.int .i64 TW, .int .i64 TH, .slice A2 LT.length c2] 32 (0, 0))) :=
    ⟨HM6.out.1.below b8, HM6.out.2.1.below b8, HM6.out.2.2.1.below b8, HM6.out.2.2.2.1.below b8, blk_below b8 HM6.out.2.2.2.2⟩
  have hg8 : g < w8.heap.size := by have := b8.size; omega
  have hh8 : h < w8.heap.size := by have := b8.size; omega
  have hj8 : j < w8.heap.size := by have := b8.size; omega
  clear b8 HM6 p0 p1 p2 p3 q0 q1 q2 hg7 hh7 hj7
  go_upto_if 48 with (fail)
  have hk9 : (w8.alloc (.cells #[.int .i64 0, .int .i64 0, .slice none 0 0] 32)).heap[w8.heap.size]? = some (.cells #[.int .i64 0, .int .i64 0, .slice none 0 0] 32 (0, 0)) := blk_new w8 _ rfl
  have hs9 : (w8.alloc (.cells #[.int .i64 0, .int .i64 0, .slice none 0 0] 32)).heap.size = w8.heap.size + 1 := by simp
  have HB9 := Lib.hid ((Below.refl w8.heap.size w8).alloc (Nat.le_refl _) (.cells #[.int .i64 0, .int .i64 0, .slice none 0 0] 32))
  generalize w8.alloc (.cells #[.int .i64 0, .int .i64 0, .slice none 0 0] 32) = w9 at *
  have hg9 : g < w9.heap.size := by omega
  have hh9 : h < w9.heap.size := by omega
  have hj9 : j < w9.heap.size := by omega
  have hkk9 : w8.heap.size < w9.heap.size := by omega
  have HK9 := Lib.hid hk9
  have HS9 := Lib.hid hs9
  clear hk9 hs9
  go_cut [13, 14, 16] (fun s13 s14 s16 wc => s16 = .int .i64 ET ∧ Hid (PanFin w j w8.heap.size TW TH A2 c2 LT LO LV v6 v8 s13 s14 wc))
  case first =>
    cases h0 : (E == 0)
    · have hE : ¬ E = 0 := by simpa using h0
      obtain ⟨hET, hTW, hTH, hL0⟩ := HT0.out hE
      have hL1 := HO0.out hE
      have hL2 := HV0.out hE
      have HMF : Hid (PanFin w j w8.heap.size TW TH A2 c2 LT LO LV v6 v8 (.slice none 0 0) (.slice none 0 0) w9) := by
        refine ⟨⟨none, 0, ?_, ?_⟩, blk_below HB9.out HM8.out.2.2.2.2, HM8.out.2.2.2.1.below HB9.out, ?_, ?_, HM8.out.2.1.below HB9.out, HM8.out.2.2.1.below HB9.out, (HM8.out.1.below HB9.out).2.2.2.2⟩
        · rw [hTW, hTH, hL0]; exact HK9.out
        · rw [hL0]; exact ⟨none, 0, rfl, .inl rfl⟩
        · rw [hL1]; exact ⟨none, 0, rfl, .inl rfl⟩
        · rw [hL2]; exact ⟨none, 0, rfl, .inl rfl⟩
      have HET := Lib.hid hET
      clear hE hET hTW hTH hL0 hL1 hL2
      go_wp2_with fail
      go_meet
      exact ⟨by rw [HET.out], HMF⟩
    · have hE : E = 0 := by simpa using h0
      have CC := Lib.hid (HOo.out hE)
      have CD := Lib.hid (HVo.out hE)
      have CT := Lib.hid (HTo.out hE)
      clear hE
      go_wp2_with fail
      refine Rg.rgL (fun a b => Below a.heap.size a b)
        [(fun vs u => vs 0 = prod key Wd Hg A l.length c), (fun vs u => vs 1 = pan PW PH B s.length d), (fun vs u => ReadsF (w8.heap.size + 1) natC (vs 2) LO u), (fun vs u => vs 3 = prod key Wd Hg A l.length c), (fun vs u => vs 4 = pan PW PH B s.length d)]
        [[], [], [0, 1], [], []] [some 49, some 50, some 51, some 52, some 53, some 54, some 13, some 14] [] (fun _ _ => True) [[], [], [0, 1], [], [], [0, 1, 2, 3, 4], [0, 1, 2, 3, 4, 5], [0, 1, 2, 3, 4, 5, 6]]
        (by kernel_rfl) (by decide) (by kernel_rfl) (by kernel_rfl) (by kernel_rfl) (by kernel_rfl) (by kernel_rfl) (fun _ => Below.refl _ _) (fun _ _ _ h k => h.ext k) (fun _ _ h => h.size) ?_ trivial ?_ ?_
      · intro t ht vs w w' h hE
        simp only [List.mem_cons, List.not_mem_nil, or_false] at ht
        rcases ht with rfl | rfl | rfl | rfl | rfl
        · exact h
        · exact h
        · exact h.below hE
        · exact h
        · exact h
      ·
        refine Rg.cons 0 1 rfl (Rg.plain rfl ?_) ?_
        · intro vs W n hn hI hG hT hF K hK
          simp only [Rg.putsD, List.getD_cons_zero, List.getD_cons_succ, Act.put, List.setIfInBounds_toArray, List.set_cons_zero, List.set_cons_succ] at hK ⊢
          clear hn
          clear hF hI
          obtain ⟨m0, m1, m2, m3⟩ := blk4 (blk_below hG (blk_below HB9.out HM8.out.1.1))
          have H := Lib.hid hK
          clear hK hT
          go_simp
          exact H.out _ _ (Below.refl _ _) rfl (fun h => by cases h) trivial
        refine Rg.cons 1 2 rfl (Rg.plain rfl ?_) ?_
        · intro vs W n hn hI hG hT hF K hK
          simp only [Rg.putsD, List.getD_cons_zero, List.getD_cons_succ, Act.put, List.setIfInBounds_toArray, List.set_cons_zero, List.set_cons_succ] at hK ⊢
          clear hn
          clear hF hI
          obtain ⟨m0, m1, m2, _⟩ := blk3 (blk_below hG (blk_below HB9.out HM8.out.1.2.1))
          have H := Lib.hid hK
          clear hK hT
          go_simp
          exact H.out _ _ (Below.refl _ _) rfl (fun h => by cases h) trivial
        refine Rg.cons 2 3 rfl (Rg.plain rfl ?_) ?_
        · intro vs W n hn hI hG hT hF K hK
          simp only [Rg.putsD, List.getD_cons_zero, List.getD_cons_succ, Act.put, List.setIfInBounds_toArray, List.set_cons_zero, List.set_cons_succ] at hK ⊢
          clear hn
          clear hF hI
          have t0 : vs 0 = prod key Wd Hg A l.length c := hT 0 (by decide)
          have t1 : vs 1 = pan PW PH B s.length d := hT 1 (by decide)
          have HG := Lib.hid hG
          clear hG
          simp only [t0, t1] at hK
          have H := Lib.hid hK
          clear hK hT
          go_simp
          refine (CC.out _ (HM8.out.1.2.2.2.1.below (HB9.out.drew.then_below HG.out HB9.out.size))).mono ?_
          rintro e wa ⟨v, rfl, ba, ra⟩
          exact H.out _ _ ba (ra.least (by have h1 := HG.out.size; have h2 := HS9.out; rw [← h2]; exact h1)) (fun h => by cases h) trivial
        refine Rg.cons 3 4 rfl (Rg.plain rfl ?_) ?_
        · intro vs W n hn hI hG hT hF K hK
          simp only [Rg.putsD, List.getD_cons_zero, List.getD_cons_succ, Act.put, List.setIfInBounds_toArray, List.set_cons_zero, List.set_cons_succ] at hK ⊢
          clear hn
          clear hF hI
          obtain ⟨m0, m1, m2, m3⟩ := blk4 (blk_below hG (blk_below HB9.out HM8.out.1.1))
          have H := Lib.hid hK
          clear hK hT
          go_simp
          exact H.out _ _ (Below.refl _ _) rfl (fun h => by cases h) trivial
        refine Rg.cons 4 5 rfl (Rg.plain rfl ?_) ?_
        · intro vs W n hn hI hG hT hF K hK
          simp only [Rg.putsD, List.getD_cons_zero, List.getD_cons_succ, Act.put, List.setIfInBounds_toArray, List.set_cons_zero, List.set_cons_succ] at hK ⊢
          clear hn
          clear hF hI
          obtain ⟨m0, m1, m2, _⟩ := blk3 (blk_below hG (blk_below HB9.out HM8.out.1.2.1))
          have H := Lib.hid hK
          clear hK hT
          go_simp
          exact H.out _ _ (Below.refl _ _) rfl (fun h => by cases h) trivial
        exact Rg.nil
      · intro vs W hG hI hT hF
        have t0 : vs 0 = prod key Wd Hg A l.length c := hT 0 (by decide)
        have t1 : vs 1 = pan PW PH B s.length d := hT 1 (by decide)
        have t2 : ReadsF (w8.heap.size + 1) natC (vs 2) LO W := hT 2 (by decide)
        have t3 : vs 3 = prod key Wd Hg A l.length c := hT 3 (by decide)
        have t4 : vs 4 = pan PW PH B s.length d := hT 4 (by decide)
        simp only [List.length_cons, List.length_nil, Nat.reduceAdd, List.range, List.range.loop, List.drop_succ_cons, List.drop_zero, Rg.putsD, List.getD_cons_zero, List.getD_cons_succ, Act.put, List.setIfInBounds_toArray, List.set_cons_zero, List.set_cons_succ, t0, t1, t3, t4]
        clear hT t0 t1 t3 t4
        have HR := Lib.hid (And.intro t2 (And.intro (HB9.out.drew.then_below hG HB9.out.size) (blk_below hG HK9.out)))
        have hz0 := Nat.le_trans (Nat.le_of_eq HS9.out.symm) hG.size
        clear t2 hF hG hI
        go_wp2_with fail
        refine (CD.out _ (HM8.out.1.2.2.2.1.below HR.out.2.1)).mono ?_
        rintro e wa ⟨v, rfl, ba, ra⟩
        have HRA := Lib.hid (And.intro (HR.out.1.below ba) (And.intro (ra.least hz0) (And.intro (HR.out.2.1.then_below ba HR.out.2.1.size) (blk_below ba HR.out.2.2))))
        have hz1 : w8.heap.size < wa.heap.size := by have := ba.size; omega
        have hg10 : g < wa.heap.size := by omega
        have hh10 : h < wa.heap.size := by omega
        obtain ⟨m0, m1, m2, m3⟩ := blk4 (blk_below HRA.out.2.2.1 HM8.out.1.1)
        obtain ⟨n0, n1, n2, _⟩ := blk3 (blk_below HRA.out.2.2.1 HM8.out.1.2.1)
        clear ba ra HR hz0
        go_wp2_with fail
        refine (CT.out _ (HM8.out.1.2.2.2.1.below HRA.out.2.2.1)).mono ?_
        rintro e wb ⟨A3, c3, rfl, bb, rb⟩
        have HRB := Lib.hid (And.intro (HRA.out.1.below bb) (And.intro (HRA.out.2.1.below bb) (And.intro (HRA.out.2.2.1.then_below bb HRA.out.2.2.1.size) (And.intro (blk_below bb HRA.out.2.2.2) rb))))
        have hz2 : w8.heap.size < wb.heap.size := by have := bb.size; omega
        obtain ⟨n0, n1, n2, _⟩ := blk3 HRB.out.2.2.2.1
        have f0 := frozen_of_blk HRB.out.2.2.2.1 0
        have f1 := frozen_of_blk HRB.out.2.2.2.1 1
        have f2 := frozen_of_blk HRB.out.2.2.2.1 2
        clear bb rb HRA m0 m1 m2 m3
        go_wp2_with fail
        go_meet
        have hfin := ((HRB.out.2.2.1.setCell (p := ⟨w8.heap.size, 0, none⟩) (Nat.le_refl _) (.int .i64 TW)).setCell (p := ⟨w8.heap.size, 1, none⟩) (Nat.le_refl _) (.int .i64 TH)).setCell (p := ⟨w8.heap.size, 2, none⟩) (Nat.le_refl _) (.slice A3 LT.length c3)
        exact ⟨rfl, ⟨A3, c3, blk_set (blk_set (blk_set HRB.out.2.2.2.1 _) _) _, (((HRB.out.2.2.2.2.far hz1 _).far hz1 _).far hz1 _).reads⟩, blk_below hfin HM8.out.2.2.2.2, HM8.out.2.2.2.1.below hfin, (((HRB.out.1.far (Nat.lt_succ_self _) _).far (Nat.lt_succ_self _) _).far (Nat.lt_succ_self _) _).reads, (((HRB.out.2.1.far (Nat.lt_succ_self _) _).far (Nat.lt_succ_self _) _).far (Nat.lt_succ_self _) _).reads, HM8.out.2.1.below hfin, HM8.out.2.2.1.below hfin, (HM8.out.1.below hfin).2.2.2.2⟩
  case rest =>
    obtain ⟨rfl, HP⟩ := hcut
    clear HM8 HK9 HS9 HB9 hg9 hh9 hj9 hkk9
    go_wp2_with fail
    refine (equalNat_any LO hLO _ _ _ HP.out.2.2.2.2.2.1 HP.out.2.2.2.1).mono ?_
    rintro e wa ⟨rfl, ba⟩
    have HPA := Lib.hid (HP.out.below ba)
    clear ba HP
    go_wp2_with fail
    refine (equalTwo_any LV hLV _ _ _ HPA.out.2.2.2.2.2.2.1 HPA.out.2.2.2.2.1).mono ?_
    rintro e wb ⟨rfl, bb⟩
    have HPB := Lib.hid (HPA.out.below bb)
    clear bb HPA
    obtain ⟨⟨A3, c3, hk, rk⟩, hj, r2, _, _, _, _, hbw⟩ := HPB.out
    have HRK := Lib.hid (And.intro rk (And.intro r2 hbw))
    obtain ⟨m0, m1, m2, _⟩ := blk3 hk
    obtain ⟨n0, n1, n2, _⟩ := blk3 hj
    clear hk rk hj r2 hbw HPB
    go_wp2_with fail
    refine (samePanel_any TW TH A2 A3 c2 c3 LT hLT _ HRK.out.2.1 HRK.out.1).mono ?_
    rintro e wd ⟨rfl, bd⟩
    have HRD := Lib.hid (HRK.out.2.2.then_below bd HRK.out.2.2.size)
    clear bd HRK m0 m1 m2 n0 n1 n2
    go_wp2_with fail
    refine (paneled_any _).mono ?_
    rintro e we ⟨rfl, be⟩
    go_wp2_with fail
    go_ret
    exact ⟨rfl, HRD.out.then_below be HRD.out.size⟩
end Go.Proofs.Ytiehkcbjfamnkaa
