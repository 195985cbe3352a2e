/-
  The program's answers on exposures.
-/
import Derived.Test.YtopnadilfjakiaaDoorPx3
import Derived.Test.YtopnadilfjakiaaDoorPx5
namespace Go.Proofs.YtopnadilfjakiaaDoor
open Go.RowKit

theorem phL_mem {a b e : Int} {g : Bool} {f : Ph} (h : f ∈ phL a b e g) : f = ⟨a, b, e, g⟩ ∧ a < b := by
  unfold phL at h
  split at h
  · simp at h; exact ⟨h, by assumption⟩
  · simp at h
theorem phs_bd {lv bk : Int} (hb : 0 ≤ bk) : ∀ (l : List Sy) (e : Int), GoodS l → 0 ≤ e → e ≤ stopAt l finT → ∀ f ∈ staysPh lv bk e l, 0 ≤ f.frm ∧ f.frm < f.to ∧ f.to ≤ finT ∧ 0 ≤ f.ex ∧ f.ex ≤ finT
  | [], _, _, _, _, f, hf => by simp [staysPh] at hf
  | x :: l, e, hg, he, he1, f, hf => by
    have hs := hg.stop
    have hx := hg.1 x (by simp)
    have he1 : e ≤ x.frm := he1
    have hsf : stopAt l finT ≤ finT := by
      cases l with
      | nil => exact Int.le_refl _
      | cons y l => have := (hg.1 y (by simp)).2.2.2; show y.frm ≤ finT; omega
    have hle : spentB lv bk x.place e (stopAt l finT - x.frm) ≤ stopAt l finT := Int.le_trans (spentB_le he (by omega)) (by omega)
    rcases List.mem_append.mp hf with hf | hf
    · rcases phOf_cases (lv := lv) hb he hs with ⟨_, h1, _⟩ | ⟨_, wt, hw, h1, _⟩
      · rw [h1] at hf
        simp at hf
        subst hf
        exact ⟨hx.2.2.1, hs, hsf, he, by show e ≤ finT; omega⟩
      · rw [h1] at hf
        rcases List.mem_append.mp hf with hf | hf
        · obtain ⟨rfl, hlt⟩ := phL_mem hf
          exact ⟨hx.2.2.1, hlt, by show min _ _ ≤ finT; omega, he, by show e ≤ finT; omega⟩
        · obtain ⟨rfl, hlt⟩ := phL_mem hf
          exact ⟨by show 0 ≤ x.frm + wt; omega, hlt, hsf, Int.le_refl _, by show (0 : Int) ≤ finT; omega⟩
    · exact phs_bd hb l _ hg.tail (spentB_nn he (by omega)) hle f hf
theorem phs_bd0 {lv bk : Int} (hb : 0 ≤ bk) {l : List Sy} (hg : GoodS l) : ∀ f ∈ staysPh lv bk 0 l, 0 ≤ f.frm ∧ f.frm < f.to ∧ f.to ≤ 345686400000 ∧ 0 ≤ f.ex ∧ f.ex ≤ 345686400000 :=
  phs_bd hb l 0 hg (Int.le_refl _) (by
    cases l with
    | nil => show (0 : Int) ≤ finT; unfold finT; omega
    | cons y l => exact (hg.1 y (by simp)).2.2.1)
theorem phs_len (lv bk : Int) : ∀ (l : List Sy) (e : Int), (staysPh lv bk e l).length ≤ 2 * l.length
  | [], _ => by simp [staysPh]
  | x :: l, e => by
    have h1 := phOf_len lv bk e x (stopAt l finT)
    have h2 := phs_len lv bk l (spentB lv bk x.place e (stopAt l finT - x.frm))
    show (phOf lv bk e x (stopAt l finT) ++ staysPh lv bk (spentB lv bk x.place e (stopAt l finT - x.frm)) l).length ≤ 2 * (l.length + 1)
    rw [List.length_append]
    omega
theorem row_ph {w : World} {g : Nat} {l : List Ph} (h : LineAt w g (l.flatMap Ph.cells)) {k : Nat} (hk : k < l.length) :
    w.cell? ⟨g, k * 4, none⟩ = some (.int .i64 l[k].frm) ∧ w.cell? ⟨g, k * 4 + 1, none⟩ = some (.int .i64 l[k].to) ∧ w.cell? ⟨g, k * 4 + 2, none⟩ = some (.int .i64 l[k].ex) ∧ w.cell? ⟨g, k * 4 + 3, none⟩ = some (.bool l[k].gr) := by
  have e := fun j (hj : j < 4) => flatK_at Ph.cells 4 (fun _ => rfl) l k hk j hj
  exact ⟨h.2 _ _ (e 0 (by omega)), h.2 _ _ (e 1 (by omega)), h.2 _ _ (e 2 (by omega)), h.2 _ _ (e 3 (by omega))⟩

/-- The error of Exposed, and what it tells. -/
def exE (key pk : ByteArray) (lv bk : Int) (l : List Sy) (t : Int) : Int := if lyE key pk lv bk l = 0 then spanE t 0 345686399999 else lyE key pk lv bk l
def exV (key pk : ByteArray) (lv bk : Int) (l : List Sy) (t : Int) : Int := if exE key pk lv bk l t = 0 then findEx t (staysPh lv bk 0 l) else 0
theorem lyE_ok {key pk : ByteArray} {lv bk : Int} {l : List Sy} (h : lyE key pk lv bk l = 0) : keyB key = true ∧ inR lv 1 6 = true ∧ 0 ≤ bk ∧ bk ≤ 720000000 ∧ GoodS l ∧ l ≠ [] := by
  unfold lyE at h
  by_cases h0 : partE key pk lv bk = 0
  · rw [if_pos h0] at h
    obtain ⟨a, b, c, d⟩ := partE_ok h0
    obtain ⟨e, f, _⟩ := staysErr_ok h
    exact ⟨a, b, c, d, e, f⟩
  · rw [if_neg h0] at h; exact absurd h h0

set_option maxRecDepth 100000 in
set_option maxHeartbeats 4000000 in
theorem exposedP_any (key pk : ByteArray) (lv bk : Int) (A : Option Addr) (c : Nat) (l : List Sy) (hl : l.length ≤ 400) (t : Int) (w : World) (hA : SyAt w A l) :
    Calls Tryd.prog 15 #[.agg #[.string key, .string pk, .int .i64 lv, .int .i64 bk], .slice A l.length c, .int .i64 t] w fun e w' => e = .returned (.tuple #[.int .i64 (exV key pk lv bk l t), .int .i64 (exE key pk lv bk l t)]) ∧ Below w.heap.size w w' := by
  have CL := Lib.hid (fun W (h : SyAt W A l) => checkLying_any key pk lv bk A c l (by omega) W h)
  have HE : Hid (exE key pk lv bk l t = if lyE key pk lv bk l = 0 then spanE t 0 345686399999 else lyE key pk lv bk l) := rfl
  have HV : Hid (exV key pk lv bk l t = if exE key pk lv bk l t = 0 then findEx t (staysPh lv bk 0 l) else 0) := rfl
  by_cases h0 : lyE key pk lv bk l = 0
  rotate_left
  · have HE1 : Hid (exE key pk lv bk l t = lyE key pk lv bk l) := HE.out.trans (if_neg h0)
    have HV1 : Hid (exV key pk lv bk l t = 0) := HV.out.trans (if_neg (by rw [HE1.out]; exact h0))
    generalize lyE key pk lv bk l = E at *
    have h1 : (E != 0) = true := by simpa using h0
    clear h0
    go_enter Tryd.func15, Tryd.ntmps15
    go_wp2_with fail
    have bw1 : Below w.heap.size w (w.alloc (Obj.cells #[.string key, .string pk, .int .i64 lv, .int .i64 bk] 27)) := ((Below.refl _ _).alloc (Nat.le_refl _) _)
    have kP : (w.alloc (Obj.cells #[.string key, .string pk, .int .i64 lv, .int .i64 bk] 27)).heap[w.heap.size]? = some (.cells #[.string key, .string pk, .int .i64 lv, .int .i64 bk] 27 (0, 0)) := (blk_new w _ rfl)
    generalize (w.alloc (Obj.cells #[.string key, .string pk, .int .i64 lv, .int .i64 bk] 27)) = w1 at *
    refine (CL.out _ (hA.below bw1)).mono ?_
    rintro e w2 ⟨rfl, b2⟩
    have HB := Lib.hid (bw1.then_below b2 bw1.size)
    clear b2 bw1 kP
    go_wp2_with fail
    go_ret2
    exact ⟨by rw [HE1.out, HV1.out]; rfl, HB.out⟩
  · obtain ⟨_, _, hb0, hb1, hg, _⟩ := lyE_ok h0
    have CP := Lib.hid (fun W (h : SyAt W A l) => phases_any key pk lv bk A c l hl W h hg hb0 hb1)
    have HBD := Lib.hid (phs_bd0 (lv := lv) hb0 hg)
    have hpl : (staysPh lv bk 0 l).length ≤ 800 := by have := phs_len lv bk l 0; omega
    have HE1 : Hid (exE key pk lv bk l t = spanE t 0 345686399999) := HE.out.trans (if_pos h0)
    have CM := Lib.hid (fun W => moment_any t W)
    rw [h0] at CL
    clear HE h0 hb0 hb1 hg
    generalize staysPh lv bk 0 l = F at *
    cases hm : inR t 0 345686399999
    · have HE2 : Hid (exE key pk lv bk l t = 1) := HE1.out.trans (by unfold spanE; rw [hm]; rfl)
      have HV1 : Hid (exV key pk lv bk l t = 0) := HV.out.trans (if_neg (by rw [HE2.out]; decide))
      rw [hm] at CM
      clear hm
      go_enter Tryd.func15, Tryd.ntmps15
      go_wp2_with fail
      have bw1 : Below w.heap.size w (w.alloc (Obj.cells #[.string key, .string pk, .int .i64 lv, .int .i64 bk] 27)) := ((Below.refl _ _).alloc (Nat.le_refl _) _)
      have kP : (w.alloc (Obj.cells #[.string key, .string pk, .int .i64 lv, .int .i64 bk] 27)).heap[w.heap.size]? = some (.cells #[.string key, .string pk, .int .i64 lv, .int .i64 bk] 27 (0, 0)) := (blk_new w _ rfl)
      generalize (w.alloc (Obj.cells #[.string key, .string pk, .int .i64 lv, .int .i64 bk] 27)) = w1 at *
      refine (CL.out _ (hA.below bw1)).mono ?_
      rintro e w2 ⟨rfl, b2⟩
      have HB := Lib.hid (bw1.then_below b2 bw1.size)
      clear b2 bw1 kP
      go_wp2_with fail
      refine (CM.out _).mono ?_
      rintro e w3 ⟨rfl, rfl⟩
      go_wp2_with fail
      go_ret2
      exact ⟨by rw [HE2.out, HV1.out]; rfl, HB.out⟩
    · have HE2 : Hid (exE key pk lv bk l t = 0) := HE1.out.trans (by unfold spanE; rw [hm]; rfl)
      have HV1 : Hid (exV key pk lv bk l t = findEx t F) := HV.out.trans (if_pos HE2.out)
      rw [hm] at CM
      have ht0 : 0 ≤ t ∧ t ≤ 345686399999 := by simp [inR] at hm; exact hm
      obtain ⟨ht1, ht2⟩ := ht0
      clear hm HV HE1
      go_enter Tryd.func15, Tryd.ntmps15
      go_wp2_with fail
      have bw1 : Below w.heap.size w (w.alloc (Obj.cells #[.string key, .string pk, .int .i64 lv, .int .i64 bk] 27)) := ((Below.refl _ _).alloc (Nat.le_refl _) _)
      have kP : (w.alloc (Obj.cells #[.string key, .string pk, .int .i64 lv, .int .i64 bk] 27)).heap[w.heap.size]? = some (.cells #[.string key, .string pk, .int .i64 lv, .int .i64 bk] 27 (0, 0)) := (blk_new w _ rfl)
      generalize (w.alloc (Obj.cells #[.string key, .string pk, .int .i64 lv, .int .i64 bk] 27)) = w1 at *
      refine (CL.out _ (hA.below bw1)).mono ?_
      rintro e w2 ⟨rfl, b2⟩
      have HB := Lib.hid (And.intro (bw1.then_below b2 bw1.size) (blk_below b2 kP))
      obtain ⟨q0, q1, q2, q3⟩ := blk4 HB.out.2
      have hpz := lt_of_blk HB.out.2
      clear b2 bw1 kP
      go_wp2_with fail
      refine (CM.out _).mono ?_
      rintro e w3 ⟨rfl, rfl⟩
      go_wp2_with fail
      refine (CP.out _ (hA.below HB.out.1)).mono ?_
      rintro e w4 ⟨v, rfl, b4, hr⟩
      obtain ⟨A4, c4, rfl, hr4⟩ := hr
      have HB4 := Lib.hid (And.intro (HB.out.1.then_below b4 HB.out.1.size) hr4)
      clear q0 q1 q2 q3 hpz b4 hr4 HB CP CM CL
      go_wp2_with fail
      go_loopw [24] (fun kk wr => ∃ k : Nat, k ≤ F.length ∧ kk = .int .i64 k ∧ Hid (Below w4.heap.size w4 wr ∧ findEx t F = findEx t (F.drop k))) (fun kk _ => F.length - (intOf kk).toNat)
      case atStart => exact ⟨0, by omega, rfl, Below.refl _ _, rfl⟩
      case round =>
        obtain ⟨k, hk, rfl, HS⟩ := hrel
        by_cases hlt : k < F.length
        · rcases HB4.out.2 with rfl | ⟨g, rfl, hrow⟩
          · simp at hlt
          have hr2 := hrow.below HS.out.1
          obtain ⟨p0, p1, p2, p3⟩ := row_ph hr2 hlt
          have hgl := hr2.1
          have hbd := HBD.out F[k] (List.getElem_mem hlt)
          have hfx : findEx t F = if F[k].frm ≤ t ∧ t < F[k].to then phAt F[k] t else findEx t (F.drop (k + 1)) := HS.out.2.trans (by rw [drop_at F hlt]; rfl)
          obtain ⟨f, hf⟩ : ∃ f, F[k] = f := ⟨_, rfl⟩
          rw [hf] at p0 p1 p2 p3 hbd hfx
          obtain ⟨a, b, ex, gr⟩ := f
          dsimp only at p0 p1 p2 p3
          have HFX := Lib.hid hfx
          obtain ⟨hd0, hd1, hd2, hd3, hd4⟩ := hbd
          dsimp only at hd0 hd1 hd2 hd3 hd4
          have HBW : Hid (Below w4.heap.size w4 wr) := HS.out.1
          have i1 : (0 : Int) ≤ (k : Int) := by omega
          have i2 : (k : Int) < (F.length : Int) := by omega
          clear hrow hr2 hf hfx HS
          by_cases hin : a ≤ t ∧ t < b
          · have HR : Hid (findEx t F = phAt ⟨a, b, ex, gr⟩ t) := HFX.out.trans (if_pos hin)
            have CX := Lib.hid (fun W => exposed_any a b ex gr t W ⟨hd0, by omega⟩ ⟨hd3, by omega⟩ ⟨by omega, by omega⟩)
            obtain ⟨hn1, hn2⟩ := hin
            generalize phAt ⟨a, b, ex, gr⟩ t = r at *
            go_wp2_with fail
            refine (CX.out _).mono ?_
            rintro e w5 ⟨rfl, b5⟩
            have HB5 : Hid (Below w4.heap.size w4 w5) := (HBW.out.alloc HBW.out.size _).then_below b5 (by have := HBW.out.size; simp; omega)
            clear b5
            go_wp2_with fail
            go_ret2
            exact ⟨by rw [HE2.out, HV1.out, HR.out]; rfl, HB4.out.1.then_below HB5.out HB4.out.1.size⟩
          · have HR : Hid (findEx t F = findEx t (F.drop (k + 1))) := HFX.out.trans (if_neg hin)
            by_cases hat : a ≤ t
            · have hat2 : ¬ t < b := fun h => hin ⟨hat, h⟩
              clear hin
              go_wp2_with fail
              go_roundw
              case rel => exact ⟨k + 1, by omega, by go_num, HBW.out.alloc HBW.out.size _, HR.out⟩
              case measure => simp [intOf]; omega
            · clear hin
              go_wp2_with fail
              go_roundw
              case rel => exact ⟨k + 1, by omega, by go_num, HBW.out.alloc HBW.out.size _, HR.out⟩
              case measure => simp [intOf]; omega
        · have HR : Hid (findEx t F = 0) := HS.out.2.trans (by rw [List.drop_eq_nil_of_le (by omega)]; rfl)
          go_wp2_with fail
          go_ret2
          exact ⟨by rw [HE2.out, HV1.out, HR.out]; rfl, HB4.out.1.then_below HS.out.1 HB4.out.1.size⟩
end Go.Proofs.YtopnadilfjakiaaDoor
