/-
  Plain words on exposures: stays, the exposure at a moment, the phases of the program, and that what both tell of them is one.
-/
namespace Go.Proofs.YtopnadilfjakiaaDoor

structure Sy where
  place : Int
  frm : Int
structure Ph where
  frm : Int
  to : Int
  ex : Int
  gr : Bool
def finT : Int := 345686400000
def facL (lv : Int) : Int := if lv = 5 then 10 else 5
/-- The exposure behind some milliseconds at a place. -/
def spentB (lv bk pl e lg : Int) : Int := if pl = 2 then e + lg else if pl = 4 ∧ bk ≤ lg then 0 else if pl = 3 ∧ e ≤ 43200000 ∧ lv ≤ 5 ∧ facL lv * e ≤ lg then 0 else e
def stopAt (l : List Sy) (d : Int) : Int := match l with | [] => d | y :: _ => y.frm
/-- The exposure at a moment, from a state on. -/
def expo (lv bk t e : Int) : List Sy → Int
  | [] => e
  | x :: l => if t < x.frm then e else expo lv bk t (spentB lv bk x.place e (min t (stopAt l t) - x.frm)) l
def phAt (f : Ph) (t : Int) : Int := if f.gr = true then f.ex + t - f.frm else f.ex
def phL (a b e : Int) (g : Bool) : List Ph := if a < b then [⟨a, b, e, g⟩] else []
def dryT (lv bk pl e : Int) : Option Int := if pl = 4 then some bk else if pl = 3 then (if 43200000 < e ∨ 5 < lv then none else some (facL lv * e)) else none
def phOf (lv bk e : Int) (x : Sy) (to : Int) : List Ph :=
  match dryT lv bk x.place e with
  | none => phL x.frm to e (decide (x.place = 2))
  | some wt => if to - x.frm < wt then phL x.frm to e (decide (x.place = 2)) else phL x.frm (x.frm + wt) e false ++ phL (x.frm + wt) to 0 false
def staysPh (lv bk e : Int) : List Sy → List Ph
  | [] => []
  | x :: l => phOf lv bk e x (stopAt l finT) ++ staysPh lv bk (spentB lv bk x.place e (stopAt l finT - x.frm)) l
def GoodS (l : List Sy) : Prop := (∀ x ∈ l, 1 ≤ x.place ∧ x.place ≤ 4 ∧ 0 ≤ x.frm ∧ x.frm < finT) ∧ l.Pairwise fun a b => a.frm < b.frm
theorem GoodS.tail {x : Sy} {l : List Sy} (h : GoodS (x :: l)) : GoodS l := ⟨fun y hy => h.1 y (by simp [hy]), (List.pairwise_cons.mp h.2).2⟩
theorem GoodS.stop {x : Sy} {l : List Sy} (h : GoodS (x :: l)) : x.frm < stopAt l finT := by
  cases l with
  | nil => exact (h.1 x (by simp)).2.2.2
  | cons y l => exact (List.pairwise_cons.mp h.2).1 y (by simp)
theorem facL_pos (lv : Int) : 0 < facL lv := by unfold facL; split <;> omega
theorem spentB_nn {lv bk pl e lg : Int} (he : 0 ≤ e) (hl : 0 ≤ lg) : 0 ≤ spentB lv bk pl e lg := by
  unfold spentB
  repeat' split
  all_goals omega
/-- The phases of a stay: it grows, or it stays up to a time and is 0 then. -/
theorem phOf_cases {lv bk e : Int} {x : Sy} {to : Int} (hb : 0 ≤ bk) (he : 0 ≤ e) (ht : x.frm < to) :
    (x.place = 2 ∧ phOf lv bk e x to = [⟨x.frm, to, e, true⟩] ∧ ∀ lg, spentB lv bk x.place e lg = e + lg) ∨
    (x.place ≠ 2 ∧ ∃ wt, 0 ≤ wt ∧ phOf lv bk e x to = phL x.frm (min to (x.frm + wt)) e false ++ phL (x.frm + wt) to 0 false ∧ (∀ lg, 0 ≤ lg → lg ≤ to - x.frm → spentB lv bk x.place e lg = if wt ≤ lg then 0 else e) ∧ (0 < e → wt = 0 → x.place = 4 ∧ bk = 0) ∧ (x.place = 4 → bk = 0 → wt = 0)) := by
  by_cases h2 : x.place = 2
  · refine .inl ⟨h2, ?_, fun lg => by simp [spentB, h2]⟩
    simp [phOf, dryT, h2, phL, ht]
  · refine .inr ⟨h2, ?_⟩
    have hf := facL_pos lv
    have hfe : 0 ≤ facL lv * e := Int.mul_nonneg (by omega) he
    have hfp : 0 < e → 0 < facL lv * e := fun h => Int.mul_pos hf h
    obtain ⟨q, hqe⟩ : ∃ q, facL lv * e = q := ⟨_, rfl⟩
    rw [hqe] at hfe hfp
    by_cases h4 : x.place = 4
    · by_cases hw : to - x.frm < bk
      · refine ⟨to - x.frm + 1, by omega, ?_, fun lg h0 h1 => ?_, fun _ h => by omega, fun _ h => by omega⟩
        · simp only [phOf, dryT, h4, if_true, hw]
          rw [show min to (x.frm + (to - x.frm + 1)) = to by omega]
          simp [phL, ht]
          omega
        · simp only [spentB, h4]
          rw [if_neg (by omega), if_neg (by omega), if_neg (by omega), if_neg (by omega)]
      · refine ⟨bk, hb, ?_, fun lg h0 h1 => ?_, fun _ h => ⟨h4, h⟩, fun _ h => h⟩
        · simp only [phOf, dryT, h4, if_true, hw, if_false]
          rw [show min to (x.frm + bk) = x.frm + bk by omega]
        · simp only [spentB, h4]
          rw [if_neg (by omega)]
          by_cases hq : bk ≤ lg
          · rw [if_pos ⟨trivial, hq⟩, if_pos hq]
          · rw [if_neg (fun h => hq h.2), if_neg (by omega), if_neg hq]
    · by_cases h3 : x.place = 3
      · by_cases hc : 43200000 < e ∨ 5 < lv
        · refine ⟨to - x.frm + 1, by omega, ?_, fun lg h0 h1 => ?_, fun _ h => by omega, fun h => absurd h h4⟩
          · simp only [phOf, dryT, h3, if_true, hc]
            rw [show min to (x.frm + (to - x.frm + 1)) = to by omega]
            simp [phL, ht]
            omega
          · simp only [spentB, h3]
            rw [if_neg (by omega), if_neg (by omega), if_neg (by omega), if_neg (by omega)]
        · by_cases hw : to - x.frm < q
          · refine ⟨to - x.frm + 1, by omega, ?_, fun lg h0 h1 => ?_, fun _ h => by omega, fun h => absurd h h4⟩
            · simp only [phOf, dryT, h3, if_true, hc, if_false, hqe]
              rw [if_neg (by omega)]
              simp only [hw, if_true]
              rw [show min to (x.frm + (to - x.frm + 1)) = to by omega]
              simp [phL, ht]
              omega
            · simp only [spentB, h3, hqe]
              rw [if_neg (by omega), if_neg (by omega), if_neg (by omega), if_neg (by omega)]
          · refine ⟨q, hfe, ?_, fun lg h0 h1 => ?_, fun h h' => by have := hfp h; omega, fun h => absurd h h4⟩
            · simp only [phOf, dryT, h3, if_true, hc, if_false, hqe]
              rw [if_neg (by omega)]
              simp only [hw, if_false]
              rw [show min to (x.frm + q) = x.frm + q by omega]
            · simp only [spentB, h3, hqe]
              rw [if_neg (by omega), if_neg (by omega)]
              by_cases hq : q ≤ lg
              · rw [if_pos ⟨trivial, by omega, by omega, hq⟩, if_pos hq]
              · rw [if_neg (fun h => hq h.2.2.2), if_neg hq]
      · refine ⟨to - x.frm + 1, by omega, ?_, fun lg h0 h1 => ?_, fun _ h => by omega, fun h => absurd h h4⟩
        · simp only [phOf, dryT, h4, h3, if_false]
          rw [show min to (x.frm + (to - x.frm + 1)) = to by omega]
          simp [phL, ht, h2]
          omega
        · simp only [spentB]
          rw [if_neg h2, if_neg (fun h => h4 h.1), if_neg (fun h => h3 h.1), if_neg (by omega)]
theorem expo_at {lv bk t e : Int} {x : Sy} {l : List Sy} (h1 : x.frm ≤ t) (h2 : t < stopAt l finT) : expo lv bk t e (x :: l) = spentB lv bk x.place e (t - x.frm) := by
  rw [expo, if_neg (by omega)]
  cases l with
  | nil => rw [show min t (stopAt [] t) = t by simp [stopAt]]; rfl
  | cons y l =>
    have h3 : t < y.frm := h2
    rw [show min t (stopAt (y :: l) t) = t by simp [stopAt]; omega, expo, if_pos h3]
theorem expo_after {lv bk t e : Int} {x : Sy} {l : List Sy} (hx : x.frm < stopAt l finT) (h1 : stopAt l finT ≤ t) (h2 : t < finT) : expo lv bk t e (x :: l) = expo lv bk t (spentB lv bk x.place e (stopAt l finT - x.frm)) l := by
  cases l with
  | nil => have : finT ≤ t := h1; omega
  | cons y l =>
    have h3 : y.frm ≤ t := h1
    have h4 : x.frm < y.frm := hx
    rw [expo, if_neg (by omega), show min t (stopAt (y :: l) t) = y.frm by simp [stopAt]; omega]
    rfl
theorem expo_before {lv bk t e : Int} {l : List Sy} (h : t < stopAt l finT) : expo lv bk t e l = e := by
  cases l with
  | nil => rfl
  | cons y l => have h' : t < y.frm := h; rw [expo, if_pos h']

/-! ### the exposure at a moment, by the phases -/
def findEx (t : Int) : List Ph → Int
  | [] => 0
  | f :: r => if f.frm ≤ t ∧ t < f.to then phAt f t else findEx t r
theorem findEx_ph (t a b e : Int) (g : Bool) (r : List Ph) : findEx t (phL a b e g ++ r) = if a ≤ t ∧ t < b then phAt ⟨a, b, e, g⟩ t else findEx t r := by
  unfold phL
  split
  · rfl
  · rw [if_neg (by omega)]; rfl
theorem findEx_one {lv bk e t : Int} {x : Sy} {to : Int} (hb : 0 ≤ bk) (he : 0 ≤ e) (ht : x.frm < to) (r : List Ph) :
    findEx t (phOf lv bk e x to ++ r) = if x.frm ≤ t ∧ t < to then spentB lv bk x.place e (t - x.frm) else findEx t r := by
  rcases phOf_cases (lv := lv) hb he ht with ⟨_, h1, h2⟩ | ⟨_, wt, hw, h1, h2, _⟩
  · rw [h1]
    show (if x.frm ≤ t ∧ t < to then _ else _) = _
    by_cases h : x.frm ≤ t ∧ t < to
    · rw [if_pos h, if_pos h, h2]
      simp only [phAt, if_true]
      omega
    · rw [if_neg h, if_neg h]; rfl
  · rw [h1, List.append_assoc, findEx_ph, findEx_ph]
    by_cases h : x.frm ≤ t ∧ t < to
    · rw [if_pos h, h2 _ (by omega) (by omega)]
      by_cases hq : wt ≤ t - x.frm
      · rw [if_pos hq, if_neg (by omega), if_pos (by omega)]; simp [phAt]
      · rw [if_neg hq, if_pos (by omega)]; simp [phAt]
    · rw [if_neg h, if_neg (by omega), if_neg (by omega)]
theorem findEx_stays {lv bk t : Int} (hb : 0 ≤ bk) (ht : t < finT) : ∀ (l : List Sy) (e : Int), GoodS l → 0 ≤ e → findEx t (staysPh lv bk e l) = if t < stopAt l finT then 0 else expo lv bk t e l
  | [], _, _, _ => by rw [if_pos (show t < stopAt [] finT from ht)]; rfl
  | x :: l, e, hg, he => by
    have hs := hg.stop
    have ih := findEx_stays (lv := lv) hb ht l (spentB lv bk x.place e (stopAt l finT - x.frm)) hg.tail (spentB_nn he (by omega))
    show findEx t (phOf lv bk e x (stopAt l finT) ++ staysPh lv bk (spentB lv bk x.place e (stopAt l finT - x.frm)) l) = if t < x.frm then 0 else _
    rw [findEx_one hb he hs, ih]
    by_cases h1 : t < x.frm
    · rw [if_neg (by omega), if_pos (by omega), if_pos h1]
    · rw [if_neg h1]
      by_cases h2 : t < stopAt l finT
      · rw [if_pos ⟨by omega, h2⟩, expo_at (by omega) h2]
      · rw [if_neg (by omega), if_neg h2, expo_after hs (by omega) ht]
theorem exposed_eq {lv bk t : Int} (hb : 0 ≤ bk) (ht : t < finT) (l : List Sy) (hg : GoodS l) : findEx t (staysPh lv bk 0 l) = expo lv bk t 0 l := by
  rw [findEx_stays hb ht l 0 hg (Int.le_refl _)]
  split
  · rename_i h; rw [expo_before h]
  · rfl

/-! ### whether the exposure is too great in a window -/
def badPh (lf a b : Int) (f : Ph) : Bool := decide (max a f.frm ≤ min b (f.to - 1)) && decide (lf < phAt f (min b (f.to - 1)))
theorem bad_ph (lf a b p q e : Int) (g : Bool) : (phL p q e g).any (badPh lf a b) = true ↔ ∃ t, a ≤ t ∧ t ≤ b ∧ p ≤ t ∧ t < q ∧ lf < phAt ⟨p, q, e, g⟩ t := by
  unfold phL
  by_cases h : p < q
  · rw [if_pos h]
    simp only [List.any_cons, List.any_nil, Bool.or_false, badPh, Bool.and_eq_true, decide_eq_true_eq]
    constructor
    · rintro ⟨h1, h2⟩
      exact ⟨min b (q - 1), by omega, by omega, by omega, by omega, h2⟩
    · rintro ⟨t, h1, h2, h3, h4, h5⟩
      refine ⟨by omega, ?_⟩
      unfold phAt at *
      cases g <;> simp at h5 ⊢ <;> omega
  · rw [if_neg h]
    constructor
    · intro h; simp at h
    · rintro ⟨t, _, _, _, _, _⟩; omega
theorem bad_one {lv bk e lf a b : Int} {x : Sy} {to : Int} (hb : 0 ≤ bk) (he : 0 ≤ e) (hl : 0 ≤ lf) (ht : x.frm < to) :
    (phOf lv bk e x to).any (badPh lf a b) = true ↔ ∃ t, a ≤ t ∧ t ≤ b ∧ x.frm ≤ t ∧ t < to ∧ lf < spentB lv bk x.place e (t - x.frm) := by
  rcases phOf_cases (lv := lv) hb he ht with ⟨_, h1, h2⟩ | ⟨_, wt, hw, h1, h2, _⟩
  · have := bad_ph lf a b x.frm to e true
    rw [phL, if_pos ht] at this
    rw [h1, this]
    constructor
    · rintro ⟨t, a1, a2, a3, a4, a5⟩
      refine ⟨t, a1, a2, a3, a4, ?_⟩
      rw [h2]; simp [phAt] at a5; omega
    · rintro ⟨t, a1, a2, a3, a4, a5⟩
      refine ⟨t, a1, a2, a3, a4, ?_⟩
      rw [h2] at a5; simp [phAt]; omega
  · rw [h1, List.any_append, Bool.or_eq_true, bad_ph, bad_ph]
    constructor
    · rintro (⟨t, a1, a2, a3, a4, a5⟩ | ⟨t, a1, a2, a3, a4, a5⟩)
      · refine ⟨t, a1, a2, a3, by omega, ?_⟩
        rw [h2 _ (by omega) (by omega), if_neg (by omega)]
        simpa [phAt] using a5
      · simp [phAt] at a5; omega
    · rintro ⟨t, a1, a2, a3, a4, a5⟩
      rw [h2 _ (by omega) (by omega)] at a5
      split at a5
      · omega
      · exact .inl ⟨t, a1, a2, a3, by omega, by simpa [phAt] using a5⟩
theorem bad_stays {lv bk lf a b : Int} (hb : 0 ≤ bk) (hl : 0 ≤ lf) (hbf : b < finT) : ∀ (l : List Sy) (e : Int), GoodS l → 0 ≤ e → ((staysPh lv bk e l).any (badPh lf a b) = true ↔ ∃ t, a ≤ t ∧ t ≤ b ∧ stopAt l finT ≤ t ∧ lf < expo lv bk t e l)
  | [], e, _, _ => by
    constructor
    · intro h; simp [staysPh] at h
    · rintro ⟨t, _, h2, h3, _⟩
      have : finT ≤ t := h3
      omega
  | x :: l, e, hg, he => by
    have hs := hg.stop
    have ih := bad_stays (lv := lv) (a := a) hb hl hbf l (spentB lv bk x.place e (stopAt l finT - x.frm)) hg.tail (spentB_nn he (by omega))
    show (phOf lv bk e x (stopAt l finT) ++ staysPh lv bk (spentB lv bk x.place e (stopAt l finT - x.frm)) l).any _ = true ↔ ∃ t, a ≤ t ∧ t ≤ b ∧ x.frm ≤ t ∧ _
    rw [List.any_append, Bool.or_eq_true, bad_one hb he hl hs, ih]
    constructor
    · rintro (⟨t, a1, a2, a3, a4, a5⟩ | ⟨t, a1, a2, a3, a4⟩)
      · exact ⟨t, a1, a2, a3, by rw [expo_at a3 a4]; exact a5⟩
      · exact ⟨t, a1, a2, by omega, by rw [expo_after hs a3 (by omega)]; exact a4⟩
    · rintro ⟨t, a1, a2, a3, a4⟩
      by_cases h : t < stopAt l finT
      · exact .inl ⟨t, a1, a2, a3, h, by rw [expo_at a3 h] at a4; exact a4⟩
      · exact .inr ⟨t, a1, a2, by omega, by rw [expo_after hs (by omega) (by omega)] at a4; exact a4⟩
/-- The moments at which the reference looks. -/
def looks (a b : Int) (l : List Sy) : List Int := l.flatMap fun x => [x.frm - 1, x.frm].filter fun t => decide (a ≤ t) && decide (t ≤ b)
theorem mem_looks {a b c : Int} {l : List Sy} : c ∈ looks a b l ↔ ∃ x ∈ l, (c = x.frm - 1 ∨ c = x.frm) ∧ a ≤ c ∧ c ≤ b := by
  simp [looks, List.mem_flatMap, List.mem_filter]
theorem looks_stays {lv bk lf a b : Int} (hb : 0 ≤ bk) (hl : 0 ≤ lf) (hbf : b < finT) : ∀ (l : List Sy) (e : Int), GoodS l → 0 ≤ e → (∃ t, a ≤ t ∧ t ≤ b ∧ stopAt l finT ≤ t ∧ lf < expo lv bk t e l) → ∃ c, (c = a ∨ c = b ∨ c ∈ looks a b l) ∧ a ≤ c ∧ c ≤ b ∧ stopAt l finT ≤ c ∧ lf < expo lv bk c e l
  | [], e, _, _, ⟨t, _, h2, h3, _⟩ => by have : finT ≤ t := h3; omega
  | x :: l, e, hg, he, ⟨t, a1, a2, a3, a4⟩ => by
    have hs := hg.stop
    have a3 : x.frm ≤ t := a3
    by_cases h : t < stopAt l finT
    · rw [expo_at a3 h] at a4
      rcases phOf_cases (lv := lv) hb he hs with ⟨_, _, h2⟩ | ⟨_, wt, hw, _, h2, _⟩
      · rw [h2] at a4
        by_cases hq : b < stopAt l finT
        · refine ⟨b, .inr (.inl rfl), by omega, by omega, show x.frm ≤ b by omega, ?_⟩
          rw [expo_at (by omega) hq, h2]; omega
        · refine ⟨stopAt l finT - 1, .inr (.inr ?_), by omega, by omega, show x.frm ≤ _ by omega, ?_⟩
          · cases l with
            | nil => have : ¬ b < finT := hq; omega
            | cons y l => exact mem_looks.mpr ⟨y, by simp, .inl rfl, by omega, by omega⟩
          · rw [expo_at (by omega) (by omega), h2]; omega
      · rw [h2 _ (by omega) (by omega)] at a4
        split at a4
        · omega
        · by_cases hq : a ≤ x.frm
          · refine ⟨x.frm, .inr (.inr (mem_looks.mpr ⟨x, by simp, .inr rfl, hq, by omega⟩)), hq, by omega, Int.le_refl _, ?_⟩
            rw [expo_at (by omega) (by omega), h2 _ (by omega) (by omega), if_neg (by omega)]; exact a4
          · refine ⟨a, .inl rfl, by omega, by omega, show x.frm ≤ a by omega, ?_⟩
            rw [expo_at (by omega) (by omega), h2 _ (by omega) (by omega), if_neg (by omega)]; exact a4
    · rw [expo_after hs (by omega) (by omega)] at a4
      obtain ⟨c, c1, c2, c3, c4, c5⟩ := looks_stays hb hl hbf l _ hg.tail (spentB_nn he (by omega)) ⟨t, a1, a2, by omega, a4⟩
      refine ⟨c, ?_, c2, c3, show x.frm ≤ c by omega, by rw [expo_after hs c4 (by omega)]; exact c5⟩
      rcases c1 with c1 | c1 | c1
      · exact .inl c1
      · exact .inr (.inl c1)
      · obtain ⟨y, hy, hh⟩ := mem_looks.mp c1
        exact .inr (.inr (mem_looks.mpr ⟨y, by simp [hy], hh⟩))
theorem usable_eq {lv bk lf a b : Int} (hb : 0 ≤ bk) (hl : 0 ≤ lf) (hab : a ≤ b) (hbf : b < finT) (l : List Sy) (hg : GoodS l) :
    (staysPh lv bk 0 l).any (badPh lf a b) = (a :: b :: looks a b l).any fun t => decide (lf < expo lv bk t 0 l) := by
  rw [Bool.eq_iff_iff, bad_stays hb hl hbf l 0 hg (Int.le_refl _)]
  simp only [List.any_eq_true, decide_eq_true_eq]
  constructor
  · intro h
    obtain ⟨c, c1, _, _, _, c5⟩ := looks_stays hb hl hbf l 0 hg (Int.le_refl _) h
    refine ⟨c, ?_, c5⟩
    rcases c1 with c1 | c1 | c1 <;> simp [c1]
  · rintro ⟨t, ht, h5⟩
    have hw : a ≤ t ∧ t ≤ b := by
      simp only [List.mem_cons] at ht
      rcases ht with rfl | rfl | ht
      · omega
      · omega
      · obtain ⟨_, _, _, h⟩ := mem_looks.mp ht; exact h
    refine ⟨t, hw.1, hw.2, ?_, h5⟩
    by_cases h : t < stopAt l finT
    · rw [expo_before h] at h5; omega
    · omega

/-! ### when the exposure becomes too great -/
def firstPh (lf : Int) : List Ph → Option Int
  | [] => none
  | f :: r => if lf < phAt f (f.to - 1) then some (f.frm + max (lf + 1 - f.ex) 0) else firstPh lf r
theorem firstPh_ph (lf a b e : Int) (g : Bool) (r : List Ph) : firstPh lf (phL a b e g ++ r) = if a < b ∧ lf < phAt ⟨a, b, e, g⟩ (b - 1) then some (a + max (lf + 1 - e) 0) else firstPh lf r := by
  unfold phL
  by_cases h : a < b
  · rw [if_pos h]
    simp only [h, true_and]
    rfl
  · rw [if_neg h, if_neg (fun h' => h h'.1)]; rfl
def expRef (lf : Int) (F : Int → Int) : List Sy → Option Int
  | [] => none
  | x :: l => if x.place = 2 ∧ x.frm + lf - F x.frm + 1 ≤ stopAt l finT ∧ x.frm + lf - F x.frm + 1 < finT ∧ lf < F (x.frm + lf - F x.frm + 1) then some (x.frm + lf - F x.frm + 1) else expRef lf F l
theorem first_both {lv bk lf : Int} (hb : 0 ≤ bk) (hl : 0 ≤ lf) (F : Int → Int) : ∀ (l : List Sy) (e : Int), GoodS l → 0 ≤ e → (∀ t, stopAt l finT ≤ t → t < finT → F t = expo lv bk t e l) →
    (e ≤ lf → firstPh lf (staysPh lv bk e l) = expRef lf F l) ∧ (e = lf + 1 → firstPh lf (staysPh lv bk e l) = match l with | [] => none | y :: _ => if lf < F y.frm then some y.frm else expRef lf F l)
  | [], e, _, _, _ => ⟨fun _ => rfl, fun _ => rfl⟩
  | x :: l, e, hg, he, hF => by
    have hs := hg.stop
    have hx : x.frm < finT := (hg.1 x (by simp)).2.2.2
    have ih := first_both (bk := bk) (lv := lv) hb hl F l (spentB lv bk x.place e (stopAt l finT - x.frm)) hg.tail (spentB_nn he (by omega)) (fun t h1 h2 => by
      rw [hF t (show x.frm ≤ t by omega) h2, expo_after hs h1 h2])
    have hFx : ∀ t, x.frm ≤ t → t < stopAt l finT → t < finT → F t = spentB lv bk x.place e (t - x.frm) := fun t h1 h2 h3 => by rw [hF t h1 h3, expo_at h1 h2]
    have hF0 := hFx x.frm (Int.le_refl _) hs hx
    have hsf : stopAt l finT ≤ finT := by
      cases l with
      | nil => exact Int.le_refl _
      | cons y l => have := (hg.1 y (by simp)).2.2.2; show y.frm ≤ finT; omega
    have hstep : firstPh lf (staysPh lv bk e (x :: l)) = firstPh lf (phOf lv bk e x (stopAt l finT) ++ staysPh lv bk (spentB lv bk x.place e (stopAt l finT - x.frm)) l) := rfl
    rw [hstep]
    rcases phOf_cases (lv := lv) hb he hs with ⟨hp, h1, h2⟩ | ⟨hp, wt, hw, h1, h2, _⟩
    · have h0 : F x.frm = e := by rw [hF0, h2]; omega
      rw [h1, h2]
      rw [h2] at ih
      show (_ → (if lf < phAt ⟨x.frm, stopAt l finT, e, true⟩ (stopAt l finT - 1) then some (x.frm + max (lf + 1 - e) 0) else firstPh lf (staysPh lv bk (e + (stopAt l finT - x.frm)) l)) = _) ∧ (_ → (if lf < phAt ⟨x.frm, stopAt l finT, e, true⟩ (stopAt l finT - 1) then some (x.frm + max (lf + 1 - e) 0) else firstPh lf (staysPh lv bk (e + (stopAt l finT - x.frm)) l)) = if lf < F x.frm then some x.frm else _)
      simp only [phAt, if_true]
      refine ⟨fun hel => ?_, fun hel => ?_⟩
      · rw [expRef, h0]
        by_cases c1 : lf < e + (stopAt l finT - 1) - x.frm
        · have h3 := hFx (x.frm + lf - e + 1) (by omega) (by omega) (by omega)
          rw [h2] at h3
          rw [if_pos c1, if_pos ⟨hp, by omega, by omega, by rw [h3]; omega⟩]
          congr 1
          omega
        · rw [if_neg c1]
          by_cases c2 : x.frm + lf - e + 1 = stopAt l finT
          · have h4 := ih.2 (by omega)
            rw [h4, c2]
            cases l with
            | nil => rw [if_neg (fun h => by have := h.2.2.1; simp [stopAt] at this)]; rfl
            | cons y l =>
              have e2 : stopAt (y :: l) finT = y.frm := rfl
              simp only [e2]
              have hy := (hg.1 y (by simp)).2.2.2
              by_cases c3 : lf < F y.frm
              · rw [if_pos c3, if_pos ⟨hp, Int.le_refl _, hy, c3⟩]
              · rw [if_neg c3, if_neg (fun h => c3 h.2.2.2)]
          · rw [ih.1 (by omega), if_neg (fun h => by have := h.2.1; omega)]
      · rw [h0, if_pos (by omega), if_pos (by omega)]
        congr 1
        omega
    · rw [h1, List.append_assoc, firstPh_ph, firstPh_ph]
      rw [h2 _ (by omega) (by omega)] at ih ⊢
      have hz : ¬ (x.frm + wt < stopAt l finT ∧ lf < phAt ⟨x.frm + wt, stopAt l finT, 0, false⟩ (stopAt l finT - 1)) := by
        rintro ⟨_, h⟩; simp [phAt] at h; omega
      rw [if_neg hz]
      refine ⟨fun hel => ?_, fun hel => ?_⟩
      · have hz1 : ¬ (x.frm < min (stopAt l finT) (x.frm + wt) ∧ lf < phAt ⟨x.frm, min (stopAt l finT) (x.frm + wt), e, false⟩ (min (stopAt l finT) (x.frm + wt) - 1)) := by
          rintro ⟨_, h⟩; simp [phAt] at h; omega
        have hz2 : ¬ (x.place = 2 ∧ x.frm + lf - F x.frm + 1 ≤ stopAt l finT ∧ x.frm + lf - F x.frm + 1 < finT ∧ lf < F (x.frm + lf - F x.frm + 1)) := fun h => hp h.1
        rw [if_neg hz1, expRef, if_neg hz2]
        refine ih.1 ?_
        split <;> omega
      · show _ = if lf < F x.frm then some x.frm else expRef lf F (x :: l)
        rw [hF0, h2 _ (by omega) (by omega)]
        by_cases c1 : wt = 0
        · have hz1 : ¬ (x.frm < min (stopAt l finT) (x.frm + wt) ∧ lf < phAt ⟨x.frm, min (stopAt l finT) (x.frm + wt), e, false⟩ (min (stopAt l finT) (x.frm + wt) - 1)) := by
            rintro ⟨h, _⟩; omega
          have hz2 : ¬ (x.place = 2 ∧ x.frm + lf - F x.frm + 1 ≤ stopAt l finT ∧ x.frm + lf - F x.frm + 1 < finT ∧ lf < F (x.frm + lf - F x.frm + 1)) := fun h => hp h.1
          have hz3 : ¬ lf < (if wt ≤ x.frm - x.frm then 0 else e) := by rw [if_pos (by omega)]; omega
          rw [if_neg hz1, if_neg hz3, expRef, if_neg hz2]
          refine ih.1 ?_
          rw [if_pos (by omega)]; exact hl
        · rw [if_pos ⟨by omega, by simp [phAt]; omega⟩, if_pos (by rw [if_neg (by omega)]; omega)]
          congr 1
          omega
theorem expires_eq {lv bk lf : Int} (hb : 0 ≤ bk) (hl : 0 ≤ lf) (l : List Sy) (hg : GoodS l) : firstPh lf (staysPh lv bk 0 l) = expRef lf (fun t => expo lv bk t 0 l) l :=
  (first_both hb hl _ l 0 hg (Int.le_refl _) (fun _ _ _ => rfl)).1 hl
end Go.Proofs.YtopnadilfjakiaaDoor
