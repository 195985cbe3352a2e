/-
  The needs of a product over two machines that can place all of it, in plain words. Plain words on the needs of parts: a rising list of parts with their counts is what Needs gives. The needs of a right product are needs that two machines can take.
-/
import Derived.Test.YtmjonmoagpkdiabGreatDoorLbX
import Derived.Test.YtmjonmoagpkdiabGreatDoorNeeds
namespace Go.Proofs.YtmjonmoagpkdiabGreatDoor
open Go.RowKit
set_option linter.unusedSimpArgs false
set_option linter.unusedVariables false

/-- Needs that a product has. -/
structure NdR (ns : List Nd) : Prop where
  few : ns.length ≤ 10
  key : ∀ n ∈ ns, keyB n.part = true
  many : ∀ n ∈ ns, 1 ≤ n.many ∧ n.many ≤ 1000
  rise : ns.Pairwise fun a b => bt a.part < bt b.part
def cans (ns : List Nd) : List ByteArray := ns.map fun n => n.part
def ms2 (ns : List Nd) : List Mc := [⟨⟨#[109, 49]⟩, 1, 0, 10, cans ns⟩, ⟨⟨#[109, 50]⟩, 1, 0, 10, cans ns⟩]
theorem ndErr_of : ∀ (l : List Nd) (prev : Option ByteArray), (∀ n ∈ l, keyB n.part = true) → (∀ n ∈ l, 1 ≤ n.many ∧ n.many ≤ 1000) → l.Pairwise (fun a b => bt a.part < bt b.part) → (∀ y, prev = some y → ∀ n ∈ l, bt y < bt n.part) → ndErr l prev = 0
  | [], _, _, _, _, _ => rfl
  | x :: r, prev, hk, hm, hp, hy => by
    have hp' := List.pairwise_cons.mp hp
    have h1 : ¬ keyB x.part = false := by rw [hk x (by simp)]; simp
    have h2 : ¬ prev.any (leS x.part) = true := by
      cases prev with
      | none => simp
      | some y => simp [(leS_false _ _).mpr (hy y rfl x (by simp))]
    have h3 : ¬ inR x.many 1 1000 = false := by
      have := hm x (by simp)
      unfold inR
      simp
      omega
    rw [ndErr, if_neg h1, if_neg h2, if_neg h3]
    exact ndErr_of r _ (fun n hn => hk n (by simp [hn])) (fun n hn => hm n (by simp [hn])) hp'.2 (fun y e n hn => by cases e; exact hp'.1 n hn)
theorem paErr_of : ∀ (l : List ByteArray) (prev : Option ByteArray), (∀ x ∈ l, keyB x = true) → l.Pairwise (fun a b => bt a < bt b) → (∀ y, prev = some y → ∀ x ∈ l, bt y < bt x) → paErr l prev = 0
  | [], _, _, _, _ => rfl
  | x :: r, prev, hk, hp, hy => by
    have hp' := List.pairwise_cons.mp hp
    have h1 : ¬ keyB x = false := by rw [hk x (by simp)]; simp
    have h2 : ¬ prev.any (leS x) = true := by
      cases prev with
      | none => simp
      | some y => simp [(leS_false _ _).mpr (hy y rfl x (by simp))]
    rw [paErr, if_neg h1, if_neg h2]
    exact paErr_of r _ (fun n hn => hk n (by simp [hn])) hp'.2 (fun y e n hn => by cases e; exact hp'.1 n hn)
theorem NdR.need {ns : List Nd} (h : NdR ns) : needErr ns = 0 := by
  unfold needErr
  rw [if_neg (by have := h.few; omega)]
  exact ndErr_of ns none h.key h.many h.rise (fun y e => by cases e)
theorem NdR.pa {ns : List Nd} (h : NdR ns) : paErr (cans ns) none = 0 := by
  refine paErr_of _ none (fun x hx => ?_) ?_ (fun y e => by cases e)
  · obtain ⟨n, hn, rfl⟩ := List.mem_map.mp hx
    exact h.key n hn
  · exact List.pairwise_map.mpr h.rise
theorem NdR.mach {ns : List Nd} (h : NdR ns) : machErr (ms2 ns) = 0 := by
  have hl : (cans ns).length ≤ 10 := by unfold cans; rw [List.length_map]; exact h.few
  have e1 : ∀ (pre : List Mc) (k : ByteArray), keyB k = true → keyIn pre k = false → mcErr pre ⟨k, 1, 0, 10, cans ns⟩ = 0 := fun pre k h1 h2 => by
    unfold mcErr
    rw [if_neg (by rw [h1]; simp), if_neg (by rw [h2]; simp), if_neg (by unfold numOk inR; simp), if_neg (by show ¬ 1000 < (cans ns).length; omega)]
    exact h.pa
  unfold machErr
  rw [if_neg (by show ¬ (2 : Nat) = 0; omega), if_neg (by show ¬ 6 < 2; omega)]
  unfold ms2
  rw [mcsErr, if_pos (e1 _ _ (by decide) (by simp [keyIn])), mcsErr, if_pos (e1 _ _ (by decide) (by unfold keyIn; rw [List.nil_append, List.any_cons, List.any_nil, Bool.or_false]; show ((⟨#[109, 49]⟩ : ByteArray).toList == (⟨#[109, 50]⟩ : ByteArray).toList) = false; rw [Lib.toList_data, Lib.toList_data]; decide)), mcsErr]
theorem NdR.both {ns : List Nd} (h : NdR ns) : bothErr (ms2 ns) ns = 0 := by
  unfold bothErr
  rw [h.mach]
  exact h.need
theorem cans_has {ns : List Nd} {n : Nd} (h : n ∈ ns) : has (cans ns) n.part = true := has_iff.mpr (List.mem_map.mpr ⟨n, h, rfl⟩)
theorem ms2_can (ns : List Nd) {k : Nat} (hk : k < 2) : (mcA (ms2 ns) k).can = cans ns ∧ (mcA (ms2 ns) k).feed = 10 := by
  have : k = 0 ∨ k = 1 := by omega
  rcases this with rfl | rfl <;> exact ⟨rfl, rfl⟩
theorem right_all {ns : List Nd} (h : NdR ns) : Right (ms2 ns) ns (List.replicate ns.length 0) := by
  refine ⟨fun e he => ?_, fun j hj => ?_, fun k hk => ?_⟩
  · rw [List.eq_of_mem_replicate he]
    show 0 < 2
    omega
  · rw [List.length_replicate] at hj
    rw [List.getElem_replicate, (ms2_can ns (by omega)).1, ndA_at hj]
    exact cans_has (List.getElem_mem hj)
  · rw [(ms2_can ns hk).2]
    have h1 : (List.replicate ns.length 0).count k ≤ (List.replicate ns.length 0).length := List.count_le_length
    rw [List.length_replicate] at h1
    have := h.few
    omega
/-- The balance is found; its plan is right. -/
theorem NdR.bal {ns : List Nd} (h : NdR ns) : ∃ b : List Nat, balR (ms2 ns) ns = some (b, mxP (ms2 ns) ns b) ∧ b.length = ns.length ∧ Right (ms2 ns) ns b := by
  have hm := machErr_ok h.mach
  have hn := needErr_ok h.need
  have hr := tr_res (K := (ms2 ns).length) (ok := okP (ms2 ns) ns) (mx := mxP (ms2 ns) ns) (fun pre k _ => mxP_mono hm hn pre k) ns.length [] none
  have he := (right_ext (ms := ms2 ns) (ns := ns) (List.replicate ns.length 0) [] (by rw [List.nil_append]; exact right_all h)).2
  rw [List.nil_append, List.length_replicate] at he
  rcases hr with ⟨_, h2⟩ | ⟨b, h1, h2, _, _⟩
  · have := h2 _ he
    cases this
  · refine ⟨b, h1, ?_, ext_right h2 (right_nil hm)⟩
    obtain ⟨r, e, hl⟩ := h2.pre
    rw [e, List.nil_append, hl]
theorem count_Z (p : List Nat) (k : Nat) : (toZ p).count (k : Int) = p.count k := by
  induction p with
  | nil => rfl
  | cons a p ih =>
    show ((a : Int) :: toZ p).count (k : Int) = (a :: p).count k
    rw [List.count_cons, List.count_cons, ih]
    by_cases e : a = k
    · subst e; simp
    · have e1 : ((a : Int) == (k : Int)) = false := beq_eq_false_iff_ne.mpr (by omega)
      have e2 : (a == k) = false := beq_eq_false_iff_ne.mpr e
      rw [e1, e2]
theorem pErr_of (ms : List Mc) : ∀ (p : List Nat) (ns : List Nd), p.length = ns.length → (∀ j (h : j < p.length) (h2 : j < ns.length), p[j] < ms.length ∧ has (mcA ms p[j]).can ns[j].part = true) → pErr ms (toZ p) ns = 0
  | [], _, _, _ => rfl
  | _ :: _, [], hl, _ => by simp at hl
  | a :: p, n :: ns, hl, h => by
    obtain ⟨h1, h2⟩ := h 0 (by simp) (by simp)
    simp only [List.getElem_cons_zero] at h1 h2
    have e1 : ¬ inR (Int.ofNat a) 0 ((ms.length : Int) - 1) = false := by
      unfold inR
      simp
      omega
    have e2 : ¬ has (mcA ms (Int.ofNat a).toNat).can n.part = false := by
      rw [show (Int.ofNat a).toNat = a from rfl, h2]
      simp
    show pErr ms (Int.ofNat a :: toZ p) (n :: ns) = 0
    rw [pErr, if_neg e1, if_neg e2]
    exact pErr_of ms p ns (by simpa using hl) (fun j hj hj2 => by
      have := h (j + 1) (by simpa using hj) (by simpa using hj2)
      simpa using this)
theorem NdR.plan {ns : List Nd} (h : NdR ns) {b : List Nat} (hl : b.length = ns.length) (hr : Right (ms2 ns) ns b) : planErr (ms2 ns) ns (toZ b) = 0 := by
  unfold planErr
  rw [if_neg (by rw [toZ_len, hl]; simp)]
  have h1 : pErr (ms2 ns) (toZ b) ns = 0 := pErr_of _ b ns hl (fun j hj hj2 => by
    have h2 := hr.2.1 j hj
    rw [ndA_at hj2] at h2
    exact ⟨hr.1 _ (List.getElem_mem hj), h2⟩)
  have h0 := hr.2.2 0 (by show 0 < 2; omega)
  have h2 := hr.2.2 1 (by show 1 < 2; omega)
  rw [(ms2_can ns (by omega)).2] at h0 h2
  unfold thenL
  rw [if_pos h1]
  unfold ms2
  rw [full, if_neg (by rw [show ((0 : Nat) : Int) = ((0 : Nat) : Int) from rfl, count_Z]; show ¬ (10 : Int) < _; omega), full, if_neg (by rw [show ((0 + 1 : Nat) : Int) = ((1 : Nat) : Int) from rfl, count_Z]; show ¬ (10 : Int) < _; omega), full]
/-- All placements. -/
def sumM (ns : List Nd) : Int := ns.foldr (fun n a => n.many + a) 0
theorem cyS_both : ∀ (p : List Nat) (ns : List Nd), p.length = ns.length → (∀ e ∈ p, e < 2) → cyS 1 0 (toZ p) ns + cyS 1 1 (toZ p) ns = sumM ns
  | [], [], _, _ => rfl
  | [], _ :: _, hl, _ => by simp at hl
  | _ :: _, [], hl, _ => by simp at hl
  | a :: p, n :: ns, hl, h => by
    have ih := cyS_both p ns (by simpa using hl) (fun e he => h e (by simp [he]))
    have ha := h a (by simp)
    have hs : sumM (n :: ns) = n.many + sumM ns := rfl
    show cyS 1 0 (Int.ofNat a :: toZ p) (n :: ns) + cyS 1 1 (Int.ofNat a :: toZ p) (n :: ns) = _
    rw [cyS, cyS, hs]
    have : a = 0 ∨ a = 1 := by omega
    rcases this with rfl | rfl
    · rw [if_pos (show Int.ofNat 0 = 0 from rfl), if_neg (show ¬ Int.ofNat 0 = 1 by decide)]; omega
    · rw [if_neg (show ¬ Int.ofNat 1 = 0 by decide), if_pos (show Int.ofNat 1 = 1 from rfl)]; omega
/-- The two cycles. -/
def cy2 (b : List Nat) (ns : List Nd) : Int × Int := (0 + cyS 1 0 (toZ b) ns, 0 + cyS 1 1 (toZ b) ns)
theorem cyL_two (b : List Nat) (ns : List Nd) : cyL (ms2 ns) ns (toZ b) = [(cy2 b ns).1, (cy2 b ns).2] := rfl
theorem cy2_sum {b : List Nat} {ns : List Nd} (hl : b.length = ns.length) (hr : Right (ms2 ns) ns b) : (cy2 b ns).1 + (cy2 b ns).2 = sumM ns := by
  have := cyS_both b ns hl (fun e he => hr.1 e he)
  unfold cy2
  dsimp only
  omega
theorem mx_two (b : List Nat) (ns : List Nd) : mxP (ms2 ns) ns b = max (cy2 b ns).1 (cy2 b ns).2 := by
  unfold mxP
  rw [cyL_two]
  have h1 := (slowC_le (c := [(cy2 b ns).1, (cy2 b ns).2]) (by simp) (max (cy2 b ns).1 (cy2 b ns).2)).mpr (fun y hy => by
    simp at hy
    omega)
  have h2 := (slowC_le (c := [(cy2 b ns).1, (cy2 b ns).2]) (by simp) (slowC [(cy2 b ns).1, (cy2 b ns).2])).mp (Int.le_refl _)
  have h3 := h2 (cy2 b ns).1 (by simp)
  have h4 := h2 (cy2 b ns).2 (by simp)
  omega
theorem nS_of {ns : List Nd} : ∀ (l : List Nd) (a : Int), (∀ n ∈ l, n ∈ ns) → nS (ms2 ns) a l = a + sumM l
  | [], a, _ => by simp [nS, sumM]
  | n :: l, a, h => by
    have h1 : leO (ms2 ns) n.part = some 1 := by
      have hh := cans_has (h n (by simp))
      unfold leO ms2
      simp [stE, hh]
    have ih := nS_of l (a + leI (leO (ms2 ns) n.part) * n.many) (fun m hm => h m (by simp [hm]))
    have hs : sumM (n :: l) = n.many + sumM l := rfl
    show nS (ms2 ns) (a + leI (leO (ms2 ns) n.part) * n.many) l = _
    rw [ih, h1, hs]
    show a + 1 * n.many + sumM l = _
    omega
theorem bound_two {b : List Nat} {ns : List Nd} (hl : b.length = ns.length) (hr : Right (ms2 ns) ns b) (h0 : 0 ≤ (cy2 b ns).1 ∧ 0 ≤ (cy2 b ns).2) : bdC (ms2 ns) ns ≤ max (cy2 b ns).1 (cy2 b ns).2 := by
  have hs := cy2_sum hl hr
  have e1 : nS (ms2 ns) (fS (ms2 ns)) ns = sumM ns := by
    rw [show fS (ms2 ns) = 0 from rfl, nS_of ns 0 (fun _ h => h)]
    omega
  unfold bdC
  rw [e1, show fM (ms2 ns) = 0 from rfl, show (((ms2 ns).length : Nat) : Int) = 2 from rfl]
  omega
theorem cy2_pos {b : List Nat} {ns : List Nd} (h : NdR ns) : (0 ≤ (cy2 b ns).1 ∧ (cy2 b ns).1 ≤ 1000000000000000) ∧ 0 ≤ (cy2 b ns).2 ∧ (cy2 b ns).2 ≤ 1000000000000000 := by
  have hm := machErr_ok h.mach
  have hn := needErr_ok h.need
  have h1 := cyOf_bound (hm.ok (mcA (ms2 ns) 0) (by simp [ms2, mcA])) 0 (toZ b) hn
  have h2 := cyOf_bound (hm.ok (mcA (ms2 ns) 1) (by simp [ms2, mcA])) 1 (toZ b) hn
  have e1 : cyOf (mcA (ms2 ns) 0) 0 (toZ b) ns = (cy2 b ns).1 := rfl
  have e2 : cyOf (mcA (ms2 ns) 1) 1 (toZ b) ns = (cy2 b ns).2 := rfl
  rw [e1] at h1
  rw [e2] at h2
  omega

/-! ### The needs of placements -/
def nds (l : List (List UInt8 × Int)) : List Nd := l.map fun x => ⟨⟨x.1.toArray⟩, x.2⟩
def sumI (l : List (List UInt8 × Int)) : Int := l.foldr (fun x a => x.2 + a) 0
theorem sumI_app (a b : List (List UInt8 × Int)) : sumI (a ++ b) = sumI a + sumI b := by
  induction a with
  | nil => simp [sumI]
  | cons x a ih =>
    have e1 : sumI (x :: a ++ b) = x.2 + sumI (a ++ b) := rfl
    have e2 : sumI (x :: a) = x.2 + sumI a := rfl
    rw [e1, ih, e2]
    omega
theorem sumI_nds (l : List (List UInt8 × Int)) : sumM (nds l) = sumI l := by
  induction l with
  | nil => rfl
  | cons x l ih =>
    have e1 : sumM (nds (x :: l)) = x.2 + sumM (nds l) := rfl
    have e2 : sumI (x :: l) = x.2 + sumI l := rfl
    rw [e1, e2, ih]
theorem addNeed_sum (acc : List (List UInt8 × Int)) (s : List UInt8) : sumI (addNeed acc s) = sumI acc + 1 := by
  unfold addNeed
  cases h : acc.getLast? with
  | none =>
    rw [List.getLast?_eq_none_iff] at h
    subst h
    rfl
  | some x =>
    obtain ⟨t, m⟩ := x
    obtain ⟨ys, rfl⟩ := List.getLast?_eq_some_iff.mp h
    show sumI (if t = s then _ else _) = _
    split
    · rw [List.dropLast_concat, sumI_app, sumI_app]
      show sumI ys + (m + 1 + 0) = sumI ys + (m + 0) + 1
      omega
    · rw [sumI_app]
      rfl
theorem needsOf_sum (ts : List (List UInt8)) : sumI (needsOf ts) = ts.length := by
  have : ∀ r : List (List UInt8), sumI (needsOf r.reverse) = r.length := by
    intro r
    induction r with
    | nil => rfl
    | cons s r ih =>
      rw [List.reverse_cons, needsOf_snoc, addNeed_sum, ih]
      simp
  have h := this ts.reverse
  rw [List.reverse_reverse, List.length_reverse] at h
  exact h
theorem flatN_nds (l : List (List UInt8 × Int)) : flatN l = (nds l).flatMap encD := by
  induction l with
  | nil => rfl
  | cons x l ih =>
    show encStr x.1 :: Value.int .i64 x.2 :: flatN l = _
    rw [ih]
    rfl
end Go.Proofs.YtmjonmoagpkdiabGreatDoor
namespace Go.Proofs.YtmjonmoagpkdiabGreatDoor

theorem le_lt_ne {a b : List UInt8} (h : a ≤ b) (hne : a ≠ b) : a < b := by
  rcases Decidable.em (a < b) with h1 | h1
  · exact h1
  · exact absurd (List.le_antisymm h (by simpa using h1)) hne
theorem needsOf_rev (r : List (List UInt8)) (h : r.Pairwise fun x y => y ≤ x) : ((needsOf r.reverse).Pairwise fun x y => x.1 < y.1) ∧ ∀ x, x ∈ needsOf r.reverse ↔ x.1 ∈ r ∧ x.2 = (r.count x.1 : Int) := by
  induction r with
  | nil => exact ⟨List.Pairwise.nil, fun x => by simp [needsOf]⟩
  | cons s r ih =>
    obtain ⟨hs, hr⟩ := List.pairwise_cons.mp h
    obtain ⟨i1, i2⟩ := ih hr
    rw [List.reverse_cons, needsOf_snoc]
    cases r with
    | nil =>
      refine ⟨by simp [needsOf, addNeed], fun x => ?_⟩
      obtain ⟨a, b⟩ := x
      simp only [needsOf, List.reverse_nil, List.foldl_nil, addNeed, List.getLast?_nil, List.mem_singleton, Prod.mk.injEq]
      constructor
      · rintro ⟨rfl, rfl⟩; simp
      · rintro ⟨rfl, e⟩; simpa using e
    | cons t r =>
      obtain ⟨acc, m, hf, _, _⟩ := needsOf_form r t
      rw [hf] at i1 i2 ⊢
      have ht : ∀ x ∈ acc, x.1 < t := fun x hx => (List.pairwise_append.mp i1).2.2 x hx (t, m) (by simp)
      have hm : m = ((t :: r).count t : Int) := ((i2 (t, m)).mp (by simp)).2
      by_cases e : t = s
      · subst e
        have ea : addNeed (acc ++ [(t, m)]) t = acc ++ [(t, m + 1)] := by simp [addNeed]
        rw [ea]
        refine ⟨?_, fun x => ?_⟩
        · rw [List.pairwise_append] at i1 ⊢
          refine ⟨i1.1, by simp, fun a ha b hb => ?_⟩
          simp only [List.mem_singleton] at hb
          subst hb
          exact ht a ha
        · obtain ⟨a, b⟩ := x
          by_cases ex : a = t
          · subst ex
            have h0 : (a, b) ∉ acc := fun hx => List.lt_irrefl _ (ht _ hx)
            simp only [List.mem_append, h0, false_or, Prod.mk.injEq, true_and, List.mem_cons, true_or]
            rw [List.count_cons_self, hm]
            push_cast
            simp
          · have i3 := i2 (a, b)
            simp only [List.mem_append, List.mem_singleton, Prod.mk.injEq, ex, false_and, or_false] at i3 ⊢
            rw [i3]
            simp [ex, Ne.symm ex]
      · have hts : t < s := le_lt_ne (hs t (by simp)) e
        have ea : addNeed (acc ++ [(t, m)]) s = (acc ++ [(t, m)]) ++ [(s, 1)] := by simp [addNeed, e]
        have hlt : ∀ x ∈ t :: r, x < s := by
          intro x hx
          rcases List.mem_cons.mp hx with rfl | hx
          · exact hts
          · have h1 : x ≤ t := (List.pairwise_cons.mp hr).1 x hx
            rcases Decidable.em (x = t) with rfl | hne
            · exact hts
            · exact List.lt_trans (le_lt_ne h1 hne) hts
        have h0 : s ∉ t :: r := fun hx => List.lt_irrefl _ (hlt s hx)
        rw [ea]
        refine ⟨?_, fun x => ?_⟩
        · rw [List.pairwise_append]
          refine ⟨i1, by simp, fun a ha b hb => ?_⟩
          simp only [List.mem_singleton] at hb
          subst hb
          exact hlt _ ((i2 a).mp ha).1
        · obtain ⟨a, b⟩ := x
          rw [List.mem_append, i2]
          by_cases ex : a = s
          · subst ex
            simp only [h0, false_and, false_or, List.mem_singleton, Prod.mk.injEq, true_and]
            have hc : (t :: r).count a = 0 := List.count_eq_zero.mpr h0
            rw [List.count_cons_self, hc]
            simp
          · simp [ex, List.count_cons, Ne.symm ex]
theorem needsOf_all (ts : List (List UInt8)) (h : ts.Pairwise fun x y => x ≤ y) : ((needsOf ts).Pairwise fun x y => x.1 < y.1) ∧ ∀ x, x ∈ needsOf ts ↔ x.1 ∈ ts ∧ x.2 = (ts.count x.1 : Int) := by
  have := needsOf_rev ts.reverse (by rw [List.pairwise_reverse]; exact h)
  rw [List.reverse_reverse] at this
  refine ⟨this.1, fun x => ?_⟩
  rw [this.2 x, List.mem_reverse, List.count_reverse]
/-- The needs of parts are the rising list of parts with their counts. -/
theorem needs_unique (parts : List (List UInt8)) (out : List (List UInt8 × Int)) (h1 : out.Pairwise fun x y => x.1 < y.1) (h2 : ∀ x, x ∈ out ↔ x.1 ∈ parts ∧ x.2 = (parts.count x.1 : Int)) :
    out = needsOf (parts.mergeSort fun x y => decide (x ≤ y)) := by
  have hp := List.mergeSort_perm parts (fun x y => decide (x ≤ y))
  have hs : (parts.mergeSort fun x y => decide (x ≤ y)).Pairwise fun x y => x ≤ y := by
    have := List.pairwise_mergeSort (le := fun x y : List UInt8 => decide (x ≤ y)) (fun a b c h1 h2 => by simp only [decide_eq_true_eq] at *; exact List.le_trans h1 h2) (fun a b => by simp only [Bool.or_eq_true, decide_eq_true_eq]; exact List.le_total a b) parts
    exact this.imp (fun h => by simpa using h)
  obtain ⟨a1, a2⟩ := needsOf_all _ hs
  have nd : ∀ {l : List (List UInt8 × Int)}, (l.Pairwise fun x y => x.1 < y.1) → l.Nodup := fun h => h.imp (fun h e => by rw [e] at h; exact List.lt_irrefl _ h)
  have pe : out.Perm (needsOf (parts.mergeSort fun x y => decide (x ≤ y))) := by
    rw [List.perm_ext_iff_of_nodup (nd h1) (nd a1)]
    intro x
    rw [h2, a2, hp.mem_iff, hp.count_eq]
  exact List.Perm.eq_of_pairwise (fun a b _ _ h1 h2 => absurd (List.lt_trans h1 h2) (List.lt_irrefl _)) h1 a1 pe
end Go.Proofs.YtmjonmoagpkdiabGreatDoor
namespace Go.Proofs.YtmjonmoagpkdiabGreatDoor
open Go.RowKit
set_option linter.unusedSimpArgs false
set_option linter.unusedVariables false

theorem plErr_parts {W H : Int} : ∀ (l : List Pl) (prev : Option ByteArray), plErr W H l prev = 0 → ∀ p ∈ l, keyB p.part = true
  | [], _, _, p, hp => by simp at hp
  | x :: r, prev, h, p, hp => by
    rw [plErr] at h
    split at h
    · cases h
    split at h
    · cases h
    split at h
    · cases h
    rename_i h1 _ _
    rcases List.mem_cons.mp hp with rfl | hp
    · simp only [Bool.not_eq_false, Bool.and_eq_true] at h1
      exact h1.2
    · exact plErr_parts r _ h p hp
theorem prodErr_parts {key : ByteArray} {W H : Int} {l : List Pl} (h : prodErr key W H l = 0) : ∀ p ∈ l, keyB p.part = true := by
  unfold prodErr at h
  split at h
  · cases h
  split at h
  · cases h
  split at h
  · cases h
  exact plErr_parts l none h
def ptsL (l : List Pl) : List (List UInt8) := (l.map partOf).mergeSort fun x y => decide (x ≤ y)
theorem ptsL_sorted (l : List Pl) : (ptsL l).Pairwise fun x y => x ≤ y := by
  have h := List.pairwise_mergeSort (le := fun x y : List UInt8 => decide (x ≤ y)) (fun a b c h1 h2 => by simp only [decide_eq_true_eq] at *; exact List.le_trans h1 h2) (fun a b => by simp only [Bool.or_eq_true, decide_eq_true_eq]; exact List.le_total a b) (l.map partOf)
  exact h.imp (fun h => by simpa using h)
theorem ptsL_mem (l : List Pl) (x : List UInt8) : x ∈ ptsL l ↔ ∃ p ∈ l, partOf p = x := by
  unfold ptsL
  rw [List.mem_mergeSort, List.mem_map]
theorem ptsL_len (l : List Pl) : (ptsL l).length = l.length := by
  unfold ptsL
  rw [List.length_mergeSort, List.length_map]
def needNd (l : List Pl) : List Nd := nds (needsOf (ptsL l))
theorem needNd_ok {key : ByteArray} {W H : Int} {l : List Pl} (h : prodErr key W H l = 0) (h5 : l.length ≤ 5) : NdR (needNd l) := by
  obtain ⟨a1, a2⟩ := needsOf_all (ptsL l) (ptsL_sorted l)
  have hlen : (needsOf (ptsL l)).length ≤ l.length := by
    have := needsOf_len (ptsL l)
    rw [ptsL_len] at this
    exact this
  refine ⟨?_, fun n hn => ?_, fun n hn => ?_, ?_⟩
  · unfold needNd nds
    rw [List.length_map]
    omega
  · obtain ⟨x, hx, rfl⟩ := List.mem_map.mp hn
    obtain ⟨p, hp, e⟩ := (ptsL_mem l x.1).mp ((a2 x).mp hx).1
    show keyB ⟨x.1.toArray⟩ = true
    rw [← e]
    unfold partOf
    rw [str_back]
    exact prodErr_parts h p hp
  · obtain ⟨x, hx, rfl⟩ := List.mem_map.mp hn
    obtain ⟨h1, h2⟩ := (a2 x).mp hx
    have h3 := List.count_pos_iff.mpr h1
    have h4 : (ptsL l).count x.1 ≤ (ptsL l).length := List.count_le_length
    rw [ptsL_len] at h4
    show 1 ≤ x.2 ∧ x.2 ≤ 1000
    omega
  · unfold needNd nds
    rw [List.pairwise_map]
    exact a1.imp (fun h => by simpa using h)
theorem needNd_sum (l : List Pl) : sumM (needNd l) = l.length := by
  unfold needNd
  rw [sumI_nds, needsOf_sum, ptsL_len]
end Go.Proofs.YtmjonmoagpkdiabGreatDoor
