/-
  Plain words on machines, needs and plans of a line.
-/
import Derived.Test.YtjmjmijjdgolfaaSeM
import Derived.Lib.Slices
namespace Go.Proofs.Ytjmjmijjdgolfaa
open Go.RowKit
set_option linter.unusedSimpArgs false
set_option linter.unusedVariables false

/-- A machine, and a need. -/
structure Mc where
  key : ByteArray
  each : Int
  fixed : Int
  feed : Int
  can : List ByteArray
structure Nd where
  part : ByteArray
  many : Int
def dM : Mc := ⟨⟨#[]⟩, 0, 0, 0, []⟩
def mcA (ms : List Mc) (k : Nat) : Mc := ms.getD k dM
def ndA (ns : List Nd) (k : Nat) : Nd := ns.getD k ⟨⟨#[]⟩, 0⟩
theorem mcA_at {ms : List Mc} {k : Nat} (h : k < ms.length) : mcA ms k = ms[k] := by unfold mcA; rw [List.getD_eq_getElem?_getD, List.getElem?_eq_getElem h]; rfl
theorem ndA_at {ns : List Nd} {k : Nat} (h : k < ns.length) : ndA ns k = ns[k] := by unfold ndA; rw [List.getD_eq_getElem?_getD, List.getElem?_eq_getElem h]; rfl

/-! ### What is wrong with machines and needs -/
def keyIn (l : List Mc) (k : ByteArray) : Bool := l.any fun b => b.key.toList == k.toList
def numOk (m : Mc) : Bool := inR m.each 0 10000000 && (inR m.fixed 0 10000000 && inR m.feed 0 100)
def mcErr (pre : List Mc) (m : Mc) : Int :=
  if keyB m.key = false then 5 else if keyIn pre m.key = true then 6 else if numOk m = false then 1 else if 1000 < m.can.length then 2 else paErr m.can none
def mcsErr : List Mc → List Mc → Int
  | _, [] => 0
  | pre, m :: r => if mcErr pre m = 0 then mcsErr (pre ++ [m]) r else mcErr pre m
def machErr (ms : List Mc) : Int := if ms.length = 0 then 8 else if 6 < ms.length then 2 else mcsErr [] ms
theorem mcsErr_drop {ms : List Mc} {k : Nat} (h : k < ms.length) : mcsErr (ms.take k) (ms.drop k) = if mcErr (ms.take k) ms[k] = 0 then mcsErr (ms.take (k + 1)) (ms.drop (k + 1)) else mcErr (ms.take k) ms[k] := by
  rw [drop_at ms h, mcsErr, List.take_succ_eq_append_getElem h]
structure McOk (m : Mc) : Prop where
  each : 0 ≤ m.each ∧ m.each ≤ 10000000
  fixed : 0 ≤ m.fixed ∧ m.fixed ≤ 10000000
  feed : 0 ≤ m.feed ∧ m.feed ≤ 100
  few : m.can.length ≤ 1000
  can : PaOk m.can
theorem mcErr_ok {pre : List Mc} {m : Mc} (h : mcErr pre m = 0) : McOk m := by
  unfold mcErr at h
  split at h
  · cases h
  split at h
  · cases h
  split at h
  · cases h
  split at h
  · cases h
  rename_i h1 h2 h3 h4
  unfold numOk inR at h3
  simp at h3
  obtain ⟨a1, a2, b1, b2, c1, c2⟩ := h3
  exact ⟨⟨a1, a2⟩, ⟨b1, b2⟩, ⟨c1, c2⟩, by omega, (paErr_ok _ _ h).1⟩
theorem mcsErr_ok : ∀ (l pre : List Mc), mcsErr pre l = 0 → ∀ m ∈ l, McOk m
  | [], _, _, _, hm => by simp at hm
  | x :: r, pre, h, m, hm => by
    rw [mcsErr] at h
    by_cases h0 : mcErr pre x = 0
    · rw [if_pos h0] at h
      rcases List.mem_cons.mp hm with rfl | hm
      · exact mcErr_ok h0
      · exact mcsErr_ok r _ h m hm
    · rw [if_neg h0] at h
      exact absurd h h0
structure MsOk (ms : List Mc) : Prop where
  some : 1 ≤ ms.length
  few : ms.length ≤ 6
  ok : ∀ m ∈ ms, McOk m
theorem machErr_ok {ms : List Mc} (h : machErr ms = 0) : MsOk ms := by
  unfold machErr at h
  split at h
  · cases h
  split at h
  · cases h
  exact ⟨by omega, by omega, mcsErr_ok _ _ h⟩

def ndErr : List Nd → Option ByteArray → Int
  | [], _ => 0
  | x :: r, prev => if keyB x.part = false then 5 else if prev.any (leS x.part) = true then 7 else if inR x.many 1 1000 = false then 1 else ndErr r (some x.part)
def needErr (ns : List Nd) : Int := if 1000 < ns.length then 2 else ndErr ns none
structure NsOk (ns : List Nd) : Prop where
  few : ns.length ≤ 1000
  many : ∀ n ∈ ns, 1 ≤ n.many ∧ n.many ≤ 1000
theorem ndErr_ok : ∀ (l : List Nd) (prev : Option ByteArray), ndErr l prev = 0 → ∀ n ∈ l, 1 ≤ n.many ∧ n.many ≤ 1000
  | [], _, _, _, hn => by simp at hn
  | x :: r, prev, h, n, hn => by
    rw [ndErr] at h
    split at h
    · cases h
    split at h
    · cases h
    split at h
    · cases h
    rename_i h1 h2 h3
    rcases List.mem_cons.mp hn with rfl | hn
    · unfold inR at h3
      simpa using h3
    · exact ndErr_ok r _ h n hn
theorem needErr_ok {ns : List Nd} (h : needErr ns = 0) : NsOk ns := by
  unfold needErr at h
  split at h
  · cases h
  exact ⟨by omega, ndErr_ok _ _ h⟩
def thenL (a b : Int) : Int := if a = 0 then b else a
def bothErr (ms : List Mc) (ns : List Nd) : Int := thenL (machErr ms) (needErr ns)
theorem bothErr_ok {ms : List Mc} {ns : List Nd} (h : bothErr ms ns = 0) : machErr ms = 0 ∧ needErr ns = 0 := by
  unfold bothErr thenL at h
  split at h
  · exact ⟨by assumption, h⟩
  · contradiction

/-! ### Plans -/
def pErr (ms : List Mc) : List Int → List Nd → Int
  | k :: ps, n :: ns => if inR k 0 ((ms.length : Int) - 1) = false then 8 else if has (mcA ms k.toNat).can n.part = false then 4 else pErr ms ps ns
  | _, _ => 0
def full (plan : List Int) : List Mc → Nat → Int
  | [], _ => 0
  | m :: r, k => if m.feed < (plan.count (k : Int) : Int) then 12 else full plan r (k + 1)
def planErr (ms : List Mc) (ns : List Nd) (plan : List Int) : Int :=
  if (plan.length : Int) ≠ ns.length then 3 else thenL (pErr ms plan ns) (full plan ms 0)
def allErr (ms : List Mc) (ns : List Nd) (plan : List Int) : Int := thenL (bothErr ms ns) (planErr ms ns plan)
/-- The elements of a plan. -/
def Idx (ms : List Mc) (plan : List Int) : Prop := ∀ k ∈ plan, 0 ≤ k ∧ k < (ms.length : Int)
theorem pErr_ok (ms : List Mc) : ∀ (ps : List Int) (ns : List Nd), ps.length ≤ ns.length → pErr ms ps ns = 0 → Idx ms ps
  | [], _, _, _ => fun k hk => by simp at hk
  | k :: ps, [], hl, _ => by simp at hl
  | k :: ps, n :: ns, hl, h => by
    rw [pErr] at h
    split at h
    · cases h
    split at h
    · cases h
    rename_i h1 h2
    unfold inR at h1
    simp at h1
    intro q hq
    rcases List.mem_cons.mp hq with rfl | hq
    · omega
    · exact pErr_ok ms ps ns (by simpa using hl) h q hq
theorem pErr_drop {ms : List Mc} {ps : List Int} {ns : List Nd} {t : Nat} (h1 : t < ps.length) (h2 : t < ns.length) :
    pErr ms (ps.drop t) (ns.drop t) = if inR ps[t] 0 ((ms.length : Int) - 1) = false then 8 else if has (mcA ms ps[t].toNat).can ns[t].part = false then 4 else pErr ms (ps.drop (t + 1)) (ns.drop (t + 1)) := by
  rw [drop_at ps h1, drop_at ns h2, pErr]
theorem full_drop {plan : List Int} {ms : List Mc} {k : Nat} (h : k < ms.length) : full plan (ms.drop k) k = if ms[k].feed < (plan.count (k : Int) : Int) then 12 else full plan (ms.drop (k + 1)) (k + 1) := by
  rw [drop_at ms h, full]

/-! ### Cycles -/
def cyS (each k : Int) : List Int → List Nd → Int
  | p :: ps, n :: ns => (if p = k then each * n.many else 0) + cyS each k ps ns
  | _, _ => 0
theorem cyS_take (each k : Int) : ∀ (ps : List Int) (ns : List Nd) (t : Nat) (h1 : t < ps.length) (h2 : t < ns.length),
    cyS each k (ps.take (t + 1)) ns = cyS each k (ps.take t) ns + (if ps[t] = k then each * ns[t].many else 0)
  | p :: ps, n :: ns, 0, _, _ => by simp [cyS]
  | p :: ps, n :: ns, t + 1, h1, h2 => by
    rw [List.take_succ_cons, List.take_succ_cons, cyS, cyS, cyS_take each k ps ns t (by simpa using h1) (by simpa using h2)]
    simp only [List.getElem_cons_succ]
    omega
theorem cyS_bound (each k : Int) (he : 0 ≤ each ∧ each ≤ 10000000) : ∀ (ps : List Int) (ns : List Nd), (∀ n ∈ ns, 1 ≤ n.many ∧ n.many ≤ 1000) → 0 ≤ cyS each k ps ns ∧ cyS each k ps ns ≤ (ns.length : Int) * 10000000000
  | [], ns, _ => by
    simp only [cyS]
    omega
  | p :: ps, [], _ => by simp [cyS]
  | p :: ps, n :: ns, h => by
    have ih := cyS_bound each k he ps ns (fun m hm => h m (List.mem_cons_of_mem _ hm))
    have hn := h n (by simp)
    have h1 : 0 ≤ each * n.many := Int.mul_nonneg he.1 (by omega)
    have h2 : each * n.many ≤ 10000000 * 1000 := Int.mul_le_mul he.2 hn.2 (by omega) (by omega)
    rw [cyS, List.length_cons]
    split <;> omega
def cyOf (m : Mc) (k : Int) (plan : List Int) (ns : List Nd) : Int := m.fixed + cyS m.each k plan ns
theorem cyOf_bound {m : Mc} (hm : McOk m) (k : Int) (plan : List Int) {ns : List Nd} (hn : NsOk ns) : 0 ≤ cyOf m k plan ns ∧ cyOf m k plan ns ≤ 10010000000000 := by
  have h := cyS_bound m.each k hm.each plan ns hn.many
  have := hn.few
  have := hm.fixed
  unfold cyOf
  omega
def cyL (ms : List Mc) (ns : List Nd) (plan : List Int) : List Int := ms.mapIdx fun k m => cyOf m k plan ns
theorem cyL_len (ms : List Mc) (ns : List Nd) (plan : List Int) : (cyL ms ns plan).length = ms.length := by unfold cyL; rw [List.length_mapIdx]
theorem cyL_at (ms : List Mc) (ns : List Nd) (plan : List Int) {k : Nat} (h : k < ms.length) : (cyL ms ns plan)[k]'(by rw [cyL_len]; exact h) = cyOf ms[k] k plan ns := by
  unfold cyL
  rw [List.getElem_mapIdx]
/-- The loads: cycles, and how many parts. -/
def ldL (ms : List Mc) (ns : List Nd) (plan : List Int) : List (Int × Int) := ms.mapIdx fun k m => (cyOf m k plan ns, (plan.count (k : Int) : Int))
theorem ldL_len (ms : List Mc) (ns : List Nd) (plan : List Int) : (ldL ms ns plan).length = ms.length := by unfold ldL; rw [List.length_mapIdx]
theorem ldL_at (ms : List Mc) (ns : List Nd) (plan : List Int) {k : Nat} (h : k < ms.length) : (ldL ms ns plan)[k]'(by rw [ldL_len]; exact h) = (cyOf ms[k] k plan ns, (plan.count (k : Int) : Int)) := by
  unfold ldL
  rw [List.getElem_mapIdx]
theorem ldL_fst (ms : List Mc) (ns : List Nd) (plan : List Int) : (ldL ms ns plan).map Prod.fst = cyL ms ns plan := by
  refine List.ext_getElem (by rw [List.length_map, ldL_len, cyL_len]) fun k h1 h2 => ?_
  have hk : k < ms.length := by rw [cyL_len] at h2; exact h2
  rw [List.getElem_map, ldL_at _ _ _ hk, cyL_at _ _ _ hk]
theorem ldL_step {ms : List Mc} {ns : List Nd} {plan : List Int} {t : Nat} (h1 : t < plan.length) (h2 : t < ns.length) {p : Nat} (hp : plan[t] = (p : Int)) (hm : p < ms.length) :
    ldL ms ns (plan.take (t + 1)) = (ldL ms ns (plan.take t)).set p (cyOf ms[p] p (plan.take t) ns + ms[p].each * ns[t].many, ((plan.take t).count (p : Int) : Int) + 1) := by
  refine List.ext_getElem (by rw [List.length_set, ldL_len, ldL_len]) fun k hk1 hk2 => ?_
  have hk : k < ms.length := by rw [ldL_len] at hk1; exact hk1
  rw [List.getElem_set, ldL_at _ _ _ hk, ldL_at _ _ _ hk]
  have hc : (plan.take (t + 1)).count (k : Int) = (plan.take t).count (k : Int) + if plan[t] = (k : Int) then 1 else 0 := by
    rw [List.take_succ_eq_append_getElem h1, List.count_append, List.count_singleton]
    congr 1
    by_cases e : plan[t] = (k : Int)
    · rw [if_pos e, e]; simp
    · rw [if_neg e]
      simp [e]
  unfold cyOf
  rw [cyS_take _ _ plan ns t h1 h2, hc, hp]
  by_cases e : p = k
  · subst e
    rw [if_pos rfl, if_pos rfl, if_pos rfl]
    simp only [Prod.mk.injEq]
    omega
  · rw [if_neg e, if_neg (by omega), if_neg (by omega)]
    simp only [Prod.mk.injEq]
    omega

/-! ### The slowest machine -/
def slI (c : List Int) : Nat → Nat
  | 0 => 0
  | k + 1 => if c.getD (slI c k) 0 < c.getD k 0 then k else slI c k
theorem slI_spec (c : List Int) : ∀ k, (k = 0 → slI c k = 0) ∧ (0 < k → slI c k < k) ∧ (∀ j, j < k → c.getD j 0 ≤ c.getD (slI c k) 0) ∧ (∀ j, j < slI c k → c.getD j 0 < c.getD (slI c k) 0)
  | 0 => ⟨fun _ => rfl, fun h => by omega, fun j h => by omega, fun j h => by simp [slI] at h⟩
  | k + 1 => by
    obtain ⟨h0, h1, h2, h3⟩ := slI_spec c k
    refine ⟨fun h => by omega, fun _ => ?_, ?_, ?_⟩
    · rw [slI]; split
      · omega
      · rcases Nat.eq_zero_or_pos k with e | e
        · rw [h0 e]; omega
        · have := h1 e; omega
    · intro j hj
      rw [slI]
      split
      · rename_i hlt
        rcases Nat.lt_or_ge j k with h | h
        · have := h2 j h; omega
        · rw [show j = k from by omega]; omega
      · rename_i hlt
        rcases Nat.lt_or_ge j k with h | h
        · exact h2 j h
        · rw [show j = k from by omega]; omega
    · intro j hj
      rw [slI] at hj ⊢
      split
      · rename_i hlt
        rw [if_pos hlt] at hj
        have := h2 j hj; omega
      · rename_i hlt
        rw [if_neg hlt] at hj
        exact h3 j hj
def slow (c : List Int) : Nat := slI c c.length
def slowC (c : List Int) : Int := c.getD (slow c) 0
theorem slow_lt {c : List Int} (h : 0 < c.length) : slow c < c.length := (slI_spec c c.length).2.1 h
theorem slow_max {c : List Int} (h : 0 < c.length) : Lib.maxOf c = slowC c := by
  have hs := slow_lt h
  obtain ⟨_, _, h2, _⟩ := slI_spec c c.length
  have hm : slowC c = c[slow c] := by unfold slowC; rw [List.getD_eq_getElem?_getD, List.getElem?_eq_getElem hs]; rfl
  have key : ∀ (l : List Int) (a : Int), (∀ x ∈ l, x ≤ l.foldl max a) ∧ a ≤ l.foldl max a ∧ (l.foldl max a = a ∨ l.foldl max a ∈ l) := by
    intro l
    induction l with
    | nil => intro a; simp
    | cons x l ih =>
      intro a
      obtain ⟨i1, i2, i3⟩ := ih (max a x)
      rw [List.foldl_cons]
      refine ⟨fun y hy => ?_, by omega, ?_⟩
      · rcases List.mem_cons.mp hy with rfl | hy
        · omega
        · exact i1 y hy
      · rcases i3 with i3 | i3
        · rcases Int.le_total a x with e | e
          · right; rw [i3, Int.max_eq_right e]; simp
          · left; rw [i3, Int.max_eq_left e]
        · right; exact List.mem_cons_of_mem _ i3
  obtain ⟨k1, k2, k3⟩ := key c (c.headD 0)
  have hh : c.headD 0 ∈ c := by
    cases c with
    | nil => simp at h
    | cons x c => simp
  have hmem : Lib.maxOf c ∈ c := by
    rcases k3 with e | e
    · unfold Lib.maxOf; rw [e]; exact hh
    · exact e
  have hle : slowC c ≤ Lib.maxOf c := by rw [hm]; exact k1 _ (List.getElem_mem hs)
  obtain ⟨j, hj, e⟩ := List.getElem_of_mem hmem
  have := h2 j hj
  rw [List.getD_eq_getElem?_getD, List.getElem?_eq_getElem hj] at this
  simp only [Option.getD_some] at this
  rw [e] at this
  have : Lib.maxOf c ≤ slowC c := this
  omega
theorem slow_first {c : List Int} (h : 0 < c.length) (j : Nat) (hj : j < slow c) : c.getD j 0 ≠ slowC c := by
  have := (slI_spec c c.length).2.2.2 j hj
  unfold slowC slow
  omega

/-! ### A better plan -/
def okAt (ms : List Mc) (ns : List Nd) (plan : List Int) (i k : Nat) : Bool :=
  decide (plan.getD i 0 ≠ (k : Int)) && (decide ((plan.count (k : Int) : Int) < (mcA ms k).feed) && has (mcA ms k).can (ndA ns i).part)
def thenC (ms : List Mc) (ns : List Nd) (plan : List Int) (i k : Nat) : Int := slowC (cyL ms ns (plan.set i k))
def nowC (ms : List Mc) (ns : List Nd) (plan : List Int) : Int := slowC (cyL ms ns plan)
/-- The best machine for need i, of the first k. -/
def bst (ms : List Mc) (ns : List Nd) (plan : List Int) (i : Nat) : Nat → Option Nat × Int
  | 0 => (none, nowC ms ns plan)
  | k + 1 => if okAt ms ns plan i k = true ∧ thenC ms ns plan i k < (bst ms ns plan i k).2 then (some k, thenC ms ns plan i k) else bst ms ns plan i k
theorem bst_none (ms : List Mc) (ns : List Nd) (plan : List Int) (i : Nat) : ∀ k, (bst ms ns plan i k).2 ≤ nowC ms ns plan ∧ ((bst ms ns plan i k).1 = none ↔ ¬ (bst ms ns plan i k).2 < nowC ms ns plan) ∧ (∀ q, (bst ms ns plan i k).1 = some q → q < k)
  | 0 => by simp [bst]
  | k + 1 => by
    obtain ⟨h1, h2, h3⟩ := bst_none ms ns plan i k
    rw [bst]
    split
    · rename_i h
      refine ⟨by dsimp only; omega, ?_, fun q hq => ?_⟩
      · dsimp only
        constructor
        · intro e; cases e
        · intro e; omega
      · simp only [Option.some.injEq] at hq
        omega
    · exact ⟨h1, h2, fun q hq => by have := h3 q hq; omega⟩
/-- The first need from i on that goes better elsewhere. -/
def btr (ms : List Mc) (ns : List Nd) (plan : List Int) : Nat → Nat → Option (Nat × Nat)
  | 0, _ => none
  | n + 1, i => match (bst ms ns plan i ms.length).1 with
    | some k => some (i, k)
    | none => btr ms ns plan n (i + 1)
def btrL (ms : List Mc) (ns : List Nd) (plan : List Int) : Option (Nat × Nat) := btr ms ns plan plan.length 0
theorem btr_some {ms : List Mc} {ns : List Nd} {plan : List Int} {n i k : Nat} (h : (bst ms ns plan i ms.length).1 = some k) : btr ms ns plan (n + 1) i = some (i, k) := by rw [btr, h]
theorem btr_none {ms : List Mc} {ns : List Nd} {plan : List Int} {n i : Nat} (h : (bst ms ns plan i ms.length).1 = none) : btr ms ns plan (n + 1) i = btr ms ns plan n (i + 1) := by rw [btr, h]

/-- A plan with one element changed. -/
theorem pErr_set (ms : List Mc) (i k : Nat) (hk : k < ms.length) : ∀ (ps : List Int) (ns : List Nd) (_ : i < ps.length) (_ : ps.length = ns.length), pErr ms ps ns = 0 →
    pErr ms (ps.set i k) ns = if has (mcA ms k).can (ndA ns i).part = false then 4 else 0 := by
  induction i with
  | zero =>
    intro ps ns h1 h2 h
    rcases ps with _ | ⟨p, ps⟩
    · simp at h1
    rcases ns with _ | ⟨n, ns⟩
    · simp at h2
    rw [pErr] at h
    split at h
    · cases h
    split at h
    · cases h
    rw [List.set_cons_zero, pErr, if_neg (by unfold inR; simp; omega), h]
    rfl
  | succ i ih =>
    intro ps ns h1 h2 h
    rcases ps with _ | ⟨p, ps⟩
    · simp at h1
    rcases ns with _ | ⟨n, ns⟩
    · simp at h2
    rw [pErr] at h
    split at h
    · cases h
    split at h
    · cases h
    rename_i h3 h4
    rw [List.set_cons_succ, pErr, if_neg h3, if_neg h4, ih ps ns (by simpa using h1) (by simpa using h2) h]
    rfl
theorem full_iff {plan : List Int} : ∀ {l : List Mc} {k : Nat}, full plan l k = 0 ↔ ∀ j (hj : j < l.length), ((plan.count ((k + j : Nat) : Int) : Nat) : Int) ≤ l[j].feed
  | [], k => by simp [full]
  | m :: r, k => by
    rw [full]
    constructor
    · intro h j hj
      split at h
      · cases h
      rename_i h0
      cases j with
      | zero => simpa using h0
      | succ j =>
        have := full_iff.mp h j (by simpa using hj)
        rw [List.getElem_cons_succ, show k + (j + 1) = k + 1 + j from by omega]
        exact this
    · intro h
      have h0 := h 0 (by simp)
      rw [if_neg (by simpa using h0)]
      refine full_iff.mpr fun j hj => ?_
      have := h (j + 1) (by simpa using hj)
      rw [List.getElem_cons_succ, show k + (j + 1) = k + 1 + j from by omega] at this
      exact this
theorem full_cases {plan : List Int} : ∀ (l : List Mc) (k : Nat), full plan l k = 0 ∨ full plan l k = 12
  | [], k => .inl rfl
  | m :: r, k => by
    rw [full]
    split
    · exact .inr rfl
    · exact full_cases r (k + 1)
theorem count_set {plan : List Int} {i : Nat} (hi : i < plan.length) (x y : Int) : ((plan.set i x).count y : Int) = (plan.count y : Int) - (if plan[i] = y then 1 else 0) + (if x = y then 1 else 0) := by
  have e1 : plan = plan.take i ++ plan[i] :: plan.drop (i + 1) := by rw [← drop_at plan hi, List.take_append_drop]
  have e2 : plan.set i x = plan.take i ++ x :: plan.drop (i + 1) := by rw [List.set_eq_take_append_cons_drop, if_pos hi]
  have c1 : plan.count y = (plan.take i).count y + ((if plan[i] = y then 1 else 0) + (plan.drop (i + 1)).count y) := by
    conv => lhs; rw [e1]
    rw [List.count_append, List.count_cons]
    by_cases e : plan[i] = y
    · simp [e]; omega
    · simp [e]
  have c2 : (plan.set i x).count y = (plan.take i).count y + ((if x = y then 1 else 0) + (plan.drop (i + 1)).count y) := by
    rw [e2, List.count_append, List.count_cons]
    by_cases e : x = y
    · simp [e]; omega
    · simp [e]
  rw [c1, c2]
  by_cases e : plan[i] = y <;> by_cases e' : x = y <;> simp [e, e'] <;> omega
/-- The reference asks for a plan without errors, the program for room on the other machine. -/
theorem ok_iff {ms : List Mc} {ns : List Nd} {plan : List Int} (h : planErr ms ns plan = 0) {i k : Nat} (hi : i < plan.length) (hk : k < ms.length) (hne : plan[i] ≠ (k : Int)) :
    (planErr ms ns (plan.set i k) = 0) ↔ okAt ms ns plan i k = true := by
  unfold planErr at h
  by_cases hl : (plan.length : Int) ≠ ns.length
  · rw [if_pos hl] at h; cases h
  rw [if_neg hl] at h
  have hp : pErr ms plan ns = 0 := by
    unfold thenL at h; split at h
    · assumption
    · exact h
  have hf : full plan ms 0 = 0 := by unfold thenL at h; rw [if_pos hp] at h; exact h
  unfold planErr
  rw [if_neg (by rw [List.length_set]; exact hl), pErr_set ms i k hk plan ns hi (by omega) hp]
  unfold okAt
  have hg : plan.getD i 0 = plan[i] := by rw [List.getD_eq_getElem?_getD, List.getElem?_eq_getElem hi]; rfl
  rw [hg, decide_eq_true hne, Bool.true_and]
  cases hc : has (mcA ms k).can (ndA ns i).part
  · rw [if_pos rfl, Bool.and_false]
    simp [thenL]
  · rw [if_neg (by simp), Bool.and_true, decide_eq_true_iff]
    unfold thenL
    rw [if_pos rfl]
    rw [full_iff] at hf ⊢
    constructor
    · intro hh
      have := hh k hk
      rw [Nat.zero_add, count_set hi] at this
      rw [if_neg hne, if_pos rfl] at this
      rw [mcA_at hk]
      omega
    · intro hh j hj
      rw [mcA_at hk] at hh
      have := hf j hj
      rw [Nat.zero_add] at this ⊢
      rw [count_set hi]
      by_cases e : k = j
      · subst e
        rw [if_neg hne, if_pos rfl]
        omega
      · rw [if_neg (show ¬ (k : Int) = (j : Int) by omega)]
        split <;> omega
theorem set_self {plan : List Int} {i : Nat} (hi : i < plan.length) {k : Int} (h : plan[i] = k) : plan.set i k = plan := by
  subst h
  exact List.set_getElem_self hi
end Go.Proofs.Ytjmjmijjdgolfaa
