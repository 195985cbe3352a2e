/-
  A region that draws its order, proved operation by operation: each operation is run once, under what the operations that it waits for have left.
-/
import Derived.Orders
import Derived.Tactics
namespace Go.Proofs.YtmjonmoagpkdiabGreatDoor.Rg
open Go

section
variable {P : Program} {ops : Array Oper} {Q : Exit → Act → World → Prop}

/-- The temporary that operation j writes. -/
def dstOf (ops : Array Oper) (j : Nat) : Option Tmp := (ops[j]?).bind (·.dst)

/-- Put the values of some operations into their temporaries. -/
def puts (ops : Array Oper) (vs : Nat → Value) : List Nat → Act → Act
  | [], a => a
  | j :: r, a => (puts ops vs r a).put (dstOf ops j) (vs j)

/-- Each row of the table says what its operation waits for: nothing stands in it without cause, and all in it come before. -/
def closedB (ops : Array Oper) (tab : List (List Nat)) : Bool :=
  (List.range ops.size).all fun i =>
    match ops[i]? with
    | none => true
    | some o =>
      (tab.getD i []).all (fun j => o.after.any (fun e => Region.binds .any e && (e.on == j || (tab.getD e.on []).contains j))) &&
      o.after.all (fun e => !Region.binds .any e || decide (e.on < i))

/-- Each operation has a temporary of its own; what an operation looks at is written by nobody, by one that it waits for, or by one that waits for it. -/
def cleanB (ops : Array Oper) (tab : List (List Nat)) (size : Nat) : Bool :=
  (List.range ops.size).all fun i =>
    match ops[i]? with
    | none => true
    | some o =>
      (match o.op with | .select .. => false | _ => true) &&
      (match o.dst with | some d => decide (d < size) | none => true) &&
      (List.range ops.size).all fun j =>
        match dstOf ops j with
        | none => true
        | some d =>
          (decide (i = j) || o.dst != some d) &&
          (!(o.looksAt ops).contains d || (tab.getD i []).contains j || (tab.getD j []).contains i || decide (i = j))

/-- From m on each operation waits for all that stand before it. -/
def tailB (ops : Array Oper) (tab : List (List Nat)) (m : Nat) : Bool :=
  (List.range ops.size).all fun i => decide (i < m) || (List.range i).all fun j => (tab.getD i []).contains j

/-- The block that a value made by an operation of its own points into. -/
def blockOf : Value → Option Nat
  | .pointer (some a) => some a.block
  | .slice (some a) _ _ => some a.block
  | _ => none

/-- What the operations of a list have made lies in blocks of their own, from base on. -/
def Fresh (news : List Nat) (base : Nat) (vs : Nat → Value) (row : List Nat) (w : World) : Prop :=
  (∀ j ∈ row, j ∈ news → ∃ b, blockOf (vs j) = some b ∧ base ≤ b ∧ b < w.heap.size) ∧
  (∀ j ∈ row, ∀ k ∈ row, j ∈ news → k ∈ news → j ≠ k → blockOf (vs j) ≠ blockOf (vs k))

/-- vs, but v at i. -/
def upd (vs : Nat → Value) (i : Nat) (v : Value) : Nat → Value := fun j => if j = i then v else vs j

/-- What is asked of operation i. -/
def StepOK (P : Program) (ops : Array Oper) (R : Nat → World → World → Prop) (G : World → World → Prop) (T : (Nat → Value) → Nat → World → Prop) (news : List Nat) (I : Nat → World → Prop) (a0 : Act) (w0 : World) (row : List Nat) (i : Nat) (o : Oper) : Prop :=
  ∀ (vs : Nat → Value) (w : World) (n : Nat), n < ops.size → I n w → G w0 w → (∀ j ∈ row, T vs j w) → Fresh news w0.heap.size vs row w → ∀ K : Act → World → Prop,
    (∀ v w', R i w w' → T (upd vs i v) i w' → (i ∈ news → ∃ b, blockOf v = some b ∧ w.heap.size ≤ b ∧ b < w'.heap.size) → I (n + 1) w' → K ((puts ops vs row a0).put o.dst v) w') →
    if Region.wanted o (yielded ops (puts ops vs row a0).tmps) = true then o.wp P (puts ops vs row a0) w K (fun _ _ _ => False)
    else K ((puts ops vs row a0).put o.dst undef) w

/-- How many operations have not come up. -/
def unl (ops : Array Oper) (D : Array Bool) : Nat := ((List.range ops.size).filter fun i => !D.getD i true).length

/-- The state behind the operations in D. -/
def St (ops : Array Oper) (G : World → World → Prop) (T : (Nat → Value) → Nat → World → Prop) (news : List Nat) (I : Nat → World → Prop) (a0 : Act) (w0 : World) (D : Array Bool) (a : Act) (w : World) : Prop :=
  ∃ vs : Nat → Value, G w0 w ∧ I (ops.size - unl ops D) w ∧ (∀ j, D.getD j false = true → j ∈ news → ∃ b, blockOf (vs j) = some b ∧ w0.heap.size ≤ b ∧ b < w.heap.size) ∧
    (∀ j k, D.getD j false = true → D.getD k false = true → j ∈ news → k ∈ news → j ≠ k → blockOf (vs j) ≠ blockOf (vs k)) ∧ a.defers = a0.defers ∧ a.tmps.size = a0.tmps.size ∧
    (∀ t, (∀ j, D.getD j false = true → dstOf ops j ≠ some t) → a.tmps[t]? = a0.tmps[t]?) ∧
    (∀ j, D.getD j false = true → ∀ d, dstOf ops j = some d → a.tmps[d]? = some (vs j)) ∧
    ∀ j, D.getD j false = true → T vs j w

theorem puts_size (vs : Nat → Value) (a : Act) : ∀ l, (puts ops vs l a).tmps.size = a.tmps.size
  | [] => rfl
  | j :: r => by
    have := puts_size vs a r
    cases h : dstOf ops j <;> simp [puts, h, Act.put, this]
theorem puts_defers (vs : Nat → Value) (a : Act) : ∀ l, (puts ops vs l a).defers = a.defers
  | [] => rfl
  | j :: r => by
    have := puts_defers vs a r
    cases h : dstOf ops j <;> simp [puts, h, Act.put, this]
theorem puts_far (vs : Nat → Value) (a : Act) (t : Tmp) : ∀ l, (∀ j ∈ l, dstOf ops j ≠ some t) → (puts ops vs l a).tmps[t]? = a.tmps[t]?
  | [], _ => rfl
  | j :: r, h => by
    have ih := puts_far vs a t r fun k hk => h k (by simp [hk])
    have hj := h j (by simp)
    cases hd : dstOf ops j with
    | none => simpa [puts, hd, Act.put] using ih
    | some d =>
      have hne : d ≠ t := fun e => hj (by rw [hd, e])
      simp only [puts, hd, Act.put, Array.getElem?_setIfInBounds_ne hne]
      exact ih
theorem puts_at (vs : Nat → Value) (a : Act) (t : Tmp) (ht : t < a.tmps.size) (k : Nat) (hk : dstOf ops k = some t) :
    ∀ l, (∀ j ∈ l, dstOf ops j = some t → j = k) → k ∈ l → (puts ops vs l a).tmps[t]? = some (vs k)
  | [], _, hm => by cases hm
  | j :: r, h, hm => by
    by_cases hj : dstOf ops j = some t
    · have := h j (by simp) hj
      subst this
      simp [puts, hk, Act.put, puts_size, ht]
    · have hm' : k ∈ r := by
        rcases List.mem_cons.1 hm with e | e
        · exact absurd (e ▸ hk) hj
        · exact e
      have ih := puts_at vs a t ht k hk r (fun i hi => h i (by simp [hi])) hm'
      cases hd : dstOf ops j with
      | none => simpa [puts, hd, Act.put] using ih
      | some d =>
        have hne : d ≠ t := fun e => hj (by rw [hd, e])
        simp only [puts, hd, Act.put, Array.getElem?_setIfInBounds_ne hne]
        exact ih

theorem wp_transfer {o : Oper} {a b : Act} {w : World} {K Kb : Act → World → Prop} (he : execOp a.eval o = execOp b.eval o)
    (hK : ∀ v w', K (a.put o.dst v) w' → Kb (b.put o.dst v) w') (hdef : ∀ d w', ¬ K ({ a with defers := d :: a.defers }.put o.dst undef) w')
    (h : o.wp P a w K (fun _ _ _ => False)) : o.wp P b w Kb Q := by
  unfold Oper.wp at *
  rw [← he]
  generalize (execOp a.eval o).run P w = r at *
  cases r with
  | ok n w' =>
    cases n <;> simp only [Oper.upon] at h ⊢
    case value u => exact hK _ _ h
    case skip => exact hK _ _ h
    case defer d => exact absurd h (hdef _ _)
    case enter f args =>
      refine Calls.mono h fun e w'' he => ?_
      cases e with
      | returned u => exact hK _ _ he
      | panicked c => exact he.elim
      | outgrown => obtain ⟨_, _, hf⟩ := he; exact hf.elim
    case row row args => exact Rows.mono h fun u w'' he => hK _ _ he
  | halt x w' =>
    cases x <;> simp only [Oper.upon] at h ⊢

theorem wanted_congr {o : Oper} {a b : Act} (h : ∀ t ∈ o.looksAt ops, a.tmps[t]? = b.tmps[t]?) :
    Region.wanted o (yielded ops a.tmps) = Region.wanted o (yielded ops b.tmps) := by
  unfold Region.wanted
  cases hg : o.guard with
  | none => rfl
  | some gw =>
    obtain ⟨g, want⟩ := gw
    have hy : yielded ops a.tmps g = yielded ops b.tmps g := by
      unfold yielded
      cases ht : (ops[g]?).bind (·.dst) with
      | none => rfl
      | some t =>
        have := h t (by simp [Oper.looksAt, hg, ht])
        simp [this]
    simp only [hy]

theorem exec_congr {o : Oper} {a b : Act} (hs : ∀ cs b, o.op ≠ .select cs b) (h : ∀ t ∈ o.looksAt ops, a.tmps[t]? = b.tmps[t]?) : execOp a.eval o = execOp b.eval o :=
  execOp_congr o hs fun x hx => by
    cases x with
    | tmp t =>
      have := h t (List.mem_append_left _ (List.mem_filterMap.2 ⟨.tmp t, by simpa using hx, rfl⟩))
      simp [Act.eval, this]
    | _ => rfl

theorem closed_spec {tab : List (List Nat)} (hc : closedB ops tab = true) {i : Nat} {o : Oper} (ho : ops[i]? = some o) :
    (∀ j ∈ tab.getD i [], ∃ e ∈ o.after, Region.binds .any e = true ∧ (e.on = j ∨ j ∈ tab.getD e.on [])) ∧
    ∀ e ∈ o.after, Region.binds .any e = true → e.on < i := by
  have hlt : i < ops.size := (Array.getElem?_eq_some_iff.1 ho).1
  have h := (List.all_eq_true.1 hc) i (List.mem_range.2 hlt)
  simp only [ho, Bool.and_eq_true] at h
  obtain ⟨h1, h2⟩ := h
  constructor
  · intro j hj
    have := (List.all_eq_true.1 h1) j hj
    obtain ⟨e, he, hb⟩ := Array.any_eq_true'.1 this
    simp only [Bool.and_eq_true, Bool.or_eq_true, beq_iff_eq, List.contains_iff_mem] at hb
    exact ⟨e, he, hb.1, hb.2⟩
  · intro e he hb
    have := (Array.all_eq_true_iff_forall_mem.1 h2) e he
    simpa [hb] using this

theorem clean_spec {tab : List (List Nat)} {size : Nat} (hc : cleanB ops tab size = true) {i : Nat} {o : Oper} (ho : ops[i]? = some o) :
    (∀ cs b, o.op ≠ .select cs b) ∧ (∀ d, o.dst = some d → d < size) ∧
    (∀ j d, dstOf ops j = some d → (i ≠ j → o.dst ≠ some d) ∧ (d ∈ o.looksAt ops → j ∈ tab.getD i [] ∨ i ∈ tab.getD j [] ∨ i = j)) := by
  have hlt : i < ops.size := (Array.getElem?_eq_some_iff.1 ho).1
  have h := (List.all_eq_true.1 hc) i (List.mem_range.2 hlt)
  simp only [ho, Bool.and_eq_true] at h
  obtain ⟨⟨h1, h2⟩, h3⟩ := h
  refine ⟨fun cs b e => by rw [e] at h1; simp at h1, fun d hd => by rw [hd] at h2; simpa using h2, fun j d hd => ?_⟩
  have hj : j < ops.size := by
    rcases Nat.lt_or_ge j ops.size with hh | hh
    · exact hh
    · simp [dstOf, Array.getElem?_eq_none hh] at hd
  have := (List.all_eq_true.1 h3) j (List.mem_range.2 hj)
  simp only [hd, Bool.and_eq_true, Bool.or_eq_true, decide_eq_true_eq, bne_iff_ne, ne_eq, Bool.not_eq_true', List.contains_iff_mem] at this
  obtain ⟨h4, h5⟩ := this
  constructor
  · intro hij
    exact h4.resolve_left hij
  · intro hm
    rcases h5 with ((h5 | h5) | h5) | h5
    · rw [← Bool.not_eq_true, List.contains_iff_mem] at h5
      exact absurd hm h5
    · exact .inl h5
    · exact .inr (.inl h5)
    · exact .inr (.inr h5)

theorem filter_lt {l : List Nat} {p q : Nat → Bool} (hpq : ∀ x, p x = true → q x = true) {i : Nat} (hi : i ∈ l) (hq : q i = true) (hp : p i = false) :
    (l.filter p).length < (l.filter q).length := by
  induction l with
  | nil => cases hi
  | cons x l ih =>
    have hle : ∀ l : List Nat, (l.filter p).length ≤ (l.filter q).length := by
      intro l
      induction l with
      | nil => simp
      | cons y l ih =>
        rw [List.filter_cons, List.filter_cons]
        cases h1 : p y
        · cases h2 : q y <;> simp <;> omega
        · simp [hpq y h1]; omega
    rw [List.filter_cons, List.filter_cons]
    rcases List.mem_cons.1 hi with e | e
    · subst e
      have := hle l
      simp [hq, hp]; omega
    · have := ih e
      cases h1 : p x
      · cases h2 : q x <;> simp <;> omega
      · simp [hpq x h1]; omega

theorem row_lt {tab : List (List Nat)} (hc : closedB ops tab = true) {i j : Nat} (o : Oper) (ho : ops[i]? = some o) (h : j ∈ tab.getD i []) : j < i := by
  have aux : ∀ n i, i < n → ∀ o, ops[i]? = some o → ∀ j, j ∈ tab.getD i [] → j < i := by
    intro n
    induction n with
    | zero => intro i hi; omega
    | succ n ih =>
      intro i hi o ho j hj
      obtain ⟨e, he, hb, hor⟩ := (closed_spec hc ho).1 j hj
      have h1 := (closed_spec hc ho).2 e he hb
      rcases hor with h | h
      · omega
      · have hlt : i < ops.size := (Array.getElem?_eq_some_iff.1 ho).1
        have h2 := ih e.on (by omega) ops[e.on] (Array.getElem?_eq_getElem (by omega)) j h
        omega
  exact aux (i + 1) i (by omega) o ho j h

theorem nodup_len : ∀ (l k : List Nat), l.Nodup → (∀ x ∈ l, x ∈ k) → l.length ≤ k.length
  | [], _, _, _ => by simp
  | x :: l, k, hn, hs => by
    rw [List.nodup_cons] at hn
    have hx := hs x (by simp)
    have h1 := nodup_len l (k.erase x) hn.2 (fun y hy => by
      have hyx : y ≠ x := fun e => hn.1 (e ▸ hy)
      exact (List.mem_erase_of_ne hyx).2 (hs y (by simp [hy])))
    have h2 := List.length_erase_of_mem hx
    have h3 := List.length_pos_of_mem hx
    simp only [List.length_cons]
    omega

theorem unl_ge {m : Nat} {D : Array Bool} (_hm : m ≤ ops.size) (hD : D.size = ops.size) (hnone : ∀ i, m ≤ i → D.getD i false = false) : ops.size - m ≤ unl ops D := by
  have := nodup_len (List.range' m (ops.size - m)) ((List.range ops.size).filter fun i => !D.getD i true) (List.nodup_range' ..) (fun x hx => by
    rw [List.mem_range'_1] at hx
    refine List.mem_filter.2 ⟨List.mem_range.2 (by omega), ?_⟩
    have hxs : x < D.size := by omega
    have := hnone x hx.1
    simpa [hxs] using this)
  simpa [unl] using this
theorem unl_eq {m : Nat} {D : Array Bool} (hm : m ≤ ops.size) (hD : D.size = ops.size) (hnone : ∀ i, m ≤ i → D.getD i false = false) (hlo : ∀ j, j < m → D.getD j false = true) : unl ops D = ops.size - m := by
  have h1 := unl_ge (ops := ops) hm hD hnone
  have h2 := nodup_len ((List.range ops.size).filter fun i => !D.getD i true) (List.range' m (ops.size - m)) (List.nodup_range.filter _) (fun x hx => by
    obtain ⟨hx1, hx2⟩ := List.mem_filter.1 hx
    have hxl := List.mem_range.1 hx1
    rw [List.mem_range'_1]
    rcases Nat.lt_or_ge x m with h | h
    · have := hlo x h
      have hxs : x < D.size := by omega
      simp [hxs] at this hx2
      rw [hx2] at this
      cases this
    · omega)
  unfold unl at *
  simp only [List.length_range'] at h2
  omega
theorem unl_set {D : Array Bool} {i : Nat} (hi : i < ops.size) (hD : D.size = ops.size) (hDi : D.getD i false = false) : unl ops D = unl ops (D.setIfInBounds i true) + 1 := by
  unfold unl
  have hp : ∀ x, x ∈ (List.range ops.size).filter (fun j => !(D.setIfInBounds i true).getD j true) ↔ x ∈ ((List.range ops.size).filter fun j => !D.getD j true) ∧ x ≠ i := by
    intro x
    rw [List.mem_filter, List.mem_filter, List.mem_range]
    by_cases hxi : x = i
    · subst hxi
      have : x < D.size := by omega
      simp [this]
    · rw [getD_set_ne true (Ne.symm hxi)]
      simp [hxi]
  have hmem : i ∈ (List.range ops.size).filter fun j => !D.getD j true := List.mem_filter.2 ⟨List.mem_range.2 hi, by
    have : i < D.size := by omega
    simpa [this] using hDi⟩
  have nd : ((List.range ops.size).filter fun j => !D.getD j true).Nodup := List.nodup_range.filter _
  have nd' : ((List.range ops.size).filter fun j => !(D.setIfInBounds i true).getD j true).Nodup := List.nodup_range.filter _
  have h2 := List.length_erase_of_mem hmem
  have h3 := List.length_pos_of_mem hmem
  have a1 := nodup_len _ (((List.range ops.size).filter fun j => !D.getD j true).erase i) nd' (fun x hx => (List.mem_erase_of_ne ((hp x).1 hx).2).2 ((hp x).1 hx).1)
  have a2 := nodup_len (((List.range ops.size).filter fun j => !D.getD j true).erase i) _ (nd.erase i) (fun x hx => (hp x).2 ⟨List.mem_of_mem_erase hx, fun e => by
    subst e
    exact (List.Nodup.not_mem_erase nd) hx⟩)
  omega

theorem wpAny_rg {R : Nat → World → World → Prop} {G : World → World → Prop} {T : (Nat → Value) → Nat → World → Prop} {tab : List (List Nat)} {news : List Nat} {I : Nat → World → Prop} {m : Nat} {a0 : Act} {w0 : World}
    (hm : m ≤ ops.size) (htrans : ∀ x y z, G x y → G y z → G x z) (hsize : ∀ x y, G x y → x.heap.size ≤ y.heap.size) (hRG : ∀ i x y, R i x y → G x y)
    (hst : ∀ vs j i w w', j < m → i < m → i ∉ tab.getD j [] → i ≠ j → T vs j w → R i w w' → T vs j w')
    (hloc : ∀ (vs vs' : Nat → Value) i w, i < m → vs i = vs' i → (∀ j ∈ tab.getD i [], vs j = vs' j) → T vs i w → T vs' i w)
    (hc : closedB ops tab = true) (hcl : cleanB ops tab a0.tmps.size = true) (htl : tailB ops tab m = true)
    (hstep : ∀ i o, i < m → ops[i]? = some o → StepOK P ops R G T news I a0 w0 (tab.getD i []) i o)
    (hend : ∀ (vs : Nat → Value) (w : World), G w0 w → I m w → (∀ j, j < m → T vs j w) → Fresh news w0.heap.size vs (List.range m) w →
      wpOps P ops Q (List.range' m (ops.size - m)) (puts ops vs (List.range m) a0) w) :
    ∀ (fuel : Nat) (D : Array Bool) (a : Act) (w : World), unl ops D = fuel → D.size = ops.size →
      (∀ i o, ops[i]? = some o → D.getD i false = true → ∀ j ∈ tab.getD i [], D.getD j false = true) →
      (∀ i, m ≤ i → D.getD i false = false) →
      St ops G T news I a0 w0 D a w → wpAny P .any ops Q fuel D a w := by
  -- the operations that wait for all before them come up one by one
  have tail : ∀ (n k : Nat) (D : Array Bool) (a : Act) (w : World), m ≤ k → k + n = ops.size → D.size = ops.size → (∀ i, i < k → D.getD i false = true) → (∀ i, k ≤ i → D.getD i false = false) →
      wpOps P ops Q (List.range' k n) a w → wpAny P .any ops Q n D a w := by
    intro n
    induction n with
    | zero =>
      intro k D a w hk hkn hD hlo hhi h
      have hr : Region.ready .any ops D = [] := by
        cases hr : Region.ready .any ops D with
        | nil => rfl
        | cons x xs =>
          have hx : x ∈ Region.ready .any ops D := by rw [hr]; simp
          obtain ⟨h0, o, ho, _⟩ := mem_ready.1 hx
          have hlt : x < ops.size := (Array.getElem?_eq_some_iff.1 ho).1
          have := hlo x (by omega)
          have hxs : x < D.size := by omega
          simp [hxs] at h0 this
          rw [h0] at this
          cases this
      exact ⟨hr, h⟩
    | succ n ih =>
      intro k D a w hk hkn hD hlo hhi h
      have hready : ∀ i, i ∈ Region.ready .any ops D → i = k := by
        intro i hi
        obtain ⟨h0, o, ho, hafter⟩ := mem_ready.1 hi
        have hlt : i < ops.size := (Array.getElem?_eq_some_iff.1 ho).1
        have hik : ¬ i < k := fun hh => by
          have := hlo i hh
          have hxs : i < D.size := by omega
          simp [hxs] at h0 this
          rw [h0] at this
          cases this
        rcases Nat.lt_or_ge k i with hh | hh
        · have ht := (List.all_eq_true.1 htl) i (List.mem_range.2 hlt)
          simp only [Bool.or_eq_true, decide_eq_true_eq] at ht
          rcases ht with ht | ht
          · omega
          · have hkr := (List.all_eq_true.1 ht) k (List.mem_range.2 hh)
            rw [List.contains_iff_mem] at hkr
            -- k is in the row of i: some listed operation leads to it
            have hcl2 : ∀ n j, j < n → j ≤ i → (∀ e ∈ (ops.getD j default).after, Region.binds .any e = true → D.getD e.on false = true) → k ∈ tab.getD j [] → False := by
              intro n
              induction n with
              | zero => intro j hj; omega
              | succ n ihn =>
                intro j hj hji hal hkj
                have hjs : j < ops.size := by omega
                have hoj : ops[j]? = some (ops.getD j default) := by simp [hjs]
                obtain ⟨e, he, hb, hor⟩ := (closed_spec hc hoj).1 k hkj
                have hDe := hal e he hb
                have hek : e.on < k := by
                  rcases Nat.lt_or_ge e.on k with h1 | h1
                  · exact h1
                  · rw [hhi e.on h1] at hDe; cases hDe
                rcases hor with h1 | h1
                · omega
                · have hes : e.on < ops.size := by omega
                  have hlt2 : k < e.on := by
                    have h2 := row_lt hc (ops.getD e.on default) (by simp [hes]) h1
                    exact h2
                  omega
            have ho' : ops.getD i default = o := by
              have h3 := (Array.getElem?_eq_some_iff.1 ho).2
              simp [hlt, h3]
            exact (hcl2 (i + 1) i (by omega) (Nat.le_refl _) (by rw [ho']; exact hafter) hkr).elim
        · omega
      have hks : k < ops.size := by omega
      refine ⟨fun hr => ?_, fun i hi => ?_⟩
      · have : k ∈ Region.ready .any ops D := mem_ready.2 ⟨by
          have hxs : k < D.size := by omega
          have := hhi k (Nat.le_refl _)
          simpa [hxs] using this, ops[k], Array.getElem?_eq_getElem hks, fun e he hb => hlo e.on ((closed_spec hc (Array.getElem?_eq_getElem hks)).2 e he hb)⟩
        rw [hr] at this
        cases this
      · have hik := hready i hi
        subst hik
        rw [List.range'_succ, wpOps_cons] at h
        refine wpOp_mono (fun a' w' h' => ih (i + 1) _ a' w' (by omega) (by omega) (by simpa using hD) (fun j hj => ?_) (fun j hj => ?_) h') h
        · by_cases hji : j = i
          · subst hji
            have : j < D.size := by omega
            simp [this]
          · exact getD_set_true (hlo j (by omega))
        · rw [getD_set_ne false (by omega)]
          exact hhi j (by omega)
  -- all that stand before m have come up
  have fin : ∀ (D : Array Bool) (a : Act) (w : World), unl ops D = ops.size - m → D.size = ops.size → (∀ j, j < m → D.getD j false = true) → (∀ i, m ≤ i → D.getD i false = false) → St ops G T news I a0 w0 D a w →
      wpAny P .any ops Q (ops.size - m) D a w := by
    intro D a w hun hD hall' hnone ⟨vs, hG, hI, hfr, hdis, hdef, hsz, hfar, hat, hT⟩
    have heq : a = puts ops vs (List.range m) a0 := by
      have htm : a.tmps = (puts ops vs (List.range m) a0).tmps := by
        refine Array.ext_getElem? fun t => ?_
        by_cases hw : ∃ j, j < m ∧ dstOf ops j = some t
        · obtain ⟨j, hj, hd⟩ := hw
          obtain ⟨o, ho⟩ : ∃ o, ops[j]? = some o := ⟨ops[j], Array.getElem?_eq_getElem (by omega)⟩
          have hd' : o.dst = some t := by simpa [dstOf, ho] using hd
          rw [hat j (hall' j hj) t hd, puts_at vs a0 t ((clean_spec hcl ho).2.1 t hd') j hd _ (fun k hk hkd => ?_) (List.mem_range.2 hj)]
          by_cases hkj : k = j
          · exact hkj
          · exact absurd hd' (((clean_spec hcl ho).2.2 k t hkd).1 (Ne.symm hkj))
        · rw [hfar t (fun j hDj hd => ?_), puts_far vs a0 t _ (fun j hj hd => hw ⟨j, List.mem_range.1 hj, hd⟩)]
          rcases Nat.lt_or_ge j m with h | h
          · exact hw ⟨j, h, hd⟩
          · rw [hnone j h] at hDj
            cases hDj
      have hdd : a.defers = (puts ops vs (List.range m) a0).defers := by rw [puts_defers, hdef]
      cases a
      cases hp : puts ops vs (List.range m) a0
      rw [hp] at htm hdd
      simp only at htm hdd
      rw [htm, hdd]
    refine tail (ops.size - m) m D a w (Nat.le_refl _) (by omega) hD (fun i hi => hall' i hi) hnone ?_
    rw [heq]
    exact hend vs w hG (by rw [hun, show ops.size - (ops.size - m) = m by omega] at hI; exact hI) (fun j hj => hT j (hall' j hj)) ⟨fun j hj hn => hfr j (hall' j (List.mem_range.1 hj)) hn, fun j hj k hk => hdis j k (hall' j (List.mem_range.1 hj)) (hall' k (List.mem_range.1 hk))⟩
  have hall : ∀ (D : Array Bool), unl ops D = ops.size - m → D.size = ops.size → (∀ i, m ≤ i → D.getD i false = false) → ∀ j, j < m → D.getD j false = true := by
    intro D hu hD hnone j hj
    cases hh : D.getD j false with
    | true => rfl
    | false =>
      have h1 : (List.range' m (ops.size - m)).length + 1 ≤ unl ops D := by
        have hsub : (j :: List.range' m (ops.size - m)).Nodup := by
          rw [List.nodup_cons]
          exact ⟨fun hm' => by rw [List.mem_range'_1] at hm'; omega, List.nodup_range' ..⟩
        have hin : ∀ x ∈ (j :: List.range' m (ops.size - m)), x ∈ (List.range ops.size).filter fun i => !D.getD i true := by
          intro x hx
          have hx' : x < ops.size ∧ D.getD x false = false := by
            rcases List.mem_cons.1 hx with e | e
            · subst e; exact ⟨by omega, hh⟩
            · rw [List.mem_range'_1] at e
              exact ⟨by omega, hnone x (by omega)⟩
          refine List.mem_filter.2 ⟨List.mem_range.2 hx'.1, ?_⟩
          have hxs : x < D.size := by omega
          have := hx'.2
          simpa [hxs] using this
        have := nodup_len _ _ hsub hin
        simpa [unl] using this
      simp at h1
      omega
  intro fuel
  induction fuel with
  | zero =>
    intro D a w hu hD hclo hnone hS
    have hms : m = ops.size := by
      have := unl_ge (ops := ops) hm hD hnone
      omega
    have := fin D a w (by omega) hD (hall D (by omega) hD hnone) hnone hS
    rwa [show ops.size - m = 0 by omega] at this
  | succ fuel ih =>
    intro D a w hu hD hclo hnone hS
    have hge := unl_ge (ops := ops) hm hD hnone
    by_cases hlast : unl ops D = ops.size - m
    · have := fin D a w hlast hD (hall D hlast hD hnone) hnone hS
      rwa [← hlast, hu] at this
    obtain ⟨vs, hG, hI, hfr, hdis, hdef, hsz, hfar, hat, hT⟩ := hS
    refine ⟨fun hr => ?_, fun i hi => ?_⟩
    · -- something has not come up: the first such operation is ready
      exfalso
      have hex : ∀ n j, j < n → j < ops.size → D.getD j false = true := by
        intro n
        induction n with
        | zero => intro j hj; omega
        | succ n ihn =>
          intro j hj hjs
          rcases Nat.lt_or_ge j n with h | h
          · exact ihn j h hjs
          · have hjn : j = n := by omega
            subst hjn
            cases hh : D.getD j false with
            | true => rfl
            | false =>
              have hmem : j ∈ Region.ready .any ops D := mem_ready.2 ⟨by
                have : j < D.size := by omega
                simpa [this] using hh, ops[j], Array.getElem?_eq_getElem hjs, fun e he hb => by
                  have hlt := (closed_spec hc (Array.getElem?_eq_getElem hjs)).2 e he hb
                  exact ihn e.on hlt (by omega)⟩
              rw [hr] at hmem
              cases hmem
      have hz : unl ops D = 0 := by
        unfold unl
        rw [List.length_eq_zero_iff, List.filter_eq_nil_iff]
        intro x hx
        have hxl := List.mem_range.1 hx
        have := hex ops.size x hxl hxl
        have hxs : x < D.size := by omega
        simp [hxs] at this ⊢
        exact this
      omega
    obtain ⟨h0, o, ho, hafter⟩ := mem_ready.1 hi
    have hi' : i < ops.size := (Array.getElem?_eq_some_iff.1 ho).1
    have hDi : D.getD i false = false := by
      have : i < D.size := by omega
      simpa [this] using h0
    have hrow : ∀ j ∈ tab.getD i [], D.getD j false = true := by
      intro j hj
      obtain ⟨e, he, hb, hj'⟩ := (closed_spec hc ho).1 j hj
      have hDe := hafter e he hb
      rcases hj' with h | h
      · rw [← h]; exact hDe
      · have hes : e.on < ops.size := by
          have := (closed_spec hc ho).2 e he hb
          omega
        exact hclo e.on _ (Array.getElem?_eq_getElem hes) hDe j h
    have him : i < m := by
      rcases Nat.lt_or_ge i m with h | h
      · exact h
      · exfalso
        have ht := (List.all_eq_true.1 htl) i (List.mem_range.2 hi')
        simp only [Bool.or_eq_true, decide_eq_true_eq] at ht
        rcases ht with ht | ht
        · omega
        · have hlo : ∀ j, j < i → D.getD j false = true := fun j hj => by
            have := (List.all_eq_true.1 ht) j (List.mem_range.2 hj)
            rw [List.contains_iff_mem] at this
            exact hrow j this
          have him' : i = m := by
            rcases Nat.lt_or_ge m i with h1 | h1
            · have := hlo m h1
              rw [hnone m (Nat.le_refl _)] at this
              cases this
            · omega
          exact hlast (unl_eq hm hD hnone (fun j hj => hlo j (by omega)))
    have hlook : ∀ t ∈ o.looksAt ops, (puts ops vs (tab.getD i []) a0).tmps[t]? = a.tmps[t]? := by
      intro t ht
      by_cases hw : ∃ j, j ∈ tab.getD i [] ∧ dstOf ops j = some t
      · obtain ⟨j, hj, hd⟩ := hw
        have hDj := hrow j hj
        have hjs : j < ops.size := by
          rcases Nat.lt_or_ge j ops.size with hh | hh
          · exact hh
          · simp [dstOf, Array.getElem?_eq_none hh] at hd
        obtain ⟨oj, hoj⟩ : ∃ o, ops[j]? = some o := ⟨ops[j], Array.getElem?_eq_getElem hjs⟩
        have hd' : oj.dst = some t := by simpa [dstOf, hoj] using hd
        rw [hat j hDj t hd, puts_at vs a0 t ((clean_spec hcl hoj).2.1 t hd') j hd _ (fun k hk hkd => ?_) hj]
        by_cases hkj : k = j
        · exact hkj
        · exact absurd hd' (((clean_spec hcl hoj).2.2 k t hkd).1 (Ne.symm hkj))
      · rw [puts_far vs a0 t _ (fun j hj hd => hw ⟨j, hj, hd⟩), hfar t fun j hDj hd => ?_]
        rcases ((clean_spec hcl ho).2.2 j t hd).2 ht with h | h | h
        · exact hw ⟨j, h, hd⟩
        · have hjs : j < ops.size := by
            rcases Nat.lt_or_ge j ops.size with hh | hh
            · exact hh
            · simp [dstOf, Array.getElem?_eq_none hh] at hd
          have := hclo j _ (Array.getElem?_eq_getElem hjs) hDj i h
          rw [hDi] at this
          cases this
        · subst h
          rw [hDi] at hDj
          cases hDj
    have hsel := (clean_spec hcl ho).1
    have hle : unl ops D ≤ ops.size := by
      unfold unl
      exact Nat.le_trans (List.length_filter_le _ _) (by simp)
    have hstep' := hstep i o him ho vs w (ops.size - unl ops D) (by omega) hI hG (fun j hj => hT j (hrow j hj)) ⟨fun j hj hn => hfr j (hrow j hj) hn, fun j hj k hk => hdis j k (hrow j hj) (hrow k hk)⟩
      (fun a' w' => ∃ v, a' = (puts ops vs (tab.getD i []) a0).put o.dst v ∧ R i w w' ∧ T (upd vs i v) i w' ∧ (i ∈ news → ∃ b, blockOf v = some b ∧ w.heap.size ≤ b ∧ b < w'.heap.size) ∧ I (ops.size - unl ops D + 1) w') (fun v w' h1 h2 h3 h4 => ⟨v, rfl, h1, h2, h3, h4⟩)
    have step : ∀ u w', (∃ v, (puts ops vs (tab.getD i []) a0).put o.dst u = (puts ops vs (tab.getD i []) a0).put o.dst v ∧ R i w w' ∧ T (upd vs i v) i w' ∧ (i ∈ news → ∃ b, blockOf v = some b ∧ w.heap.size ≤ b ∧ b < w'.heap.size) ∧ I (ops.size - unl ops D + 1) w') →
        wpAny P .any ops Q fuel (D.setIfInBounds i true) (a.put o.dst u) w' := by
      rintro u w' ⟨v, hput, hRw, hTi, hnew, hInew⟩
      have hDset : ∀ j, (D.setIfInBounds i true).getD j false = true ↔ (j = i ∨ D.getD j false = true) := by
        intro j
        by_cases hji : j = i
        · subst hji
          have : j < D.size := by omega
          simp [this]
        · rw [getD_set_ne false (Ne.symm hji)]
          simp [hji]
      have hGw := hRG _ _ _ hRw
      have hsz' := hsize _ _ hGw
      have hsz0 := hsize _ _ hG
      refine ih _ _ _ ?_ (by simpa using hD) ?_ ?_ ?_
      · have := unl_set (ops := ops) hi' hD hDi
        omega
      · intro k ok hok hk j hj
        rw [hDset] at hk ⊢
        rcases hk with hk | hk
        · subst hk
          exact .inr (hrow j hj)
        · exact .inr (hclo k ok hok hk j hj)
      · intro j hj
        rw [getD_set_ne false (by omega)]
        exact hnone j hj
      · have hdsti : dstOf ops i = o.dst := by simp [dstOf, ho]
        have hjne : ∀ j, D.getD j false = true → j ≠ i := fun j hj e => by subst e; rw [hDi] at hj; cases hj
        refine ⟨upd vs i v, htrans _ _ _ hG hGw, ?_, ?_, ?_, ?_, ?_, ?_, ?_, ?_⟩
        · have := unl_set (ops := ops) hi' hD hDi
          rw [show ops.size - unl ops (D.setIfInBounds i true) = ops.size - unl ops D + 1 by omega]
          exact hInew
        · intro j hj hn
          rcases (hDset j).1 hj with h | h
          · subst h
            obtain ⟨b, hb, hb1, hb2⟩ := hnew hn
            exact ⟨b, by simpa [upd] using hb, by omega, hb2⟩
          · obtain ⟨b, hb, hb1, hb2⟩ := hfr j h hn
            exact ⟨b, by simpa [upd, hjne j h] using hb, hb1, by omega⟩
        · intro j k hj hk hnj hnk hjk
          rcases (hDset j).1 hj with h | h <;> rcases (hDset k).1 hk with h' | h'
          · exact absurd (h.trans h'.symm) hjk
          · subst h
            obtain ⟨b, hb, hb1, hb2⟩ := hnew hnj
            obtain ⟨c, hc', hc1, hc2⟩ := hfr k h' hnk
            simp only [upd, if_true, if_neg (hjne k h'), hb, hc', ne_eq, Option.some.injEq]
            omega
          · subst h'
            obtain ⟨b, hb, hb1, hb2⟩ := hnew hnk
            obtain ⟨c, hc', hc1, hc2⟩ := hfr j h hnj
            simp only [upd, if_true, if_neg (hjne j h), hb, hc', ne_eq, Option.some.injEq]
            omega
          · simp only [upd, if_neg (hjne j h), if_neg (hjne k h')]
            exact hdis j k h h' hnj hnk hjk
        · cases o.dst <;> simp [Act.put, hdef]
        · cases o.dst <;> simp [Act.put, hsz]
        · intro t ht
          have h1 : o.dst ≠ some t := by
            rw [← hdsti]
            exact ht i ((hDset i).2 (.inl rfl))
          have h2 : (a.put o.dst u).tmps[t]? = a.tmps[t]? := by
            cases hd : o.dst with
            | none => rfl
            | some d =>
              have hne : d ≠ t := fun e => h1 (by rw [hd, e])
              simp [Act.put, Array.getElem?_setIfInBounds_ne hne]
          rw [h2]
          exact hfar t fun j hj => ht j ((hDset j).2 (.inr hj))
        · intro j hj d hd
          rcases (hDset j).1 hj with h | h
          · subst h
            rw [hdsti] at hd
            have hds := (clean_spec hcl ho).2.1 d hd
            have hu : u = v := by
              have h1 : ((puts ops vs (tab.getD j []) a0).put o.dst u).tmps[d]? = some u := by
                simp [hd, Act.put, puts_size, hds]
              have h2 : ((puts ops vs (tab.getD j []) a0).put o.dst v).tmps[d]? = some v := by
                simp [hd, Act.put, puts_size, hds]
              rw [hput, h2] at h1
              exact (Option.some.inj h1).symm
            subst hu
            simp [hd, Act.put, hsz, hds, upd]
          · have hji := hjne j h
            have hne : o.dst ≠ some d := ((clean_spec hcl ho).2.2 j d hd).1 (Ne.symm hji)
            rw [show upd vs i v j = vs j from if_neg hji]
            have h2 : (a.put o.dst u).tmps[d]? = a.tmps[d]? := by
              cases hdo : o.dst with
              | none => rfl
              | some d' =>
                have hne' : d' ≠ d := fun e => hne (by rw [hdo, e])
                simp [Act.put, Array.getElem?_setIfInBounds_ne hne']
            rw [h2]
            exact hat j h d hd
        · intro j hj
          rcases (hDset j).1 hj with h | h
          · subst h
            exact hTi
          · have hji := hjne j h
            have hjm : j < m := by
              rcases Nat.lt_or_ge j m with h1 | h1
              · exact h1
              · rw [hnone j h1] at h; cases h
            have hinr : i ∉ tab.getD j [] := fun hin => by
              have := hclo j _ (Array.getElem?_eq_getElem (by omega)) h i hin
              rw [hDi] at this
              cases this
            refine hst _ j i _ _ hjm him hinr (Ne.symm hji) (hloc vs (upd vs i v) j w hjm (by simp [upd, hji]) (fun k hk => ?_) (hT j h)) hRw
            have hki : k ≠ i := fun e => hinr (e ▸ hk)
            simp [upd, hki]
    unfold wpOp
    simp only [ho]
    rw [wanted_congr hlook] at hstep'
    split at hstep'
    · rename_i hw
      rw [if_pos hw]
      refine .inl (wp_transfer (exec_congr hsel hlook) (fun v w' h => step v w' h) ?_ hstep')
      rintro d w' ⟨v, hput, _⟩
      have hl : ∀ (x : Act) (y : Option Tmp) (u' : Value), (x.put y u').defers = x.defers := fun x y u' => by cases y <;> rfl
      have := congrArg (fun x : Act => x.defers.length) hput
      simp only [hl, List.length_cons] at this
      omega
    · rename_i hw
      rw [if_neg hw]
      exact step _ _ hstep'

/-- **The law.** -/
theorem wp_region_rg {id : Nat} {a0 : Act} {w : World} (R : Nat → World → World → Prop) (G : World → World → Prop) (T : (Nat → Value) → Nat → World → Prop) (tab : List (List Nat)) (news : List Nat) (I : Nat → World → Prop) (m : Nat)
    (hmix : P.follows .mixedOrders = true) (hm : m ≤ ops.size) (hc : closedB ops tab = true) (hcl : cleanB ops tab a0.tmps.size = true) (htl : tailB ops tab m = true)
    (hrefl : ∀ x, G x x) (htrans : ∀ x y z, G x y → G y z → G x z) (hsize : ∀ x y, G x y → x.heap.size ≤ y.heap.size) (hRG : ∀ i x y, R i x y → G x y)
    (hst : ∀ vs j i w w', j < m → i < m → i ∉ tab.getD j [] → i ≠ j → T vs j w → R i w w' → T vs j w')
    (hloc : ∀ (vs vs' : Nat → Value) i w, i < m → vs i = vs' i → (∀ j ∈ tab.getD i [], vs j = vs' j) → T vs i w → T vs' i w)
    (hstep : ∀ i o, i < m → ops[i]? = some o → StepOK P ops R G T news I a0 w.drew (tab.getD i []) i o)
    (hI : I 0 w.drew)
    (hend : ∀ (vs : Nat → Value) (w' : World), G w.drew w' → I m w' → (∀ j, j < m → T vs j w') → Fresh news w.heap.size vs (List.range m) w' →
      wpOps P ops Q (List.range' m (ops.size - m)) (puts ops vs (List.range m) a0) w') :
    (Code.region id ops true).wp P Q a0 w := by
  refine wp_region_any hmix ?_
  refine wpAny_rg (I := I) hm htrans hsize hRG hst hloc hc hcl htl hstep hend _ _ _ _ ?_ (by simp) ?_ ?_ ?_
  · unfold unl
    rw [List.filter_eq_self.2 (fun x hx => by
      have := List.mem_range.1 hx
      simp [this])]
    simp
  · intro i o ho h
    have hlt : i < ops.size := (Array.getElem?_eq_some_iff.1 ho).1
    simp [hlt] at h
  · intro i _
    by_cases hlt : i < ops.size <;> simp [hlt]
  · have hno : ∀ j, (Array.replicate ops.size false).getD j false = true → False := fun j h => by
      by_cases hlt : j < ops.size <;> simp [hlt] at h
    exact ⟨fun _ => undef, hrefl _, by
      have hz : unl ops (Array.replicate ops.size false) = ops.size := by
        unfold unl
        rw [List.filter_eq_self.2 (fun x hx => by
          have := List.mem_range.1 hx
          simp [this])]
        simp
      rw [hz, Nat.sub_self]
      exact hI, fun j h => (hno j h).elim, fun j k h => (hno j h).elim, rfl, rfl, fun _ _ => rfl, fun j h => (hno j h).elim, fun j h => (hno j h).elim⟩

/-! ### The law for use: what each operation leaves is a row of a list; it speaks of the operation itself and of those that it waits for alone. -/

/-- vs at the places of a list alone. -/
def only (l : List Nat) (vs : Nat → Value) : Nat → Value := fun j => if l.contains j then vs j else undef

def tell (Ts : List ((Nat → Value) → World → Prop)) (tab : List (List Nat)) (vs : Nat → Value) (i : Nat) (w : World) : Prop :=
  (Ts.getD i (fun _ _ => True)) (only (i :: tab.getD i []) vs) w

theorem tell_loc {Ts : List ((Nat → Value) → World → Prop)} {tab : List (List Nat)} (vs vs' : Nat → Value) (i : Nat) (w : World) (h : vs i = vs' i) (h' : ∀ j ∈ tab.getD i [], vs j = vs' j)
    (ht : tell Ts tab vs i w) : tell Ts tab vs' i w := by
  unfold tell at *
  have e : only (i :: tab.getD i []) vs = only (i :: tab.getD i []) vs' := by
    funext j
    unfold only
    split
    · rename_i hc
      rw [List.contains_iff_mem, List.mem_cons] at hc
      rcases hc with rfl | hc
      · exact h
      · exact h' j hc
    · rfl
  rw [← e]
  exact ht

/-- Put values by a list of temporaries. -/
def putsD (ds : List (Option Tmp)) (vs : Nat → Value) : List Nat → Act → Act
  | [], a => a
  | j :: r, a => (putsD ds vs r a).put (ds.getD j none) (vs j)

theorem putsD_eq {ds : List (Option Tmp)} (h : ops.toList.map (·.dst) = ds) (vs : Nat → Value) (a : Act) : ∀ l, puts ops vs l a = putsD ds vs l a
  | [] => rfl
  | j :: r => by
    have e : dstOf ops j = ds.getD j none := by
      subst h
      unfold dstOf
      simp only [List.getD_eq_getElem?_getD, List.getElem?_map, Array.getElem?_toList]
      cases ops[j]? <;> rfl
    simp only [puts, putsD, putsD_eq h vs a r, e]

/-- What is asked of operation i, its row written out. -/
@[irreducible] def Step (P : Program) (ops : Array Oper) (R G : World → World → Prop) (T : (Nat → Value) → Nat → World → Prop) (news : List Nat) (I : Nat → World → Prop) (ds : List (Option Tmp)) (a0 : Act) (w0 : World) (row : List Nat) (i : Nat) (o : Oper) : Prop :=
  ∀ (vs : Nat → Value) (w : World) (n : Nat), n < ops.size → I n w → G w0 w → (∀ j ∈ row, T vs j w) → Fresh news w0.heap.size vs row w → ∀ K : Act → World → Prop,
    (∀ v w', R w w' → T (upd vs i v) i w' → (news.contains i = true → ∃ b, blockOf v = some b ∧ w.heap.size ≤ b ∧ b < w'.heap.size) → I (n + 1) w' → K ((putsD ds vs row a0).put o.dst v) w') →
    if Region.wanted o (yielded ops (putsD ds vs row a0).tmps) = true then o.wp P (putsD ds vs row a0) w K (fun _ _ _ => False)
    else K ((putsD ds vs row a0).put o.dst undef) w

def Steps (P : Program) (ops : Array Oper) (R : Nat → World → World → Prop) (G : World → World → Prop) (T : (Nat → Value) → Nat → World → Prop) (news : List Nat) (I : Nat → World → Prop) (ds : List (Option Tmp)) (a0 : Act) (w0 : World) : List (List Nat) → Nat → List Oper → Prop
  | row :: rows, i, o :: l => Step P ops (R i) G T news I ds a0 w0 row i o ∧ Steps P ops R G T news I ds a0 w0 rows (i + 1) l
  | _, _, _ => True

theorem steps_at {R : Nat → World → World → Prop} {G : World → World → Prop} {T : (Nat → Value) → Nat → World → Prop} {news : List Nat} {I : Nat → World → Prop} {ds : List (Option Tmp)} {a0 : Act} {w0 : World} (hd : ops.toList.map (·.dst) = ds) :
    ∀ (rows : List (List Nat)) (k : Nat) (l : List Oper), Steps P ops R G T news I ds a0 w0 rows k l → ∀ j, j < rows.length → ∀ o, l[j]? = some o → StepOK P ops (R := R) G T news I a0 w0 (rows.getD j []) (k + j) o
  | [], _, _, _, j, hj, _, _ => by simp at hj
  | row :: rows, k, [], _, j, _, o, ho => by simp at ho
  | row :: rows, k, o' :: l, h, 0, _, o, ho => by
    simp at ho
    subst ho
    intro vs w n hn hI hG hT hF K hK
    have := h.1
    unfold Step at this
    have := this vs w n hn hI hG hT hF K
    rw [putsD_eq hd]
    rw [putsD_eq hd] at hK
    exact this fun v w' h1 h2 h3 h4 => hK v w' h1 h2 (fun hn => h3 (by rw [List.contains_iff_mem]; exact hn)) h4
  | row :: rows, k, o' :: l, h, j + 1, hj, o, ho => by
    have := steps_at hd rows (k + 1) l h.2 j (by simpa using hj) o (by simpa using ho)
    simpa [show k + 1 + j = k + (j + 1) by omega] using this

/-- **The law for use.** -/
theorem rg {id : Nat} {a0 : Act} {w : World} (R : Nat → World → World → Prop) (G : World → World → Prop) (Ts : List ((Nat → Value) → World → Prop)) (tab : List (List Nat)) (ds : List (Option Tmp)) (news : List Nat) (I : Nat → World → Prop)
    (hmix : P.follows .mixedOrders = true) (hm : tab.length ≤ ops.size) (hds : ops.toList.map (·.dst) = ds) (full : List (List Nat)) (hfull : full.take tab.length = tab)
    (hc : closedB ops full = true) (hcl : cleanB ops full a0.tmps.size = true) (htl : tailB ops full tab.length = true)
    (hrefl : ∀ x, G x x) (htrans : ∀ x y z, G x y → G y z → G x z) (hsize : ∀ x y, G x y → x.heap.size ≤ y.heap.size) (hRG : ∀ i x y, R i x y → G x y)
    (hst : ∀ vs j i w w', j < tab.length → i < tab.length → i ∉ tab.getD j [] → i ≠ j → tell Ts tab vs j w → R i w w' → tell Ts tab vs j w')
    (hI : I 0 w.drew)
    (hstep : Steps P ops R G (tell Ts tab) news I ds a0 w.drew tab 0 ops.toList)
    (hend : ∀ (vs : Nat → Value) (w' : World), G w.drew w' → I tab.length w' → (∀ j, j < tab.length → tell Ts tab vs j w') → Fresh news w.heap.size vs (List.range tab.length) w' →
      wpOps P ops Q (List.range' tab.length (ops.size - tab.length)) (putsD ds vs (List.range tab.length) a0) w') :
    (Code.region id ops true).wp P Q a0 w := by
  have hrow : ∀ j, j < tab.length → full.getD j [] = tab.getD j [] := by
    intro j hj
    have h1 : (full.take tab.length).getD j [] = tab.getD j [] := by rw [hfull]
    rw [← h1]
    simp [hj]
  refine wp_region_rg R G (fun vs i w => tell Ts tab vs i w) full news I tab.length hmix hm hc hcl htl hrefl htrans hsize hRG ?_ ?_ ?_ hI ?_
  · intro vs j i w w' hj hi hn hne hT hR
    rw [hrow j hj] at hn
    exact hst vs j i w w' hj hi hn hne hT hR
  · intro vs vs' i w hi h h' hT
    rw [hrow i hi] at h'
    exact tell_loc vs vs' i w h h' hT
  · intro i o hi ho
    rw [hrow i hi]
    have := steps_at hds tab 0 _ hstep i hi o (by simpa using ho)
    simpa using this
  · intro vs w' hG hI' hT hF
    rw [putsD_eq hds]
    exact hend vs w' hG hI' hT hF

/-- An operation without a guard. -/
theorem plain {R G : World → World → Prop} {T : (Nat → Value) → Nat → World → Prop} {news : List Nat} {I : Nat → World → Prop} {ds : List (Option Tmp)} {a0 : Act} {w0 : World} {row : List Nat} {i : Nat} {o : Oper} (hg : o.guard = none)
    (h : ∀ (vs : Nat → Value) (w : World) (n : Nat), n < ops.size → I n w → G w0 w → (∀ j ∈ row, T vs j w) → Fresh news w0.heap.size vs row w → ∀ K : Act → World → Prop,
      (∀ v w', R w w' → T (upd vs i v) i w' → (news.contains i = true → ∃ b, blockOf v = some b ∧ w.heap.size ≤ b ∧ b < w'.heap.size) → I (n + 1) w' → K ((putsD ds vs row a0).put o.dst v) w') →
      o.wp P (putsD ds vs row a0) w K (fun _ _ _ => False)) : Step P ops R G T news I ds a0 w0 row i o := by
  unfold Step
  intro vs w n hn hI hG hT hF K hK
  rw [if_pos (by simp [Region.wanted, hg])]
  exact h vs w n hn hI hG hT hF K hK

/-- An operation with a guard that stands open. -/
theorem guarded {R G : World → World → Prop} {T : (Nat → Value) → Nat → World → Prop} {news : List Nat} {I : Nat → World → Prop} {ds : List (Option Tmp)} {a0 : Act} {w0 : World} {row : List Nat} {i : Nat} {o : Oper}
    (hw : ∀ (vs : Nat → Value) (w : World), (∀ j ∈ row, T vs j w) → Region.wanted o (yielded ops (putsD ds vs row a0).tmps) = true)
    (h : ∀ (vs : Nat → Value) (w : World) (n : Nat), n < ops.size → I n w → G w0 w → (∀ j ∈ row, T vs j w) → Fresh news w0.heap.size vs row w → ∀ K : Act → World → Prop,
      (∀ v w', R w w' → T (upd vs i v) i w' → (news.contains i = true → ∃ b, blockOf v = some b ∧ w.heap.size ≤ b ∧ b < w'.heap.size) → I (n + 1) w' → K ((putsD ds vs row a0).put o.dst v) w') →
      o.wp P (putsD ds vs row a0) w K (fun _ _ _ => False)) : Step P ops R G T news I ds a0 w0 row i o := by
  unfold Step
  intro vs w n hn hI hG hT hF K hK
  rw [if_pos (hw vs w hT)]
  exact h vs w n hn hI hG hT hF K hK
/-- An operation with a guard that stands shut. -/
theorem skipped {R G : World → World → Prop} {T : (Nat → Value) → Nat → World → Prop} {news : List Nat} {I : Nat → World → Prop} {ds : List (Option Tmp)} {a0 : Act} {w0 : World} {row : List Nat} {i : Nat} {o : Oper}
    (hr : ∀ w, R w w) (hTu : ∀ (vs : Nat → Value) (w : World), T (upd vs i undef) i w) (hnew : news.contains i = false) (hIs : ∀ n w, I n w → I (n + 1) w)
    (hw : ∀ (vs : Nat → Value) (w : World), (∀ j ∈ row, T vs j w) → Region.wanted o (yielded ops (putsD ds vs row a0).tmps) = false) : Step P ops R G T news I ds a0 w0 row i o := by
  unfold Step
  intro vs w n hn hI hG hT hF K hK
  rw [if_neg (by rw [hw vs w hT]; simp)]
  exact hK undef w (hr w) (hTu vs w) (fun h => by rw [hnew] at h; cases h) (hIs n w hI)

theorem wpOps_tail {m : Nat} (_hm : m ≤ ops.size) {a : Act} {w : World} (h : wpList P ops Q (ops.toList.drop m) a w) : wpOps P ops Q (List.range' m (ops.size - m)) a w := by
  have := wpOps_eq_wpList (P := P) (ops := ops) (Q := Q) (ops.toList.drop m) m (fun j => by simp)
  rw [← this] at h
  simpa using h

/-- **The law where every operation but those of the tail leaves what there is as it is.** -/
theorem rgE {id : Nat} {a0 : Act} {w : World} (E : World → World → Prop) (Ts : List ((Nat → Value) → World → Prop)) (tab : List (List Nat)) (ds : List (Option Tmp)) (news : List Nat) (I : Nat → World → Prop) (full : List (List Nat))
    (hmix : P.follows .mixedOrders = true) (hm : tab.length ≤ ops.size) (hds : ops.toList.map (·.dst) = ds) (hfull : full.take tab.length = tab)
    (hc : closedB ops full = true) (hcl : cleanB ops full a0.tmps.size = true) (htl : tailB ops full tab.length = true)
    (hrefl : ∀ x, E x x) (htrans : ∀ x y z, E x y → E y z → E x z) (hsize : ∀ x y, E x y → x.heap.size ≤ y.heap.size)
    (hst : ∀ t ∈ Ts, ∀ vs w w', t vs w → E w w' → t vs w')
    (hI : I 0 w.drew)
    (hstep : Steps P ops (fun _ => E) E (tell Ts tab) news I ds a0 w.drew tab 0 ops.toList)
    (hend : ∀ (vs : Nat → Value) (w' : World), E w.drew w' → I tab.length w' → (∀ j, j < tab.length → tell Ts tab vs j w') → Fresh news w.heap.size vs (List.range tab.length) w' →
      wpList P ops Q (ops.toList.drop tab.length) (putsD ds vs (List.range tab.length) a0) w') :
    (Code.region id ops true).wp P Q a0 w := by
  refine rg (fun _ => E) E Ts tab ds news I hmix hm hds full hfull hc hcl htl hrefl htrans hsize (fun _ _ _ h => h) ?_ hI hstep (fun vs w' h1 h2 h3 h4 => wpOps_tail hm (hend vs w' h1 h2 h3 h4))
  intro vs j i w w' hj _ _ _ h hE
  unfold tell at *
  by_cases hjs : j < Ts.length
  · have hm' : Ts.getD j (fun _ _ => True) ∈ Ts := by simp [hjs]
    exact hst _ hm' _ _ _ h hE
  · simp [hjs]

theorem cons {R : Nat → World → World → Prop} {G : World → World → Prop} {T : (Nat → Value) → Nat → World → Prop} {news : List Nat} {I : Nat → World → Prop} {ds : List (Option Tmp)} {a0 : Act} {w0 : World} {row : List Nat} {rows : List (List Nat)} {o : Oper} {l : List Oper}
    (i j : Nat) (hj : i + 1 = j) (h : Step P ops (R i) G T news I ds a0 w0 row i o) (hs : Steps P ops R G T news I ds a0 w0 rows j l) : Steps P ops R G T news I ds a0 w0 (row :: rows) i (o :: l) := by
  subst hj
  exact ⟨h, hs⟩
theorem nil {R : Nat → World → World → Prop} {G : World → World → Prop} {T : (Nat → Value) → Nat → World → Prop} {news : List Nat} {I : Nat → World → Prop} {ds : List (Option Tmp)} {a0 : Act} {w0 : World} {i : Nat} {l : List Oper} :
    Steps P ops R G T news I ds a0 w0 [] i l := by
  unfold Steps
  trivial

/-- The law over a list of operations. -/
theorem rgL {l : List Oper} {id : Nat} {a0 : Act} {w : World} (E : World → World → Prop) (Ts : List ((Nat → Value) → World → Prop)) (tab : List (List Nat)) (ds : List (Option Tmp)) (news : List Nat) (I : Nat → World → Prop) (full : List (List Nat))
    (hmix : P.follows .mixedOrders = true) (hm : tab.length ≤ l.toArray.size) (hds : l.map (·.dst) = ds) (hfull : full.take tab.length = tab)
    (hc : closedB l.toArray full = true) (hcl : cleanB l.toArray full a0.tmps.size = true) (htl : tailB l.toArray full tab.length = true)
    (hrefl : ∀ x, E x x) (htrans : ∀ x y z, E x y → E y z → E x z) (hsize : ∀ x y, E x y → x.heap.size ≤ y.heap.size)
    (hst : ∀ t ∈ Ts, ∀ vs w w', t vs w → E w w' → t vs w')
    (hI : I 0 w.drew)
    (hstep : Steps P l.toArray (fun _ => E) E (tell Ts tab) news I ds a0 w.drew tab 0 l)
    (hend : ∀ (vs : Nat → Value) (w' : World), E w.drew w' → I tab.length w' → (∀ j, j < tab.length → tell Ts tab vs j w') → Fresh news w.heap.size vs (List.range tab.length) w' →
      wpList P l.toArray Q (l.drop tab.length) (putsD ds vs (List.range tab.length) a0) w') :
    (Code.region id l.toArray true).wp P Q a0 w :=
  rgE E Ts tab ds news I full hmix hm (by simpa using hds) hfull hc hcl htl hrefl htrans hsize hst hI (by simpa using hstep) (by simpa using hend)
end
end Go.Proofs.YtmjonmoagpkdiabGreatDoor.Rg
