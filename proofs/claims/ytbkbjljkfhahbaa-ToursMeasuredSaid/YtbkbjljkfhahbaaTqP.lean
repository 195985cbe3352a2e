/-
  The shortest tour: plain words; what an append leaves where.
-/
import Derived.Test.YtbkbjljkfhahbaaTqC
import Derived.Laws.AppendOwn
namespace Go.Proofs.Ytbkbjljkfhahbaa
open Go.RowKit
set_option linter.unusedSimpArgs false
set_option linter.unusedVariables false

/-- The orders that begin so, one after the other: the best one so far, and its length. -/
def vis (s : Int × Int) (l : List (Int × Int)) : Nat → List Int → Int → List Int × Int → List Int × Int
  | 0, o, gone, st => if st.2 ≤ gone + apart (atOf s l o) s then st else (o, gone + apart (atOf s l o) s)
  | f + 1, o, gone, st => if st.2 ≤ gone + apart (atOf s l o) s then st else
      (List.range l.length).foldl (fun st (j : Nat) => if o.contains (j : Int) = true then st else vis s l f (o ++ [(j : Int)]) (gone + apart (atOf s l o) (ptAt l j)) st) st
/-- The loop over the next ones. -/
def visT (s : Int × Int) (l : List (Int × Int)) (f : Nat) (o : List Int) (gone : Int) (st : List Int × Int) (k : Nat) : List Int × Int :=
  (List.range k).foldl (fun st (j : Nat) => if o.contains (j : Int) = true then st else vis s l f (o ++ [(j : Int)]) (gone + apart (atOf s l o) (ptAt l j)) st) st
theorem visT_zero (s : Int × Int) (l : List (Int × Int)) (f : Nat) (o : List Int) (gone : Int) (st : List Int × Int) : visT s l f o gone st 0 = st := rfl
theorem visT_succ (s : Int × Int) (l : List (Int × Int)) (f : Nat) (o : List Int) (gone : Int) (st : List Int × Int) (k : Nat) :
    visT s l f o gone st (k + 1) = if o.contains (k : Int) = true then visT s l f o gone st k else vis s l f (o ++ [(k : Int)]) (gone + apart (atOf s l o) (ptAt l k)) (visT s l f o gone st k) := by
  unfold visT
  rw [List.range_succ, List.foldl_append]
  rfl
theorem vis_cut {s : Int × Int} {l : List (Int × Int)} {f : Nat} {o : List Int} {gone : Int} {st : List Int × Int} (h : st.2 ≤ gone + apart (atOf s l o) s) : vis s l f o gone st = st := by
  cases f <;> (unfold vis; rw [if_pos h])
theorem vis_end {s : Int × Int} {l : List (Int × Int)} {o : List Int} {gone : Int} {st : List Int × Int} (h : ¬ st.2 ≤ gone + apart (atOf s l o) s) : vis s l 0 o gone st = (o, gone + apart (atOf s l o) s) := by
  unfold vis; rw [if_neg h]
theorem vis_more {s : Int × Int} {l : List (Int × Int)} {f : Nat} {o : List Int} {gone : Int} {st : List Int × Int} (h : ¬ st.2 ≤ gone + apart (atOf s l o) s) : vis s l (f + 1) o gone st = visT s l f o gone st l.length := by
  conv => lhs; unfold vis
  rw [if_neg h]
  rfl
def maxI : Int := 9223372036854775807
def shortL (s : Int × Int) (l : List (Int × Int)) : List Int × Int := vis s l l.length [] 0 ([], maxI)
/-- What is found is not below nought. -/
theorem vis_nn {s : Int × Int} {l : List (Int × Int)} (hs : okPt s = true) (hl : ∀ p ∈ l, okPt p = true) : ∀ (f : Nat) (o : List Int) (gone : Int) (st : List Int × Int), 0 ≤ gone → 0 ≤ st.2 → 0 ≤ (vis s l f o gone st).2
  | 0, o, gone, st, hg, h => by
    have := apart_bd (atOf_ok hs hl o) hs
    unfold vis
    split
    · exact h
    · show 0 ≤ _; simp only; omega
  | f + 1, o, gone, st, hg, h => by
    unfold vis
    split
    · exact h
    · have hb := fun j : Int => apart_bd (atOf_ok hs hl o) (ptAt_ok hl j)
      have key : ∀ (r : List Nat) (st : List Int × Int), 0 ≤ st.2 → 0 ≤ (r.foldl (fun st (j : Nat) => if o.contains (j : Int) = true then st else vis s l f (o ++ [(j : Int)]) (gone + apart (atOf s l o) (ptAt l j)) st) st).2 := by
        intro r
        induction r with
        | nil => intro st h; exact h
        | cons j r ih =>
          intro st h
          rw [List.foldl_cons]
          refine ih _ ?_
          split
          · exact h
          · exact vis_nn hs hl f _ _ _ (by have := hb (j : Int); omega) h
      exact key _ _ h
theorem visT_nn {s : Int × Int} {l : List (Int × Int)} (hs : okPt s = true) (hl : ∀ p ∈ l, okPt p = true) (f : Nat) (o : List Int) (gone : Int) (st : List Int × Int) (hg : 0 ≤ gone) (h : 0 ≤ st.2) : ∀ k, 0 ≤ (visT s l f o gone st k).2
  | 0 => h
  | k + 1 => by
    rw [visT_succ]
    split
    · exact visT_nn hs hl f o gone st hg h k
    · have := apart_bd (atOf_ok hs hl o) (ptAt_ok hl (k : Int))
      exact vis_nn hs hl f _ _ _ (by omega) (visT_nn hs hl f o gone st hg h k)

/-! ### What an append leaves where -/
theorem append_where {P : Program} (w : World) (base : Nat) (t ty e : TypeId) (i : TypeInfo) (z : Value) (ht : P.underlying t = some (.slice e)) (hi : P.info? e = some i) (hz : i.zero = some z) (hzs : z.cells.size = i.size) (hsz : 0 < i.size)
    (v : Value) (n : Nat) (xs : List Value) (hown : w.ownsRow base e i.size v n xs)
    (a : Addr) (m c : Nat) (news : List Value) (hl : news.length = m * i.size) (hnews : ∀ j u, news[j]? = some u → w.cell? (a.add j) = some u) (h1 : ∀ u ∈ news, u.oneCell' = true)
    (h63 : n + m ≤ maxLen) (hbytes : (n + m) * i.bytes ≤ 140737488355328) (hm : 0 < m) {v' : Value} {w' : World}
    (hr : (Builtin.append_ #[t, t] ty #[v, .slice (some a) m c]).run P w = .ok v' w') : v'.ownBlock = v.ownBlock ∨ v'.ownBlock = some w.heap.size := by
  have h64 : n + m ≤ 9223372036854775807 := by simp only [maxLen] at h63; omega
  rcases hown.2 with ⟨rfl, rfl⟩ | ⟨g, cap, cur, rfl, hbg, hg, hnc, hcm, hcs, htake⟩
  · have h2 := run_append_nil (P := P) w t ty e i z ht hi hz a m c news hl hnews (by omega) (by omega) (by have hb := hbytes; simp only [Nat.zero_add] at hb; omega)
    rw [hr] at h2
    injection h2 with h2 _
    subst h2
    exact .inr rfl
  · by_cases hroom : n + m ≤ cap
    · have hfit : n * i.size + news.length ≤ cur.size := by rw [hl, hcs, ← Nat.add_mul]; exact Nat.mul_le_mul_right _ hroom
      have h2 := run_append_room (P := P) w t ty e i ht hi g n cap cur hg a m c news hl hnews h1 hroom hfit
      rw [hr] at h2
      injection h2 with h2 _
      subst h2
      exact .inl rfl
    · have holds : ∀ j u, xs[j]? = some u → w.cell? ((⟨g, 0, none⟩ : Addr).add j) = some u := hown.cells (g := g) rfl
      have h2 := run_append_grow (P := P) w t ty e i z ht hi hz ⟨g, 0, none⟩ n cap xs hown.1 holds a m c news hl hnews (by omega) (by omega) (growslice_fits (by omega) hbytes)
      rw [hr] at h2
      injection h2 with h2 _
      subst h2
      exact .inr rfl
theorem wpList_append_where {P : Program} {w : World} {ops : Array Oper} {rest : List Oper} {o : Oper} {a : Act} {Q : Exit → Act → World → Prop} (hgd : o.guard = none) (s x : Operand) (t : TypeId)
    (ho : o.op = .call { callee := .builtin .append, args := #[s, x], argTypes := #[t, t] })
    (base : Nat) (e : TypeId) (i : TypeInfo) (z : Value) (size bytes : Nat) (ht : P.underlying t = some (.slice e)) (hi : P.info? e = some i) (hz : i.zero = some z)
    (hsize : i.size = size) (hby : i.bytes = bytes) (hzs : z.cells.size = size) (hsz : 0 < size)
    (v : Value) (n : Nat) (xs : List Value) (hs : a.eval s = v) (hown : w.ownsRow base e size v n xs)
    (ad : Addr) (m c : Nat) (news : List Value) (hx : a.eval x = .slice (some ad) m c) (hl : news.length = m * size) (hnews : ∀ j u, news[j]? = some u → w.cell? (ad.add j) = some u) (h1 : ∀ u ∈ news, u.oneCell' = true)
    (h63 : n + m ≤ maxLen) (hbytes : (n + m) * bytes ≤ 140737488355328) (hbase : base ≤ w.heap.size) (hm : 0 < m)
    (h : ∀ v' w', w'.ownsRow base e size v' (n + m) (xs ++ news) → w.grownBy w' v.ownBlock → (v'.ownBlock = v.ownBlock ∨ v'.ownBlock = some w.heap.size) → wpList P ops Q rest (a.put o.dst v') w') : wpList P ops Q (o :: rest) a w := by
  obtain ⟨v', w', hr, h2, h3, _⟩ := run_append_own (P := P) w base t o.type e i z size bytes ht hi hz hsize hby hzs hsz v n xs hown ad m c news hl hnews h1 h63 hbytes hbase
  subst hsize
  subst hby
  have hk := append_where (P := P) w base t o.type e i z ht hi hz hzs hsz v n xs hown ad m c news hl hnews h1 h63 hbytes hm hr
  refine wpList_plain hgd fun _ hK => ?_
  unfold Oper.wp execOp
  simp only [ho, resolve, invoke, builtin, Sem.run_bind, Sem.run_pure, Result.andThen_ok, List.map_toArray, List.map_cons, List.map_nil, hs, hx, hr]
  exact hK _ _ (h v' w' h2 h3 hk)
/-- The last one is cut off. -/
theorem own_trunc {w : World} {B g n c : Nat} {T : TypeId} {xs : List Value} {x : Value} (h : w.ownsRow B T 1 (.slice (some ⟨g, 0, none⟩) (n + 1) c) (n + 1) (xs ++ [x])) (hn : xs.length = n) : w.ownsRow B T 1 (.slice (some ⟨g, 0, none⟩) n c) n xs := by
  refine ⟨by simpa using hn, .inr ?_⟩
  rcases h.2 with ⟨h1, _⟩ | ⟨g', cap, cur, h1, hb, hk, hc, hm, hs, ht⟩
  · cases h1
  · cases h1
    refine ⟨g, c, cur, rfl, hb, hk, by omega, hm, hs, ?_⟩
    have h2 := congrArg (fun z => z.take n) ht
    simp only [Nat.mul_one, List.take_take] at h2 ⊢
    rw [Nat.min_eq_left (by omega)] at h2
    rw [h2, ← hn, List.take_left']
    rfl
end Go.Proofs.Ytbkbjljkfhahbaa
