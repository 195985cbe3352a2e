/-
  The program's changed placements: the names of a list; an append in a drawn region.
-/
import Derived.Test.YtalconjnjaffkaaGreatDoorTxW
namespace Go.Proofs.YtalconjnjaffkaaGreatDoor
open Go.RowKit
set_option linter.unusedSimpArgs false
set_option linter.unusedVariables false

/-- Placements from a place of a block on. -/
def SubAt (w : World) (A : Option Addr) (l : List Pl) : Prop := l = [] ∨ ∃ g o : Nat, A = some ⟨g, o, none⟩ ∧ g < w.heap.size ∧ ∀ i (h : i < l.length), w.cell? ⟨g, o + i * 5, none⟩ = some (.string l[i].name) ∧ w.cell? ⟨g, o + i * 5 + 1, none⟩ = some (.string l[i].part) ∧ w.cell? ⟨g, o + i * 5 + 2, none⟩ = some (.int .i64 l[i].x) ∧
    w.cell? ⟨g, o + i * 5 + 3, none⟩ = some (.int .i64 l[i].y) ∧ w.cell? ⟨g, o + i * 5 + 4, none⟩ = some (.int .i64 l[i].q)
theorem SubAt.below {w w' : World} {A : Option Addr} {l : List Pl} {b : Nat} (h : SubAt w A l) (hb : Below b w w') (hA : ∀ g o : Nat, A = some ⟨g, o, none⟩ → l ≠ [] → g < b) : SubAt w' A l := by
  rcases h with h | ⟨g, o, e, hg, h⟩
  · exact .inl h
  · by_cases hn : l = []
    · exact .inl hn
    · have hgb := hA g o e hn
      refine .inr ⟨g, o, e, Nat.lt_of_lt_of_le hg hb.size, fun i hi => ?_⟩
      obtain ⟨a, b, c, d, f⟩ := h i hi
      exact ⟨(hb.cell (p := ⟨g, _, none⟩) hgb).trans a, (hb.cell (p := ⟨g, _, none⟩) hgb).trans b, (hb.cell (p := ⟨g, _, none⟩) hgb).trans c, (hb.cell (p := ⟨g, _, none⟩) hgb).trans d, (hb.cell (p := ⟨g, _, none⟩) hgb).trans f⟩
theorem SubAt.of {w : World} {A : Option Addr} {l : List Pl} (h : PlAt w A l) : SubAt w A l := by
  rcases h with h | ⟨g, e, h⟩
  · exact .inl h
  · refine .inr ⟨g, 0, e, h.1, fun i hi => ?_⟩
    have := row_pl h hi
    simpa using this
theorem SubAt.tail {w : World} {g o : Nat} {p : Pl} {l : List Pl} (h : SubAt w (some ⟨g, o, none⟩) (p :: l)) : SubAt w (some ⟨g, o + 5, none⟩) l := by
  rcases h with h | ⟨g', o', e, hg, h⟩
  · cases h
  · injection e with e; injection e with e1 e2
    subst e1 e2
    refine .inr ⟨_, _, rfl, hg, fun i hi => ?_⟩
    have := h (i + 1) (by simpa using hi)
    rw [show o + (i + 1) * 5 = o + 5 + i * 5 by omega] at this
    exact this

set_option maxHeartbeats 2000000 in
theorem names_any (l : List Pl) (hl : l.length ≤ 1000000) (A : Option Addr) (c : Nat) (w : World) (hA : SubAt w A l) :
    Calls Tryz.prog 83 #[.slice A l.length c] w fun e w' => ∃ v, e = .returned v ∧ Below w.heap.size w w' ∧ w'.ownsRow w.heap.size 9 1 v l.length ((l.map Pl.name).map Value.string) ∧ (l = [] → v = .slice none 0 0) := by
  obtain ⟨i0, hi, hz0, hz1, hz2⟩ := info_parts str_infoT
  have HI := Lib.hid (And.intro hi (And.intro hz0 (And.intro hz1 hz2)))
  clear hi hz0 hz1 hz2
  go_enter Tryz.func83, Tryz.ntmps83
  go_wp2_with fail
  go_loopw [3, 8] (fun v3 kk wr => ∃ k : Nat, k ≤ l.length ∧ kk = .int .i64 k ∧ w.heap.size ≤ wr.heap.size ∧ Hid (Below w.heap.size w wr ∧ wr.ownsRow w.heap.size 9 1 v3 k (((l.take k).map Pl.name).map Value.string) ∧ (k = 0 → v3 = .slice none 0 0))) (fun _ kk _ => l.length - (intOf kk).toNat)
  case atStart => exact ⟨0, by omega, rfl, Nat.le_refl _, Below.refl _ _, World.ownsRow_nil _ _ _ _, fun _ => rfl⟩
  case round =>
    obtain ⟨k, hk, rfl, hwz, HS⟩ := hrel
    obtain ⟨A3, c3, rfl, hc3, _⟩ := own_slice' HS.out.2.1
    by_cases hlt : k < l.length
    · obtain ⟨a, ha⟩ : ∃ a, l[k] = a := ⟨_, rfl⟩
      have HN : Hid (l.take (k + 1) = l.take k ++ [a]) := by
        show _ = _
        rw [List.take_add_one, List.getElem?_eq_getElem hlt, ha]; rfl
      rcases hA with rfl | ⟨g, o, rfl, hgl, hrow⟩
      · simp at hlt
      have hh := hrow k hlt
      rw [ha] at hh
      obtain ⟨q0, q1, q2, q3, q4⟩ := hh
      rw [← HS.out.1.cell (p := ⟨g, _, none⟩) hgl] at q0 q1 q2 q3 q4
      have hg1 : g < wr.heap.size := Nat.lt_of_lt_of_le hgl hwz
      have HR := Lib.hid hrow
      obtain ⟨nm, pt, x, y, q⟩ := a
      dsimp only at q0 q1 q2 q3 q4
      have H1 := Lib.hid (And.intro (HS.out.1.alloc hwz (.cells #[.string nm, .string pt, .int .i64 x, .int .i64 y, .int .i64 q] 124)) (And.intro (World.ownsRow.alloc HS.out.2.1 (.cells #[.string nm, .string pt, .int .i64 x, .int .i64 y, .int .i64 q] 124)) (blk_new wr (.cells #[.string nm, .string pt, .int .i64 x, .int .i64 y, .int .i64 q] 124) rfl)))
      clear ha hrow HS
      go_upto_region 5 with (fail)
      generalize wr.alloc (.cells #[.string nm, .string pt, .int .i64 x, .int .i64 y, .int .i64 q] 124) = w1 at *
      obtain ⟨t0, t1, t2, t3, t4⟩ := blk5p H1.out.2.2
      have htl := lt_of_blk H1.out.2.2
      have hz1 := H1.out.1.size
      go_wp2_with (at_builtin; refine hold ?_)
      refine loose ?_
      refine wpList_append_own _ rfl _ _ 46 rfl w.heap.size 9 i0 _ 1 16 Tryz.underlying46 HI.out.1 HI.out.2.1 HI.out.2.2.1 HI.out.2.2.2 rfl (by omega) _ k (((l.take k).map Pl.name).map Value.string) rfl (World.ownsRow.alloc H1.out.2.1 _) ⟨w1.heap.size, 0, none⟩ 1 1 [.string nm] rfl rfl (cell_one_new _ _ _) (by intro u hu; simp at hu; subst hu; rfl) (by unfold maxLen; omega) (by omega) (by simp; omega) ?_
      intro v' w' hown' hg' _
      have HF2 : Hid (Below w.heap.size w w' ∧ w'.ownsRow w.heap.size 9 1 v' (k + 1) (((l.take (k + 1)).map Pl.name).map Value.string) ∧ (k + 1 = 0 → v' = .slice none 0 0)) := by
        refine ⟨(H1.out.1.alloc hz1 _).grown hg' (by simp; omega) (fun j hj => (H1.out.2.1.lt j hj).1), ?_, fun h => absurd h (by omega)⟩
        rw [HN.out, List.map_append, List.map_append]
        exact hown'
      have hz2 := HF2.out.1.size
      clear hown' hg' HN H1 t0 t1 t2 t3 t4 htl
      go_wp2_with fail
      go_roundw
      case rel => exact ⟨k + 1, by omega, by go_num, hz2, HF2⟩
      case measure => simp [intOf]; omega
    · obtain rfl : k = l.length := by omega
      go_wp2_with fail
      go_ret
      have h9 := HS.out.2.1
      rw [List.take_of_length_le (Nat.le_refl _)] at h9
      exact ⟨_, rfl, HS.out.1, h9, fun h => HS.out.2.2 (by rw [h]; rfl)⟩

/-- An append in a drawn region: where the new row lies, and that the old one stays. -/
theorem wp_append_both {P : Program} (w : World) {o : Oper} {a : Act} {K : Act → World → Prop} {Q : Exit → Act → World → Prop} (s x : Operand) (t : TypeId)
    (ho : o.op = .call { callee := .builtin .append, args := #[s, x], argTypes := #[t, t] })
    (base : Nat) (e : TypeId) (i : TypeInfo) (z : Value) (size bytes : Nat) (ht : P.underlying t = some (.slice e)) (hi : P.info? e = some i) (hz : i.zero = some z)
    (hsize : i.size = size) (hby : i.bytes = bytes) (hzs : z.cells.size = size) (hsz : 0 < size)
    (v : Value) (n : Nat) (xs : List Value) (hs : a.eval s = v) (hown : w.ownsRow base e size v n xs)
    (ad : Addr) (m c : Nat) (news : List Value) (hx : a.eval x = .slice (some ad) m c) (hl : news.length = m * size) (hnews : ∀ j u, news[j]? = some u → w.cell? (ad.add j) = some u) (h1 : ∀ u ∈ news, u.oneCell' = true)
    (hm : 0 < m) (h63 : n + m ≤ maxLen) (hbytes : (n + m) * bytes ≤ 140737488355328) (hbase : base ≤ w.heap.size)
    (h : ∀ g cap w', w'.ownsRow base e size (.slice (some ⟨g, 0, none⟩) (n + m) cap) (n + m) (xs ++ news) → w.grownBy w' v.ownBlock → (v.ownBlock = some g ∨ g = w.heap.size) → w'.ownsRow base e size v n xs → K (a.put o.dst (.slice (some ⟨g, 0, none⟩) (n + m) cap)) w') : o.wp P a w K Q := by
  obtain ⟨g, cap, w', hr, h2, h3, h4, _⟩ := run_append_lies (P := P) w t o.type base e i z size bytes ht hi hz hsize hby hzs hsz v n xs hown ad m c news hl hnews h1 hm h63 hbytes hbase _ rfl
  subst hsize
  subst hby
  have hk := append_keeps (P := P) w base t o.type e i z ht hi hz hsz v n xs hown ad m c news hl hnews h1 h63 hbytes hr
  unfold Oper.wp execOp
  simp only [ho, resolve, invoke, builtin, Sem.run_bind, Sem.run_pure, Result.andThen_ok, List.map_toArray, List.map_cons, List.map_nil, hs, hx, hr]
  exact h g cap w' h2 h3 h4 hk
end Go.Proofs.YtalconjnjaffkaaGreatDoor
