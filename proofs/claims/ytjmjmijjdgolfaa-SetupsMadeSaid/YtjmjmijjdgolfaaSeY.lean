/-
  Lists of strings that are appended to others: slices.Concat; setup.Next; slices.EqualFunc.
-/
import Derived.Test.YtjmjmijjdgolfaaSeW
import Derived.Test.YtjmjmijjdgolfaaShelfG
namespace Go.Proofs.Ytjmjmijjdgolfaa
open Go.RowKit
set_option linter.unusedSimpArgs false
set_option linter.unusedVariables false

theorem ListsF.vals {base : Nat} {v : Value} {L : List (List ByteArray)} {w : World} (h : ListsF base v L w) : ∃ (A : Option Addr) (c : Nat) (us : List Value), v = .slice A L.length c ∧ L.length ≤ c ∧ us.length = L.length ∧ (L = [] ∨ ∃ g o : Nat, A = some ⟨g, o, none⟩ ∧ g < w.heap.size ∧ ∀ j u, us[j]? = some u → w.cell? ((⟨g, o, none⟩ : Addr).add j) = some u) ∧ (∀ u ∈ us, u.oneCell' = true) ∧ ∀ j (h : j < L.length), ∃ u, us[j]? = some u ∧ ReadsF base encS u L[j] w := by
  obtain ⟨A, c, rfl, hc, h⟩ := h
  rcases h with rfl | ⟨g, o, rfl, h0, h1, h⟩
  · exact ⟨A, c, [], rfl, hc, rfl, .inl rfl, fun u (hu : u ∈ ([] : List Value)) => (by cases hu), fun j hj => by simp at hj⟩
  · have hch : ∀ j : Fin L.length, ∃ u, w.cell? ⟨g, o + j.val, none⟩ = some u ∧ ReadsF base encS u L[j.val] w := fun j => h j.val j.isLt
    have hf := fun j => (hch j).choose_spec
    refine ⟨_, c, List.ofFn fun j => (hch j).choose, rfl, hc, by simp, .inr ⟨g, o, rfl, h1, fun j u hu => ?_⟩, fun u hu => ?_, fun j hj => ?_⟩
    · rw [List.getElem?_ofFn] at hu
      split at hu
      · rename_i hj
        cases hu
        rw [Addr.add_lit]
        exact (hf ⟨j, hj⟩).1
      · cases hu
    · rw [List.mem_ofFn] at hu
      obtain ⟨j, rfl⟩ := hu
      obtain ⟨A, c, e, _⟩ := (hf j).2
      rw [e]
      rfl
    · exact ⟨_, by rw [List.getElem?_ofFn, dif_pos hj], (hf ⟨j, hj⟩).2⟩

theorem run_append_none (t e : TypeId) (ht : Try.prog.underlying t = some (.slice e)) (i : TypeInfo) (hi : Try.prog.info? e = some i) (ty : TypeId) (A : Option Addr) (L C c : Nat) (B : Option Addr) (hA : (∃ b : Nat, A = some ⟨b, 0, none⟩) ∨ (A = none ∧ L = 0 ∧ C = 0)) (hLC : L ≤ C) (w : World) :
    (Builtin.append_ #[t, t] ty #[.slice A L C, .slice B 0 c]).run Try.prog w = .ok (.slice A L C) w := by
  cases B with
  | none => exact run_append_nothing t e ht i hi ty A L C c hA hLC w
  | some a =>
    have hs := Src.ofSlice (P := Try.prog) (size := i.size) w ht a 0 c [] (by simp) (fun j u h => by simp at h) (fun u h => by simp at h)
    rcases hA with ⟨b, rfl⟩ | ⟨rfl, rfl, rfl⟩
    · rw [run_append_room_src (P := Try.prog) w t t ty e i ht hi b 0 L C _ 0 [] hs (by omega) (fun j hj => by simp at hj) (fun j hj => by simp at hj)]
      rfl
    · have e0 : (loadCells a 0).run Try.prog w = .ok #[] w := by
        have := hs.cells
        simpa [Builtin.firstCells] using this
      simp [Builtin.append_, run_underlying ht, sizeOf, typeInfo, hi, hs.len, hs.cells, Builtin.lenOf, Builtin.firstCells, e0]

/-- Lists that are appended to, whatever they had at first. -/
def LsA (base k : Nat) (us : List Value) (L : List (List ByteArray)) (v : Value) (w : World) : Prop :=
  us.length = k ∧ L.length = k ∧ w.ownsRow base 51 1 v k us ∧ (∀ g, v.ownBlock = some g → ∀ x, w.cell? ⟨g, 0, none⟩ ≠ some (.string x)) ∧ ∀ j (h : j < L.length), ∃ u, us[j]? = some u ∧ ReadsF 0 encS u L[j] w
theorem own_noStr {w : World} {base k : Nat} {us : List Value} {v : Value} (h : w.ownsRow base 51 1 v k us) (hk : 0 < k) (hu : ∀ u, us[0]? = some u → ∃ A n c, u = .slice A n c) : ∀ g, v.ownBlock = some g → ∀ x, w.cell? ⟨g, 0, none⟩ ≠ some (.string x) := fun g e x hx => by
  have hl : us.length = k := by have := h.1; omega
  obtain ⟨u, hu0⟩ : ∃ u, us[0]? = some u := ⟨us[0], List.getElem?_eq_getElem (by omega)⟩
  obtain ⟨A, n, c, rfl⟩ := hu u hu0
  have := h.cells e 0 _ hu0
  have h9 : (⟨g, 0, none⟩ : Addr).add 0 = ⟨g, 0, none⟩ := rfl
  rw [h9, hx] at this
  cases this
theorem LsA.lists {base k : Nat} {us : List Value} {L : List (List ByteArray)} {v : Value} {w : World} (h : LsA base k us L v w) : ListsF 0 v L w := by
  obtain ⟨h2, h3, h4, _, h5⟩ := h
  obtain ⟨A, c, e, hc, _⟩ := own_slice h4
  refine ⟨A, c, by rw [h3]; exact e, by rw [h3]; exact hc, ?_⟩
  rcases Nat.eq_zero_or_pos k with h0 | h0
  · exact .inl (List.length_eq_zero_iff.mp (by omega))
  · obtain ⟨g, cap, e2, hb, hl, _, _, hrd⟩ := own_read h4 h0
    rw [e] at e2
    cases e2
    refine .inr ⟨g, 0, rfl, Nat.zero_le _, hl, fun j hj => ?_⟩
    obtain ⟨u, a, b⟩ := h5 j hj
    exact ⟨u, by rw [Nat.zero_add]; exact hrd j u a, b⟩
theorem LsA.below {base k : Nat} {us : List Value} {L : List (List ByteArray)} {v : Value} {w w' : World} (h : LsA base k us L v w) (hb : Below w.heap.size w w') : LsA base k us L v w' := by
  obtain ⟨h2, h3, h4, h6, h5⟩ := h
  refine ⟨h2, h3, own_below h4 hb, fun g e x hx => h6 g e x ?_, fun j hj => by obtain ⟨u, a, b⟩ := h5 j hj; exact ⟨u, a, b.below hb⟩⟩
  exact (hb.cell (p := ⟨g, 0, none⟩) (own_lt h4 g e)).symm.trans hx

theorem wpList_append_lists {w : World} {ops : Array Oper} {rest : List Oper} {o : Oper} {a : Act} {Q : Exit → Act → World → Prop} (hg : o.guard = none) (s x : Operand)
    (hop : o.op = .call { callee := .builtin .append, args := #[s, x], argTypes := #[54, 54] })
    {base k b2 : Nat} {us : List Value} {L M : List (List ByteArray)} {v vx : Value} (hs : a.eval s = v) (h : LsA base k us L v w) (hx : a.eval x = vx) (hM : ListsF b2 vx M w) (hbase : base ≤ w.heap.size) (hk : k + M.length ≤ 1000000)
    (hK : ∀ v' us' w', LsA base (k + M.length) us' (L ++ M) v' w' → w.grownBy w' v.ownBlock → wpList Try.prog ops Q rest (a.put o.dst v') w') : wpList Try.prog ops Q (o :: rest) a w := by
  have hr := h.2.2.2.1
  obtain ⟨i0, hi0, hz0, hzz1, hz2⟩ := info_parts lst_info
  by_cases h0 : M.length = 0
  · obtain rfl : M = [] := List.length_eq_zero_iff.mp h0
    obtain ⟨A2, c2, rfl, _, _⟩ := hM
    have hf := hK v us w (by simpa using h) ⟨rfl, rfl, rfl, Nat.le_refl _, fun _ _ _ => rfl⟩
    obtain ⟨A, c, rfl, hc, hA⟩ := own_slice h.2.2.1
    refine wpList_plain hg fun K' hK' => ?_
    have hrun := run_append_none 54 51 Try.underlying54 i0 hi0 o.type A k c c2 A2 hA hc w
    unfold Oper.wp
    simp [execOp, hop, resolve, invoke, builtin, hs, hx, hrun, Result.andThen]
    exact hK' _ _ hf
  · obtain ⟨A2, c2, ms, rfl, _, hml, hA2, h1, hr2⟩ := hM.vals
    rcases hA2 with rfl | ⟨g, o, rfl, hgl, hcs⟩
    · simp at h0
    refine wpList_append_own _ hg s x 54 hop base 51 i0 _ 1 24 Try.underlying54 hi0 hz0 hzz1 hz2 rfl (by omega) v k us hs h.2.2.1 ⟨g, o, none⟩ M.length c2 ms hx (by omega) hcs h1 (by unfold maxLen; omega) (by omega) hbase ?_
    intro v' w' hown' hg' _
    have hM2 : ∀ j (h : j < (L ++ M).length), ∃ u, (us ++ ms)[j]? = some u ∧ ReadsF 0 encS u (L ++ M)[j] w' := fun j hj => by
      have hLk := h.2.1
      have hUk := h.1
      rcases Nat.lt_or_ge j L.length with hlt | hge
      · obtain ⟨u, a, b⟩ := h.2.2.2.2 j hlt
        refine ⟨u, by rw [List.getElem?_append_left (by omega)]; exact a, ?_⟩
        rw [List.getElem_append_left hlt]
        exact b.grownS hg' hr
      · obtain ⟨u, a, b⟩ := hr2 (j - L.length) (by simp at hj; omega)
        refine ⟨u, by rw [List.getElem?_append_right (by omega), hUk, ← hLk]; exact a, ?_⟩
        rw [List.getElem_append_right hge]
        exact (b.least (Nat.zero_le _)).grownS hg' hr
    refine hK v' (us ++ ms) w' ⟨by simp [h.1, hml], by simp [h.2.1], hown', ?_, hM2⟩ hg'
    refine own_noStr hown' (by omega) fun u hu => ?_
    obtain ⟨u', a, A, c, e, _⟩ := hM2 0 (by simp; omega)
    rw [hu] at a
    cases a
    exact ⟨A, _, c, e⟩

theorem lsA_one {w : World} {g : Nat} {u : Value} {l : List ByteArray} (h : w.heap[g]? = some (.cells #[u] 51 (0, 0))) (hu : ReadsF 0 encS u l w) : LsA g 1 [u] [l] (.slice (some ⟨g, 0, none⟩) 1 1) w := by
  have ho : w.ownsRow g 51 1 (.slice (some ⟨g, 0, none⟩) 1 1) 1 [u] := ⟨rfl, .inr ⟨g, 1, #[u], rfl, Nat.le_refl _, h, by omega, by unfold maxLen; omega, rfl, rfl⟩⟩
  refine ⟨rfl, rfl, ho, own_noStr ho (by omega) fun u' hu' => ?_, fun j hj => ?_⟩
  · obtain ⟨A, c, e, _⟩ := hu
    simp at hu'
    exact ⟨A, _, c, hu' ▸ e⟩
  · obtain rfl : j = 0 := by simp at hj; exact hj
    exact ⟨u, rfl, hu⟩

set_option maxHeartbeats 2000000 in
theorem next_exp {b1 b2 b3 : Nat} {s parts : List ByteArray} {later : List (List ByteArray)} {v1 v2 v3 : Value} (hl : s.length ≤ 1000000) (hp : later.length ≤ 999999) (hps : ∀ l ∈ parts :: later, l.length ≤ 1000000) {w : World} (h1 : ReadsF b1 encS v1 s w) (h2 : ReadsF b2 encS v2 parts w) (h3 : ListsF b3 v3 later w) :
    Calls Try.prog 42 #[v1, v2, v3] w fun e w' => ∃ u, e = .returned (.tuple #[u, .int .i64 (chkErr s (parts :: later))]) ∧ Below w.heap.size w w' ∧ ReadsF w.heap.size encS u (okL (chkErr s (parts :: later)) (nextOf s parts later)) w' := by
  have hW : Below w.heap.size w (w.alloc (.cells #[v2] 51)) := (Below.refl _ _).alloc (Nat.le_refl _) _
  have HW := Lib.hid hW
  have HLS : Hid (LsA w.heap.size 1 [v2] [parts] (.slice (some ⟨w.heap.size, 0, none⟩) 1 1) (w.alloc (.cells #[v2] 51))) := lsA_one (blk_new w _ rfl) ((h2.least (Nat.zero_le _)).below hW)
  have HL3 := Lib.hid (h3.below hW)
  have HH := Lib.hid (And.intro h1 (And.intro h2 h3))
  have CC := Lib.hid (fun (W : World) (u : Value) (h1 : ReadsF b1 encS v1 s W) (h2 : ListsF 0 u (parts :: later) W) => check_any hl (by simp; omega) hps h1 h2)
  have HO := Lib.hid (@chkErr_ok s (parts :: later))
  obtain ⟨A, c, rfl, _, _⟩ := h1
  obtain ⟨A2, c2, rfl, _, _⟩ := h2
  obtain ⟨A3, c3, rfl, _, _⟩ := h3
  clear hW
  generalize chkErr s (parts :: later) = E at *
  by_cases h0 : E = 0
  · have hok := HO.out h0
    have CN := Lib.hid (fun (W : World) (h1 : ReadsF b1 encS (.slice A s.length c) s W) (h2 : ReadsF b2 encS (.slice A2 parts.length c2) parts W) (h3 : ListsF b3 (.slice A3 later.length c3) later W) => nextP_any hok.1 (hok.2.2 parts (by simp)).2 (hok.2.2 parts (by simp)).1 (by omega) (fun l hl => hps l (by simp [hl])) (fun l hl => (hok.2.2 l (by simp [hl])).2) h1 h2 h3)
    rw [okL_ok h0]
    subst h0
    clear hok HO hps
    go_enter Try.func42, Try.ntmps42
    go_wp2_with (at_builtin; refine hold ?_)
    refine loose ?_
    refine wpList_append_lists rfl _ _ rfl rfl HLS.out rfl HL3.out (by simp) (by omega) ?_
    intro v' us' w1 hls hg
    have HB : Hid (Below w.heap.size w w1) := HW.out.grown hg HW.out.size (fun j e => by cases e; exact Nat.le_refl _)
    have HLL := Lib.hid hls.lists
    clear hls hg HLS HL3
    go_wp2_with fail
    refine (CC.out _ _ (HH.out.1.below HB.out) HLL.out).mono ?_
    rintro e w2 ⟨rfl, rfl⟩
    go_wp2_with fail
    refine (CN.out _ (HH.out.1.below HB.out) (HH.out.2.1.below HB.out) (HH.out.2.2.below HB.out)).mono ?_
    rintro e w2 ⟨u, rfl, hb, hown⟩
    have HF : Hid (Below w.heap.size w w2 ∧ ReadsF w.heap.size encS u (nextOf s parts later) w2) := ⟨HB.out.then_below hb HB.out.size, (own_strs hown).least HB.out.size⟩
    clear hb hown
    go_wp2_with fail
    refine bodyPost_ret (v := .tuple #[u, .int .i64 0]) (by unfold results; simp only [Try.results42]; go_simp) rfl ⟨u, rfl, HF.out.1, HF.out.2⟩
  · have hne : (E != 0) = true := by simpa using h0
    rw [okL_bad h0]
    clear HO
    go_enter Try.func42, Try.ntmps42
    go_wp2_with (at_builtin; refine hold ?_)
    refine loose ?_
    refine wpList_append_lists rfl _ _ rfl rfl HLS.out rfl HL3.out (by simp) (by omega) ?_
    intro v' us' w1 hls hg
    have HB : Hid (Below w.heap.size w w1) := HW.out.grown hg HW.out.size (fun j e => by cases e; exact Nat.le_refl _)
    have HLL := Lib.hid hls.lists
    clear hls hg HLS HL3
    go_wp2_with fail
    refine (CC.out _ _ (HH.out.1.below HB.out) HLL.out).mono ?_
    rintro e w2 ⟨rfl, rfl⟩
    go_wp2_with fail
    refine bodyPost_ret (v := .tuple #[.slice none 0 0, .int .i64 E]) (by unfold results; simp only [Try.results42]; go_simp) rfl ⟨_, rfl, HB.out, readsF_nil _ _ _⟩

theorem grow_any (n : Nat) (h1 : 1 ≤ n) (h2 : n ≤ 1000000) (w : World) :
    Calls Try.prog 82 #[.slice none 0 0, .int .i64 n] w fun e w' => ∃ v, e = .returned v ∧ LsA w.heap.size 0 [] [] v w' ∧ Below w.heap.size w w' := by
  obtain ⟨i0, hi0, hz0, hzz1, hz2⟩ := info_parts lst_info
  have := Any8.slices_Grow_grow Try.growL i0 (.slice none 0 0) hi0 hz0 (by omega) none 0 0 n [] w (by omega) (by omega) (by rw [hz2]; omega) (by omega) (by simp) (fun _ => rfl) (fun a h => by cases h)
  refine this.mono ?_
  rintro e w' ⟨rfl, rfl⟩
  refine ⟨_, rfl, ?_, (Below.refl _ w).drew.alloc (Nat.le_refl _) _⟩
  have hc := grownCap_ge w (0 + n) 0 51
  have hm := grownCap_le_maxLen w (0 + n) 0 51 (by unfold maxLen; omega)
  refine ⟨rfl, rfl, ⟨rfl, .inr ⟨_, _, _, rfl, Nat.le_refl _, blk_new w.drew _ rfl, by omega, hm, ?_, ?_⟩⟩, ?_, fun j h => by simp at h⟩
  · simp only [Nat.zero_add] at hc
    simp [Builtin.zeroCells, Value.cells, show Try.growL_ren.t 25 = 51 from rfl]
    omega
  · simp
  · intro g e x hx
    cases e
    have hx2 := (cell_of_blk (blk_new w.drew _ rfl) 0).symm.trans hx
    simp [Builtin.zeroCells, Value.cells] at hx2
    rw [Array.getElem?_append_left (by simp; omega)] at hx2
    simp at hx2
    obtain ⟨a, _, h2⟩ := hx2
    rw [Nat.mod_one] at h2
    cases h2
end Go.Proofs.Ytjmjmijjdgolfaa
