/-
  The slots that can be taken, in their order: the program's roomFor.
-/
import Derived.Test.YtjmjmijjdgolfaaSeI
import Derived.Deep.AppendSrc
import Derived.Laws.MakeOwn
namespace Go.Proofs.Ytjmjmijjdgolfaa
open Go.RowKit Go.Sort Go.Lib
set_option linter.unusedSimpArgs false
set_option linter.unusedVariables false

theorem int_info : (Try.prog.info? 3).map (fun i => (i.zero, i.size, i.bytes)) = some (some (.int .i64 0), 1, 8) := by kernel_rfl
/-- A row of noughts is made. -/
theorem run_makeInts (n : Nat) (hn : n ≤ 1000000) (W : World) : (Instr.makeSlice 22 (.int .i64 n) (.int .i64 n)).run Try.prog W = .ok (.slice (some ⟨W.heap.size, 0, none⟩) n n) (W.alloc (.cells (Array.replicate n (.int .i64 0)) 3)) := by
  obtain ⟨i0, hi, hz0, hz1, hz2⟩ := info_parts int_info
  have h := run_make (P := Try.prog) W 22 3 i0 (.int .i64 0) Try.underlying22 hi hz0 .i64 .i64 n n (by omega) (by omega) (by rw [hz2]; omega) (by omega)
  rw [h, hz1]
  have e : madeCells (Value.int .i64 0).cells ((n : Int).toNat * 1) = Array.replicate n (.int .i64 0) := by
    apply Array.ext
    · simp [madeCells]
    · intro j h1 h2
      simp [madeCells, Value.cells, Nat.mod_one]
  rw [e]
  simp

/-- Nothing is appended. -/
theorem run_append_nothing (t e : TypeId) (ht : Try.prog.underlying t = some (.slice e)) (i : TypeInfo) (hi : Try.prog.info? e = some i) (ty : TypeId) (A : Option Addr) (L C c : Nat) (hA : (∃ b : Nat, A = some ⟨b, 0, none⟩) ∨ (A = none ∧ L = 0 ∧ C = 0)) (hLC : L ≤ C) (w : World) :
    (Builtin.append_ #[t, t] ty #[.slice A L C, .slice none 0 c]).run Try.prog w = .ok (.slice A L C) w := by
  rcases hA with ⟨b, rfl⟩ | ⟨rfl, rfl, rfl⟩
  · have := run_append_room_src (P := Try.prog) w t t ty e i ht hi b 0 L C (.slice none 0 c) 0 [] (Src.ofNil w ht c) (by omega) (fun j hj => by simp at hj) (fun j hj => by simp at hj)
    rw [this]
    rfl
  · have hs := Src.ofNil (P := Try.prog) (size := i.size) w ht c
    simp [Builtin.append_, run_underlying ht, sizeOf, typeInfo, hi, hs.len, hs.cells, Builtin.lenOf, Builtin.firstCells]
theorem wpList_append_nothing {w : World} {ops : Array Oper} {rest : List Oper} {o : Oper} {a : Act} {Q : Exit → Act → World → Prop} (hg : o.guard = none) (s x : Operand) (t e : TypeId)
    (hop : o.op = .call { callee := .builtin .append, args := #[s, x], argTypes := #[t, t] }) (ht : Try.prog.underlying t = some (.slice e)) (i : TypeInfo) (hi : Try.prog.info? e = some i) (A : Option Addr) (L C c : Nat)
    (hs : a.eval s = .slice A L C) (hx : a.eval x = .slice none 0 c) (hA : (∃ b : Nat, A = some ⟨b, 0, none⟩) ∨ (A = none ∧ L = 0 ∧ C = 0)) (hLC : L ≤ C)
    (hK : wpList Try.prog ops Q rest (a.put o.dst (.slice A L C)) w) : wpList Try.prog ops Q (o :: rest) a w := by
  refine wpList_plain hg fun K' hK' => ?_
  have hrun := run_append_nothing t e ht i hi o.type A L C c hA hLC w
  unfold Oper.wp
  simp [execOp, hop, resolve, invoke, builtin, hs, hx, hrun, Result.andThen]
  exact hK' _ _ hK
theorem own_slice {w : World} {base : Nat} {e : TypeId} {size n : Nat} {v : Value} {xs : List Value} (h : w.ownsRow base e size v n xs) : ∃ A c, v = .slice A n c ∧ n ≤ c ∧ ((∃ b : Nat, A = some ⟨b, 0, none⟩) ∨ (A = none ∧ n = 0 ∧ c = 0)) := by
  rcases h.2 with ⟨rfl, rfl⟩ | ⟨g, cap, cur, rfl, hb, hc, h1, h2, _⟩
  · exact ⟨none, 0, rfl, Nat.le_refl _, .inr ⟨rfl, rfl, rfl⟩⟩
  · exact ⟨_, cap, rfl, h1, .inl ⟨g, rfl⟩⟩

theorem empties_succ (s : List ByteArray) (k : Nat) : empties s (k + 1) = if em (nth s k) = true then empties s k ++ [k] else empties s k := by
  unfold empties
  rw [List.range_succ, List.filter_append]
  cases h : em (nth s k) <;> simp [h]
theorem spares_succ (s parts : List ByteArray) (k : Nat) : spares s parts (k + 1) = if em (nth s k) = true then spares s parts k else if has parts (nth s k) = true then spares s parts k else spares s parts k ++ [k] := by
  unfold spares
  rw [List.range_succ, List.filter_append]
  cases h : em (nth s k) <;> cases h2 : has parts (nth s k) <;> simp [h, h2]
theorem empties_len (s : List ByteArray) (k : Nat) : (empties s k).length ≤ k := by
  have := List.length_filter_le (fun i => em (nth s i)) (List.range k)
  rw [List.length_range] at this
  exact this
theorem spares_len (s parts : List ByteArray) (k : Nat) : (spares s parts k).length ≤ k := by
  have := List.length_filter_le (fun i => !em (nth s i) && !has parts (nth s i)) (List.range k)
  rw [List.length_range] at this
  exact this
theorem spares_lt {s parts : List ByteArray} {k i : Nat} (h : i ∈ spares s parts k) : i < k := by
  have := (List.mem_filter.mp h).1
  simpa using this
theorem map_enc_snoc (l : List Nat) (k : Nat) : (l ++ [k]).map encI = l.map encI ++ [.int .i64 (k : Int)] := by rw [List.map_append]; rfl
theorem RoomAt.below {s : List ByteArray} {wh : List Int} {vb sb gw : Nat} {A : Option Addr} {cs : Nat} {w w' : World} (h : RoomAt s wh vb sb gw A cs w) (hb : Below w.heap.size w w') : RoomAt s wh vb sb gw A cs w' :=
  ⟨blk_below hb h.1, blk_below hb h.2.1, blk_below hb h.2.2.1, h.2.2.2.below hb⟩
theorem RoomAt.grown {s : List ByteArray} {wh : List Int} {vb sb gw B : Nat} {A : Option Addr} {cs : Nat} {w w' : World} {row : Option Nat} (h : RoomAt s wh vb sb gw A cs w) (hg : w.grownBy w' row) (hr : ∀ j, row = some j → B ≤ j) (h1 : vb < B) (h2 : sb < B) (h3 : gw < B) (h4 : ∀ g, A = some ⟨g, 0, none⟩ → g < B) : RoomAt s wh vb sb gw A cs w' := by
  have hne : ∀ {j : Nat}, j < B → some j ≠ row := fun hj e => by have := hr _ e.symm; omega
  refine ⟨(hg.block _ (lt_of_blk h.1) (hne h1)).trans h.1, (hg.block _ (lt_of_blk h.2.1) (hne h3)).trans h.2.1, (hg.block _ (lt_of_blk h.2.2.1) (hne h2)).trans h.2.2.1, ?_⟩
  obtain ⟨A', c', e, hc, hr4⟩ := h.2.2.2
  cases e
  refine ⟨A, cs, rfl, hc, hr4.imp_right ?_⟩
  rintro ⟨g, rfl, h0, hl⟩
  refine ⟨g, rfl, h0, Nat.lt_of_lt_of_le hl.1 hg.size, fun j u hu => ?_⟩
  rw [← hl.2 j u hu]
  unfold World.cell?
  rw [hg.block _ hl.1 (hne (h4 g rfl))]

/-- What stands at the beginning of a round. -/
def RmSt (w : World) (s : List ByteArray) (later : List (List ByteArray)) (A : Option Addr) (cs : Nat) (l7 l8 lw : List Nat) (v7 v8 : Value) (wr : World) : Prop :=
  Below w.heap.size w wr ∧ w.heap.size + 3 ≤ wr.heap.size ∧
  (∃ wh : List Int, wh.length = s.length ∧ RoomAt s wh (w.heap.size + 1 + 1) w.heap.size (w.heap.size + 1) A cs wr ∧ ∀ i ∈ lw, wh.getD i 0 = (whenOf (nth s i) later : Int)) ∧
  wr.ownsRow (w.heap.size + 3) 3 1 v7 l7.length (l7.map encI) ∧ wr.ownsRow (w.heap.size + 3) 3 1 v8 l8.length (l8.map encI) ∧
  (∀ j, v7.ownBlock = some j → v8.ownBlock ≠ some j)
section
variable {w wr w' : World} {s : List ByteArray} {later : List (List ByteArray)} {A : Option Addr} {cs : Nat} {l7 l8 lw : List Nat} {v7 v8 : Value}
theorem RmSt.below (h : RmSt w s later A cs l7 l8 lw v7 v8 wr) (hb : Below wr.heap.size wr w') : RmSt w s later A cs l7 l8 lw v7 v8 w' := by
  obtain ⟨h1, h2, ⟨wh, h3, h4, h5⟩, h6, h7, h8⟩ := h
  exact ⟨h1.then_below hb h1.size, Nat.le_trans h2 hb.size, ⟨wh, h3, h4.below hb, h5⟩, own_below h6 hb, own_below h7 hb, h8⟩
theorem RmSt.put7 (h : RmSt w s later A cs l7 l8 lw v7 v8 wr) (hA : ∀ g, A = some ⟨g, 0, none⟩ → g < w.heap.size) {k g cap : Nat} (hg : wr.grownBy w' v7.ownBlock)
    (hown : w'.ownsRow (w.heap.size + 3) 3 1 (.slice (some ⟨g, 0, none⟩) (l7.length + 1) cap) (l7.length + 1) (l7.map encI ++ [.int .i64 (k : Int)])) (hat : v7.ownBlock = some g ∨ wr.heap.size ≤ g) :
    RmSt w s later A cs (l7 ++ [k]) l8 lw (.slice (some ⟨g, 0, none⟩) (l7.length + 1) cap) v8 w' := by
  obtain ⟨h1, h2, ⟨wh, h3, h4, h5⟩, h6, h7, h8⟩ := h
  have hr := own_row h6
  refine ⟨h1.grown hg h1.size (fun j e => by have := hr j e; omega), Nat.le_trans h2 hg.size, ⟨wh, h3, h4.grown hg (B := w.heap.size + 3) hr (by omega) (by omega) (by omega) (fun g e => by have := hA g e; omega), h5⟩, ?_, ?_, ?_⟩
  · rw [map_enc_snoc, List.length_append]
    exact hown
  · refine h7.kept hg ?_
    cases hq : v8.ownBlock with
    | none => exact .inl rfl
    | some j => exact .inr fun e => h8 j e.symm hq
  · intro j hj
    simp [Value.ownBlock] at hj
    subst hj
    rcases hat with h | h
    · exact h8 _ h
    · intro e
      have := (h7.lt _ e).2
      omega
theorem RmSt.put8 (h : RmSt w s later A cs l7 l8 lw v7 v8 wr) (hA : ∀ g, A = some ⟨g, 0, none⟩ → g < w.heap.size) {k g cap : Nat} (hg : wr.grownBy w' v8.ownBlock)
    (hown : w'.ownsRow (w.heap.size + 3) 3 1 (.slice (some ⟨g, 0, none⟩) (l8.length + 1) cap) (l8.length + 1) (l8.map encI ++ [.int .i64 (k : Int)])) (hat : v8.ownBlock = some g ∨ wr.heap.size ≤ g) :
    RmSt w s later A cs l7 (l8 ++ [k]) lw v7 (.slice (some ⟨g, 0, none⟩) (l8.length + 1) cap) w' := by
  obtain ⟨h1, h2, ⟨wh, h3, h4, h5⟩, h6, h7, h8⟩ := h
  have hr := own_row h7
  refine ⟨h1.grown hg h1.size (fun j e => by have := hr j e; omega), Nat.le_trans h2 hg.size, ⟨wh, h3, h4.grown hg (B := w.heap.size + 3) hr (by omega) (by omega) (by omega) (fun g e => by have := hA g e; omega), h5⟩, ?_, ?_, ?_⟩
  · refine h6.kept hg ?_
    cases hq : v7.ownBlock with
    | none => exact .inl rfl
    | some j => exact .inr fun e => h8 j hq e.symm
  · rw [map_enc_snoc, List.length_append]
    exact hown
  · intro j hj e
    simp [Value.ownBlock] at e
    subst e
    rcases hat with h | h
    · exact h8 _ hj h
    · have := (h6.lt _ hj).2
      omega
theorem RmSt.putW (h : RmSt w s later A cs l7 l8 lw v7 v8 wr) (hA : ∀ g, A = some ⟨g, 0, none⟩ → g < w.heap.size) {k : Nat} (hk : k < s.length) (hlw : ∀ i ∈ lw, i < k) :
    RmSt w s later A cs l7 l8 (lw ++ [k]) v7 v8 (wr.setCell ⟨w.heap.size + 1, k, none⟩ (.int .i64 (whenOf (nth s k) later : Int))) := by
  obtain ⟨h1, h2, ⟨wh, h3, h4, h5⟩, h6, h7, h8⟩ := h
  refine ⟨h1.setCell (by show w.heap.size ≤ w.heap.size + 1; omega) _, by simpa [World.setCell] using h2, ⟨wh.set k (whenOf (nth s k) later : Int), by simpa using h3, ⟨blk_far h4.1 (by show w.heap.size + 1 + 1 ≠ w.heap.size + 1; omega) _, ?_, blk_far h4.2.2.1 (by show w.heap.size ≠ w.heap.size + 1; omega) _, ?_⟩, ?_⟩, own_far h6 (by show w.heap.size + 1 < w.heap.size + 3; omega) _, own_far h7 (by show w.heap.size + 1 < w.heap.size + 3; omega) _, h8⟩
  · have := blk_set (i := k) h4.2.1 (.int .i64 (whenOf (nth s k) later : Int))
    rw [this]
    simp [List.map_set]
  · obtain ⟨A', c', e, hc, hr4⟩ := h4.2.2.2
    cases e
    refine ⟨A, cs, rfl, hc, hr4.imp_right ?_⟩
    rintro ⟨g, rfl, h0, hl⟩
    refine ⟨g, rfl, h0, by simpa [World.setCell] using hl.1, fun j u hu => ?_⟩
    rw [World.cell?_setCell_other _ _ _ _ (fun e => by have h9 := congrArg Addr.block e; have h10 := hA g rfl; simp only at h9; omega)]
    exact hl.2 j u hu
  · intro i hi
    rcases List.mem_append.mp hi with hi | hi
    · have := hlw i hi
      rw [List.getD_eq_getElem?_getD, List.getElem?_set_ne (by omega), ← List.getD_eq_getElem?_getD]
      exact h5 i hi
    · simp only [List.mem_singleton] at hi
      subst hi
      rw [List.getD_eq_getElem?_getD, List.getElem?_set_self (by omega)]
      rfl
end

set_option maxRecDepth 100000 in
set_option maxHeartbeats 8000000 in
theorem roomFor_any {b1 b2 b3 : Nat} {s parts : List ByteArray} {later : List (List ByteArray)} {v1 v2 v3 : Value} (hs : SetOk s) (hp : PaOk parts) (hpl : parts.length ≤ 1000000) (hL : later.length ≤ 1000000) (hLL : ∀ l ∈ later, l.length ≤ 1000000) (hLP : ∀ l ∈ later, PaOk l)
    {w : World} (h1 : ReadsF b1 encS v1 s w) (h2 : ReadsF b2 encS v2 parts w) (h3 : ListsF b3 v3 later w) :
    Calls Try.prog 100 #[v1, v2, v3] w fun e w' => ∃ u, e = .returned u ∧ Below w.heap.size w w' ∧ ∃ R : List Nat, R.Perm (spares s parts s.length) ∧ (R.Pairwise fun i j => better later (nth s j) (nth s i) = false) ∧ w'.ownsRow w.heap.size 3 1 u (empties s s.length ++ R).length ((empties s s.length ++ R).map encI) := by
  have hn100 := hs.2.1
  have HH := Lib.hid (And.intro (h1.least (Nat.zero_le _)) (And.intro h2 h3))
  obtain ⟨A, cs, rfl, hcs, hrr⟩ := h1
  have hAg : ∀ g, A = some ⟨g, 0, none⟩ → g < w.heap.size := fun g e => by
    rcases hrr with hr | ⟨g', e2, _, hr⟩
    · exact absurd hr hs.1
    · rw [e] at e2
      cases e2
      exact hr.1
  obtain ⟨A2, c2, rfl, _, _⟩ := h2
  obtain ⟨A3, c3, rfl, _, _⟩ := h3
  have HA := Lib.hid hAg
  have hmk := run_makeInts s.length (by omega)
  clear hrr hAg
  have CN := Lib.hid (fun (x : ByteArray) (W : World) (h : ReadsF b2 encS (.slice A2 parts.length c2) parts W) => needs_any x hpl hp h)
  have CF := Lib.hid (fun (x : ByteArray) (W : World) (h : ListsF b3 (.slice A3 later.length c3) later W) => firstNeed_any x hL hLL hLP h)
  go_enter Try.func100, Try.ntmps100
  go_wp2_with fail
  have HM := Lib.hid hmk
  clear hmk
  have H0 : Hid (RmSt w s later A cs (empties s 0) (spares s parts 0) (spares s parts 0) (.slice none 0 0) (.slice none 0 0) (((w.alloc (.cells #[.slice A s.length cs] 51)).alloc (.cells (Array.replicate s.length (.int .i64 0)) 3)).alloc (.cells #[.slice (some ⟨w.heap.size + 1, 0, none⟩) s.length s.length] 22))) := by
    have hb1 : Below w.heap.size w (w.alloc (.cells #[.slice A s.length cs] 51)) := (Below.refl _ _).alloc (Nat.le_refl _) _
    have hb3 := (hb1.alloc (by simp) (.cells (Array.replicate s.length (.int .i64 0)) 3)).alloc (by simp; omega) (.cells #[.slice (some ⟨w.heap.size + 1, 0, none⟩) s.length s.length] 22)
    refine ⟨hb3, by simp, ⟨List.replicate s.length 0, by simp, ⟨blk_new _ _ (by simp), ?_, ?_, HH.out.1.below hb3⟩, fun i hi => by simp [spares] at hi⟩, World.ownsRow_nil _ _ _ _, World.ownsRow_nil _ _ _ _, by simp [Value.ownBlock]⟩
    · have e : ((List.replicate s.length (0 : Int)).map (Value.int .i64)).toArray = Array.replicate s.length (.int .i64 0) := by simp
      rw [e]
      exact blk_alloc (blk_new _ _ (by simp)) _
    · exact blk_alloc (blk_alloc (blk_new w _ rfl) _) _
  go_loopw [7, 8, 17] (fun v7 v8 kk wr => ∃ k : Nat, k ≤ s.length ∧ kk = .int .i64 k ∧ Hid (RmSt w s later A cs (empties s k) (spares s parts k) (spares s parts k) v7 v8 wr)) (fun _ _ kk _ => s.length - (intOf kk).toNat)
  case atStart => exact ⟨0, by omega, rfl, H0⟩
  case round =>
    clear H0
    obtain ⟨k, hk, rfl, HS⟩ := hrel
    by_cases hlt : k < s.length
    · obtain ⟨hb, hsz, ⟨wh, hwl, hR, hwv⟩, ho7, ho8, hne⟩ := HS.out
      have hread := hR.2.2.2
      obtain ⟨A', c', e, _, hr⟩ := hread
      cases e
      rcases hr with hr | ⟨g, rfl, _, hrow⟩
      · exact absurd hr hs.1
      have q1 := row_strg hrow hlt
      rw [← nth_at hlt] at q1
      have hg1 := hrow.1
      have i1 : (0 : Int) ≤ (k : Int) := by omega
      have i2 : (k : Int) < (s.length : Int) := by omega
      obtain ⟨A7, k7, rfl, _⟩ := own_form ho7
      obtain ⟨A8, k8, rfl, _⟩ := own_form ho8
      have HES := Lib.hid (empties_succ s k)
      have HPS := Lib.hid (spares_succ s parts k)
      have HSL := Lib.hid (fun i (h : i ∈ spares s parts k) => spares_lt h)
      have hl7 := empties_len s k
      have hl8 := spares_len s parts k
      have hzr : w.heap.size < wr.heap.size := by omega
      obtain ⟨x, hx⟩ : ∃ x, nth s k = x := ⟨_, rfl⟩
      rw [hx] at q1 HES HPS
      have HX := Lib.hid hx
      have HN := Lib.hid (CN.out x wr (HH.out.2.1.below hb))
      clear hx hrow hR hwv hwl ho7 ho8 hne
      generalize empties s k = l7 at *
      generalize spares s parts k = l8 at *
      cases he : x.toList.isEmpty
      · rw [if_neg (show ¬ em x = true by unfold em; rw [he]; simp)] at HES HPS
        cases hh : has parts x
        · rw [hh] at HN
          rw [if_neg (by rw [hh]; simp)] at HPS
          clear hh
          go_wp2_with fail
          refine HN.out.mono ?_
          rintro e w1 ⟨rfl, q, rfl⟩
          have H1 := Lib.hid (HS.out.below ((Below.refl _ _).drawN q))
          clear HS HN
          generalize wr.drewN q = w1 at *
          have hz1 : w.heap.size + 3 ≤ w1.heap.size := H1.out.2.1
          obtain ⟨i0, hi0, hz0, hzz1, hz2⟩ := info_parts int_info
          have HI := Lib.hid (And.intro hi0 (And.intro hz0 (And.intro hzz1 hz2)))
          clear hi0 hz0 hzz1 hz2
          go_wp2_with (at_builtin; refine hold ?_)
          refine loose ?_
          refine wpList_append_lies _ rfl _ _ 22 rfl (w.heap.size + 3) 3 i0 _ 1 8 Try.underlying22 HI.out.1 HI.out.2.1 HI.out.2.2.1 HI.out.2.2.2 rfl (by omega) _ l8.length (l8.map encI) rfl (H1.out.2.2.2.2.1.alloc _) ⟨w1.heap.size, 0, none⟩ 1 1 [.int .i64 (k : Int)] rfl rfl (cell_one_new _ _ _) (by intro u hu; simp at hu; subst hu; rfl) (by omega) (by unfold maxLen; omega) (by omega) (by simp; omega) (w1.heap.size + 1) (by simp) ?_
          intro g8 cap8 w2 hown' hg' hat hlt'
          have H2 := Lib.hid ((H1.out.below ((Below.refl _ _).alloc (Nat.le_refl _) (.cells #[.int .i64 (k : Int)] 3))).put8 HA.out hg' hown' (hat.imp id (fun e => by simp; omega)))
          clear hown' hg' hat hlt' H1 HI
          obtain ⟨W0, rfl⟩ : ∃ W0 : World, W0 = w2 := ⟨_, rfl⟩
          go_wp2_with fail
          refine Rg.rgL (fun a b => Below a.heap.size a b)
            [(fun vs u => vs 0 = .slice (some ⟨w.heap.size + 1, 0, none⟩) s.length s.length), (fun vs u => vs 1 = .int .i64 k), (fun vs u => vs 2 = .slice A3 later.length c3), (fun vs u => vs 3 = .string x), (fun vs u => vs 4 = .int .i64 (whenOf x later))]
            [[], [], [], [], [2, 3]] [some 38, some 39, some 40, some 41, some 42, some 43, none] [] (fun _ _ => True) [[], [], [], [], [2, 3], [0, 1, 2, 3, 4], [0, 1, 2, 3, 4, 5]]
            (by kernel_rfl) (by decide) (by kernel_rfl) (by kernel_rfl) (by kernel_rfl) (by kernel_rfl) (by kernel_rfl) (fun _ => Below.refl _ _) (fun _ _ _ h k => h.ext k) (fun _ _ h => h.size) ?_ trivial ?_ ?_
          · intro t ht vs w w' h hE
            simp only [List.mem_cons, List.not_mem_nil, or_false] at ht
            rcases ht with rfl | rfl | rfl | rfl | rfl
            · exact h
            · exact h
            · exact h
            · exact h
            · exact h
          ·
            refine Rg.cons 0 1 rfl (Rg.plain rfl ?_) ?_
            · intro vs W n hn hI hG hT hF K hK
              simp only [Rg.putsD, List.getD_cons_zero, List.getD_cons_succ, Act.put, List.setIfInBounds_toArray, List.set_cons_zero, List.set_cons_succ] at hK ⊢
              clear hn
              clear hF hI
              obtain ⟨_, _, hrm, _⟩ := (H2.out.below (w' := W) ((Below.refl _ W0).drew.ext hG)).2.2.1
              have c0 := blk_cell0 hrm.1
              clear hrm
              have H := Lib.hid hK
              clear hK hT
              go_simp
              exact H.out _ _ (Below.refl _ _) rfl (fun h => by cases h) trivial
            refine Rg.cons 1 2 rfl (Rg.plain rfl ?_) ?_
            · intro vs W n hn hI hG hT hF K hK
              simp only [Rg.putsD, List.getD_cons_zero, List.getD_cons_succ, Act.put, List.setIfInBounds_toArray, List.set_cons_zero, List.set_cons_succ] at hK ⊢
              clear hn
              clear hF hI
              have H := Lib.hid hK
              clear hK hT
              go_simp
              exact H.out _ _ (Below.refl _ _) rfl (fun h => by cases h) trivial
            refine Rg.cons 2 3 rfl (Rg.plain rfl ?_) ?_
            · intro vs W n hn hI hG hT hF K hK
              simp only [Rg.putsD, List.getD_cons_zero, List.getD_cons_succ, Act.put, List.setIfInBounds_toArray, List.set_cons_zero, List.set_cons_succ] at hK ⊢
              clear hn
              clear hF hI
              have H := Lib.hid hK
              clear hK hT
              go_simp
              exact H.out _ _ (Below.refl _ _) rfl (fun h => by cases h) trivial
            refine Rg.cons 3 4 rfl (Rg.plain rfl ?_) ?_
            · intro vs W n hn hI hG hT hF K hK
              simp only [Rg.putsD, List.getD_cons_zero, List.getD_cons_succ, Act.put, List.setIfInBounds_toArray, List.set_cons_zero, List.set_cons_succ] at hK ⊢
              clear hn
              clear hF hI
              have H := Lib.hid hK
              clear hK hT
              go_simp
              exact H.out _ _ (Below.refl _ _) rfl (fun h => by cases h) trivial
            refine Rg.cons 4 5 rfl (Rg.plain rfl ?_) ?_
            · intro vs W n hn hI hG hT hF K hK
              simp only [Rg.putsD, List.getD_cons_zero, List.getD_cons_succ, Act.put, List.setIfInBounds_toArray, List.set_cons_zero, List.set_cons_succ] at hK ⊢
              clear hn
              clear hF hI
              have t2 : vs 2 = .slice A3 later.length c3 := hT 2 (by decide)
              have t3 : vs 3 = .string x := hT 3 (by decide)
              have HG := Lib.hid hG
              clear hG
              simp only [t2, t3] at hK
              have H := Lib.hid hK
              clear hK hT
              go_simp
              refine (CF.out x _ (HH.out.2.2.below ((H2.out.1.drew).then_below HG.out H2.out.1.size))).mono ?_
              rintro e w6 ⟨rfl, b6⟩
              exact H.out _ _ b6 rfl (fun h => by cases h) trivial
            exact Rg.nil
          · intro vs W hG hI hT hF
            have t0 : vs 0 = .slice (some ⟨w.heap.size + 1, 0, none⟩) s.length s.length := hT 0 (by decide)
            have t1 : vs 1 = .int .i64 k := hT 1 (by decide)
            have t2 : vs 2 = .slice A3 later.length c3 := hT 2 (by decide)
            have t3 : vs 3 = .string x := hT 3 (by decide)
            have t4 : vs 4 = .int .i64 (whenOf x later) := hT 4 (by decide)
            simp only [List.length_cons, List.length_nil, Nat.reduceAdd, List.range, List.range.loop, List.drop_succ_cons, List.drop_zero, Rg.putsD, List.getD_cons_zero, List.getD_cons_succ, Act.put, List.setIfInBounds_toArray, List.set_cons_zero, List.set_cons_succ, t0, t1, t2, t3, t4]
            clear hT t0 t1 t2 t3 t4
            have H3 := Lib.hid (H2.out.below (w' := W) ((Below.refl _ W0).drew.ext hG))
            clear hF hG hI H2
            have H4 := Lib.hid (H3.out.putW HA.out hlt HSL.out)
            rw [HX.out] at H4
            obtain ⟨wh, hwl, hrm, _⟩ := H3.out.2.2.1
            have c0 : W.cell? ⟨w.heap.size + 1, k, none⟩ = some (.int .i64 (wh.getD k 0)) := by
              rw [cell_of_blk hrm.2.1, List.getElem?_toArray, List.getElem?_map, List.getD_eq_getElem?_getD, List.getElem?_eq_getElem (show k < wh.length by omega)]
              rfl
            have f0 : W.frozen? ⟨w.heap.size + 1, k, none⟩ = false := frozen_of_blk hrm.2.1 k
            have hwz : w.heap.size + 3 ≤ W.heap.size := H3.out.2.1
            clear hrm hwl H3
            generalize wh.getD k 0 = old at *
            go_wp2_with fail
            go_roundw
            case rel => exact ⟨k + 1, by omega, by go_num, by rw [HES.out, HPS.out]; exact H4.out⟩
            case measure => simp [intOf]; omega
        · rw [hh] at HN
          rw [if_pos hh] at HPS
          clear hh
          go_wp2_with fail
          refine HN.out.mono ?_
          rintro e w1 ⟨rfl, q, rfl⟩
          have H1 := Lib.hid (HS.out.below ((Below.refl _ _).drawN q))
          clear HS
          go_wp2_with fail
          go_roundw
          case rel => exact ⟨k + 1, by omega, by go_num, by rw [HES.out, HPS.out]; exact H1.out⟩
          case measure => simp [intOf]; omega
      · rw [if_pos (show em x = true from he)] at HES HPS
        obtain ⟨i0, hi0, hz0, hzz1, hz2⟩ := info_parts int_info
        have HI := Lib.hid (And.intro hi0 (And.intro hz0 (And.intro hzz1 hz2)))
        clear hi0 hz0 hzz1 hz2
        go_wp2_with (at_builtin; refine hold ?_)
        refine loose ?_
        refine wpList_append_lies _ rfl _ _ 22 rfl (w.heap.size + 3) 3 i0 _ 1 8 Try.underlying22 HI.out.1 HI.out.2.1 HI.out.2.2.1 HI.out.2.2.2 rfl (by omega) _ l7.length (l7.map encI) rfl (HS.out.2.2.2.1.alloc _) ⟨wr.heap.size, 0, none⟩ 1 1 [.int .i64 (k : Int)] rfl rfl (cell_one_new _ _ _) (by intro u hu; simp at hu; subst hu; rfl) (by omega) (by unfold maxLen; omega) (by omega) (by simp; omega) (wr.heap.size + 1) (by simp) ?_
        intro g7 cap7 w' hown' hg' hat hlt'
        have HF := Lib.hid ((HS.out.below ((Below.refl _ _).alloc (Nat.le_refl _) (.cells #[.int .i64 (k : Int)] 3))).put7 HA.out hg' hown' (hat.imp id (fun e => by simp; omega)))
        clear hown' hg' hat hlt' HS
        go_wp2_with fail
        go_roundw
        case rel => exact ⟨k + 1, by omega, by go_num, by rw [HES.out, HPS.out]; exact HF.out⟩
        case measure => simp [intOf]; omega
    · obtain rfl : k = s.length := by omega
      obtain ⟨hb, hsz, ⟨wh, hwl, hR, hwv⟩, ho7, ho8, hne⟩ := HS.out
      have hd8 : ∀ j, u8.ownBlock = some j → w.heap.size + 3 ≤ j := own_row ho8
      have CS := Lib.hid (sortRoom_any (later := later) hn100 hwl hR ho8 hsz (fun j hj => by
        have h1 := hd8 j hj
        exact ⟨by omega, by omega, by omega, fun g e => by have := HA.out g e; omega⟩) hwv)
      have HO := Lib.hid (And.intro hb (And.intro hsz (And.intro ho7 (And.intro hd8 (And.intro hne ho8)))))
      have hl7 := empties_len s s.length
      have hl8 := spares_len s parts s.length
      obtain ⟨A7, k7, e7, hc7, ha7⟩ := own_slice ho7
      obtain ⟨A8, k8, e8, hc8, ha8⟩ := own_slice ho8
      subst e7 e8
      clear hb hsz hR hwv hwl ho7 ho8 hne hd8
      go_wp2_with fail
      refine CS.out.mono ?_
      rintro e w2 ⟨rfl, hg, R, hperm, hsort, ho⟩
      have hRl : R.length = (spares s parts s.length).length := hperm.length_eq
      have ho7' : w2.ownsRow (w.heap.size + 3) 3 1 (.slice A7 (empties s s.length).length k7) (empties s s.length).length ((empties s s.length).map encI) := by
        refine HO.out.2.2.1.kept hg ?_
        cases hq : (Value.slice A7 (empties s s.length).length k7).ownBlock with
        | none => exact .inl rfl
        | some j => exact .inr fun e => HO.out.2.2.2.2.1 j hq e.symm
      have hB2 : Below w.heap.size w w2 := HO.out.1.grown hg HO.out.1.size (fun j e => by have := HO.out.2.2.2.1 j e; omega)
      have hz2 : w.heap.size + 3 ≤ w2.heap.size := Nat.le_trans HO.out.2.1 hg.size
      have HQ := Lib.hid (And.intro hB2 (And.intro hperm (And.intro hsort (And.intro ho7' ho))))
      clear CS hB2 hperm hsort ho7' hg ho
      obtain ⟨i0, hi0, hz0, hzz1, hz2'⟩ := info_parts int_info
      have HI := Lib.hid (And.intro hi0 (And.intro hz0 (And.intro hzz1 hz2')))
      clear hi0 hz0 hzz1 hz2'
      rcases ha8 with ⟨b8, rfl⟩ | ⟨rfl, h80, rfl⟩
      · go_wp2_with (at_builtin; refine hold ?_)
        refine loose ?_
        refine wpList_append_own _ rfl _ _ 22 rfl (w.heap.size + 3) 3 i0 _ 1 8 Try.underlying22 HI.out.1 HI.out.2.1 HI.out.2.2.1 HI.out.2.2.2 rfl (by omega) _ (empties s s.length).length ((empties s s.length).map encI) rfl HQ.out.2.2.2.1 ⟨b8, 0, none⟩ (spares s parts s.length).length k8 (R.map encI) rfl (by rw [List.length_map, hRl]; omega) ?_ (by intro u hu; obtain ⟨j, _, rfl⟩ := List.mem_map.mp hu; rfl) (by unfold maxLen; omega) (by omega) (by omega) ?_
        · intro j u hu
          exact HQ.out.2.2.2.2.cells rfl j u hu
        intro v' w3 hown' hg' _
        have HF : Hid (Below w.heap.size w w3 ∧ w3.ownsRow w.heap.size 3 1 v' ((empties s s.length) ++ R).length (((empties s s.length) ++ R).map encI)) := by
          refine ⟨HQ.out.1.grown hg' HQ.out.1.size (fun j e => by have := own_row HQ.out.2.2.2.1 j e; omega), ?_⟩
          rw [List.length_append, List.map_append, hRl]
          exact own_mono hown' (by omega)
        clear hown' hg'
        go_wp2_with fail
        go_ret
        exact ⟨_, rfl, HF.out.1, R, HQ.out.2.1, HQ.out.2.2.1, HF.out.2⟩
      · go_wp2_with (at_builtin; refine hold ?_)
        refine loose ?_
        have hR0 : R = [] := List.length_eq_zero_iff.mp (by omega)
        have HR0 := Lib.hid hR0
        clear hR0
        refine wpList_append_nothing rfl _ _ 22 3 rfl Try.underlying22 i0 HI.out.1 A7 (empties s s.length).length k7 0 rfl rfl ha7 hc7 ?_
        go_wp2_with fail
        go_ret
        refine ⟨_, rfl, HQ.out.1, R, HQ.out.2.1, HQ.out.2.2.1, ?_⟩
        rw [HR0.out, List.append_nil]
        exact own_mono HQ.out.2.2.2.1 (by omega)
end Go.Proofs.Ytjmjmijjdgolfaa
