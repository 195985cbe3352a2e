/-
  The slots that can be taken, sorted by the library.
-/
import Derived.Test.YtjmjmijjdgolfaaSeH
namespace Go.Proofs.Ytjmjmijjdgolfaa
open Go.RowKit Go.Sort Go.Lib
set_option linter.unusedSimpArgs false
set_option linter.unusedVariables false

theorem cmpI_lt (s : List ByteArray) (wh : List Int) (a b : Nat) : cmpI s wh a b < 0 ↔ wh.getD b 0 < wh.getD a 0 ∨ (wh.getD b 0 = wh.getD a 0 ∧ bt (nth s b) < bt (nth s a)) := by
  unfold cmpI orI
  have h := cmpB_lt (bt (nth s b)) (bt (nth s a))
  generalize wh.getD b 0 = x
  generalize wh.getD a 0 = y
  rcases Int.lt_trichotomy x y with h1 | h1 | h1
  · have e : compareInt x y = -1 := if_pos h1
    rw [e, if_neg (show ¬ (-1 : Int) = 0 by decide)]
    exact ⟨fun _ => .inl h1, fun _ => by decide⟩
  · subst h1
    have e : compareInt x x = 0 := by unfold compareInt; rw [if_neg (Int.lt_irrefl _), if_neg (by omega)]
    rw [e, if_pos rfl, h]
    exact ⟨fun h => .inr ⟨rfl, h⟩, fun h => h.elim (fun h => absurd h (Int.lt_irrefl _)) (fun h => h.2)⟩
  · have e : compareInt x y = 1 := by unfold compareInt; rw [if_neg (by omega), if_pos h1]
    rw [e, if_neg (show ¬ (1 : Int) = 0 by decide)]
    exact ⟨fun h => absurd h (by decide), fun h => h.elim (fun h => by omega) (fun h => by omega)⟩
theorem swoRoom (s : List ByteArray) (wh : List Int) (z : Nat) : SWO (ltOf fun x y : Fin z => cmpI s wh x.val y.val) := by
  refine ⟨fun x => ?_, fun x y t h1 h2 => ?_, fun x y t h1 h2 => ?_⟩
  · unfold ltOf
    simp only [decide_eq_false_iff_not, cmpI_lt]
    rintro (h | ⟨_, h⟩)
    · omega
    · exact List.lt_irrefl _ h
  · unfold ltOf at *
    simp only [decide_eq_true_eq, cmpI_lt] at *
    rcases h1 with h1 | ⟨a1, h1⟩ <;> rcases h2 with h2 | ⟨a2, h2⟩
    · exact .inl (by omega)
    · exact .inl (by omega)
    · exact .inl (by omega)
    · exact .inr ⟨by omega, List.lt_trans h2 h1⟩
  · unfold ltOf at *
    simp only [decide_eq_false_iff_not, cmpI_lt, not_or, not_and] at *
    obtain ⟨a1, b1⟩ := h1
    obtain ⟨a2, b2⟩ := h2
    refine ⟨by omega, fun e => ?_⟩
    have e1 : wh.getD y.val 0 = wh.getD x.val 0 := by omega
    have e2 : wh.getD t.val 0 = wh.getD y.val 0 := by omega
    have l1 := b1 e1
    have l2 := b2 e2
    exact List.not_lt.mpr (List.le_trans (List.not_lt.mp l1) (List.not_lt.mp l2))

theorem permIn_whole {α : Type} [Inhabited α] {d d' : Array α} (h : PermIn 0 d.size d d') : d'.toList.Perm d.toList := by
  obtain ⟨hs, _, hp⟩ := h
  have e1 : d.extract 0 d.size = d := by simp
  have e2 : d'.extract 0 d.size = d' := by rw [← hs]; simp
  rw [e1, e2] at hp
  exact hp
theorem sortedIn_whole {α : Type} [Inhabited α] {lt : α → α → Bool} {d : Array α} {n : Nat} (hn : d.size = n) (h : SortedIn lt 0 n d) : d.toList.Pairwise fun x y => lt y x = false := by
  rw [List.pairwise_iff_getElem]
  intro i j hi hj hij
  have hi' : i < d.size := by simpa using hi
  have hj' : j < d.size := by simpa using hj
  have := h i j (Nat.zero_le _) hij (by omega)
  rw [getElem!_pos d j hj', getElem!_pos d i hi'] at this
  simpa using this

theorem own_sw {α : Type} [Inhabited α] (enc : α → Value) {w : World} {base g cap n : Nat} {e : TypeId} {os : Array Obj} {cur : Array Value} {l l' : List α} (hl : l'.length = l.length) (hbase : base ≤ g) (hb : w.heap[g]? = some (.cells cur e (0, 0)))
    (h1 : l.length ≤ cap) (h2 : cap ≤ maxLen) (h3 : cur.size = cap * 1) :
    (sortWorld enc w g 0 n l'.toArray os).ownsRow base e 1 (.slice (some ⟨g, 0, none⟩) l.length cap) l.length (l'.map enc) := by
  have hg : g < w.heap.size := lt_of_blk hb
  have hh : (sortWorld enc w g 0 n l'.toArray os).heap[g]? = some (.cells (putCells enc 0 l'.toArray cur) e (0, 0)) := by
    unfold sortWorld
    rw [heap_grow_old _ _ (by simpa using hg)]
    simp [putRow, mapBlock, Sort.ahead, Array.getElem?_modify, hb, onCells]
  refine ⟨by simp [hl], .inr ⟨g, cap, _, rfl, hbase, hh, h1, h2, by simp [putCells, h3], ?_⟩⟩
  rw [Nat.mul_one, ← hl]
  apply List.ext_getElem?
  intro j
  by_cases hj : j < l'.length
  · rw [List.getElem?_take_of_lt hj, Array.getElem?_toList]
    simp [putCells, hj, show j < cur.size by omega]
  · rw [List.getElem?_take_eq_none (by omega), List.getElem?_eq_none (by simp; omega)]

theorem holds_own {α : Type} [Inhabited α] (enc : α → Value) {w : World} {g : Nat} {cur : Array Value} {e : TypeId} {l : List α} (hb : w.heap[g]? = some (.cells cur e (0, 0))) (ht : cur.toList.take l.length = l.map enc) : Holds enc w g 0 l.toArray := by
  intro j hj
  have hj' : j < l.length := by simpa using hj
  refine ⟨?_, by simp [World.frozen?, hb]⟩
  have h1 : (cur.toList.take l.length)[j]? = (l.map enc)[j]? := by rw [ht]
  rw [List.getElem?_take_of_lt hj', Array.getElem?_toList] at h1
  rw [Nat.zero_add, cell_of_blk hb, h1]
  simp [hj']

def encI (j : Nat) : Value := .int .i64 j
/-- What lies still while the slots are sorted. -/
def RoomAt (s : List ByteArray) (wh : List Int) (vb sb gw : Nat) (A : Option Addr) (cs : Nat) (w : World) : Prop :=
  w.heap[vb]? = some (.cells #[.slice (some ⟨gw, 0, none⟩) s.length s.length] 22 (0, 0)) ∧ w.heap[gw]? = some (.cells (wh.map (Value.int .i64)).toArray 3 (0, 0)) ∧
  w.heap[sb]? = some (.cells #[.slice A s.length cs] 51 (0, 0)) ∧ ReadsF 0 encS (.slice A s.length cs) s w
set_option maxHeartbeats 1000000 in
theorem sortRoom_any {s parts : List ByteArray} {later : List (List ByteArray)} {wh : List Int} {vb sb gw : Nat} {A : Option Addr} {cs : Nat} (hsl : s.length ≤ 100) (hwh : wh.length = s.length) {base : Nat} {v : Value} {w : World} (hR : RoomAt s wh vb sb gw A cs w)
    (hown : w.ownsRow base 3 1 v (spares s parts s.length).length ((spares s parts s.length).map encI)) (hB : base ≤ w.heap.size)
    (hd : ∀ j, v.ownBlock = some j → j ≠ vb ∧ j ≠ sb ∧ j ≠ gw ∧ ∀ g, A = some ⟨g, 0, none⟩ → j ≠ g) (hw : ∀ i ∈ spares s parts s.length, wh.getD i 0 = (whenOf (nth s i) later : Int)) :
    Calls Try.prog 114 #[v, .func (.func 115) #[] #[.pointer (some ⟨vb, 0, none⟩), .pointer (some ⟨sb, 0, none⟩)]] w fun e w' => e = .returned (.tuple #[]) ∧
      w.grownBy w' v.ownBlock ∧ ∃ R : List Nat, R.Perm (spares s parts s.length) ∧ (R.Pairwise fun i j => better later (nth s j) (nth s i) = false) ∧ w'.ownsRow base 3 1 v R.length (R.map encI) := by
  rcases Nat.eq_zero_or_pos (spares s parts s.length).length with h0 | h0
  · obtain ⟨A', c', rfl, _⟩ := own_form hown
    have h00 := List.length_eq_zero_iff.mp h0
    rw [h0]
    refine (AnyF.slices_SortFunc_none { Try.sortI with } A' c' _ w).mono ?_
    rintro e w' ⟨rfl, rfl⟩
    refine ⟨rfl, ⟨rfl, rfl, rfl, Nat.le_refl _, fun _ _ _ => rfl⟩, [], ?_, .nil, ?_⟩
    · rw [h00]
    · have := hown
      rw [h00] at this
      exact this
  · rcases hown.2 with ⟨rfl, he⟩ | ⟨g, cap, cur, rfl, hb, hc, h1, h2, h3, h4⟩
    · omega
    have hlt : ∀ i ∈ spares s parts s.length, i < s.length := fun i hi => by
      have := (List.mem_filter.mp hi).1
      simpa using this
    have hz : 0 < s.length := by
      obtain ⟨i, hi⟩ := List.exists_mem_of_length_pos h0
      have := hlt i hi
      omega
    haveI : Inhabited (Fin s.length) := ⟨⟨0, hz⟩⟩
    obtain ⟨dl, hdl⟩ : ∃ dl : List (Fin s.length), dl.map Fin.val = spares s parts s.length := by
      refine ⟨(spares s parts s.length).pmap (fun i h => ⟨i, h⟩) hlt, ?_⟩
      rw [List.map_pmap]
      simp
    have hdn : dl.length = (spares s parts s.length).length := by rw [← hdl, List.length_map]
    have hme : (spares s parts s.length).map encI = dl.map (fun x : Fin s.length => Value.int .i64 (x.val : Int)) := by rw [← hdl, List.map_map]; rfl
    obtain ⟨d1, d2, d3, d4⟩ := hd g rfl
    obtain ⟨r1, r2, r3, A', c', e0, hc0, r4⟩ := hR
    cases e0
    rcases r4 with r4 | ⟨gs, rfl, _, r4⟩
    · rw [r4] at hz; simp at hz
    have d5 := d4 gs rfl
    have eg : ∀ args w, (callFunc 115 args).run Try.prog w = .ok (.enter 115 args) w := enters_of Try.func115 (by kernel_rfl) rfl
    have hH : Holds (fun x : Fin s.length => Value.int .i64 (x.val : Int)) w g 0 dl.toArray := holds_own _ hc (by rw [← hme, hdn]; simpa using h4)
    have hcmp : CmpLays1 Try.prog 115 #[.pointer (some ⟨vb, 0, none⟩), .pointer (some ⟨sb, 0, none⟩)] (fun x : Fin s.length => Value.int .i64 (x.val : Int)) (fun x y => cmpI s wh x.val y.val) g 0 dl.toArray.size w := by
      intro m os dk hs x y
      have hgr := grownBy_sw (fun x : Fin s.length => Value.int .i64 (x.val : Int)) w g 0 m dk os
      have hblk : ∀ {j : Nat} {o : Obj}, w.heap[j]? = some o → g ≠ j → (sortWorld (fun x : Fin s.length => Value.int .i64 (x.val : Int)) w g 0 m dk os).heap[j]? = some o := fun h hne =>
        (hgr.block _ (lt_of_blk h) (fun e => hne (by cases e; rfl))).trans h
      have hrow : ∀ {j : Nat} {l : List Value}, LineAt w j l → g ≠ j → LineAt (sortWorld (fun x : Fin s.length => Value.int .i64 (x.val : Int)) w g 0 m dk os) j l := fun h hne => by
        refine ⟨Nat.lt_of_lt_of_le h.1 hgr.size, fun k u hu => ?_⟩
        rw [← h.2 k u hu]
        unfold World.cell?
        rw [hgr.block _ h.1 (fun e => hne (by cases e; rfl))]
      have hwl : LineAt w gw (wh.map (Value.int .i64)) := ⟨lt_of_blk r2, fun j u hu => by rw [cell_of_blk r2]; simpa using hu⟩
      exact roomC_any rfl hwh (by omega) (hblk r1 d1) (hrow hwl d3) (hblk r3 d2) (hrow r4 d5) x.val y.val x.isLt y.isLt
    have hcon := Any.slices_SortFunc Try.sortI (fun x : Fin s.length => Value.int .i64 (x.val : Int)) (fun _ => rfl) (fun x y => cmpI s wh x.val y.val) (swoRoom s wh s.length) 115 #[.pointer (some ⟨vb, 0, none⟩), .pointer (some ⟨sb, 0, none⟩)] g 0 cap dl.toArray w eg hcmp hH (lt_of_blk hc) (by
      have := List.length_filter_le (fun i => !em (nth s i) && !has parts (nth s i)) (List.range s.length)
      rw [List.length_range] at this
      rw [List.size_toArray, hdn]
      unfold spares
      omega)
    change Calls Try.prog 114 _ _ _ at hcon
    rw [List.size_toArray, hdn] at hcon
    refine hcon.mono ?_
    rintro e w' ⟨rfl, d', n, os, hp, hs, rfl⟩
    have hl : d'.toList.length = dl.length := by have := hp.1; simpa [hdn] using this
    have hpe : d'.toList.Perm dl := by simpa using permIn_whole (d := dl.toArray) (by simpa [hdn] using hp)
    refine ⟨rfl, grownBy_sw _ _ _ _ _ _ _, d'.toList.map Fin.val, by rw [← hdl]; exact hpe.map _, ?_, ?_⟩
    · rw [List.pairwise_map]
      have hm : ∀ x ∈ d'.toList, wh.getD x.val 0 = (whenOf (nth s x.val) later : Int) := fun x hx => hw _ (by rw [← hdl]; exact List.mem_map.mpr ⟨x, hpe.mem_iff.mp hx, rfl⟩)
      refine (sortedIn_whole (n := dl.length) (by simpa using hl) (by simpa [hdn] using hs)).imp_of_mem ?_
      intro x y hx hy h
      have hnl : ¬ cmpI s wh y.val x.val < 0 := by
        have : ltOf (fun x y : Fin s.length => cmpI s wh x.val y.val) y x = false := h
        unfold ltOf at this
        simpa using this
      rw [cmpI_lt, hm x hx, hm y hy] at hnl
      unfold better
      rw [Bool.or_eq_false_iff, Bool.and_eq_false_iff, decide_eq_false_iff_not, decide_eq_false_iff_not, decide_eq_false_iff_not]
      refine ⟨fun h => hnl (.inl (by omega)), ?_⟩
      by_cases e : whenOf (nth s y.val) later = whenOf (nth s x.val) later
      · exact .inr fun h => hnl (.inr ⟨by omega, h⟩)
      · exact .inl e
    · have ho := own_sw (fun x : Fin s.length => Value.int .i64 (x.val : Int)) (n := n) (os := os) (l := dl) (l' := d'.toList) hl hb hc (by omega) h2 h3
      rw [hdn] at ho
      rw [show d'.toList.toArray = d' by simp] at ho
      rw [List.length_map, List.map_map, show d'.toList.length = (spares s parts s.length).length by rw [hl, hdn]]
      exact ho
end Go.Proofs.Ytjmjmijjdgolfaa
