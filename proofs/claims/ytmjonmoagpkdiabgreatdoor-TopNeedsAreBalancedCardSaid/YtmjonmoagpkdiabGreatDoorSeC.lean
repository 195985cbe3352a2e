/-
  What a setup has not: the program's map and closure.
-/
import Derived.Test.YtmjonmoagpkdiabGreatDoorLmE
import Derived.Test.YtmjonmoagpkdiabGreatDoorLmI
import Derived.Maps.OwnOps
import Derived.Maps.OwnSet
import Derived.Carry
namespace Go.Proofs.YtmjonmoagpkdiabGreatDoor
open Go.RowKit Go.WideMaps Go.Maps

/-! ### the halving of a rising row -/
theorem less_iff (a b : ByteArray) : Op.bytesLess a.toList b.toList = decide (bt a < bt b) := by rw [bytesLess_eq, Lib.toList_data, Lib.toList_data]
theorem halve_has {l : List ByteArray} (h : PaOk l) (x : ByteArray) :
    (decide (Lib.bsGo (fun t => Op.bytesLess (l.getD t x).toList x.toList) l.length 0 l.length < l.length ∧ l.getD (Lib.bsGo (fun t => Op.bytesLess (l.getD t x).toList x.toList) l.length 0 l.length) x = x)) = has l x := by
  obtain ⟨k, hk⟩ : ∃ k, l.findIdx (fun y => !decide (bt y < bt x)) = k := ⟨_, rfl⟩
  have hkl : k ≤ l.length := by rw [← hk]; exact List.findIdx_le_length
  have hp := List.pairwise_iff_getElem.mp h.2
  have h1 : ∀ t, t < k → Op.bytesLess (l.getD t x).toList x.toList = true := fun t ht => by
    rw [less_iff]
    have := List.not_of_lt_findIdx (p := fun y => !decide (bt y < bt x)) (xs := l) (i := t) (by omega)
    rw [List.getD_eq_getElem?_getD, List.getElem?_eq_getElem (show t < l.length by omega)]
    simpa using this
  have hkn : ∀ hkl' : k < l.length, ¬ bt l[k] < bt x := fun hkl' => by
    have := List.findIdx_getElem (p := fun y => !decide (bt y < bt x)) (xs := l) (w := by rw [hk]; exact hkl')
    simp only [hk] at this
    simpa using this
  have h2 : ∀ t, k ≤ t → Op.bytesLess (l.getD t x).toList x.toList = false := fun t ht => by
    rw [less_iff, decide_eq_false_iff_not]
    rcases Nat.lt_or_ge t l.length with hl | hl
    · rw [List.getD_eq_getElem?_getD, List.getElem?_eq_getElem hl]
      simp only [Option.getD_some]
      have hn := hkn (by omega)
      rcases Nat.eq_or_lt_of_le ht with e | hlt
      · subst e; exact hn
      · exact fun hc => hn (List.lt_trans (hp k t (by omega) hl hlt) hc)
    · rw [List.getD_eq_getElem?_getD, List.getElem?_eq_none hl]
      exact List.lt_irrefl _
  rw [Lib.bsGo_spec _ k h1 h2 l.length 0 l.length (by omega) (by omega) hkl]
  rw [Bool.eq_iff_iff, decide_eq_true_eq, has_iff]
  constructor
  · rintro ⟨a, b⟩
    rw [List.getD_eq_getElem?_getD, List.getElem?_eq_getElem a] at b
    exact b ▸ List.getElem_mem a
  · intro hx
    obtain ⟨j, hj, rfl⟩ := List.getElem_of_mem hx
    rcases Nat.lt_trichotomy j k with h3 | h3 | h3
    · have := h1 j h3
      rw [less_iff, List.getD_eq_getElem?_getD, List.getElem?_eq_getElem hj] at this
      exact absurd (by simpa using this) (List.lt_irrefl (bt l[j]))
    · subst h3
      exact ⟨hj, by rw [List.getD_eq_getElem?_getD, List.getElem?_eq_getElem hj]; rfl⟩
    · exact absurd (hp k j (by omega) hj h3) (hkn (by omega))

set_option maxHeartbeats 1000000 in
theorem needsP_any {base : Nat} {l : List ByteArray} {v : Value} (x : ByteArray) (hl : l.length ≤ 1000000) (hp : PaOk l) {w : World} (h : ReadsF base encS v l w) :
    Calls Tryz.prog 116 #[v, .string x] w fun e w' => e = .returned (.bool (has l x)) ∧ ∃ q, w' = w.drewN q := by
  obtain ⟨A, c, rfl, hcap, hr⟩ := h
  rcases Nat.eq_zero_or_pos l.length with h0 | h0
  · have hF := Lib.hid (has_false.mpr (show x ∉ l by rw [List.length_eq_zero_iff.mp h0]; simp))
    have CB := Lib.hid (fun W => Tryz.slices_BinarySearch_string_empty A c x W)
    rw [h0]
    clear h0 hcap hr
    go_enter Tryz.func116, Tryz.ntmps116
    go_wp2_with fail
    refine (CB.out _).mono ?_
    rintro e w' ⟨rfl, rfl⟩
    go_wp2_with fail
    go_ret
    exact ⟨ret_bool hF.out.symm, 0, rfl⟩
  · rcases hr with rfl | ⟨g, rfl, _, hrow⟩
    · simp at h0
    have CB := Lib.hid (fun (W : World) (hc : ∀ j, j < l.length → W.cell? ⟨g, 0 + j, none⟩ = some (.string (l.getD j x))) => Tryz.slices_BinarySearch_string g 0 l.length c (fun t => l.getD t x) x W (by omega) hc)
    have HS := Lib.hid (halve_has hp x)
    simp only [HS.out] at CB
    have hcell : ∀ j, j < l.length → w.cell? ⟨g, 0 + j, none⟩ = some (.string (l.getD j x)) := fun j hj => by
      rw [Nat.zero_add, List.getD_eq_getElem?_getD, List.getElem?_eq_getElem hj]
      exact row_strg hrow hj
    have HC := Lib.hid hcell
    clear hcell HS h0
    generalize has l x = b at *
    go_enter Tryz.func116, Tryz.ntmps116
    go_wp2_with fail
    refine (CB.out _ HC.out).mono ?_
    rintro e w' ⟨he, q, rfl⟩
    subst he
    go_wp2_with fail
    go_ret
    exact ⟨rfl, q, rfl⟩

/-! ### a map of what is there -/
theorem lawStr : Keyed Tryz.prog 9 := string_keyed Tryz.underlying9
theorem zeroBool (w : World) : (zeroValue 4).run Tryz.prog w = .ok (.bool false) w := by kernel_rfl
theorem plainElem_bool_inv {P : Program} {e : TypeId} (he : P.underlying e = some .bool) {v : Value} {z : DataW Unit × List MemPlace} (h : plainElem P e v = some z) : ∃ x, v = .bool x ∧ z = (.lit (.bool x), []) := by
  unfold plainElem at h
  rw [he] at h
  cases v <;> simp at h
  exact ⟨_, rfl, h.symm⟩
theorem wpList_lookup_own_bool {P : Program} (w : World) {ops : Array Oper} {rest : List Oper} {o : Oper} {a : Act} {Q : Exit → Act → World → Prop}
    (hg : o.guard = none) (m x : Operand) (t : TypeId) (hop : o.op = Op.lookup t m x false)
    (k e : TypeId) (K : Keyed P k) (ht : P.underlying t = some (.map k e)) (he : P.underlying e = some .bool) (hz : (zeroValue e).run P w = .ok (.bool false) w) (b n : Nat) (D : DataW Unit)
    (hm : a.eval m = .map (some b)) (hown : w.ownsMap P k (plainElem P e) b n D) (key : Value) (kl : Lit) (hx : a.eval x = key) (hkey : keyOf P k key = some kl)
    (hK : ∀ c : Bool, D.atKey kl (.lit (.bool false)) = .lit (.bool c) → wpList P ops Q rest (a.put o.dst (.bool c)) w) :
    wpList P ops Q (o :: rest) a w := by
  refine wpList_plain hg fun K' hK' => ?_
  obtain ⟨v, ps, hrun, hv⟩ := hown.lookup K ht hz (plainElem_bool he false) hkey
  obtain ⟨c, rfl, hc⟩ := plainElem_bool_inv he hv
  simp only [Prod.mk.injEq] at hc
  unfold Oper.wp
  simp [execOp, hop, hm, hx, hrun, Result.andThen]
  exact hK' _ _ (hK c hc.1)

/-- A map that has the strings of a list. -/
def ThereIs (D : DataW Unit) (l : List ByteArray) : Prop := IsMap D ∧ ∀ (s : List UInt8) z, D.atKey (.string s) z = if s ∈ l.map bt then .lit (.bool true) else z
theorem thereIs_nil : ThereIs (.map []) [] := ⟨isMap_empty, fun s z => by simp; rfl⟩
theorem thereIs_put {D : DataW Unit} {l : List ByteArray} (h : ThereIs D l) (x : ByteArray) : ThereIs (D.put (.string (bt x)) (.lit (.bool true))) (l ++ [x]) := by
  refine ⟨h.1.put _ _, fun t z => ?_⟩
  by_cases e : t = bt x
  · subst e
    rw [atKey_put_same (k := .string (bt x)) h.1 trivial, if_pos (by simp)]
  · rw [atKey_put_other (by simpa using e), h.2]
    have : (t ∈ (l ++ [x]).map bt) ↔ t ∈ l.map bt := by simp [e]
    by_cases hm : t ∈ l.map bt
    · rw [if_pos hm, if_pos (this.mpr hm)]
    · rw [if_neg hm, if_neg (fun h => hm (this.mp h))]
theorem thereIs_at {D : DataW Unit} {l : List ByteArray} (h : ThereIs D l) {x : ByteArray} {c : Bool} (hc : D.atKey (.string (bt x)) (.lit (.bool false)) = .lit (.bool c)) : c = has l x := by
  rw [h.2] at hc
  by_cases hm : x ∈ l
  · rw [if_pos (List.mem_map.mpr ⟨x, hm, rfl⟩)] at hc
    rw [has_iff.mpr hm]
    simpa using hc.symm
  · rw [if_neg (fun h => by obtain ⟨y, hy, e⟩ := List.mem_map.mp h; exact hm (bt_inj e ▸ hy))] at hc
    rw [has_false.mpr hm]
    simpa using hc.symm

/-- The closure's variable, and the map that it leads to. -/
def MissAt (s : List ByteArray) (fb : Nat) (w : World) : Prop :=
  ∃ mb n D, w.heap[fb]? = some (.cells #[.map (some mb)] 157 (0, 0)) ∧ w.ownsMap (H := Unit) Tryz.prog 9 (plainElem Tryz.prog 4) mb n D ∧ ThereIs D s
theorem map_below {w w' : World} {mb n : Nat} {D : DataW Unit} {k : TypeId} {R : Value → Option (DataW Unit × List MemPlace)} (h : w.ownsMap Tryz.prog k R mb n D) (hb : Below w.heap.size w w') : w'.ownsMap Tryz.prog k R mb n D := by
  have hlt := h.lt
  obtain ⟨es, clock, h1, h2⟩ := h
  exact ⟨es, clock, (hb.block _ hlt).trans h1, h2⟩
theorem MissAt.below {s : List ByteArray} {fb : Nat} {w w' : World} (h : MissAt s fb w) (hb : Below w.heap.size w w') : MissAt s fb w' := by
  obtain ⟨mb, n, D, h1, h2, h3⟩ := h
  exact ⟨mb, n, D, blk_below hb h1, map_below h2 hb, h3⟩

set_option maxHeartbeats 2000000 in
theorem missingIn_any {base : Nat} {s : List ByteArray} {v : Value} (hl : s.length ≤ 1000000) (hz : ∀ x ∈ s, x.size ≤ maxLen) {w : World} (h : ReadsF base encS v s w) :
    Calls Tryz.prog 96 #[v] w fun e w' => ∃ fb : Nat, e = .returned (.func (.func 115) #[] #[.pointer (some ⟨fb, 0, none⟩)]) ∧ Below w.heap.size w w' ∧ MissAt s fb w' := by
  have hmm := @run_makeMap Tryz.prog
  have HH := Lib.hid h
  obtain ⟨A, c, rfl, hcap, _⟩ := h
  have HZ := Lib.hid hz
  clear hz
  go_enter Tryz.func96, Tryz.ntmps96
  go_wp2_with fail
  have H0 : Hid (Below w.heap.size w ((w.alloc (.map #[] 0)).alloc (.cells #[.map (some w.heap.size)] 157)) ∧ ((w.alloc (.map #[] 0)).alloc (.cells #[.map (some w.heap.size)] 157)).heap[w.heap.size + 1]? = some (.cells #[.map (some w.heap.size)] 157 (0, 0)) ∧ ∃ D n, ((w.alloc (.map #[] 0)).alloc (.cells #[.map (some w.heap.size)] 157)).ownsMap (H := Unit) Tryz.prog 9 (plainElem Tryz.prog 4) w.heap.size n D ∧ n ≤ 0 ∧ ThereIs D (s.take 0)) :=
    ⟨((Below.refl _ _).alloc (Nat.le_refl _) _).alloc (by simp) _, blk_new _ _ (by simp), _, 0, (World.ownsMap_made w _ _ _).alloc _, Nat.le_refl _, thereIs_nil⟩
  clear hmm
  go_loopw [9] (fun kk wr => ∃ k : Nat, k ≤ s.length ∧ kk = .int .i64 k ∧ Hid (Below w.heap.size w wr ∧ wr.heap[w.heap.size + 1]? = some (.cells #[.map (some w.heap.size)] 157 (0, 0)) ∧ ∃ D n, wr.ownsMap (H := Unit) Tryz.prog 9 (plainElem Tryz.prog 4) w.heap.size n D ∧ n ≤ k ∧ ThereIs D (s.take k))) (fun kk _ => s.length - (intOf kk).toNat)
  case atStart => exact ⟨0, by omega, rfl, H0⟩
  case round =>
    obtain ⟨k, hk, rfl, HS⟩ := hrel
    by_cases hlt : k < s.length
    · obtain ⟨hb, hblk, D, n, hown, hn, hD⟩ := HS.out
      have hrd := HH.out.below hb
      obtain ⟨A', c', e, _, hr⟩ := hrd
      cases e
      rcases hr with hr | ⟨g, rfl, _, hrow⟩
      · subst hr; simp at hlt
      have c0 := row_strg hrow hlt
      have hgl := hrow.1
      have d0 := blk_cell0 hblk
      have hdl := lt_of_blk hblk
      have hsz := HZ.out s[k] (List.getElem_mem hlt)
      have HT : Hid (s.take (k + 1) = s.take k ++ [s[k]]) := List.take_succ_eq_append_getElem hlt
      generalize s[k] = x at *
      have i1 : (0 : Int) ≤ (k : Int) := by omega
      have i2 : (k : Int) < (s.length : Int) := by omega
      have HS2 := Lib.hid (And.intro hb (And.intro hblk (And.intro hD hsz)))
      clear hb hblk hD hsz hrow HS
      go_wp2_with (at_mapUpdate; refine hold ?_)
      refine loose ?_
      refine wpList_mapUpdate_own _ rfl _ _ _ 157 rfl 9 4 lawStr Tryz.underlying157 _ w.heap.size n D rfl hown (by unfold maxLen; omega) _ _ _ rfl rfl (keyOf_string_mk Tryz.underlying9 HS2.out.2.2.2) _ [] (plainElem_bool Tryz.underlying4 true) ?_
      intro w2 hown2 hgrow2
      have hne : w.heap.size + 1 ≠ w.heap.size := by omega
      have HF : Hid (Below w.heap.size w w2 ∧ w2.heap[w.heap.size + 1]? = some (.cells #[.map (some w.heap.size)] 157 (0, 0)) ∧ ∃ D n, w2.ownsMap (H := Unit) Tryz.prog 9 (plainElem Tryz.prog 4) w.heap.size n D ∧ n ≤ k + 1 ∧ ThereIs D (s.take (k + 1))) :=
        ⟨HS2.out.1.grown hgrow2 HS2.out.1.size (fun j hj => by cases hj; exact Nat.le_refl _), (hgrow2.block _ hdl (by simp)).trans HS2.out.2.1, _, n + 1, hown2, by omega, by rw [HT.out]; exact thereIs_put HS2.out.2.2.1 x⟩
      clear hown2 hgrow2 hown
      go_wp2_with fail
      go_roundw
      case rel => exact ⟨k + 1, by omega, by go_num, HF⟩
      case measure => simp [intOf]; omega
    · obtain rfl : k = s.length := by omega
      go_wp2_with fail
      go_ret
      obtain ⟨hb, hblk, D, n, hown, hn, hD⟩ := HS.out
      rw [List.take_of_length_le (Nat.le_refl _)] at hD
      exact ⟨_, rfl, hb, _, n, D, hblk, hown, hD⟩

theorem missOf_succ {s l : List ByteArray} {k : Nat} (h : k < l.length) : missOf s (l.take (k + 1)) = if has s l[k] = true then missOf s (l.take k) else missOf s (l.take k) ++ [l[k]] := by
  unfold missOf
  rw [List.take_succ_eq_append_getElem h, List.filter_append]
  cases hh : has s l[k] <;> simp [hh]

set_option maxHeartbeats 2000000 in
theorem missIn1_any {base : Nat} {s l : List ByteArray} {v : Value} {fb : Nat} (hl : l.length ≤ 1000000) (hz : ∀ x ∈ l, x.size ≤ maxLen) {w : World} (hm : MissAt s fb w) (h : ReadsF base encS v l w) :
    Calls Tryz.prog 115 #[v, .pointer (some ⟨fb, 0, none⟩)] w fun e w' => ∃ u, e = .returned u ∧ Below w.heap.size w w' ∧ w'.ownsRow w.heap.size 9 1 u (missOf s l).length (flatS (missOf s l)) := by
  have HH := Lib.hid (And.intro hm h)
  obtain ⟨A, c, rfl, hcap, _⟩ := h
  have HZ := Lib.hid hz
  clear hz hm
  go_enter Tryz.func115, Tryz.ntmps115
  go_wp2_with fail
  go_loopw [4, 9] (fun lv kk wr => ∃ k : Nat, k ≤ l.length ∧ kk = .int .i64 k ∧ Hid (Below w.heap.size w wr ∧ wr.ownsRow w.heap.size 9 1 lv (missOf s (l.take k)).length (flatS (missOf s (l.take k))))) (fun _ kk _ => l.length - (intOf kk).toNat)
  case atStart => exact ⟨0, by omega, rfl, Below.refl _ _, World.ownsRow_nil _ _ _ _⟩
  case round =>
    obtain ⟨k, hk, rfl, HS⟩ := hrel
    by_cases hlt : k < l.length
    · obtain ⟨hb, hown⟩ := HS.out
      have hrd := HH.out.2.below hb
      obtain ⟨mb, n, D, hblk, hmap, hD⟩ := HH.out.1.below hb
      obtain ⟨A', c', e, _, hr⟩ := hrd
      cases e
      rcases hr with hr | ⟨g, rfl, _, hrow⟩
      · subst hr; simp at hlt
      have c0 := row_strg hrow hlt
      have hgl := hrow.1
      have d0 := blk_cell0 hblk
      have hdl := lt_of_blk hblk
      have hsz := HZ.out l[k] (List.getElem_mem hlt)
      have HT := Lib.hid (missOf_succ (s := s) hlt)
      have hlen : (missOf s (l.take k)).length ≤ k := by
        have := List.length_filter_le (fun x => !has s x) (l.take k)
        rw [List.length_take] at this
        unfold missOf
        omega
      generalize l[k] = x at *
      have i1 : (0 : Int) ≤ (k : Int) := by omega
      have i2 : (k : Int) < (l.length : Int) := by omega
      have HO := Lib.hid (And.intro hb hown)
      have HD := Lib.hid hD
      obtain ⟨A4, c4, rfl, _⟩ := own_form hown
      clear hb hown hblk hD hrow HS
      go_wp2_with (at_lookup; refine hold ?_)
      refine loose ?_
      refine wpList_lookup_own_bool _ rfl _ _ 157 rfl 9 4 lawStr Tryz.underlying157 Tryz.underlying4 (zeroBool _) mb n D rfl hmap _ _ rfl (keyOf_string_mk Tryz.underlying9 hsz) ?_
      intro b hat
      have hb := thereIs_at HD.out hat
      have HB := Lib.hid hb
      clear hat hmap hsz hb
      cases b
      · have HF : Hid (missOf s (l.take (k + 1)) = missOf s (l.take k) ++ [x]) := HT.out.trans (if_neg (by rw [← HB.out]; simp))
        generalize missOf s (l.take k) = acc at *
        obtain ⟨i0, hi0, hz0, hzz1, hz2⟩ := info_parts str_info9
        have HI := Lib.hid (And.intro hi0 (And.intro hz0 (And.intro hzz1 hz2)))
        clear hi0 hz0 hzz1 hz2 HT
        go_wp2_with (at_builtin; refine hold ?_)
        refine loose ?_
        refine wpList_append_own _ rfl _ _ 34 rfl w.heap.size 9 i0 _ 1 16 Tryz.underlying34 HI.out.1 HI.out.2.1 HI.out.2.2.1 HI.out.2.2.2 rfl (by omega) _ acc.length (flatS acc) rfl (HO.out.2.alloc _) ⟨wr.heap.size, 0, none⟩ 1 1 [.string x] rfl rfl (cell_one_new _ _ _) (by intro u hu; simp at hu; subst hu; rfl) (by unfold maxLen; omega) (by omega) (by have := HO.out.1.size; simp; omega) ?_
        intro v' w' hown' hg' _
        have HF2 : Hid (Below w.heap.size w w' ∧ w'.ownsRow w.heap.size 9 1 v' (missOf s (l.take (k + 1))).length (flatS (missOf s (l.take (k + 1))))) := by
          refine ⟨(HO.out.1.alloc HO.out.1.size _).grown hg' (by have := HO.out.1.size; simp; omega) (fun j hj => (HO.out.2.lt j hj).1), ?_⟩
          rw [HF.out, flatS_map, List.map_append, List.length_append, ← flatS_map]
          exact hown'
        clear hown' hg' HF
        go_wp2_with fail
        go_roundw
        case rel => exact ⟨k + 1, by omega, by go_num, HF2⟩
        case measure => simp [intOf]; omega
      · have HF : Hid (missOf s (l.take (k + 1)) = missOf s (l.take k)) := HT.out.trans (if_pos HB.out.symm)
        go_wp2_with fail
        go_roundw
        case rel => exact ⟨k + 1, by omega, by go_num, HO.out.1, by rw [HF.out]; exact HO.out.2⟩
        case measure => simp [intOf]; omega
    · obtain rfl : k = l.length := by omega
      go_wp2_with fail
      go_ret
      obtain ⟨hb, hown⟩ := HS.out
      rw [List.take_of_length_le (Nat.le_refl _)] at hown
      exact ⟨_, rfl, hb, hown⟩
end Go.Proofs.YtmjonmoagpkdiabGreatDoor
