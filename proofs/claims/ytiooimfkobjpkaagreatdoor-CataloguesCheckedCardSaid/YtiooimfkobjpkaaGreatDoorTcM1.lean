/-
  Catalogues: maps keyed by pairs, equal rows, what is replaced twice, directions.
-/
import Derived.Test.YtiooimfkobjpkaaGreatDoorTcA1
import Derived.DeepKeys4
import Derived.ChangeKeys
/-
  Catalogues: maps that are keyed by two strings.
-/
namespace Go.Proofs.YtiooimfkobjpkaaGreatDoor
open Go.RowKit Go.WideMaps Go.Maps
set_option linter.unusedSimpArgs false
set_option linter.unusedVariables false

theorem laidOutZ : laidOutB Tryz.prog = true := by kernel_rfl
theorem lawDir : Keyed Tryz.prog 103 := Keyed.of_law (deep_law_laid laidOutZ (m := 2) (by omega) (of_decide_eq_true (by kernel_rfl)) (by kernel_rfl) (by kernel_rfl))
theorem lawTwo : Keyed Tryz.prog 62 := Keyed.of_law (deep_law_laid laidOutZ (m := 2) (by omega) (of_decide_eq_true (by kernel_rfl)) (by kernel_rfl) (by kernel_rfl))
theorem keyLits_str {m : Nat} {a : ByteArray} (ha : a.size ≤ maxLen) : Tryz.prog.keyLits (m + 1) 9 [.string a] = some [.string a.data.toList] := by
  have hu := Tryz.underlying9
  unfold Program.keyLits
  simp [hu, ha]
theorem sizeZ : ∃ m, Tryz.prog.types.size = m + 1 := ⟨Tryz.prog.types.size - 1, by have h : (decide (0 < Tryz.prog.types.size)) = true := by kernel_rfl
                                                                                   have := of_decide_eq_true h
                                                                                   omega⟩
theorem keyDir (a b : ByteArray) (ha : a.size ≤ maxLen) (hb : b.size ≤ maxLen) : keyOf Tryz.prog 103 (.agg #[.string a, .string b]) = some (.string (keyBytes [.string a.data.toList, .string b.data.toList])) := by
  have hu := Tryz.underlying103
  have hk : Tryz.prog.keyType 103 = true := by kernel_rfl
  have hc : Tryz.prog.cellsOf 103 = 2 := by kernel_rfl
  have hc9 : Tryz.prog.cellsOf 9 = 1 := by kernel_rfl
  have hf : (Value.agg #[.string a, .string b]).formed Tryz.prog 103 = true := by simp [Value.formed, hu, hc]
  obtain ⟨m, hm⟩ := sizeZ
  have hl : Tryz.prog.keyLits (Tryz.prog.types.size + 1) 103 [.string a, .string b] = some [.string a.data.toList, .string b.data.toList] := by
    rw [hm]
    unfold Program.keyLits
    simp [hu, hc, hc9, keyLits_str ha, keyLits_str hb]
  unfold keyOf
  rw [hu]
  have hcs : (Value.agg #[.string a, .string b]).cells.toList = [.string a, .string b] := rfl
  simp only [hk, hf, hcs, hl, Bool.and_self, if_true, Option.map_some]
theorem keyTwo (a b : ByteArray) (ha : a.size ≤ maxLen) (hb : b.size ≤ maxLen) : keyOf Tryz.prog 62 (.agg #[.string a, .string b]) = some (.string (keyBytes [.string a.data.toList, .string b.data.toList])) := by
  have hu := Tryz.underlying62
  have hk : Tryz.prog.keyType 62 = true := by kernel_rfl
  have hc : Tryz.prog.cellsOf 62 = 2 := by kernel_rfl
  have hc9 : Tryz.prog.cellsOf 9 = 1 := by kernel_rfl
  have hf : (Value.agg #[.string a, .string b]).formed Tryz.prog 62 = true := by simp [Value.formed, hu, hc, hc9]
  obtain ⟨m, hm⟩ := sizeZ
  have hl : Tryz.prog.keyLits (Tryz.prog.types.size + 1) 62 [.string a, .string b] = some [.string a.data.toList, .string b.data.toList] := by
    rw [hm]
    unfold Program.keyLits
    simp [hu, hc, hc9, List.range, List.range.loop, keyLits_str ha, keyLits_str hb]
  unfold keyOf
  rw [hu]
  have hcs : (Value.agg #[.string a, .string b]).cells.toList = [.string a, .string b] := rfl
  simp only [hk, hf, hcs, hl, Bool.and_self, if_true, Option.map_some]
end Go.Proofs.YtiooimfkobjpkaaGreatDoor

/-
  Catalogues: equality of equal rows.
-/
namespace Go.Proofs.YtiooimfkobjpkaaGreatDoor
open Go.RowKit
set_option linter.unusedSimpArgs false
set_option linter.unusedVariables false

set_option maxHeartbeats 2000000 in
theorem equalPa_any (l : List Pa) (hl : l.length ≤ 2000000) {v1 v2 : Value} {w : World} (h1 : Reads encPa v1 l w) (h2 : Reads encPa v2 l w) :
    Calls Tryz.prog 44 #[v1, v2] w fun e w' => e = .returned (.bool true) ∧ Below w.heap.size w w' := by
  obtain ⟨A1, c1, rfl, h1⟩ := h1
  obtain ⟨A2, c2, rfl, h2⟩ := h2
  go_enter Tryz.func44, Tryz.ntmps44
  go_wp2_with fail
  go_loopw [13] (fun kk wr => ∃ k : Nat, k ≤ l.length ∧ kk = .int .i64 k ∧ Hid (Below w.heap.size w wr)) (fun kk _ => l.length - (intOf kk).toNat)
  case atStart => exact ⟨0, by omega, rfl, Below.refl _ _⟩
  case round =>
    obtain ⟨k, hk, rfl, HB⟩ := hrel
    by_cases hlt : k < l.length
    · rcases h1 with rfl | ⟨g1, rfl, r1⟩
      · simp at hlt
      rcases h2 with rfl | ⟨g2, rfl, r2⟩
      · simp at hlt
      obtain ⟨a0, a1, a2, a3⟩ := row_pa (r1.below HB.out) hlt
      obtain ⟨b0, b1, b2, b3⟩ := row_pa (r2.below HB.out) hlt
      have R1 := Lib.hid r1
      have R2 := Lib.hid r2
      clear r1 r2
      generalize l[k] = p at *
      obtain ⟨x0, x1, x2, x3⟩ := p
      dsimp only at a0 a1 a2 a3 b0 b1 b2 b3
      have i1 : (0 : Int) ≤ (k : Int) := by omega
      have i2 : (k : Int) < (l.length : Int) := by omega
      go_wp2_with fail
      go_quiet (fail)
      go_wp2_with fail
      go_roundw
      case rel => exact ⟨k + 1, by omega, by go_num, HB.out.drawN _⟩
      case measure => simp [intOf]; omega
    · go_wp2_with fail
      go_ret
      exact ⟨rfl, HB.out⟩
set_option maxHeartbeats 2000000 in
theorem equalAl_any (l : List Al) (hl : l.length ≤ 2000000) {v1 v2 : Value} {w : World} (h1 : Reads encAl v1 l w) (h2 : Reads encAl v2 l w) :
    Calls Tryz.prog 45 #[v1, v2] w fun e w' => e = .returned (.bool true) ∧ Below w.heap.size w w' := by
  obtain ⟨A1, c1, rfl, h1⟩ := h1
  obtain ⟨A2, c2, rfl, h2⟩ := h2
  go_enter Tryz.func45, Tryz.ntmps45
  go_wp2_with fail
  go_loopw [13] (fun kk wr => ∃ k : Nat, k ≤ l.length ∧ kk = .int .i64 k ∧ Hid (Below w.heap.size w wr)) (fun kk _ => l.length - (intOf kk).toNat)
  case atStart => exact ⟨0, by omega, rfl, Below.refl _ _⟩
  case round =>
    obtain ⟨k, hk, rfl, HB⟩ := hrel
    by_cases hlt : k < l.length
    · rcases h1 with rfl | ⟨g1, rfl, r1⟩
      · simp at hlt
      rcases h2 with rfl | ⟨g2, rfl, r2⟩
      · simp at hlt
      obtain ⟨a0, a1, a2⟩ := (show _ ∧ _ ∧ _ from ⟨(r1.below HB.out).2 _ _ (flatK_at encAl 3 (fun _ => rfl) l k hlt 0 (by omega)), (r1.below HB.out).2 _ _ (flatK_at encAl 3 (fun _ => rfl) l k hlt 1 (by omega)), (r1.below HB.out).2 _ _ (flatK_at encAl 3 (fun _ => rfl) l k hlt 2 (by omega))⟩ : wr.cell? ⟨g1, k * 3, none⟩ = some (.string l[k].par) ∧ wr.cell? ⟨g1, k * 3 + 1, none⟩ = some (.string l[k].by_) ∧ wr.cell? ⟨g1, k * 3 + 2, none⟩ = some (.bool l[k].both))
      obtain ⟨b0, b1, b2⟩ := (show _ ∧ _ ∧ _ from ⟨(r2.below HB.out).2 _ _ (flatK_at encAl 3 (fun _ => rfl) l k hlt 0 (by omega)), (r2.below HB.out).2 _ _ (flatK_at encAl 3 (fun _ => rfl) l k hlt 1 (by omega)), (r2.below HB.out).2 _ _ (flatK_at encAl 3 (fun _ => rfl) l k hlt 2 (by omega))⟩ : wr.cell? ⟨g2, k * 3, none⟩ = some (.string l[k].par) ∧ wr.cell? ⟨g2, k * 3 + 1, none⟩ = some (.string l[k].by_) ∧ wr.cell? ⟨g2, k * 3 + 2, none⟩ = some (.bool l[k].both))
      have R1 := Lib.hid r1
      have R2 := Lib.hid r2
      clear r1 r2
      generalize l[k] = p at *
      obtain ⟨x0, x1, x2⟩ := p
      dsimp only at a0 a1 a2 b0 b1 b2
      have i1 : (0 : Int) ≤ (k : Int) := by omega
      have i2 : (k : Int) < (l.length : Int) := by omega
      go_wp2_with fail
      go_quiet (fail)
      go_wp2_with fail
      go_roundw
      case rel => exact ⟨k + 1, by omega, by go_num, HB.out.drawN _⟩
      case measure => simp [intOf]; omega
    · go_wp2_with fail
      go_ret
      exact ⟨rfl, HB.out⟩
set_option maxHeartbeats 4000000 in
theorem sameCat_any (l : List Pa) (hl : l.length ≤ 1000000) (al : List Al) (ha : al.length ≤ 1000000) {p1 a1 p2 a2 : Value} {w : World} (hp1 : Reads encPa p1 l w) (ha1 : Reads encAl a1 al w) (hp2 : Reads encPa p2 l w) (ha2 : Reads encAl a2 al w) :
    Calls Tryz.prog 12 #[.agg #[p1, a1], .agg #[p2, a2]] w fun e w' => e = .returned (.bool true) ∧ Below w.heap.size w w' := by
  have HR := Lib.hid (And.intro hp1 (And.intro ha1 (And.intro hp2 ha2)))
  obtain ⟨P1, c1, rfl, _⟩ := hp1
  obtain ⟨A1, d1, rfl, _⟩ := ha1
  obtain ⟨P2, c2, rfl, _⟩ := hp2
  obtain ⟨A2, d2, rfl, _⟩ := ha2
  have H0 : Hid (Below w.heap.size w ((w.alloc (.cells #[.slice P1 l.length c1, .slice A1 al.length d1] 29)).alloc (.cells #[.slice P2 l.length c2, .slice A2 al.length d2] 29)) ∧ ((w.alloc (.cells #[.slice P1 l.length c1, .slice A1 al.length d1] 29)).alloc (.cells #[.slice P2 l.length c2, .slice A2 al.length d2] 29)).heap[w.heap.size]? = some (.cells #[.slice P1 l.length c1, .slice A1 al.length d1] 29 (0, 0)) ∧ ((w.alloc (.cells #[.slice P1 l.length c1, .slice A1 al.length d1] 29)).alloc (.cells #[.slice P2 l.length c2, .slice A2 al.length d2] 29)).heap[w.heap.size + 1]? = some (.cells #[.slice P2 l.length c2, .slice A2 al.length d2] 29 (0, 0))) :=
    ⟨((Below.refl _ _).alloc (Nat.le_refl _) _).alloc (by simp) _, blk_alloc (blk_new w _ rfl) _, blk_new _ _ (by simp)⟩
  go_enter Tryz.func12, Tryz.ntmps12
  go_upto_region 1 with (fail)
  generalize (w.alloc (.cells #[.slice P1 l.length c1, .slice A1 al.length d1] 29)).alloc (.cells #[.slice P2 l.length c2, .slice A2 al.length d2] 29) = wx at *
  obtain ⟨k0, k1, _, _⟩ := blk2 H0.out.2.1
  obtain ⟨k2, k3, _, _⟩ := blk2 H0.out.2.2
  have z0 := lt_of_blk H0.out.2.1
  have z1 := lt_of_blk H0.out.2.2
  go_wp2_with fail
  refine (equalPa_any l (by omega) (HR.out.1.below H0.out.1) (HR.out.2.2.1.below H0.out.1)).mono ?_
  rintro e w1 ⟨rfl, b1⟩
  have H1 : Hid (Below w.heap.size w w1 ∧ w1.heap[w.heap.size]? = some (.cells #[.slice P1 l.length c1, .slice A1 al.length d1] 29 (0, 0)) ∧ w1.heap[w.heap.size + 1]? = some (.cells #[.slice P2 l.length c2, .slice A2 al.length d2] 29 (0, 0))) := ⟨H0.out.1.then_below b1 H0.out.1.size, blk_below b1 H0.out.2.1, blk_below b1 H0.out.2.2⟩
  clear b1 H0 k0 k1 k2 k3 z0 z1
  obtain ⟨k0, k1, _, _⟩ := blk2 H1.out.2.1
  obtain ⟨k2, k3, _, _⟩ := blk2 H1.out.2.2
  have z0 := lt_of_blk H1.out.2.1
  have z1 := lt_of_blk H1.out.2.2
  go_wp2_with fail
  refine (equalAl_any al (by omega) (HR.out.2.1.below H1.out.1) (HR.out.2.2.2.below H1.out.1)).mono ?_
  rintro e w2 ⟨rfl, b2⟩
  have H2 := Lib.hid (H1.out.1.then_below b2 H1.out.1.size)
  clear b2 H1 k0 k1 k2 k3 z0 z1
  go_wp2_with fail
  refine bodyPost_ret (v := .bool true) (by unfold results; simp only [Tryz.results12]; go_simp) rfl ⟨rfl, H2.out⟩
end Go.Proofs.YtiooimfkobjpkaaGreatDoor

/-
  Catalogues: which part is replaced twice by the same one (the program's).
-/
namespace Go.Proofs.YtiooimfkobjpkaaGreatDoor
open Go.RowKit Go.WideMaps Go.Maps
set_option linter.unusedSimpArgs false
set_option linter.unusedVariables false

/-! ### Pairs in plain words -/
abbrev BB := List UInt8 × List UInt8
/-- The directions of an alternate: what is replaced, by what. -/
def dirB (a : Al) : List BB := (a.par.data.toList, a.by_.data.toList) :: (if a.both = true then [(a.by_.data.toList, a.par.data.toList)] else [])
def dirs (l : List Al) : List BB := l.flatMap dirB
theorem dirs_take {l : List Al} {k : Nat} (h : k < l.length) : dirs (l.take (k + 1)) = dirs (l.take k) ++ dirB l[k] := by
  unfold dirs
  rw [← List.take_append_getElem h, List.flatMap_append]
  simp
/-- Some element is there twice. -/
def twB (l : List BB) : Bool := decide (¬ l.Nodup)
theorem nodup_snoc (l : List BB) (d : BB) : (l ++ [d]).Nodup ↔ l.Nodup ∧ d ∉ l := by
  rw [List.nodup_append]
  constructor
  · rintro ⟨h1, _, h3⟩
    exact ⟨h1, fun h => h3 d h d (by simp) rfl⟩
  · rintro ⟨h1, h2⟩
    refine ⟨h1, by simp, fun a ha b hb e => ?_⟩
    have : b = d := by simpa using hb
    subst this
    subst e
    exact h2 ha
theorem twB_snoc (l : List BB) (d : BB) : twB (l ++ [d]) = (twB l || decide (d ∈ l)) := by
  unfold twB
  have h := nodup_snoc l d
  by_cases h1 : l.Nodup <;> by_cases h2 : d ∈ l <;> simp [h, h1, h2]

/-! ### A map that has pairs -/
def PairsIs (D : DataW Unit) (l : List BB) : Prop := IsMap D ∧ ∀ (a b : List UInt8) z, a.length ≤ maxLen → b.length ≤ maxLen → D.atKey (.string (keyBytes [.string a, .string b])) z = if (a, b) ∈ l then .lit (.bool true) else z
theorem pairsIs_nil : PairsIs (.map []) [] := ⟨isMap_empty, fun a b z _ _ => by simp; rfl⟩
theorem two_inj {a b x y : List UInt8} (ha : a.length ≤ maxLen) (hb : b.length ≤ maxLen) (hx : x.length ≤ maxLen) (hy : y.length ≤ maxLen) (h : keyBytes [.string a, .string b] = keyBytes [.string x, .string y]) : (a, b) = (x, y) := by
  have := keyBytes_inj (l := [.string a, .string b]) (l' := [.string x, .string y]) ⟨trivial, trivial, trivial⟩ (by
    intro u hu
    simp at hu
    rcases hu with rfl | rfl
    · exact ha
    · exact hb) (by
    intro u hu
    simp at hu
    rcases hu with rfl | rfl
    · exact hx
    · exact hy) h
  simp at this
  rw [this.1, this.2]
theorem pairsIs_put {D : DataW Unit} {l : List BB} (h : PairsIs D l) {x y : List UInt8} (hx : x.length ≤ maxLen) (hy : y.length ≤ maxLen) : PairsIs (D.put (.string (keyBytes [.string x, .string y])) (.lit (.bool true))) (l ++ [(x, y)]) := by
  refine ⟨h.1.put _ _, fun a b z ha hb => ?_⟩
  by_cases e : (a, b) = (x, y)
  · cases e
    rw [atKey_put_same (k := .string (keyBytes [.string x, .string y])) h.1 trivial, if_pos (by simp)]
  · rw [atKey_put_other (by
      intro h2
      injection h2 with h2
      exact e (two_inj ha hb hx hy h2)), h.2 a b z ha hb]
    by_cases hm : (a, b) ∈ l
    · rw [if_pos hm, if_pos (by simp [hm])]
    · rw [if_neg hm, if_neg (by
        intro h3
        rcases List.mem_append.mp h3 with h3 | h3
        · exact hm h3
        · exact e (by simpa using h3))]
theorem pairsIs_at {D : DataW Unit} {l : List BB} (h : PairsIs D l) {a b : List UInt8} (ha : a.length ≤ maxLen) (hb : b.length ≤ maxLen) {c : Bool} (hc : D.atKey (.string (keyBytes [.string a, .string b])) (.lit (.bool false)) = .lit (.bool c)) : c = decide ((a, b) ∈ l) := by
  rw [h.2 a b _ ha hb] at hc
  by_cases hm : (a, b) ∈ l
  · rw [if_pos hm] at hc
    simp only [DataW.lit.injEq, Lit.bool.injEq] at hc
    simp [hm, ← hc]
  · rw [if_neg hm] at hc
    simp only [DataW.lit.injEq, Lit.bool.injEq] at hc
    simp [hm, ← hc]
theorem zeroBool (w : World) : (zeroValue 4).run Tryz.prog w = .ok (.bool false) w := by kernel_rfl
theorem plainElem_bool_inv {P : Program} {e : TypeId} (he : P.underlying e = some .bool) {v : Value} {z : DataW Unit × List MemPlace} (h : plainElem P e v = some z) : ∃ x, v = .bool x ∧ z = (.lit (.bool x), []) := by
  unfold plainElem at h
  rw [he] at h
  cases v <;> simp at h
  exact ⟨_, rfl, h.symm⟩
theorem wpList_lookup_own_boolW {P : Program} (w : World) {ops : Array Oper} {rest : List Oper} {o : Oper} {a : Act} {Q : Exit → Act → World → Prop}
    (hg : Region.wanted o (yielded ops a.tmps) = true) (m x : Operand) (t : TypeId) (hop : o.op = Op.lookup t m x false)
    (k e : TypeId) (K : Keyed P k) (ht : P.underlying t = some (.map k e)) (he : P.underlying e = some .bool) (hz : (zeroValue e).run P w = .ok (.bool false) w) (b n : Nat) (D : DataW Unit)
    (hm : a.eval m = .map (some b)) (hown : w.ownsMap P k (plainElem P e) b n D) (key : Value) (kl : Lit) (hx : a.eval x = key) (hkey : keyOf P k key = some kl)
    (hK : ∀ c : Bool, D.atKey kl (.lit (.bool false)) = .lit (.bool c) → wpList P ops Q rest (a.put o.dst (.bool c)) w) :
    wpList P ops Q (o :: rest) a w := by
  refine wpList_step fun K' hK' => ?_
  simp only [hg, if_true]
  obtain ⟨v, ps, hrun, hv⟩ := hown.lookup K ht hz (plainElem_bool he false) hkey
  obtain ⟨c, rfl, hc⟩ := plainElem_bool_inv he hv
  simp only [Prod.mk.injEq] at hc
  unfold Oper.wp
  simp [execOp, hop, hm, hx, hrun, Result.andThen]
  exact hK' _ _ (hK c hc.1)
theorem map_far {w : World} {mb n : Nat} {D : DataW Unit} {k : TypeId} {R : Value → Option (DataW Unit × List MemPlace)} (h : w.ownsMap Tryz.prog k R mb n D) {p : Addr} (hp : mb ≠ p.block) (u : Value) : (w.setCell p u).ownsMap Tryz.prog k R mb n D := by
  obtain ⟨es, clock, h1, h2⟩ := h
  exact ⟨es, clock, (Below.heap_setCell w p u mb hp).trans h1, h2⟩

/-- What the closure has captured: whether some direction has come twice, and the map of those that have come. -/
structure RT (wo : World) (tb mb gm : Nat) (l : List BB) (W : World) : Prop where
  bel : Below wo.heap.size wo W
  kt : W.heap[tb]? = some (.cells #[.bool (twB l)] 4 (0, 0))
  km : W.heap[mb]? = some (.cells #[.map (some gm)] 100 (0, 0))
  mp : ∃ n D, W.ownsMap (H := Unit) Tryz.prog 103 (plainElem Tryz.prog 4) gm n D ∧ n ≤ l.length ∧ PairsIs D l
theorem RT.below {wo : World} {tb mb gm : Nat} {l : List BB} {W W' : World} (h : RT wo tb mb gm l W) (hb : Below W.heap.size W W') : RT wo tb mb gm l W' := by
  obtain ⟨n, D, h1, h2, h3⟩ := h.mp
  exact ⟨h.bel.then_below hb h.bel.size, blk_below hb h.kt, blk_below hb h.km, n, D, map_below h1 hb, h2, h3⟩

set_option maxHeartbeats 4000000 in
theorem twice1_any {wo : World} {tb mb gm : Nat} (h1 : wo.heap.size ≤ tb) (h3 : wo.heap.size ≤ gm) (n1 : mb ≠ tb) (n2 : gm ≠ tb) (n3 : mb ≠ gm) (l : List BB) (hl : l.length ≤ 1000000) (a b : ByteArray) (ha : a.size ≤ maxLen) (hb : b.size ≤ maxLen) {w : World} (h : RT wo tb mb gm l w) :
    Calls Tryz.prog 60 #[.string a, .string b, .pointer (some ⟨tb, 0, none⟩), .pointer (some ⟨mb, 0, none⟩)] w fun e w' => e = .returned (.tuple #[]) ∧ RT wo tb mb gm (l ++ [(a.data.toList, b.data.toList)]) w' ∧ Kept2 tb gm w w' := by
  have hba : Below w.heap.size w (w.alloc (.cells #[.string a, .string b] 103)) := (Below.refl _ _).alloc (Nat.le_refl _) _
  have H0 : Hid (RT wo tb mb gm l (w.alloc (.cells #[.string a, .string b] 103)) ∧ (w.alloc (.cells #[.string a, .string b] 103)).heap[w.heap.size]? = some (.cells #[.string a, .string b] 103 (0, 0)) ∧ Kept2 tb gm w (w.alloc (.cells #[.string a, .string b] 103)) ∧ w.heap.size ≠ tb ∧ w.heap.size ≠ gm) := by
    obtain ⟨n, D, hm, _⟩ := h.mp
    have e1 := lt_of_blk h.kt
    have e2 := hm.lt
    exact ⟨h.below hba, blk_new w _ rfl, Kept2.of_below hba, by omega, by omega⟩
  have HTW := Lib.hid (twB_snoc l (a.data.toList, b.data.toList))
  have HS := Lib.hid (And.intro ha hb)
  clear h hba ha hb
  go_enter Tryz.func60, Tryz.ntmps60
  go_upto_region 1 with (fail)
  generalize w.alloc (.cells #[.string a, .string b] 103) = w1 at *
  generalize hgp : w.heap.size = gp at *
  have HGP := Lib.hid hgp
  clear hgp
  obtain ⟨n, D, hm, hn, hD⟩ := H0.out.1.mp
  have HM := Lib.hid (And.intro hm (And.intro hn hD))
  clear hm hn hD
  have c0 := blk_cell0 H0.out.1.kt
  have l0 := lt_of_blk H0.out.1.kt
  have f0 := frozen_of_blk H0.out.1.kt 0
  have c1 := blk_cell0 H0.out.1.km
  have l1 := lt_of_blk H0.out.1.km
  obtain ⟨d0, d1, _, _⟩ := blk2 H0.out.2.1
  have ld := lt_of_blk H0.out.2.1
  cases htw : twB l
  · rw [htw] at c0
    have HT0 := Lib.hid htw
    clear htw
    go_wp2_with (at_lookup; refine hold ?_)
    refine loose ?_
    refine wpList_lookup_own_boolW _ rfl _ _ 100 rfl 103 4 lawDir Tryz.underlying100 Tryz.underlying4 (zeroBool _) gm n D rfl HM.out.1 (.agg #[.string a, .string b]) _ rfl (keyDir a b HS.out.1 HS.out.2) ?_
    intro c hc
    have hcc := pairsIs_at HM.out.2.2 (show a.data.toList.length ≤ maxLen from HS.out.1) (show b.data.toList.length ≤ maxLen from HS.out.2) hc
    have HTC : Hid (twB (l ++ [(a.data.toList, b.data.toList)]) = c) := by
      show _ = _
      rw [HTW.out, HT0.out, hcc]
      rfl
    clear hc hcc
    have H2 : Hid ((w1.setCell ⟨tb, 0, none⟩ (.bool c)).heap[tb]? = some (.cells #[.bool c] 4 (0, 0)) ∧ (w1.setCell ⟨tb, 0, none⟩ (.bool c)).heap[mb]? = some (.cells #[.map (some gm)] 100 (0, 0)) ∧ (w1.setCell ⟨tb, 0, none⟩ (.bool c)).heap[gp]? = some (.cells #[.string a, .string b] 103 (0, 0)) ∧ (w1.setCell ⟨tb, 0, none⟩ (.bool c)).ownsMap (H := Unit) Tryz.prog 103 (plainElem Tryz.prog 4) gm n D ∧ Below wo.heap.size wo (w1.setCell ⟨tb, 0, none⟩ (.bool c)) ∧ Kept2 tb gm w (w1.setCell ⟨tb, 0, none⟩ (.bool c))) :=
      ⟨blk_set H0.out.1.kt _, blk_far H0.out.1.km n1 _, blk_far H0.out.2.1 H0.out.2.2.2.1 _, map_far HM.out.1 n2 _, H0.out.1.bel.setCell h1 _, H0.out.2.2.1.then_ { outer := ⟨rfl, rfl, rfl⟩, more := by simp [World.setCell], old := fun i hi e1 e2 => Below.heap_setCell _ _ _ _ e1 }⟩
    go_upto_region 2 with (fail)
    generalize w1.setCell ⟨tb, 0, none⟩ (.bool c) = w2 at *
    clear c0 l0 f0 c1 l1 d0 d1 ld
    have c1 := blk_cell0 H2.out.2.1
    have l1 := lt_of_blk H2.out.2.1
    obtain ⟨d0, d1, _, _⟩ := blk2 H2.out.2.2.1
    have ld := lt_of_blk H2.out.2.2.1
    go_wp2_with (at_mapUpdate; refine hold ?_)
    refine loose ?_
    refine wpList_mapUpdate_own _ rfl _ _ _ 100 rfl 103 4 lawDir Tryz.underlying100 _ gm n D rfl H2.out.2.2.2.1 (by have := HM.out.2.1; unfold maxLen; omega) (.agg #[.string a, .string b]) _ _ rfl rfl (keyDir a b HS.out.1 HS.out.2) _ [] (plainElem_bool Tryz.underlying4 true) ?_
    intro w3 hown3 hg3
    have HF : Hid (RT wo tb mb gm (l ++ [(a.data.toList, b.data.toList)]) w3 ∧ Kept2 tb gm w w3) := by
      refine ⟨⟨H2.out.2.2.2.2.1.grown hg3 H2.out.2.2.2.2.1.size (fun j hj => by cases hj; exact h3), ?_, ?_, n + 1, _, hown3, by have := HM.out.2.1; rw [List.length_append]; simp; omega, pairsIs_put HM.out.2.2 HS.out.1 HS.out.2⟩, ?_⟩
      · rw [HTC.out]
        exact (hg3.block tb (lt_of_blk H2.out.1) (fun e => n2 (by injection e with e; exact e.symm))).trans H2.out.1
      · exact (hg3.block mb (lt_of_blk H2.out.2.1) (fun e => n3 (by injection e))).trans H2.out.2.1
      · exact H2.out.2.2.2.2.2.then_ { outer := ⟨hg3.os, hg3.tape, hg3.output⟩, more := hg3.size, old := fun i hi e1 e2 => hg3.block i hi (fun e => e2 (by injection e)) }
    clear hown3 hg3
    go_wp2_with fail
    refine bodyPost_end (v := .tuple #[]) (by unfold results; simp only [Tryz.results60]; go_simp) rfl ⟨rfl, HF.out⟩
  · rw [htw] at c0
    have HTC : Hid (twB (l ++ [(a.data.toList, b.data.toList)]) = true) := by
      show _ = _
      rw [HTW.out, htw]
      rfl
    clear htw
    have H2 : Hid ((w1.setCell ⟨tb, 0, none⟩ (.bool true)).heap[tb]? = some (.cells #[.bool true] 4 (0, 0)) ∧ (w1.setCell ⟨tb, 0, none⟩ (.bool true)).heap[mb]? = some (.cells #[.map (some gm)] 100 (0, 0)) ∧ (w1.setCell ⟨tb, 0, none⟩ (.bool true)).heap[gp]? = some (.cells #[.string a, .string b] 103 (0, 0)) ∧ (w1.setCell ⟨tb, 0, none⟩ (.bool true)).ownsMap (H := Unit) Tryz.prog 103 (plainElem Tryz.prog 4) gm n D ∧ Below wo.heap.size wo (w1.setCell ⟨tb, 0, none⟩ (.bool true)) ∧ Kept2 tb gm w (w1.setCell ⟨tb, 0, none⟩ (.bool true))) :=
      ⟨blk_set H0.out.1.kt _, blk_far H0.out.1.km n1 _, blk_far H0.out.2.1 H0.out.2.2.2.1 _, map_far HM.out.1 n2 _, H0.out.1.bel.setCell h1 _, H0.out.2.2.1.then_ { outer := ⟨rfl, rfl, rfl⟩, more := by simp [World.setCell], old := fun i hi e1 e2 => Below.heap_setCell _ _ _ _ e1 }⟩
    go_upto_region 2 with (fail)
    generalize w1.setCell ⟨tb, 0, none⟩ (.bool true) = w2 at *
    clear c0 l0 f0 c1 l1 d0 d1 ld
    have c1 := blk_cell0 H2.out.2.1
    have l1 := lt_of_blk H2.out.2.1
    obtain ⟨d0, d1, _, _⟩ := blk2 H2.out.2.2.1
    have ld := lt_of_blk H2.out.2.2.1
    go_wp2_with (at_mapUpdate; refine hold ?_)
    refine loose ?_
    refine wpList_mapUpdate_own _ rfl _ _ _ 100 rfl 103 4 lawDir Tryz.underlying100 _ gm n D rfl H2.out.2.2.2.1 (by have := HM.out.2.1; unfold maxLen; omega) (.agg #[.string a, .string b]) _ _ rfl rfl (keyDir a b HS.out.1 HS.out.2) _ [] (plainElem_bool Tryz.underlying4 true) ?_
    intro w3 hown3 hg3
    have HF : Hid (RT wo tb mb gm (l ++ [(a.data.toList, b.data.toList)]) w3 ∧ Kept2 tb gm w w3) := by
      refine ⟨⟨H2.out.2.2.2.2.1.grown hg3 H2.out.2.2.2.2.1.size (fun j hj => by cases hj; exact h3), ?_, ?_, n + 1, _, hown3, by have := HM.out.2.1; rw [List.length_append]; simp; omega, pairsIs_put HM.out.2.2 HS.out.1 HS.out.2⟩, ?_⟩
      · rw [HTC.out]
        exact (hg3.block tb (lt_of_blk H2.out.1) (fun e => n2 (by injection e with e; exact e.symm))).trans H2.out.1
      · exact (hg3.block mb (lt_of_blk H2.out.2.1) (fun e => n3 (by injection e))).trans H2.out.2.1
      · exact H2.out.2.2.2.2.2.then_ { outer := ⟨hg3.os, hg3.tape, hg3.output⟩, more := hg3.size, old := fun i hi e1 e2 => hg3.block i hi (fun e => e2 (by injection e)) }
    clear hown3 hg3
    go_wp2_with fail
    refine bodyPost_end (v := .tuple #[]) (by unfold results; simp only [Tryz.results60]; go_simp) rfl ⟨rfl, HF.out⟩
end Go.Proofs.YtiooimfkobjpkaaGreatDoor

/-
  Catalogues: which part is replaced twice by the same one (the program's loop).
-/
namespace Go.Proofs.YtiooimfkobjpkaaGreatDoor
open Go.RowKit Go.WideMaps Go.Maps
set_option linter.unusedSimpArgs false
set_option linter.unusedVariables false

theorem dirB_len (a : Al) : (dirB a).length ≤ 2 := by
  unfold dirB
  split <;> simp
theorem dirs_len (l : List Al) : (dirs l).length ≤ 2 * l.length := by
  induction l with
  | nil => simp [dirs]
  | cons a l ih =>
    have := dirB_len a
    unfold dirs at *
    rw [List.flatMap_cons, List.length_append, List.length_cons]
    omega

set_option maxRecDepth 100000 in
set_option maxHeartbeats 8000000 in
theorem eachR_any (al : List Al) (hal : al.length ≤ 400000) (hz : ∀ a ∈ al, a.par.size ≤ maxLen ∧ a.by_.size ≤ maxLen) {wo : World} {tb mb gm : Nat} (h1 : wo.heap.size ≤ tb) (h3 : wo.heap.size ≤ gm) (n1 : mb ≠ tb) (n2 : gm ≠ tb) (n3 : mb ≠ gm) {v : Value} (hr : Reads encAl v al wo) {w : World} (h : RT wo tb mb gm [] w) :
    Calls Tryz.prog 59 #[v, .func (.func 60) #[] #[.pointer (some ⟨tb, 0, none⟩), .pointer (some ⟨mb, 0, none⟩)]] w fun e w' => e = .returned (.tuple #[]) ∧ RT wo tb mb gm (dirs al) w' := by
  have HR := Lib.hid hr
  have HZ := Lib.hid hz
  have H0 := Lib.hid h
  have C1 := Lib.hid (fun (l : List BB) (hl : l.length ≤ 1000000) (a b : ByteArray) ha hb (W : World) h => @twice1_any wo tb mb gm h1 h3 n1 n2 n3 l hl a b ha hb W h)
  obtain ⟨A, c, rfl, _⟩ := hr
  clear hz h
  go_enter Tryz.func59, Tryz.ntmps59
  go_wp2_with fail
  go_loopw [8] (fun kk wr => ∃ k : Nat, k ≤ al.length ∧ kk = .int .i64 k ∧ Hid (RT wo tb mb gm (dirs (al.take k)) wr)) (fun kk _ => al.length - (intOf kk).toNat)
  case atStart => exact ⟨0, by omega, rfl, H0.out⟩
  case round =>
    obtain ⟨k, hk, rfl, HS⟩ := hrel
    by_cases hlt : k < al.length
    · obtain ⟨A', c', ea, hr⟩ := HR.out.below HS.out.bel
      cases ea
      rcases hr with rfl | ⟨g, rfl, hrow⟩
      · simp at hlt
      obtain ⟨q0, q1, q2⟩ := row_al hrow hlt
      have hgl := hrow.1
      have i1 : (0 : Int) ≤ (k : Int) := by omega
      have i2 : (k : Int) < (al.length : Int) := by omega
      have HZK := Lib.hid (HZ.out al[k] (List.getElem_mem hlt))
      have HDT := Lib.hid (dirs_take hlt)
      have hdl : (dirs (al.take k)).length ≤ 800000 := by
        have := dirs_len (al.take k)
        rw [List.length_take] at this
        omega
      clear hrow
      generalize al[k] = a at *
      obtain ⟨par, by_, both⟩ := a
      dsimp only at q0 q1 q2 HZK
      have hba : Below wr.heap.size wr (wr.alloc (.cells #[.string par, .string by_, .bool both] 51)) := (Below.refl _ _).alloc (Nat.le_refl _) _
      have HX : Hid (RT wo tb mb gm (dirs (al.take k)) (wr.alloc (.cells #[.string par, .string by_, .bool both] 51)) ∧ (wr.alloc (.cells #[.string par, .string by_, .bool both] 51)).heap[wr.heap.size]? = some (.cells #[.string par, .string by_, .bool both] 51 (0, 0)) ∧ wr.heap.size ≠ tb ∧ wr.heap.size ≠ gm) := by
        obtain ⟨n, D, hm, _⟩ := HS.out.mp
        have e1 := lt_of_blk HS.out.kt
        have e2 := hm.lt
        exact ⟨HS.out.below hba, blk_new wr _ rfl, by omega, by omega⟩
      clear hba HS
      go_upto_region 3 with (fail)
      generalize wr.alloc (.cells #[.string par, .string by_, .bool both] 51) = wx at *
      generalize wr.heap.size = gp at *
      clear q0 q1 q2 hgl
      obtain ⟨p0, p1, p2⟩ := blk3 HX.out.2.1
      have lp := lt_of_blk HX.out.2.1
      go_wp2_with fail
      refine (C1.out _ (by omega) par by_ HZK.out.1 HZK.out.2 wx HX.out.1).mono ?_
      rintro e w2 ⟨rfl, hr2, hk2⟩
      have H2 : Hid (RT wo tb mb gm (dirs (al.take k) ++ [(par.data.toList, by_.data.toList)]) w2 ∧ w2.heap[gp]? = some (.cells #[.string par, .string by_, .bool both] 51 (0, 0))) := ⟨hr2, hk2.blk HX.out.2.1 HX.out.2.2.1 HX.out.2.2.2⟩
      clear hr2 hk2 HX p0 p1 p2 lp
      obtain ⟨p0, p1, p2⟩ := blk3 H2.out.2
      have lp := lt_of_blk H2.out.2
      cases both
      · have HF : Hid (RT wo tb mb gm (dirs (al.take (k + 1))) w2) := by
          show RT _ _ _ _ _ _
          rw [HDT.out]
          exact H2.out.1
        go_wp2_with fail
        go_roundw
        case rel => exact ⟨k + 1, by omega, by go_num, HF⟩
        case measure => simp [intOf]; omega
      · go_wp2_with fail
        refine (C1.out _ (by rw [List.length_append]; simp; omega) by_ par HZK.out.2 HZK.out.1 w2 H2.out.1).mono ?_
        rintro e w3 ⟨rfl, hr3, _⟩
        have HF : Hid (RT wo tb mb gm (dirs (al.take (k + 1))) w3) := by
          show RT _ _ _ _ _ _
          rw [HDT.out, show dirB ⟨par, by_, true⟩ = [(par.data.toList, by_.data.toList)] ++ [(by_.data.toList, par.data.toList)] from rfl, ← List.append_assoc]
          exact hr3
        clear hr3 H2 p0 p1 p2 lp
        go_wp2_with fail
        go_roundw
        case rel => exact ⟨k + 1, by omega, by go_num, HF⟩
        case measure => simp [intOf]; omega
    · obtain rfl : k = al.length := by omega
      have hF := HS.out
      rw [List.take_length] at hF
      have HF := Lib.hid hF
      clear hF
      go_wp2_with fail
      refine bodyPost_end (v := .tuple #[]) (by unfold results; simp only [Tryz.results59]; go_simp) rfl ⟨rfl, HF.out⟩

set_option maxHeartbeats 4000000 in
theorem replacedTwice_any (al : List Al) (hal : al.length ≤ 400000) (hz : ∀ a ∈ al, a.par.size ≤ maxLen ∧ a.by_.size ≤ maxLen) {v : Value} {w : World} (hr : Reads encAl v al w) :
    Calls Tryz.prog 28 #[v] w fun e w' => e = .returned (.bool (twB (dirs al))) ∧ Below w.heap.size w w' := by
  have hmm := @run_makeMap Tryz.prog
  have HR := Lib.hid hr
  have CE := Lib.hid (fun (tb mb gm : Nat) h1 h3 n1 n2 n3 (W : World) h => @eachR_any al hal hz w tb mb gm h1 h3 n1 n2 n3 v hr W h)
  obtain ⟨A, c, rfl, _⟩ := hr
  go_enter Tryz.func28, Tryz.ntmps28
  go_upto_region 3 with (fail)
  have H0 : Hid (RT w (w.heap.size + 1 + 1) (w.heap.size + 1) w.heap.size [] (((w.alloc (.map #[] 0)).alloc (.cells #[.map (some w.heap.size)] 100)).alloc (.cells #[.bool false] 4))) :=
    ⟨(((Below.refl _ _).alloc (Nat.le_refl _) _).alloc (by simp) _).alloc (by simp; omega) _, blk_new _ _ (by simp), blk_alloc (blk_new _ _ (by simp)) _, 0, _, ((World.ownsMap_made w _ _ _).alloc _).alloc _, Nat.le_refl _, pairsIs_nil⟩
  generalize ((w.alloc (.map #[] 0)).alloc (.cells #[.map (some w.heap.size)] 100)).alloc (.cells #[.bool false] 4) = w2 at *
  clear hmm
  go_wp2_with fail
  refine (CE.out (w.heap.size + 1 + 1) (w.heap.size + 1) w.heap.size (by omega) (by omega) (by omega) (by omega) (by omega) w2 H0.out).mono ?_
  rintro e w3 ⟨rfl, h3⟩
  have H3 := Lib.hid h3
  have c0 := blk_cell0 h3.kt
  have l0 := lt_of_blk h3.kt
  clear h3 H0 CE
  go_wp2_with fail
  go_ret
  exact ⟨rfl, H3.out.bel⟩
end Go.Proofs.YtiooimfkobjpkaaGreatDoor

/-
  Catalogues: which part is replaced twice by the same one (the reference's).
-/
namespace Go.Proofs.YtiooimfkobjpkaaGreatDoor
open Go.RowKit Go.WideMaps Go.Maps
set_option linter.unusedSimpArgs false
set_option linter.unusedVariables false

theorem two_info : (Tryz.prog.info? 62).map (fun i => (i.zero, i.size, i.bytes)) = some (some (.agg #[.string ⟨#[]⟩, .string ⟨#[]⟩]), 2, 32) := by kernel_rfl
/-- What an alternate lets come in whose place: the coming one first. -/
def dirT (a : Al) : List (ByteArray × ByteArray) := (a.by_, a.par) :: (if a.both = true then [(a.par, a.by_)] else [])
def encT (p : ByteArray × ByteArray) : List Value := [.string p.1, .string p.2]
/-- The pair the other way round, in bytes. -/
def revT (p : ByteArray × ByteArray) : BB := (p.2.data.toList, p.1.data.toList)
theorem dirT_rev (a : Al) : (dirT a).map revT = dirB a := by
  unfold dirT dirB revT
  cases a.both <;> rfl
theorem row_t {w : World} {g : Nat} {l : List (ByteArray × ByteArray)} (h : LineAt w g (l.flatMap encT)) {k : Nat} (hk : k < l.length) :
    w.cell? ⟨g, k * 2, none⟩ = some (.string l[k].1) ∧ w.cell? ⟨g, k * 2 + 1, none⟩ = some (.string l[k].2) := by
  have e := fun j (hj : j < 2) => flatK_at encT 2 (fun _ => rfl) l k hk j hj
  exact ⟨h.2 _ _ (e 0 (by omega)), h.2 _ _ (e 1 (by omega))⟩

set_option maxHeartbeats 4000000 in
theorem directions_any (a : Al) (w : World) :
    Calls Tryz.prog 25 #[.agg #[.string a.par, .string a.by_, .bool a.both]] w fun e w' => ∃ v, e = .returned v ∧ w'.ownsRow w.heap.size 62 2 v (dirT a).length ((dirT a).flatMap encT) ∧ Below w.heap.size w w' := by
  obtain ⟨par, by_, both⟩ := a
  dsimp only
  have H0 : Hid (Below w.heap.size w ((w.alloc (.cells #[.string par, .string by_, .bool both] 51)).alloc (.cells #[.string by_, .string par] 62)) ∧ ((w.alloc (.cells #[.string par, .string by_, .bool both] 51)).alloc (.cells #[.string by_, .string par] 62)).heap[w.heap.size]? = some (.cells #[.string par, .string by_, .bool both] 51 (0, 0)) ∧ ((w.alloc (.cells #[.string par, .string by_, .bool both] 51)).alloc (.cells #[.string by_, .string par] 62)).ownsRow w.heap.size 62 2 (.slice (some ⟨w.heap.size + 1, 0, none⟩) 1 1) 1 [.string by_, .string par] ∧ w.heap.size ≤ ((w.alloc (.cells #[.string par, .string by_, .bool both] 51)).alloc (.cells #[.string by_, .string par] 62)).heap.size) := by
    refine ⟨((Below.refl _ _).alloc (Nat.le_refl _) _).alloc (by simp) _, blk_alloc (blk_new w _ rfl) _, ?_, by simp; omega⟩
    have h := World.ownsRow_lit (base := w.heap.size) (e := 62) (size := 2) (w.alloc (.cells #[.string par, .string by_, .bool both] 51)) #[.string by_, .string par] 1 (by simp) (by unfold maxLen; omega) rfl
    simp only [World.size_alloc] at h
    exact h
  go_enter Tryz.func25, Tryz.ntmps25
  go_upto_region 2 with (fail)
  generalize (w.alloc (.cells #[.string par, .string by_, .bool both] 51)).alloc (.cells #[.string by_, .string par] 62) = w1 at *
  obtain ⟨p0, p1, p2⟩ := blk3 H0.out.2.1
  have lp := lt_of_blk H0.out.2.1
  cases both
  · go_wp2_with fail
    go_ret
    exact ⟨_, rfl, H0.out.2.2.1, H0.out.1⟩
  · obtain ⟨i0, hi0, hz0, hzz1, hz20⟩ := info_parts two_info
    have HI := Lib.hid (And.intro hi0 (And.intro hz0 (And.intro hzz1 hz20)))
    clear hi0 hz0 hzz1 hz20
    go_wp2_with (at_builtin; refine hold ?_)
    refine loose ?_
    refine wpList_append_own _ rfl _ _ 60 rfl w.heap.size 62 i0 _ 2 32 Tryz.underlying60 HI.out.1 HI.out.2.1 HI.out.2.2.1 HI.out.2.2.2 rfl (by omega) _ 1 [.string by_, .string par] rfl (H0.out.2.2.1.alloc _) ⟨w1.heap.size, 0, none⟩ 1 1 [.string par, .string by_] rfl rfl (fun j u hu => by rw [addr_new, cell_of_blk (blk_new w1 _ rfl)]; simpa using hu) (by intro u hu; simp at hu; rcases hu with rfl | rfl <;> rfl) (by unfold maxLen; omega) (by omega) (by have := H0.out.2.2.2; simp; omega) ?_
    intro v' w4 hown' hg' _
    have H4 : Hid (w4.ownsRow w.heap.size 62 2 v' 2 ([.string by_, .string par] ++ [.string par, .string by_]) ∧ Below w.heap.size w w4) :=
      ⟨hown', (H0.out.1.alloc H0.out.2.2.2 _).grown hg' (by have := H0.out.2.2.2; simp; omega) (own_row H0.out.2.2.1)⟩
    clear hown' hg' p0 p1 p2 lp
    obtain ⟨A9, c9, rfl, _⟩ := own_form H4.out.1
    go_wp2_with fail
    go_ret
    exact ⟨_, rfl, H4.out.1, H4.out.2⟩
end Go.Proofs.YtiooimfkobjpkaaGreatDoor
