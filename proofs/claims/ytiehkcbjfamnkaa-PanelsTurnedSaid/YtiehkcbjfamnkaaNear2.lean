/-
  The walk of the pairs that are near, whatever is done at each.
-/
import Derived.Test.YtiehkcbjfamnkaaNear
namespace Go.Proofs.Ytiehkcbjfamnkaa
open Go.RowKit

/-- What a function value that collects pairs has: its variable, and the row behind it. -/
structure ClI (E T vb base : Nat) (enc : Nat × Nat → List Value) (d : List (Nat × Nat)) (v : Value) (W : World) : Prop where
  var : W.heap[vb]? = some (.cells #[v] T (0, 0))
  row : W.ownsRow base E 2 v d.length (d.flatMap enc)
  lt : vb < base
theorem ClI.below {E T vb base : Nat} {enc : Nat × Nat → List Value} {d : List (Nat × Nat)} {v : Value} {W W' : World} (h : ClI E T vb base enc d v W) (hb : Below W.heap.size W W') : ClI E T vb base enc d v W' :=
  ⟨blk_below hb h.var, own_below h.row hb, h.lt⟩
/-- What one call of it does. -/
def ClPost (E T vb base : Nat) (enc : Nat × Nat → List Value) (d : List (Nat × Nat)) (v : Value) (i j : Nat) (W : World) (e : Ending) (W' : World) : Prop :=
  e = .returned (.tuple #[]) ∧ ∃ v', ClI E T vb base enc (d ++ [(i, j)]) v' W' ∧ W.heap.size ≤ W'.heap.size ∧ (W'.os = W.os ∧ W'.tape = W.tape ∧ W'.output = W.output) ∧
    (∀ k, k < W.heap.size → k ≠ vb → v.ownBlock ≠ some k → W'.heap[k]? = W.heap[k]?) ∧ (v'.ownBlock = v.ownBlock ∨ ∃ k, W.heap.size ≤ k ∧ v'.ownBlock = some k)

def dA : Ar := ⟨0, 0, 0, 0⟩
def rowIdx (g : Int) (L : List Ar) (i j : Nat) : List (Nat × Nat) := ((List.range' (i + 1) (j - (i + 1))).filter fun k => nearA g (L.getD i dA) (L.getD k dA)).map fun k => (i, k)
def nearIdx (g : Int) (L : List Ar) (i : Nat) : List (Nat × Nat) := (List.range i).flatMap fun k => rowIdx g L k L.length
theorem rowIdx_start (g : Int) (L : List Ar) (i : Nat) : rowIdx g L i (i + 1) = [] := by simp [rowIdx]
theorem rowIdx_next (g : Int) (L : List Ar) {i j : Nat} (h : i < j) : rowIdx g L i (j + 1) = rowIdx g L i j ++ (if nearA g (L.getD i dA) (L.getD j dA) then [(i, j)] else []) := by
  unfold rowIdx
  rw [show j + 1 - (i + 1) = j - (i + 1) + 1 by omega, List.range'_concat, List.filter_append, List.map_append, show i + 1 + 1 * (j - (i + 1)) = j by omega]
  cases h2 : nearA g (L.getD i dA) (L.getD j dA) <;> simp only [List.filter_cons, List.filter_nil, h2, List.map_nil, List.map_cons, if_true, Bool.false_eq_true, if_false]
theorem nearIdx_next (g : Int) (L : List Ar) (i : Nat) : nearIdx g L (i + 1) = nearIdx g L i ++ rowIdx g L i L.length := by
  unfold nearIdx
  rw [List.range_succ, List.flatMap_append]
  simp
theorem rowIdx_len (g : Int) (L : List Ar) (i j : Nat) : (rowIdx g L i j).length ≤ j := by
  unfold rowIdx
  rw [List.length_map]
  exact Nat.le_trans (List.length_filter_le _ _) (by rw [List.length_range']; omega)
theorem nearIdx_len (g : Int) (L : List Ar) (i : Nat) : (nearIdx g L i).length ≤ i * L.length := by
  induction i with
  | zero => simp [nearIdx]
  | succ i ih =>
    rw [nearIdx_next, List.length_append, Nat.succ_mul]
    have := rowIdx_len g L i L.length
    omega

def AreasAt (w : World) (A : Option Addr) (L : List Ar) : Prop := L = [] ∨ ∃ g : Nat, A = some ⟨g, 0, none⟩ ∧ LineAt w g (flatA L)
theorem row_ar {w : World} {g : Nat} {L : List Ar} (h : LineAt w g (flatA L)) {k : Nat} (hk : k < L.length) :
    w.cell? ⟨g, k * 4, none⟩ = some (.int .i64 L[k].xf) ∧ w.cell? ⟨g, k * 4 + 1, none⟩ = some (.int .i64 L[k].xt) ∧ w.cell? ⟨g, k * 4 + 2, none⟩ = some (.int .i64 L[k].yf) ∧ w.cell? ⟨g, k * 4 + 3, none⟩ = some (.int .i64 L[k].yt) := by
  have e := fun j (hj : j < 4) => flatK_at Ar.cells 4 (fun _ => rfl) L k hk j hj
  exact ⟨h.2 _ _ (e 0 (by omega)), h.2 _ _ (e 1 (by omega)), h.2 _ _ (e 2 (by omega)), h.2 _ _ (e 3 (by omega))⟩
def arB (a : Ar) : Prop := (-10000000 ≤ a.xf ∧ a.xf ≤ 10000000) ∧ (-10000000 ≤ a.xt ∧ a.xt ≤ 10000000) ∧ (-10000000 ≤ a.yf ∧ a.yf ≤ 10000000) ∧ (-10000000 ≤ a.yt ∧ a.yt ≤ 10000000)

/-- The state at the heads of both loops. -/
def NearSt (E T vb : Nat) (enc : Nat × Nat → List Value) (w0 : World) (d : List (Nat × Nat)) (W : World) : Prop :=
  ∃ v, ClI E T vb w0.heap.size enc d v W ∧ Kept vb w0 W
def NearSt2 (E T vb : Nat) (enc : Nat × Nat → List Value) (w0 : World) (d : List (Nat × Nat)) (G : Nat) (a : Ar) (W : World) : Prop :=
  ∃ v, ClI E T vb w0.heap.size enc d v W ∧ Kept vb w0 W ∧ W.heap[G]? = some (.cells #[.int .i64 a.xf, .int .i64 a.xt, .int .i64 a.yf, .int .i64 a.yt] 135 (0, 0)) ∧ v.ownBlock ≠ some G ∧ w0.heap.size ≤ G

set_option maxRecDepth 100000 in
set_option maxHeartbeats 4000000 in
theorem nearPairs_any (A : Option Addr) (c : Nat) (L : List Ar) (hL : L.length ≤ 1000) (hLb : ∀ a ∈ L, arB a) (gap : Int) (g : Nat) (lb : Array Value) (E T vb : Nat) (enc : Nat × Nat → List Value) (w0 : World)
    (eg : ∀ args w, (callFunc g args).run Try.prog w = .ok (.enter g args) w)
    (hA : ∀ W, Kept vb w0 W → AreasAt W A L)
    (hcl : ∀ d v i j W, i < j → j < L.length → d.length ≤ 1001000 → Kept vb w0 W → ClI E T vb w0.heap.size enc d v W → Calls Try.prog g (#[.int .i64 i, .int .i64 j] ++ lb) W (ClPost E T vb w0.heap.size enc d v i j W))
    (v0 : Value) (h0 : ClI E T vb w0.heap.size enc [] v0 w0) :
    Calls Try.prog 73 #[.slice A L.length c, .int .i64 gap, .func (.func g) #[] lb] w0 fun e w' => e = .returned (.tuple #[]) ∧ NearSt E T vb enc w0 (nearIdx gap L L.length) w' := by
  have HLb := Lib.hid hLb
  have HA := Lib.hid hA
  have HCL := Lib.hid hcl
  have H0 : Hid (NearSt E T vb enc w0 (nearIdx gap L 0) w0) := ⟨v0, h0, Kept.same _ _⟩
  clear hLb hA hcl h0
  go_enter Try.func73, Try.ntmps73
  go_wp2_with fail
  go_loopw [12] (fun kk wr => ∃ i : Nat, i ≤ L.length ∧ kk = .int .i64 i ∧ Hid (NearSt E T vb enc w0 (nearIdx gap L i) wr)) (fun kk _ => L.length - (intOf kk).toNat)
  case atStart => exact ⟨0, by omega, rfl, H0⟩
  case round =>
    clear H0
    obtain ⟨i, hi, rfl, HS⟩ := hrel
    by_cases hlt : i < L.length
    · obtain ⟨a, ha⟩ : ∃ a, L[i] = a := ⟨_, rfl⟩
      have hab : arB a := HLb.out a (by rw [← ha]; exact List.getElem_mem hlt)
      have hgetD : L.getD i dA = a := by rw [List.getD_eq_getElem?_getD, List.getElem?_eq_getElem hlt]; exact ha
      obtain ⟨v, hc1, hk1⟩ := HS.out
      rcases HA.out _ hk1 with rfl | ⟨ga, rfl, hrow⟩
      · simp at hlt
      obtain ⟨p0, p1, p2, p3⟩ := row_ar hrow hlt
      rw [ha] at p0 p1 p2 p3
      have hga : ga < wr.heap.size := hrow.1
      have HG := Lib.hid hgetD
      have HAB := Lib.hid hab
      have HV := Lib.hid (And.intro hc1 hk1)
      clear ha hgetD hab hc1 hk1 hrow HS
      obtain ⟨axf, axt, ayf, ayt⟩ := a
      dsimp only at p0 p1 p2 p3
      obtain ⟨wo, rfl⟩ : ∃ wo : World, wo = wr := ⟨_, rfl⟩
      have HN2 : Hid (NearSt2 E T vb enc w0 (nearIdx gap L i ++ rowIdx gap L i (i + 1)) wo.heap.size ⟨axf, axt, ayf, ayt⟩ (wo.alloc (.cells #[.int .i64 axf, .int .i64 axt, .int .i64 ayf, .int .i64 ayt] 135))) := by
        rw [rowIdx_start, List.append_nil]
        exact ⟨v, HV.out.1.below ((Below.refl _ _).alloc (Nat.le_refl _) _), HV.out.2.then_ (Kept.of_below ((Below.refl _ _).alloc (Nat.le_refl _) _)), blk_new _ _ rfl, fun e => absurd (own_lt HV.out.1.row _ e) (by omega), HV.out.2.more⟩
      clear HV
      go_wp2_with fail
      go_loopw [8] (fun s8 wr => ∃ j : Nat, i < j ∧ j ≤ L.length ∧ s8 = .int .i64 j ∧ wo.heap.size < wr.heap.size ∧ Hid (NearSt2 E T vb enc w0 (nearIdx gap L i ++ rowIdx gap L i j) wo.heap.size ⟨axf, axt, ayf, ayt⟩ wr)) (fun s8 _ => L.length - (intOf s8).toNat)
      case atStart => exact ⟨i + 1, by omega, by omega, by go_num, by simp, HN2⟩
      case round =>
        clear HN2
        obtain ⟨j, hij, hj, rfl, hsz, HS⟩ := hrel
        by_cases hlj : j < L.length
        · obtain ⟨b, hb⟩ : ∃ b, L[j] = b := ⟨_, rfl⟩
          have hbb : arB b := HLb.out b (by rw [← hb]; exact List.getElem_mem hlj)
          have hgetD : L.getD j dA = b := by rw [List.getD_eq_getElem?_getD, List.getElem?_eq_getElem hlj]; exact hb
          obtain ⟨v, hc1, hk1, hG, hvG, hwG⟩ := HS.out
          rcases HA.out _ hk1 with rfl | ⟨ga', hga', hrow⟩
          · simp at hlj
          obtain rfl : ga = ga' := by simpa using hga'
          obtain ⟨p0, p1, p2, p3⟩ := row_ar hrow hlj
          rw [hb] at p0 p1 p2 p3
          obtain ⟨c0, c1, c2, c3⟩ := blk4 hG
          have hga2 : ga < wr.heap.size := hrow.1
          have HG2 := Lib.hid hgetD
          have HV := Lib.hid (And.intro hc1 (And.intro hk1 (And.intro hG (And.intro hvG hwG))))
          have HVG := Lib.hid hvG
          obtain ⟨⟨b0, b1⟩, ⟨b2, b3⟩, ⟨b4, b5⟩, b6, b7⟩ := HAB.out
          obtain ⟨⟨d0, d1⟩, ⟨d2, d3⟩, ⟨d4, d5⟩, d6, d7⟩ := hbb
          clear hb hgetD hc1 hk1 hG hvG hrow HS hga'
          obtain ⟨bxf, bxt, byf, byt⟩ := b
          dsimp only at *
          have HNX : Hid (rowIdx gap L i (j + 1) = rowIdx gap L i j ++ (if nearA gap ⟨axf, axt, ayf, ayt⟩ ⟨bxf, bxt, byf, byt⟩ then [(i, j)] else [])) := by
            have := rowIdx_next gap L hij
            rw [HG.out, HG2.out] at this
            exact this
          have ca := fun W => apart_any axf axt bxf bxt W ⟨b0, b1⟩ ⟨b2, b3⟩ ⟨d0, d1⟩ ⟨d2, d3⟩
          have cb := fun W => apart_any ayf ayt byf byt W ⟨b4, b5⟩ ⟨b6, b7⟩ ⟨d4, d5⟩ ⟨d6, d7⟩
          have HNA : Hid (nearA gap ⟨axf, axt, ayf, ayt⟩ ⟨bxf, bxt, byf, byt⟩ = (decide (max (axf - bxt) (bxf - axt) < gap) && decide (max (ayf - byt) (byf - ayt) < gap))) := rfl
          generalize max (axf - bxt) (bxf - axt) = m1 at *
          generalize max (ayf - byt) (byf - ayt) = m2 at *
          have CA := Lib.hid ca
          have CB := Lib.hid cb
          clear ca cb b0 b1 b2 b3 b4 b5 b6 b7 d0 d1 d2 d3 d4 d5 d6 d7
          by_cases h1 : m1 < gap
          · by_cases h2 : m2 < gap
            · have HN : Hid (nearA gap ⟨axf, axt, ayf, ayt⟩ ⟨bxf, bxt, byf, byt⟩ = true) := HNA.out.trans (by simp [h1, h2])
              go_wp2_with fail
              refine (CA.out _).mono ?_
              rintro e w1 ⟨rfl, hb1⟩
              have hal : Below wr.heap.size wr w1 := ((Below.refl _ _).alloc (Nat.le_refl _) _).then_below hb1
              have hs1 := hal.size
              have hs1' := hb1.size
              have k9 := blk_below hb1 (blk_new wr _ rfl)
              have k7 := blk_below hal HV.out.2.2.1
              clear c0 c1 c2 c3
              obtain ⟨c0, c1, c2, c3⟩ := blk4 k7
              obtain ⟨e0, e1, e2, e3⟩ := blk4 k9
              have HAL := Lib.hid hal
              have hlt9 : wr.heap.size < w1.heap.size := by simp at hs1'; omega
              clear hal hb1 k9 k7 hs1' p0 p1 p2 p3
              go_wp2_with fail
              refine (CB.out _).mono ?_
              rintro e w2 ⟨rfl, hb2⟩
              have hal2 : Below wr.heap.size wr w2 := HAL.out.ext hb2
              have hs2 := hb2.size
              have HV2 := Lib.hid (And.intro (HV.out.1.below hal2) (And.intro (HV.out.2.1.then_ (Kept.of_below hal2)) (blk_below hal2 HV.out.2.2.1)))
              clear hal2 hb2 HAL c0 c1 c2 c3 e0 e1 e2 e3
              have hdl : (nearIdx gap L i ++ rowIdx gap L i j).length ≤ 1000000 + 1000 := by
                rw [List.length_append]
                have a1 := nearIdx_len gap L i
                have a2 := rowIdx_len gap L i j
                have a3 : i * L.length ≤ 1000 * 1000 := Nat.mul_le_mul (by omega) (by omega)
                omega
              go_wp2_with fail
              refine (HCL.out _ v i j w2 hij hlj hdl HV2.out.2.1 HV2.out.1).mono ?_
              rintro e w3 ⟨rfl, v', hc3, hs3, ho3, hf3, hv3⟩
              have HF : Hid (NearSt2 E T vb enc w0 (nearIdx gap L i ++ rowIdx gap L i (j + 1)) wo.heap.size ⟨axf, axt, ayf, ayt⟩ w3) := by
                rw [HNX.out, HN.out]
                simp only [if_true, ← List.append_assoc]
                refine ⟨v', hc3, ?_, ?_, ?_, HV.out.2.2.2.2⟩
                · obtain ⟨x1, x2, x3⟩ := HV2.out.2.1.outer
                  obtain ⟨y1, y2, y3⟩ := ho3
                  have hm := HV2.out.2.1.more
                  have hrw := own_row HV2.out.1.row
                  exact ⟨⟨y1.trans x1, y2.trans x2, y3.trans x3⟩, by omega, fun k hk hne => (hf3 k (by omega) hne (fun e => by have := hrw k e; omega)).trans (HV2.out.2.1.old k hk hne)⟩
                · exact (hf3 _ (by omega) (by have := HV.out.1.lt; have := HV.out.2.2.2.2; omega) (fun e => HVG.out e)).trans HV2.out.2.2
                · rcases hv3 with h | ⟨k, hk, h⟩
                  · rw [h]; exact HVG.out
                  · rw [h]; intro e; simp at e; omega
              clear hc3 hf3 hv3 ho3
              go_wp2_with fail
              go_roundw
              case rel => exact ⟨j + 1, by omega, by omega, by go_num, by omega, HF⟩
              case measure => simp [intOf]; omega
            · have HN : Hid (nearA gap ⟨axf, axt, ayf, ayt⟩ ⟨bxf, bxt, byf, byt⟩ = false) := HNA.out.trans (by simp [h2])
              go_wp2_with fail
              refine (CA.out _).mono ?_
              rintro e w1 ⟨rfl, hb1⟩
              have hal : Below wr.heap.size wr w1 := ((Below.refl _ _).alloc (Nat.le_refl _) _).then_below hb1
              have hs1 := hal.size
              have hs1' := hb1.size
              have k9 := blk_below hb1 (blk_new wr _ rfl)
              have k7 := blk_below hal HV.out.2.2.1
              clear c0 c1 c2 c3
              obtain ⟨c0, c1, c2, c3⟩ := blk4 k7
              obtain ⟨e0, e1, e2, e3⟩ := blk4 k9
              have HAL := Lib.hid hal
              have hlt9 : wr.heap.size < w1.heap.size := by simp at hs1'; omega
              clear hal hb1 k9 k7 hs1' p0 p1 p2 p3
              go_wp2_with fail
              refine (CB.out _).mono ?_
              rintro e w2 ⟨rfl, hb2⟩
              have hal2 : Below wr.heap.size wr w2 := HAL.out.ext hb2
              have hs2 := hb2.size
              have HF : Hid (NearSt2 E T vb enc w0 (nearIdx gap L i ++ rowIdx gap L i (j + 1)) wo.heap.size ⟨axf, axt, ayf, ayt⟩ w2) := by
                rw [HNX.out, HN.out]
                simp only [Bool.false_eq_true, if_false, List.append_nil]
                exact ⟨v, HV.out.1.below hal2, HV.out.2.1.then_ (Kept.of_below hal2), blk_below hal2 HV.out.2.2.1, HVG.out, HV.out.2.2.2.2⟩
              clear hal2 hb2 HAL c0 c1 c2 c3 e0 e1 e2 e3
              go_wp2_with fail
              go_roundw
              case rel => exact ⟨j + 1, by omega, by omega, by go_num, by omega, HF⟩
              case measure => simp [intOf]; omega
          · have HN : Hid (nearA gap ⟨axf, axt, ayf, ayt⟩ ⟨bxf, bxt, byf, byt⟩ = false) := HNA.out.trans (by simp [h1])
            go_wp2_with fail
            refine (CA.out _).mono ?_
            rintro e w1 ⟨rfl, hb1⟩
            have hal : Below wr.heap.size wr w1 := ((Below.refl _ _).alloc (Nat.le_refl _) _).then_below hb1
            have HF : Hid (NearSt2 E T vb enc w0 (nearIdx gap L i ++ rowIdx gap L i (j + 1)) wo.heap.size ⟨axf, axt, ayf, ayt⟩ w1) := by
              rw [HNX.out, HN.out]
              simp only [Bool.false_eq_true, if_false, List.append_nil]
              exact ⟨v, HV.out.1.below hal, HV.out.2.1.then_ (Kept.of_below hal), blk_below hal HV.out.2.2.1, HVG.out, HV.out.2.2.2.2⟩
            have hs1 := hal.size
            clear hal hb1
            go_wp2_with fail
            go_roundw
            case rel => exact ⟨j + 1, by omega, by omega, by go_num, by omega, HF⟩
            case measure => simp [intOf]; omega
        · obtain rfl : j = L.length := by omega
          have HF : Hid (NearSt E T vb enc w0 (nearIdx gap L (i + 1)) wr) := by
            obtain ⟨v, hc1, hk1, _⟩ := HS.out
            rw [nearIdx_next]
            exact ⟨v, hc1, hk1⟩
          go_wp2_with fail
          go_roundw
          case rel => exact ⟨i + 1, by omega, by go_num, HF⟩
          case measure => simp [intOf]; omega
    · obtain rfl : i = L.length := by omega
      go_wp2_with fail
      go_end0
      exact ⟨rfl, HS.out⟩
end Go.Proofs.Ytiehkcbjfamnkaa
