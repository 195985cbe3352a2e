/-
  The walk of the reference's SpotsOf.
-/
import Derived.Test.YtopnadilfjakiaaSpot
import Derived.Test.YtopnadilfjakiaaPanO
import Derived.Test.YtopnadilfjakiaaReadF
namespace Go.Proofs.Ytopnadilfjakiaa
open Go.RowKit

theorem own_other {w : World} {base : Nat} {e : TypeId} {size n : Nat} {v : Value} {xs : List Value} (h : w.ownsRow base e size v n xs) {i : Nat} {cs : Array Value} {t : TypeId} (hb : w.heap[i]? = some (.cells cs t (0, 0))) (ht : t ≠ e) : ∀ j, v.ownBlock = some j → i ≠ j := by
  intro j hj
  rcases h.2 with ⟨rfl, _⟩ | ⟨g, cap, cur, rfl, _, hc, _⟩
  · simp [Value.ownBlock] at hj
  · simp [Value.ownBlock] at hj
    subst hj
    rintro rfl
    rw [hb] at hc
    simp at hc
    exact ht hc.2
def dSl : Sl := ⟨0, 0, 0, false⟩
def spRow (W H : Int) (s : List Sl) (l : List Pl) (i j : Nat) : List Sp := if (s.getD i dSl).skip then [] else (l.take j).map (spotP W H i (s.getD i dSl))
def spIdx (W H : Int) (s : List Sl) (l : List Pl) (i : Nat) : List Sp := (List.range i).flatMap fun k => spRow W H s l k l.length
theorem spRow_zero (W H : Int) (s : List Sl) (l : List Pl) (i : Nat) : spRow W H s l i 0 = [] := by simp [spRow]
theorem spRow_next (W H : Int) (s : List Sl) (l : List Pl) {i j : Nat} (hi : i < s.length) (h : j < l.length) : spRow W H s l i (j + 1) = spRow W H s l i j ++ (if s[i].skip = true then [] else [spotP W H i s[i] l[j]]) := by
  have e : s.getD i dSl = s[i] := by rw [List.getD_eq_getElem?_getD, List.getElem?_eq_getElem hi]; rfl
  unfold spRow
  rw [e]
  by_cases h2 : s[i].skip = true
  · simp [h2]
  · simp only [h2, if_false]
    rw [List.take_succ_eq_append_getElem h, List.map_append]
    rfl
theorem spIdx_next (W H : Int) (s : List Sl) (l : List Pl) (i : Nat) : spIdx W H s l (i + 1) = spIdx W H s l i ++ spRow W H s l i l.length := by
  unfold spIdx
  rw [List.range_succ, List.flatMap_append]
  simp
theorem spRow_len (W H : Int) (s : List Sl) (l : List Pl) (i j : Nat) : (spRow W H s l i j).length ≤ l.length := by
  unfold spRow
  split
  · simp
  · rw [List.length_map, List.length_take]; omega
theorem spIdx_len (W H : Int) (s : List Sl) (l : List Pl) (i : Nat) : (spIdx W H s l i).length ≤ i * l.length := by
  induction i with
  | zero => simp [spIdx]
  | succ i ih =>
    rw [spIdx_next, List.length_append, Nat.succ_mul]
    have := spRow_len W H s l i l.length
    omega
theorem pl_in {key : ByteArray} {W H : Int} {l : List Pl} (h : prodErr key W H l = 0) : ∀ p ∈ l, PlIn W H p := by
  intro p hp
  obtain ⟨_, _, _, _, hb, _⟩ := prodErr_ok h
  have := hb p hp
  simp [plOk, inR] at this
  unfold PlIn
  omega
theorem spot_info : (Try.prog.info? 41).map (fun i => (i.zero, i.size, i.bytes)) = some (some (.agg #[.int .i64 0, .string ⟨#[]⟩, .int .i64 0, .int .i64 0, .int .i64 0]), 5, 48) := by kernel_rfl
theorem five {w : World} {g : Nat} {a b c d e : Value} {t : TypeId} (h : w.heap[g]? = some (.cells #[a, b, c, d, e] t (0, 0))) :
    w.cell? ⟨g, 0, none⟩ = some a ∧ w.cell? ⟨g, 1, none⟩ = some b ∧ w.cell? ⟨g, 2, none⟩ = some c ∧ w.cell? ⟨g, 3, none⟩ = some d ∧ w.cell? ⟨g, 4, none⟩ = some e :=
  ⟨by rw [cell_of_blk h]; rfl, by rw [cell_of_blk h]; rfl, by rw [cell_of_blk h]; rfl, by rw [cell_of_blk h]; rfl, by rw [cell_of_blk h]; rfl⟩

/-- What stands in the inner loop. -/
def SpSt (w1 : World) (hz : Nat) (t : Sl) (acc : List Sp) (v : Value) (W : World) : Prop :=
  Below w1.heap.size w1 W ∧ W.ownsRow w1.heap.size 41 5 v acc.length (acc.flatMap Sp.cells) ∧ W.heap[hz]? = some (.cells #[.int .i64 t.x, .int .i64 t.y, .int .i64 t.q, .bool t.skip] 70 (0, 0))

set_option maxRecDepth 100000 in
set_option maxHeartbeats 4000000 in
theorem spotsOf_any (key : ByteArray) (Wd Hg : Int) (A : Option Addr) (c : Nat) (l : List Pl) (PW PH : Int) (B : Option Addr) (d : Nat) (s : List Sl) (w : World) (hA : PlAt w A l) (hB : SlAt w B s) (h1 : panErr key Wd Hg l PW PH s = 0) :
    Calls Try.prog 17 #[prod key Wd Hg A l.length c, pan PW PH B s.length d] w fun e w' => ∃ v, e = .returned v ∧ Below w.heap.size w w' ∧ ReadsF w.heap.size Sp.cells v (spIdx Wd Hg s l s.length) w' := by
  obtain ⟨hpe, _, ho⟩ := pan_ok h1
  have hsl2 := ho.slen
  have hln2 := ho.len
  have HO := Lib.hid ho
  have HPI := Lib.hid (pl_in hpe)
  have HNX := Lib.hid (spIdx_next Wd Hg s l)
  have HR0 := Lib.hid (spRow_zero Wd Hg s l)
  have HRX := Lib.hid (fun i j (hi : i < s.length) (hj : j < l.length) => spRow_next Wd Hg s l hi hj)
  have HNL := Lib.hid (spIdx_len Wd Hg s l)
  have HRL := Lib.hid (spRow_len Wd Hg s l)
  have HN0 : Hid (spIdx Wd Hg s l 0 = []) := rfl
  clear h1 hpe ho
  generalize spIdx Wd Hg s l = NI at *
  generalize hRR : spRow Wd Hg s l = RR at *
  clear hRR
  go_enter Try.func17, Try.ntmps17
  go_wp2_with fail
  have kP : PanB w ((w.alloc (Obj.cells #[.string key, .int .i64 Wd, .int .i64 Hg, .slice A l.length c] 28)).alloc (Obj.cells #[.int .i64 PW, .int .i64 PH, .slice B s.length d] 32)) key Wd Hg A l.length c PW PH B s.length d := ⟨blk_alloc (blk_new w _ rfl) _, blk_new _ _ (by simp), ((Below.refl _ _).alloc (Nat.le_refl _) _).alloc (by simp) _, by simp⟩
  generalize ((w.alloc (Obj.cells #[.string key, .int .i64 Wd, .int .i64 Hg, .slice A l.length c] 28)).alloc (Obj.cells #[.int .i64 PW, .int .i64 PH, .slice B s.length d] 32)) = w1 at *
  have KQ := Lib.hid kP
  clear kP
  go_loopw [5, 13] (fun v kk wr => ∃ i : Nat, i ≤ s.length ∧ kk = .int .i64 i ∧ w.heap.size + 1 < wr.heap.size ∧ Hid (Below w1.heap.size w1 wr ∧ wr.ownsRow w1.heap.size 41 5 v (NI i).length ((NI i).flatMap Sp.cells))) (fun _ kk _ => s.length - (intOf kk).toNat)
  case atStart => exact ⟨0, by omega, rfl, KQ.out.2.2.2, by rw [HN0.out]; exact ⟨Below.refl _ _, World.ownsRow_nil _ _ _ _⟩⟩
  case round =>
    obtain ⟨i, hi, rfl, hsz, HS⟩ := hrel
    obtain ⟨A7, k7, rfl, _⟩ := own_form HS.out.2
    by_cases hlt : i < s.length
    · obtain ⟨t, ht⟩ : ∃ t, s[i] = t := ⟨_, rfl⟩
      have hti : SlIn t := HO.out.sl t (by rw [← ht]; exact List.getElem_mem hlt)
      rcases hB with rfl | ⟨g, rfl, hrow⟩
      · simp at hlt
      have hr2 := (hrow.below KQ.out.2.2.1).below HS.out.1
      obtain ⟨p0, p1, p2, p3⟩ := row_sl hr2 hlt
      rw [ht] at p0 p1 p2 p3
      have hg := hr2.1
      obtain ⟨b0, b1, b2, b3⟩ := blk4 (blk_below HS.out.1 KQ.out.1)
      have hwP0 : w.heap.size < wr.heap.size := by omega
      have HROW := Lib.hid hrow
      have HTI := Lib.hid (And.intro hti ht)
      clear hrow hr2 hti ht
      go_upto_region 5 with (fail)
      have hs0 : SpSt w1 wr.heap.size t (NI i) (.slice A7 (NI i).length k7) (wr.alloc (Obj.cells #[.int .i64 t.x, .int .i64 t.y, .int .i64 t.q, .bool t.skip] 70)) := ⟨HS.out.1.alloc HS.out.1.size _, HS.out.2.alloc _, blk_new wr _ rfl⟩
      have hsz2 : w.heap.size + 1 < (wr.alloc (Obj.cells #[.int .i64 t.x, .int .i64 t.y, .int .i64 t.q, .bool t.skip] 70)).heap.size := by simp; omega
      have hsz3 : w1.heap.size ≤ wr.heap.size := HS.out.1.size
      clear HS p0 p1 p2 p3 b0 b1 b2 b3 hg hwP0 hsz
      generalize wr.alloc (Obj.cells #[.int .i64 t.x, .int .i64 t.y, .int .i64 t.q, .bool t.skip] 70) = wz at *
      generalize wr.heap.size = hz at *
      have HS0 := Lib.hid hs0
      clear hs0
      obtain ⟨b0, b1, b2, b3⟩ := blk4 (blk_below HS0.out.1 KQ.out.1)
      have HIN : Hid (NI i = NI i ++ RR i 0) := by
        show _ = _
        rw [HR0.out, List.append_nil]
      go_wp2_with fail
      go_loopw [5, 21] (fun v kk wr => ∃ (j : Nat) (acc : List Sp), j ≤ l.length ∧ kk = .int .i64 j ∧ w.heap.size + 1 < wr.heap.size ∧ Hid (acc = NI i ++ RR i j) ∧ Hid (SpSt w1 hz t acc v wr)) (fun _ kk _ => l.length - (intOf kk).toNat)
      case atStart => exact ⟨0, NI i, by omega, rfl, hsz2, HIN, HS0⟩
      case round =>
        clear HIN HS0 hsz2 b0 b1 b2 b3
        obtain ⟨j, acc, hj, rfl, hsz, HAC, HS⟩ := hrel
        obtain ⟨A8, k8, rfl, _⟩ := own_form HS.out.2.1
        by_cases hlj : j < l.length
        · obtain ⟨p, hp⟩ : ∃ p, l[j] = p := ⟨_, rfl⟩
          have hpi := HPI.out p (by rw [← hp]; exact List.getElem_mem hlj)
          have hrx := HRX.out i j hlt hlj
          have hss : s[i].skip = t.skip := by rw [HTI.out.2]
          rw [hp, hss] at hrx
          have CA := Lib.hid (fun W' (h : SlAt W' (some ⟨g, 0, none⟩) s) => spotOf_any key Wd Hg A l.length c PW PH (some ⟨g, 0, none⟩) d s i hlt (by omega) p W' h HO.out.w HO.out.h (by rw [HTI.out.2]; exact HTI.out.1) hpi)
          rcases hA with rfl | ⟨gp, rfl, hrowp⟩
          · simp at hlj
          have hr3 := (hrowp.below KQ.out.2.2.1).below HS.out.1
          obtain ⟨q0, q1, q2, q3, q4⟩ := row_pl hr3 hlj
          rw [hp] at q0 q1 q2 q3 q4
          have hgp := hr3.1
          have HROWP := Lib.hid hrowp
          have HRXX := Lib.hid hrx
          have hdl : acc.length ≤ 200000 := by
            rw [HAC.out, List.length_append]
            have a1 := HNL.out i
            have a2 := HRL.out i j
            have a3 : i * l.length ≤ 100 * 1000 := Nat.mul_le_mul (by omega) (by omega)
            omega
          clear hp hpi hrx hss hrowp hr3
          generalize spotP Wd Hg i s[i] p = sp at *
          obtain ⟨b0, b1, b2, b3⟩ := blk4 (blk_below HS.out.1 KQ.out.1)
          obtain ⟨n0, n1, n2, _⟩ := blk3 (blk_below HS.out.1 KQ.out.2.1)
          obtain ⟨z0, z1, z2, z3⟩ := blk4 HS.out.2.2
          have hzl := lt_of_blk HS.out.2.2
          have hwP0 : w.heap.size < wr.heap.size := by omega
          obtain ⟨tx, ty, tq, tsk⟩ := t
          obtain ⟨pn, pp, px, py, pq⟩ := p
          obtain ⟨sa, sn, sx, sy, sq⟩ := sp
          dsimp only [Sp.cells] at CA
          dsimp only at q0 q1 q2 q3 q4 z0 z1 z2 z3
          cases tsk
          · have HF : Hid (RR i (j + 1) = RR i j ++ [⟨sa, sn, sx, sy, sq⟩]) := HRXX.out.trans (by simp)
            have i1 : (0 : Int) ≤ (j : Int) := by omega
            have i2 : (j : Int) < (l.length : Int) := by omega
            go_wp2_with fail
            refine (CA.out _ (.inr ⟨g, rfl, ((HROW.out.below KQ.out.2.2.1).below HS.out.1).below ((Below.refl _ _).alloc (Nat.le_refl _) _)⟩)).mono ?_
            rintro e w2 ⟨rfl, b2'⟩
            have hal : Below wr.heap.size wr w2 := ((Below.refl _ _).alloc (Nat.le_refl _) _).then_below b2' (by simp)
            have HS2 : Hid (SpSt w1 hz ⟨tx, ty, tq, false⟩ acc (.slice A8 acc.length k8) w2) := ⟨HS.out.1.ext hal, own_below HS.out.2.1 hal, blk_below hal HS.out.2.2⟩
            have hsz4 : w.heap.size + 1 < w2.heap.size := Nat.lt_of_lt_of_le hsz hal.size
            have hzl2 : hz < w2.heap.size := Nat.lt_of_lt_of_le hzl hal.size
            clear hal b2' HS q0 q1 q2 q3 q4 b0 b1 b2 b3 n0 n1 n2 z0 z1 z2 z3
            go_wp2_with (at_builtin; refine hold ?_)
            refine loose ?_
            obtain ⟨i0, hi0, hz0, hz1, hz2⟩ := info_parts spot_info
            refine wpList_append_own _ rfl _ _ 44 rfl w1.heap.size 41 i0 _ 5 48 Try.underlying44 hi0 hz0 hz1 hz2 rfl (by omega) _ acc.length (acc.flatMap Sp.cells) rfl (HS2.out.2.1.alloc _) ⟨w2.heap.size, 0, none⟩ 1 1 (Sp.cells ⟨sa, sn, sx, sy, sq⟩) rfl rfl ?_ (by intro u hu; simp [Sp.cells] at hu; rcases hu with rfl | rfl | rfl | rfl | rfl <;> rfl) (by unfold maxLen; omega) (by omega) (by have := HS2.out.1.size; simp; omega) ?_
            · intro q u hu
              rw [addr_new, cell_of_blk (blk_new (g := w2.heap.size) _ _ rfl)]
              simpa [Sp.cells] using hu
            intro v' w' hown' hg' _
            have hsz' := hg'.size
            simp at hsz'
            have HAC2 : Hid (acc ++ [⟨sa, sn, sx, sy, sq⟩] = NI i ++ RR i (j + 1)) := by
              show _ = _
              rw [HF.out, HAC.out, List.append_assoc]
            have HG2 : Hid (SpSt w1 hz ⟨tx, ty, tq, false⟩ (acc ++ [⟨sa, sn, sx, sy, sq⟩]) v' w') := by
              refine ⟨(HS2.out.1.alloc HS2.out.1.size _).grown hg' (by have := HS2.out.1.size; simp; omega) (fun q e => own_row HS2.out.2.1 q e), ?_, (hg'.block hz (by simp; omega) (fun e => own_other HS2.out.2.1 HS2.out.2.2 (by decide) _ e.symm rfl)).trans (blk_alloc HS2.out.2.2 _)⟩
              have e1 : (acc ++ [(⟨sa, sn, sx, sy, sq⟩ : Sp)]).flatMap Sp.cells = acc.flatMap Sp.cells ++ Sp.cells ⟨sa, sn, sx, sy, sq⟩ := by rw [List.flatMap_append]; simp
              rw [e1, List.length_append]
              exact hown'
            have hwF2 : w.heap.size + 1 < w'.heap.size := by omega
            clear hown' hg' hi0 hz0 hz1 hz2
            go_wp2_with fail
            go_roundw
            case rel => exact ⟨j + 1, _, by omega, by go_num, hwF2, HAC2, HG2⟩
            case measure => simp [intOf]; omega
          · have HF : Hid (RR i (j + 1) = RR i j) := HRXX.out.trans (by simp)
            have HAC2 : Hid (acc = NI i ++ RR i (j + 1)) := by
              show _ = _
              rw [HF.out]
              exact HAC.out
            have HSA : Hid (SpSt w1 hz ⟨tx, ty, tq, true⟩ acc (.slice A8 acc.length k8) (wr.alloc (Obj.cells #[.string pn, .string pp, .int .i64 px, .int .i64 py, .int .i64 pq] 50))) := ⟨HS.out.1.alloc HS.out.1.size _, HS.out.2.1.alloc _, blk_alloc HS.out.2.2 _⟩
            have hsA : w.heap.size + 1 < (wr.alloc (Obj.cells #[.string pn, .string pp, .int .i64 px, .int .i64 py, .int .i64 pq] 50)).heap.size := by simp; omega
            have i1 : (0 : Int) ≤ (j : Int) := by omega
            have i2 : (j : Int) < (l.length : Int) := by omega
            go_wp2_with fail
            go_roundw
            case rel => exact ⟨j + 1, acc, by omega, by go_num, hsA, HAC2, HSA⟩
            case measure => simp [intOf]; omega
        · obtain rfl : j = l.length := by omega
          have HF : Hid (Below w1.heap.size w1 wr ∧ wr.ownsRow w1.heap.size 41 5 (.slice A8 acc.length k8) (NI (i + 1)).length ((NI (i + 1)).flatMap Sp.cells)) := by
            rw [HNX.out, ← HAC.out]
            exact ⟨HS.out.1, HS.out.2.1⟩
          go_wp2_with fail
          go_roundw
          case rel => exact ⟨i + 1, by omega, by go_num, hsz, HF⟩
          case measure => simp [intOf]; omega
    · obtain rfl : i = s.length := by omega
      go_wp2_with fail
      go_ret
      exact ⟨_, rfl, KQ.out.2.2.1.then_below HS.out.1 KQ.out.2.2.1.size, (readsF_own HS.out.2).least KQ.out.2.2.1.size⟩
end Go.Proofs.Ytopnadilfjakiaa
