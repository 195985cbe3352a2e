/-
  The walk of Spots.
-/
import Derived.Test.YtopnadilfjakiaaSpotR
import Derived.Test.YtopnadilfjakiaaPlacing1
namespace Go.Proofs.Ytopnadilfjakiaa
open Go.RowKit

/-- What stands in the inner loop of Spots. -/
def SpsSt (key : ByteArray) (W H : Int) (A : Option Addr) (n c k : Nat) (t : Sl) (w1 : World) (h8 h5 h7 hp : Nat) (acc : List Sp) (v : Value) (wr : World) : Prop :=
  Below w1.heap.size w1 wr ∧ wr.ownsRow w1.heap.size 41 5 v acc.length (acc.flatMap Sp.cells) ∧ PlacingB key W H A n c k t h8 h5 h7 hp wr
theorem SpsSt.below {key : ByteArray} {W H : Int} {A : Option Addr} {n c k : Nat} {t : Sl} {w1 : World} {h8 h5 h7 hp : Nat} {acc : List Sp} {v : Value} {wr w2 : World} (h : SpsSt key W H A n c k t w1 h8 h5 h7 hp acc v wr) (hb : Below wr.heap.size wr w2) : SpsSt key W H A n c k t w1 h8 h5 h7 hp acc v w2 :=
  ⟨h.1.ext hb, own_below h.2.1 hb, h.2.2.below hb⟩

set_option maxRecDepth 100000 in
set_option maxHeartbeats 4000000 in
theorem spots_any (key : ByteArray) (Wd Hg : Int) (A : Option Addr) (c : Nat) (l : List Pl) (hl : l.length ≤ 4611686018427387904) (PW PH : Int) (B : Option Addr) (d : Nat) (s : List Sl) (hsl : s.length ≤ 4611686018427387904) (w : World) (hA : PlAt w A l) (hB : SlAt w B s) :
    Calls Try.prog 10 #[prod key Wd Hg A l.length c, pan PW PH B s.length d] w fun e w' => ∃ v, e = .returned (.tuple #[v, .int .i64 (panErr key Wd Hg l PW PH s)]) ∧ Below w.heap.size w w' ∧ Reads Sp.cells v (if panErr key Wd Hg l PW PH s = 0 then spIdx Wd Hg s l s.length else []) w' := by
  have CP := Lib.hid (fun (W' : World) (h : PlAt W' A l) (h2 : SlAt W' B s) => checkPanel_any key Wd Hg A c l hl PW PH B d s hsl W' h h2)
  by_cases h1 : panErr key Wd Hg l PW PH s = 0
  rotate_left
  · rw [if_neg h1]
    generalize panErr key Wd Hg l PW PH s = E at *
    have h2 : (E != 0) = true := by simpa using h1
    clear h1
    go_enter Try.func10, Try.ntmps10
    go_wp2_with fail
    refine (CP.out _ (hA.below (((Below.refl _ _).alloc (Nat.le_refl _) _).alloc (by simp) _)) (hB.below (((Below.refl _ _).alloc (Nat.le_refl _) _).alloc (by simp) _))).mono ?_
    rintro e w1 ⟨rfl, b1⟩
    have HB1 := Lib.hid ((((Below.refl w.heap.size w).alloc (Nat.le_refl _) _).alloc (by simp) _).then_below b1 (by simp; omega))
    clear b1
    go_wp2_with fail
    go_ret2
    exact ⟨_, rfl, HB1.out, none, 0, rfl, .inl rfl⟩
  · rw [if_pos h1]
    obtain ⟨hpe, _, ho⟩ := pan_ok h1
    rw [h1] at CP ⊢
    have hsl2 := ho.slen
    have hln2 := ho.len
    have HO := Lib.hid ho
    have HPI := Lib.hid (pl_in hpe)
    have HNX := Lib.hid (spIdx_next Wd Hg s l)
    have HR0 := Lib.hid (spRow_zero Wd Hg s l)
    have HRX := Lib.hid (fun i j (hi : i < s.length) (hj : j < l.length) => spRow_next Wd Hg s l hi hj)
    have HNL := Lib.hid (spIdx_len Wd Hg s l)
    have HRL := Lib.hid (spRow_len Wd Hg s l)
    have HN0 : Hid (spIdx Wd Hg s l 0 = []) := rfl
    have HSK : Hid (∀ i (hi : i < s.length), s[i].skip = true → spRow Wd Hg s l i l.length = []) := fun i hi h => by
      have e : s.getD i dSl = s[i] := by rw [List.getD_eq_getElem?_getD, List.getElem?_eq_getElem hi]; rfl
      unfold spRow
      rw [e, if_pos h]
    clear h1 hpe ho
    generalize spIdx Wd Hg s l = NI at *
    generalize hRR : spRow Wd Hg s l = RR at *
    clear hRR
    go_enter Try.func10, Try.ntmps10
    go_wp2_with fail
    have kP : PanB w ((w.alloc (Obj.cells #[.string key, .int .i64 Wd, .int .i64 Hg, .slice A l.length c] 28)).alloc (Obj.cells #[.int .i64 PW, .int .i64 PH, .slice B s.length d] 32)) key Wd Hg A l.length c PW PH B s.length d := ⟨blk_alloc (blk_new w _ rfl) _, blk_new _ _ (by simp), ((Below.refl _ _).alloc (Nat.le_refl _) _).alloc (by simp) _, by simp⟩
    generalize ((w.alloc (Obj.cells #[.string key, .int .i64 Wd, .int .i64 Hg, .slice A l.length c] 28)).alloc (Obj.cells #[.int .i64 PW, .int .i64 PH, .slice B s.length d] 32)) = wP at *
    have KP := Lib.hid kP
    clear kP
    refine (CP.out _ (hA.below KP.out.2.2.1) (hB.below KP.out.2.2.1)).mono ?_
    rintro e w1 ⟨rfl, b1⟩
    have KQ : Hid (PanB w w1 key Wd Hg A l.length c PW PH B s.length d) := ⟨blk_below b1 KP.out.1, blk_below b1 KP.out.2.1, KP.out.2.2.1.then_below b1 KP.out.2.2.1.size, Nat.lt_of_lt_of_le KP.out.2.2.2 b1.size⟩
    clear b1 KP CP
    obtain ⟨e0, e1, e2, hPl⟩ := blk3 KQ.out.2.1
    go_wp2_with fail
    clear e0 e1 e2 hPl
    go_loopw [7, 22] (fun v kk wr => ∃ i : Nat, i ≤ s.length ∧ kk = .int .i64 i ∧ w.heap.size + 1 < wr.heap.size ∧ Hid (Below w1.heap.size w1 wr ∧ wr.ownsRow w1.heap.size 41 5 v (NI i).length ((NI i).flatMap Sp.cells))) (fun _ kk _ => s.length - (intOf kk).toNat)
    case atStart => exact ⟨0, by omega, rfl, KQ.out.2.2.2, by rw [HN0.out]; exact ⟨Below.refl _ _, World.ownsRow_nil _ _ _ _⟩⟩
    case round =>
      obtain ⟨i, hi, rfl, hsz, HS⟩ := hrel
      obtain ⟨A7, k7, rfl, _⟩ := own_form HS.out.2
      by_cases hlt : i < s.length
      · obtain ⟨t, ht⟩ : ∃ t, s[i] = t := ⟨_, rfl⟩
        have hti : SlIn t := HO.out.sl t (by rw [← ht]; exact List.getElem_mem hlt)
        rcases hB with rfl | ⟨g, rfl, hrow⟩
        · simp at hlt
        have hr2 := (hrow.below KQ.out.2.2.1).below HS.out.1
        obtain ⟨p0, p1, p2, p3⟩ := row_sl hr2 hlt
        rw [ht] at p0 p1 p2 p3
        have hg := hr2.1
        obtain ⟨b0, b1, b2, b3⟩ := blk4 (blk_below HS.out.1 KQ.out.1)
        obtain ⟨n0, n1, n2, _⟩ := blk3 (blk_below HS.out.1 KQ.out.2.1)
        have hwP0 : w.heap.size < wr.heap.size := by omega
        have HROW := Lib.hid hrow
        have HTI := Lib.hid (And.intro hti ht)
        clear hrow hr2 hti ht
        obtain ⟨tx, ty, tq, tsk⟩ := t
        dsimp only at p0 p1 p2 p3
        cases tsk
        · have CPL := Lib.hid (fun W' (h : SlAt W' (some ⟨g, 0, none⟩) s) => placing_any key Wd Hg A l.length c PW PH (some ⟨g, 0, none⟩) d s i hlt (by omega) W' h (by rw [HTI.out.2]; exact HTI.out.1))
          go_wp2_with fail
          have HS1 : Hid (Below w1.heap.size w1 (wr.alloc (Obj.cells #[.int .i64 tx, .int .i64 ty, .int .i64 tq, .bool false] 70)) ∧ (wr.alloc (Obj.cells #[.int .i64 tx, .int .i64 ty, .int .i64 tq, .bool false] 70)).ownsRow w1.heap.size 41 5 (.slice A7 (NI i).length k7) (NI i).length ((NI i).flatMap Sp.cells)) := ⟨HS.out.1.alloc HS.out.1.size _, HS.out.2.alloc _⟩
          have hsz2 : w.heap.size + 1 < (wr.alloc (Obj.cells #[.int .i64 tx, .int .i64 ty, .int .i64 tq, .bool false] 70)).heap.size := by simp; omega
          clear HS p0 p1 p2 p3 b0 b1 b2 b3 n0 n1 n2 hg hwP0 hsz
          generalize wr.alloc (Obj.cells #[.int .i64 tx, .int .i64 ty, .int .i64 tq, .bool false] 70) = wz at *
          refine (CPL.out _ (.inr ⟨g, rfl, (HROW.out.below KQ.out.2.2.1).below HS1.out.1⟩)).mono ?_
          rintro e w2 ⟨v, rfl, b2, hpl⟩
          rw [HTI.out.2] at hpl
          obtain ⟨h8, h5, h7, hp, rfl, hpb⟩ := hpl
          have HS2 : Hid (SpsSt key Wd Hg A l.length c i ⟨tx, ty, tq, false⟩ w1 h8 h5 h7 hp (NI i) (.slice A7 (NI i).length k7) w2) := ⟨HS1.out.1.ext b2, own_below HS1.out.2 b2, hpb⟩
          have hsz3 : w.heap.size + 1 < w2.heap.size := Nat.lt_of_lt_of_le hsz2 b2.size
          clear b2 hpb HS1 CPL hsz2
          obtain ⟨b0, b1, b2, b3⟩ := blk4 (blk_below HS2.out.1 KQ.out.1)
          have hwP0 : w.heap.size < w2.heap.size := by omega
          have HIN : Hid (NI i = NI i ++ RR i 0) := by
            show _ = _
            rw [HR0.out, List.append_nil]
          go_wp2_with fail
          clear b0 b1 b2 b3 hwP0
          go_loopw [7, 36] (fun v kk wr => ∃ (j : Nat) (acc : List Sp), j ≤ l.length ∧ kk = .int .i64 j ∧ w.heap.size + 1 < wr.heap.size ∧ Hid (acc = NI i ++ RR i j) ∧ Hid (SpsSt key Wd Hg A l.length c i ⟨tx, ty, tq, false⟩ w1 h8 h5 h7 hp acc v wr)) (fun _ kk _ => l.length - (intOf kk).toNat)
          case atStart => exact ⟨0, NI i, by omega, rfl, hsz3, HIN, HS2⟩
          case round =>
            clear HIN HS2 hsz3
            obtain ⟨j, acc, hj, rfl, hsz, HAC, HS⟩ := hrel
            obtain ⟨A8, k8, rfl, _⟩ := own_form HS.out.2.1
            by_cases hlj : j < l.length
            · obtain ⟨p, hp'⟩ : ∃ p, l[j] = p := ⟨_, rfl⟩
              have hpi := HPI.out p (by rw [← hp']; exact List.getElem_mem hlj)
              have hrx := HRX.out i j hlt hlj
              have hss : s[i].skip = false := by rw [HTI.out.2]
              rw [hp', hss, HTI.out.2] at hrx
              have CA := Lib.hid (fun W' (h : PlacingB key Wd Hg A l.length c i ⟨tx, ty, tq, false⟩ h8 h5 h7 hp W') => placing1_any key Wd Hg A l.length c i ⟨tx, ty, tq, false⟩ p h8 h5 h7 hp W' HO.out.w HO.out.h HTI.out.1 hpi h)
              rcases hA with rfl | ⟨gp, rfl, hrowp⟩
              · simp at hlj
              have hr3 := (hrowp.below KQ.out.2.2.1).below HS.out.1
              obtain ⟨q0, q1, q2, q3, q4⟩ := row_pl hr3 hlj
              rw [hp'] at q0 q1 q2 q3 q4
              have hgp := hr3.1
              have HROWP := Lib.hid hrowp
              have HRXX := Lib.hid hrx
              have hdl : acc.length ≤ 200000 := by
                rw [HAC.out, List.length_append]
                have a1 := HNL.out i
                have a2 := HRL.out i j
                have a3 : i * l.length ≤ 100 * 1000 := Nat.mul_le_mul (by omega) (by omega)
                omega
              clear hp' hpi hrx hss hrowp hr3
              generalize spotP Wd Hg i ⟨tx, ty, tq, false⟩ p = sp at *
              obtain ⟨pn, pp, px, py, pq⟩ := p
              obtain ⟨sa, sn, sx, sy, sq⟩ := sp
              dsimp only [Sp.cells] at CA
              dsimp only at q0 q1 q2 q3 q4
              have HF : Hid (RR i (j + 1) = RR i j ++ [⟨sa, sn, sx, sy, sq⟩]) := HRXX.out.trans (by simp)
              have i1 : (0 : Int) ≤ (j : Int) := by omega
              have i2 : (j : Int) < (l.length : Int) := by omega
              go_wp2_with fail
              have hbA : Below wr.heap.size wr (wr.alloc (Obj.cells #[.string pn, .string pp, .int .i64 px, .int .i64 py, .int .i64 pq] 50)) := (Below.refl _ _).alloc (Nat.le_refl _) _
              refine (CA.out _ (HS.out.2.2.below hbA)).mono ?_
              rintro e w2 ⟨rfl, b2'⟩
              have hal := hbA.then_below b2' (by simp)
              have HS2 := Lib.hid (HS.out.below hal)
              have hsz4 : w.heap.size + 1 < w2.heap.size := Nat.lt_of_lt_of_le hsz hal.size
              clear hal hbA b2' HS q0 q1 q2 q3 q4 CA
              go_wp2_with (at_builtin; refine hold ?_)
              refine loose ?_
              obtain ⟨i0, hi0, hz0, hz1, hz2⟩ := info_parts spot_info
              refine wpList_append_own _ rfl _ _ 44 rfl w1.heap.size 41 i0 _ 5 48 Try.underlying44 hi0 hz0 hz1 hz2 rfl (by omega) _ acc.length (acc.flatMap Sp.cells) rfl (HS2.out.2.1.alloc _) ⟨w2.heap.size, 0, none⟩ 1 1 (Sp.cells ⟨sa, sn, sx, sy, sq⟩) rfl rfl ?_ (by intro u hu; simp [Sp.cells] at hu; rcases hu with rfl | rfl | rfl | rfl | rfl <;> rfl) (by unfold maxLen; omega) (by omega) (by have := HS2.out.1.size; simp; omega) ?_
              · intro q u hu
                rw [addr_new, cell_of_blk (blk_new (g := w2.heap.size) _ _ rfl)]
                simpa [Sp.cells] using hu
              intro v' w' hown' hg' _
              have hsz' := hg'.size
              simp at hsz'
              have HAC2 : Hid (acc ++ [⟨sa, sn, sx, sy, sq⟩] = NI i ++ RR i (j + 1)) := by
                show _ = _
                rw [HF.out, HAC.out, List.append_assoc]
              have HG2 : Hid (SpsSt key Wd Hg (some ⟨gp, 0, none⟩) l.length c i ⟨tx, ty, tq, false⟩ w1 h8 h5 h7 hp (acc ++ [⟨sa, sn, sx, sy, sq⟩]) v' w') := by
                refine ⟨(HS2.out.1.alloc HS2.out.1.size _).grown hg' (by have := HS2.out.1.size; simp; omega) (fun q e => own_row HS2.out.2.1 q e), ?_, ?_⟩
                · have e1 : (acc ++ [(⟨sa, sn, sx, sy, sq⟩ : Sp)]).flatMap Sp.cells = acc.flatMap Sp.cells ++ Sp.cells ⟨sa, sn, sx, sy, sq⟩ := by rw [List.flatMap_append]; simp
                  rw [e1, List.length_append]
                  exact hown'
                · obtain ⟨x8, x5, x7, xp⟩ := HS2.out.2.2
                  have far : ∀ {b : Nat} {cs : Array Value} {T : TypeId}, w2.heap[b]? = some (.cells cs T (0, 0)) → T ≠ 41 → w'.heap[b]? = some (.cells cs T (0, 0)) := fun hb hT =>
                    (hg'.block _ (by have := lt_of_blk hb; simp; omega) (fun e => own_other HS2.out.2.1 hb hT _ e.symm rfl)).trans (blk_alloc hb _)
                  exact ⟨far x8 (by decide), far x5 (by decide), far x7 (by decide), far xp (by decide)⟩
              have hwF2 : w.heap.size + 1 < w'.heap.size := by omega
              clear hown' hg' hi0 hz0 hz1 hz2
              go_wp2_with fail
              go_roundw
              case rel => exact ⟨j + 1, _, by omega, by go_num, hwF2, HAC2, HG2⟩
              case measure => simp [intOf]; omega
            · obtain rfl : j = l.length := by omega
              have HF : Hid (Below w1.heap.size w1 wr ∧ wr.ownsRow w1.heap.size 41 5 (.slice A8 acc.length k8) (NI (i + 1)).length ((NI (i + 1)).flatMap Sp.cells)) := by
                rw [HNX.out, ← HAC.out]
                exact ⟨HS.out.1, HS.out.2.1⟩
              go_wp2_with fail
              go_roundw
              case rel => exact ⟨i + 1, by omega, by go_num, hsz, HF⟩
              case measure => simp [intOf]; omega
        · have HF : Hid (NI (i + 1) = NI i) := by
            show _ = _
            rw [HNX.out, HSK.out i hlt (by rw [HTI.out.2]), List.append_nil]
          have HSA : Hid (Below w1.heap.size w1 (wr.alloc (Obj.cells #[.int .i64 tx, .int .i64 ty, .int .i64 tq, .bool true] 70)) ∧ (wr.alloc (Obj.cells #[.int .i64 tx, .int .i64 ty, .int .i64 tq, .bool true] 70)).ownsRow w1.heap.size 41 5 (.slice A7 (NI i).length k7) (NI (i + 1)).length ((NI (i + 1)).flatMap Sp.cells)) := by
            rw [HF.out]
            exact ⟨HS.out.1.alloc HS.out.1.size _, HS.out.2.alloc _⟩
          have hsA : w.heap.size + 1 < (wr.alloc (Obj.cells #[.int .i64 tx, .int .i64 ty, .int .i64 tq, .bool true] 70)).heap.size := by simp; omega
          go_wp2_with fail
          go_roundw
          case rel => exact ⟨i + 1, by omega, by go_num, hsA, HSA⟩
          case measure => simp [intOf]; omega
      · obtain rfl : i = s.length := by omega
        go_wp2_with fail
        go_ret2
        exact ⟨_, rfl, KQ.out.2.2.1.then_below HS.out.1 KQ.out.2.2.1.size, reads_own HS.out.2⟩
end Go.Proofs.Ytopnadilfjakiaa
