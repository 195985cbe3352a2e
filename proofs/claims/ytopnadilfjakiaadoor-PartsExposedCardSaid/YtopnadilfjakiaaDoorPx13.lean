/-
  The reference on whether a part may be used in a window.
-/
import Derived.Test.YtopnadilfjakiaaDoorPx12
namespace Go.Proofs.YtopnadilfjakiaaDoor
open Go.RowKit
set_option linter.unusedSimpArgs false
set_option linter.unusedVariables false

/-- The state of UsableIn while it gathers moments. -/
def UsSt (w : World) (B h3 : Nat) (key pk : ByteArray) (lv bk : Int) (A : Option Addr) (n c : Nat) (lf a b : Int) (v : Value) (acc : List Int) (W : World) : Prop :=
  Below w.heap.size w W ∧ B ≤ W.heap.size ∧ UsEnv key pk lv bk A n c lf w.heap.size (w.heap.size + 1) h3 W ∧ W.heap[w.heap.size + 1 + 1]? = some (.cells #[.int .i64 a, .int .i64 b] 34 (0, 0)) ∧ W.ownsRow B 3 1 v acc.length (acc.map (Value.int .i64))
theorem UsSt.alloc {w : World} {B h3 : Nat} {key pk : ByteArray} {lv bk : Int} {A : Option Addr} {n c : Nat} {lf a b : Int} {v : Value} {acc : List Int} {W : World} (h : UsSt w B h3 key pk lv bk A n c lf a b v acc W) (o : Obj) : UsSt w B h3 key pk lv bk A n c lf a b v acc (W.alloc o) :=
  ⟨h.1.alloc h.1.size _, by have := h.2.1; simp; omega, h.2.2.1.below ((Below.refl _ _).alloc (Nat.le_refl _) _), blk_alloc h.2.2.2.1 _, h.2.2.2.2.alloc _⟩
theorem int_info : (Tryd.prog.info? 3).map (fun i => (i.zero, i.size, i.bytes)) = some (some (.int .i64 0), 1, 8) := by kernel_rfl
theorem usEnv_grown {key pk : ByteArray} {lv bk : Int} {A : Option Addr} {n c : Nat} {lf : Int} {hp hs hl B : Nat} {W W' : World} {r : Option Nat} (h : UsEnv key pk lv bk A n c lf hp hs hl W) (hg : W.grownBy W' r) (hr : ∀ k, r = some k → B ≤ k) (h1 : hp < B) (h2 : hs < B) (h3 : hl < B) : UsEnv key pk lv bk A n c lf hp hs hl W' :=
  ⟨(hg.block _ (lt_of_blk h.1) (fun q => by have := hr _ q.symm; omega)).trans h.1, (hg.block _ (lt_of_blk h.2.1) (fun q => by have := hr _ q.symm; omega)).trans h.2.1, (hg.block _ (lt_of_blk h.2.2) (fun q => by have := hr _ q.symm; omega)).trans h.2.2⟩

def inW (a b t : Int) : Bool := decide (a ≤ t) && decide (t ≤ b)
theorem looks_snoc {a b : Int} {l : List Sy} {k : Nat} (h : k < l.length) : looks a b (l.take (k + 1)) = looks a b (l.take k) ++ [l[k].frm - 1, l[k].frm].filter (inW a b) := by
  unfold looks
  rw [List.take_succ_eq_append_getElem h, List.flatMap_append]
  congr 1
  rw [List.flatMap_cons, List.flatMap_nil, List.append_nil]
  rfl

set_option maxRecDepth 100000 in
set_option maxHeartbeats 8000000 in
theorem usableIn_any (key pk : ByteArray) (lv bk : Int) (A : Option Addr) (c : Nat) (l : List Sy) (hl : l.length ≤ 400) (a b : Int) (w : World) (hA : SyAt w A l) (hg : GoodS l) (hlv : inR lv 1 6 = true) (hab : 0 ≤ a ∧ a ≤ b ∧ b ≤ 345686399999) :
    Calls Tryd.prog 23 #[.agg #[.string key, .string pk, .int .i64 lv, .int .i64 bk], .slice A l.length c, .agg #[.int .i64 a, .int .i64 b]] w fun r w' => r = .returned (.bool (if limB lv = true then !((a :: b :: looks a b l).any fun t => decide (lifeV lv < expo lv bk t 0 l)) else true)) ∧ Below w.heap.size w w' := by
  obtain ⟨ha0, hab, hbf⟩ := hab
  have CF := Lib.hid (fun W => lifeOf_ok lv hlv W)
  obtain ⟨hn0, hn1⟩ := lifeV_nn lv
  have CC := Lib.hid (fun lf h3 acc hn hacc g d W hA he hx => usContains_any key pk lv bk A c l hl lf w.heap.size (w.heap.size + 1) h3 acc hn hacc g d W hA hg he hx)
  have HG := Lib.hid hg
  clear hlv hg
  generalize lifeV lv = lf at *
  obtain ⟨rr, hrr⟩ : ∃ rr, rr = ((a :: b :: looks a b l).any fun t => decide (lf < expo lv bk t 0 l)) := ⟨_, rfl⟩
  rw [← hrr]
  have HRR := Lib.hid hrr
  clear hrr
  cases hm : limB lv
  · rw [hm] at CF
    clear hm
    go_enter Tryd.func23, Tryd.ntmps23
    go_wp2_with fail
    have bw1 : Below w.heap.size w (((w.alloc (Obj.cells #[.string key, .string pk, .int .i64 lv, .int .i64 bk] 27)).alloc (Obj.cells #[.slice A l.length c] 29)).alloc (Obj.cells #[.int .i64 a, .int .i64 b] 34)) := ((((Below.refl _ _).alloc (Nat.le_refl _) _).alloc (by simp) _).alloc (by simp; omega) _)
    have kP : (((w.alloc (Obj.cells #[.string key, .string pk, .int .i64 lv, .int .i64 bk] 27)).alloc (Obj.cells #[.slice A l.length c] 29)).alloc (Obj.cells #[.int .i64 a, .int .i64 b] 34)).heap[w.heap.size]? = some (.cells #[.string key, .string pk, .int .i64 lv, .int .i64 bk] 27 (0, 0)) := (blk_alloc (blk_alloc (blk_new w _ rfl) _) _)
    have kS : (((w.alloc (Obj.cells #[.string key, .string pk, .int .i64 lv, .int .i64 bk] 27)).alloc (Obj.cells #[.slice A l.length c] 29)).alloc (Obj.cells #[.int .i64 a, .int .i64 b] 34)).heap[w.heap.size + 1]? = some (.cells #[.slice A l.length c] 29 (0, 0)) := (blk_alloc (blk_new _ _ (by simp)) _)
    have kW : (((w.alloc (Obj.cells #[.string key, .string pk, .int .i64 lv, .int .i64 bk] 27)).alloc (Obj.cells #[.slice A l.length c] 29)).alloc (Obj.cells #[.int .i64 a, .int .i64 b] 34)).heap[w.heap.size + 1 + 1]? = some (.cells #[.int .i64 a, .int .i64 b] 34 (0, 0)) := (blk_new _ _ (by simp))
    generalize (((w.alloc (Obj.cells #[.string key, .string pk, .int .i64 lv, .int .i64 bk] 27)).alloc (Obj.cells #[.slice A l.length c] 29)).alloc (Obj.cells #[.int .i64 a, .int .i64 b] 34)) = w1 at *
    obtain ⟨q0, q1, q2, q3⟩ := blk4 kP
    have hpz := lt_of_blk kP
    go_wp2_with fail
    refine (CF.out _).mono ?_
    rintro e w2 ⟨rfl, b2⟩
    have HB := Lib.hid (bw1.then_below b2 bw1.size)
    clear b2 bw1 kP kS kW q0 q1 q2 q3 hpz
    go_wp2_with fail
    go_ret
    exact ⟨rfl, HB.out.alloc HB.out.size _⟩
  · rw [hm] at CF
    clear hm
    go_enter Tryd.func23, Tryd.ntmps23
    go_wp2_with fail
    have bw1 : Below w.heap.size w (((w.alloc (Obj.cells #[.string key, .string pk, .int .i64 lv, .int .i64 bk] 27)).alloc (Obj.cells #[.slice A l.length c] 29)).alloc (Obj.cells #[.int .i64 a, .int .i64 b] 34)) := ((((Below.refl _ _).alloc (Nat.le_refl _) _).alloc (by simp) _).alloc (by simp; omega) _)
    have kP : (((w.alloc (Obj.cells #[.string key, .string pk, .int .i64 lv, .int .i64 bk] 27)).alloc (Obj.cells #[.slice A l.length c] 29)).alloc (Obj.cells #[.int .i64 a, .int .i64 b] 34)).heap[w.heap.size]? = some (.cells #[.string key, .string pk, .int .i64 lv, .int .i64 bk] 27 (0, 0)) := (blk_alloc (blk_alloc (blk_new w _ rfl) _) _)
    have kS : (((w.alloc (Obj.cells #[.string key, .string pk, .int .i64 lv, .int .i64 bk] 27)).alloc (Obj.cells #[.slice A l.length c] 29)).alloc (Obj.cells #[.int .i64 a, .int .i64 b] 34)).heap[w.heap.size + 1]? = some (.cells #[.slice A l.length c] 29 (0, 0)) := (blk_alloc (blk_new _ _ (by simp)) _)
    have kW : (((w.alloc (Obj.cells #[.string key, .string pk, .int .i64 lv, .int .i64 bk] 27)).alloc (Obj.cells #[.slice A l.length c] 29)).alloc (Obj.cells #[.int .i64 a, .int .i64 b] 34)).heap[w.heap.size + 1 + 1]? = some (.cells #[.int .i64 a, .int .i64 b] 34 (0, 0)) := (blk_new _ _ (by simp))
    generalize (((w.alloc (Obj.cells #[.string key, .string pk, .int .i64 lv, .int .i64 bk] 27)).alloc (Obj.cells #[.slice A l.length c] 29)).alloc (Obj.cells #[.int .i64 a, .int .i64 b] 34)) = w1 at *
    obtain ⟨q0, q1, q2, q3⟩ := blk4 kP
    have hpz := lt_of_blk kP
    go_wp2_with fail
    refine (CF.out _).mono ?_
    rintro e w2 ⟨rfl, b2⟩
    have HB := Lib.hid (And.intro (bw1.then_below b2 bw1.size) (And.intro (blk_below b2 kP) (And.intro (blk_below b2 kS) (blk_below b2 kW))))
    have hz2 : w.heap.size + 1 + 1 < w2.heap.size := lt_of_blk HB.out.2.2.2
    obtain ⟨x0, x1, _, _⟩ := blk2 HB.out.2.2.2
    clear b2 bw1 kP kS kW q0 q1 q2 q3 hpz CF
    obtain ⟨s0, s1, s2⟩ := blk1 HB.out.2.2.1
    have hz3 : w.heap.size < w2.heap.size := by omega
    have H0 : Hid (UsSt w (w2.heap.size + 1) w2.heap.size key pk lv bk A l.length c lf a b (.slice (some ⟨w2.heap.size + 1, 0, none⟩) 2 2) (a :: b :: looks a b (l.take 0)) ((w2.alloc (Obj.cells #[.int .i64 lf] 3)).alloc (Obj.cells #[.int .i64 a, .int .i64 b] 3))) := by
      refine ⟨(HB.out.1.alloc HB.out.1.size _).alloc (by have := HB.out.1.size; simp; omega) _, by simp, ⟨blk_alloc (blk_alloc HB.out.2.1 _) _, blk_alloc (blk_alloc HB.out.2.2.1 _) _, blk_alloc (blk_new _ _ rfl) _⟩, blk_alloc (blk_alloc HB.out.2.2.2 _) _, ?_⟩
      exact ⟨rfl, .inr ⟨w2.heap.size + 1, 2, _, rfl, Nat.le_refl _, blk_new _ _ (by simp), by simp [looks], by decide, rfl, rfl⟩⟩
    go_wp2_with fail
    generalize (w2.alloc (Obj.cells #[.int .i64 lf] 3)).alloc (Obj.cells #[.int .i64 a, .int .i64 b] 3) = w3 at *
    clear s0 s1 s2 x0 x1 HB
    go_loopw [29, 9] (fun kk v wr => ∃ k : Nat, k ≤ l.length ∧ kk = .int .i64 k ∧ Hid (UsSt w (w2.heap.size + 1) w2.heap.size key pk lv bk A l.length c lf a b v (a :: b :: looks a b (l.take k)) wr)) (fun kk _ _ => l.length - (intOf kk).toNat)
    case atStart => exact ⟨0, by omega, rfl, H0⟩
    case round =>
      obtain ⟨k, hk, rfl, HS⟩ := hrel
      clear H0 hz3
      have hmem : ∀ t ∈ a :: b :: looks a b (l.take k), a ≤ t ∧ t ≤ b := fun t ht => by
        simp only [List.mem_cons] at ht
        rcases ht with rfl | rfl | ht
        · omega
        · omega
        · obtain ⟨_, _, _, h1, h2⟩ := mem_looks.mp ht; exact ⟨h1, h2⟩
      have hlen : (a :: b :: looks a b (l.take k)).length ≤ 2 + 2 * k := by
        have h1 : ∀ m : List Sy, (looks a b m).length ≤ 2 * m.length := fun m => by
          induction m with
          | nil => simp [looks]
          | cons y m ih =>
            have h2 : looks a b (y :: m) = ([y.frm - 1, y.frm].filter (inW a b)) ++ looks a b m := by unfold looks; rw [List.flatMap_cons]; rfl
            have h3 := List.length_filter_le (inW a b) [y.frm - 1, y.frm]
            rw [h2, List.length_append]
            simp only [List.length_cons, List.length_nil] at h3 ⊢
            omega
        have h2 := h1 (l.take k)
        rw [List.length_take] at h2
        simp only [List.length_cons]
        omega
      by_cases hlt : k < l.length
      · obtain ⟨p, hp⟩ : ∃ p, l[k] = p := ⟨_, rfl⟩
        have hsn := looks_snoc (a := a) (b := b) hlt
        rw [hp] at hsn
        have hpm := HG.out.1 p (by rw [← hp]; exact List.getElem_mem hlt)
        rcases hA with rfl | ⟨g, rfl, hrow⟩
        · simp at hlt
        have hr2 := hrow.below HS.out.1
        obtain ⟨p0, p1⟩ := row_sy hr2 hlt
        rw [hp] at p0 p1
        have hgl := hr2.1
        obtain ⟨pl, fr⟩ := p
        have hfr0 : 0 ≤ fr := hpm.2.2.1
        have hfr1 : fr < 345686400000 := hpm.2.2.2
        dsimp only at p0 p1 hsn
        have HSN : Hid (a :: b :: looks a b (l.take (k + 1)) = (a :: b :: looks a b (l.take k)) ++ [fr - 1, fr].filter (inW a b)) := by show _ = _; rw [hsn]; rfl
        generalize a :: b :: looks a b (l.take k) = acc at *
        obtain ⟨A7, c7, rfl, _⟩ := own_form HS.out.2.2.2.2
        obtain ⟨x0, x1, _, _⟩ := blk2 HS.out.2.2.2.1
        have hxz := lt_of_blk HS.out.2.2.2.1
        have hwi : IntKind.i64.wrap (fr - 1) = fr - 1 := IntWalk.i64_in _ (by omega)
        have i1 : (0 : Int) ≤ (k : Int) := by omega
        have i2 : (k : Int) < (l.length : Int) := by omega
        have HS1 : Hid (UsSt w (w2.heap.size + 1) w2.heap.size key pk lv bk (some ⟨g, 0, none⟩) l.length c lf a b (.slice A7 acc.length c7) acc ((wr.alloc (Obj.cells #[.int .i64 pl, .int .i64 fr] 61)).alloc (Obj.cells #[.int .i64 (fr - 1), .int .i64 fr] 3)) ∧ ((wr.alloc (Obj.cells #[.int .i64 pl, .int .i64 fr] 61)).alloc (Obj.cells #[.int .i64 (fr - 1), .int .i64 fr] 3)).heap[wr.heap.size + 1]? = some (.cells #[.int .i64 (fr - 1), .int .i64 fr] 3 (0, 0)) ∧ ∀ q, (Value.slice A7 acc.length c7).ownBlock = some q → wr.heap.size + 1 ≠ q) :=
          ⟨(HS.out.alloc _).alloc _, blk_new _ _ (by simp), fun q hq => by have := (HS.out.2.2.2.2.lt q hq).2; omega⟩
        clear hsn hp hpm hrow hr2 HS
        go_wp2_with fail
        generalize (wr.alloc (Obj.cells #[.int .i64 pl, .int .i64 fr] 61)).alloc (Obj.cells #[.int .i64 (fr - 1), .int .i64 fr] 3) = wz at *
        generalize wr.heap.size + 1 = hb at *
        clear p0 p1 hgl x0 x1 hxz
        go_loopw [40, 9] (fun jj v wr => ∃ j : Nat, j ≤ 2 ∧ jj = .int .i64 j ∧ Hid (UsSt w (w2.heap.size + 1) w2.heap.size key pk lv bk (some ⟨g, 0, none⟩) l.length c lf a b v (acc ++ ([fr - 1, fr].take j).filter (inW a b)) wr ∧ wr.heap[hb]? = some (.cells #[.int .i64 (fr - 1), .int .i64 fr] 3 (0, 0)) ∧ ∀ q, v.ownBlock = some q → hb ≠ q)) (fun jj _ _ => 2 - (intOf jj).toNat)
        case atStart => exact ⟨0, by omega, rfl, by rw [List.take_zero, List.filter_nil, List.append_nil]; exact HS1.out⟩
        case round =>
          clear HS1
          obtain ⟨j, hj, rfl, HT⟩ := hrel
          by_cases hj2 : j < 2
          · have hxx : ∃ x, wr.cell? ⟨hb, j, none⟩ = some (.int .i64 x) ∧ [fr - 1, fr].take (j + 1) = [fr - 1, fr].take j ++ [x] := by
              rcases (by omega : j = 0 ∨ j = 1) with rfl | rfl
              · exact ⟨fr - 1, by rw [cell_of_blk HT.out.2.1]; rfl, rfl⟩
              · exact ⟨fr, by rw [cell_of_blk HT.out.2.1]; rfl, rfl⟩
            obtain ⟨x, hcx, htk⟩ := hxx
            have hbz := lt_of_blk HT.out.2.1
            have hfl : acc ++ ([fr - 1, fr].take (j + 1)).filter (inW a b) = (acc ++ ([fr - 1, fr].take j).filter (inW a b)) ++ [x].filter (inW a b) := by rw [htk, List.filter_append, List.append_assoc]
            have hl2 : (acc ++ ([fr - 1, fr].take j).filter (inW a b)).length ≤ 1000 := by
              have h3 := List.length_filter_le (inW a b) ([fr - 1, fr].take j)
              rw [List.length_take] at h3
              rw [List.length_append]
              simp only [List.length_cons, List.length_nil] at h3
              omega
            have HFL := Lib.hid hfl
            generalize hac : acc ++ ([fr - 1, fr].take j).filter (inW a b) = ac at *
            obtain ⟨A8, c8, rfl, _⟩ := own_form HT.out.1.2.2.2.2
            obtain ⟨x0, x1, _, _⟩ := blk2 HT.out.1.2.2.2.1
            have hxz := lt_of_blk HT.out.1.2.2.2.1
            have i3 : (0 : Int) ≤ (j : Int) := by omega
            have i4 : (j : Int) < 2 := by omega
            have C1 := Lib.hid (fun W => in1_any x a b W)
            clear hfl htk hac
            cases hi : inR x a b
            · have HF : Hid (acc ++ ([fr - 1, fr].take (j + 1)).filter (inW a b) = ac) := HFL.out.trans (by
                have : inW a b x = false := hi
                simp [this])
              rw [hi] at C1
              clear hi
              go_wp2_with fail
              refine (C1.out _).mono ?_
              rintro e w4 ⟨rfl, rfl⟩
              go_wp2_with fail
              go_roundw
              case rel => exact ⟨j + 1, by omega, by go_num, by rw [HF.out]; exact HT.out⟩
              case measure => simp [intOf]; omega
            · have HF : Hid (acc ++ ([fr - 1, fr].take (j + 1)).filter (inW a b) = ac ++ [x]) := HFL.out.trans (by
                have : inW a b x = true := hi
                simp [this])
              rw [hi] at C1
              clear hi
              go_wp2_with fail
              refine (C1.out _).mono ?_
              rintro e w4 ⟨rfl, rfl⟩
              go_wp2_with (at_builtin; refine hold ?_)
              refine loose ?_
              obtain ⟨i0, hi0, hz0, hz1, hz2⟩ := info_parts int_info
              refine wpList_append_own_at _ rfl _ _ 22 rfl (w2.heap.size + 1) 3 i0 _ 1 8 Tryd.underlying22 hi0 hz0 hz1 hz2 rfl (by omega) _ ac.length (ac.map (Value.int .i64)) rfl (HT.out.1.2.2.2.2.alloc _) ⟨wr.heap.size, 0, none⟩ 1 1 [.int .i64 x] rfl rfl (cell_one_new _ _ _) (by intro u hu; simp at hu; subst hu; rfl) (by unfold maxLen; omega) (by omega) (by have := HT.out.1.2.1; simp; omega) ?_
              intro v' w' hown' hg' _ hwh
              have HF2 : Hid (UsSt w (w2.heap.size + 1) w2.heap.size key pk lv bk (some ⟨g, 0, none⟩) l.length c lf a b v' (ac ++ [x]) w' ∧ w'.heap[hb]? = some (.cells #[.int .i64 (fr - 1), .int .i64 fr] 3 (0, 0)) ∧ ∀ q, v'.ownBlock = some q → hb ≠ q) := by
                have hr := fun q hq => (HT.out.1.2.2.2.2.lt q hq).1
                have hsz := hg'.size
                simp at hsz
                have hw0 := HT.out.1.1.size
                refine ⟨⟨(HT.out.1.1.alloc hw0 _).grown hg' (by simp; omega) (fun q e => by have := hr q e; omega), by have := HT.out.1.2.1; omega, usEnv_grown (B := w2.heap.size + 1) (HT.out.1.2.2.1.below ((Below.refl _ _).alloc (Nat.le_refl _) _)) hg' (fun q e => hr q e) (by omega) (by omega) (by omega), (hg'.block _ (by simp; omega) (fun q => by have := hr _ q.symm; omega)).trans (blk_alloc HT.out.1.2.2.2.1 _), ?_⟩, (hg'.block _ (by simp; omega) (fun q => HT.out.2.2 _ q.symm rfl)).trans (blk_alloc HT.out.2.1 _), fun q hq => ?_⟩
                · rw [List.map_append, List.length_append]
                  exact hown'
                · rcases hwh with h | h
                  · exact HT.out.2.2 q (h ▸ hq)
                  · rw [h] at hq
                    simp at hq
                    omega
              clear hown' hg' hwh hi0 hz0 hz1 hz2
              go_wp2_with fail
              go_roundw
              case rel => exact ⟨j + 1, by omega, by go_num, by rw [HF.out]; exact HF2.out⟩
              case measure => simp [intOf]; omega
          · obtain rfl : j = 2 := by omega
            have hT := HT.out.1
            rw [show [fr - 1, fr].take 2 = [fr - 1, fr] from rfl, ← HSN.out] at hT
            have HF := Lib.hid hT
            clear hT
            go_wp2_with fail
            go_roundw
            case rel => exact ⟨k + 1, by omega, by go_num, HF⟩
            case measure => simp [intOf]; omega
      · obtain rfl : k = l.length := by omega
        rw [List.take_length] at HS hmem hlen
        have HAC : Hid (a :: b :: looks a b l = a :: b :: looks a b l) := rfl
        have h0 : 0 < (a :: b :: looks a b l).length := by simp
        generalize a :: b :: looks a b l = acc at *
        obtain ⟨g7, c7, rfl, _, hlt7, _, _, hrd⟩ := own_read HS.out.2.2.2.2 h0
        have HX := Lib.hid (CC.out lf w2.heap.size acc (by omega) (fun t ht => by have := hmem t ht; omega) g7 c7 wr (hA.below HS.out.1) HS.out.2.2.1 ⟨hlt7, hrd⟩)
        have HB7 : Hid (Below w.heap.size w wr) := HS.out.1
        rw [← HRR.out] at HX
        clear hrd hmem HS CC h0
        go_wp2_with fail
        refine HX.out.mono ?_
        rintro e w5 ⟨rfl, b5⟩
        have HB5 := Lib.hid (HB7.out.then_below b5 HB7.out.size)
        clear b5
        go_wp2_with fail
        go_ret
        exact ⟨rfl, HB5.out⟩
end Go.Proofs.YtopnadilfjakiaaDoor
