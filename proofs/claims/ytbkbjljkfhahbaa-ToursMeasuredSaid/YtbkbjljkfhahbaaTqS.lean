/-
  The shortest tour: the program's walk.
-/
import Derived.Test.YtbkbjljkfhahbaaTqP
import Derived.Test.YtbkbjljkfhahbaaRgS
import Derived.Shelf.Abstract
import Derived.IntWalk
namespace Go.Proofs.Ytbkbjljkfhahbaa
open Go.RowKit
set_option linter.unusedSimpArgs false
set_option linter.unusedVariables false

/-- The blocks of points stay. -/
def PS (a w : World) : Prop := a.heap.size ≤ w.heap.size ∧ ∀ (k : Nat) (cs : Array Value), a.heap[k]? = some (.cells cs 27 (0, 0)) → w.heap[k]? = some (.cells cs 27 (0, 0))
theorem PS.refl (a : World) : PS a a := ⟨Nat.le_refl _, fun _ _ h => h⟩
theorem PS.trans {a b c : World} (h : PS a b) (k : PS b c) : PS a c := ⟨Nat.le_trans h.1 k.1, fun j cs hj => k.2 j cs (h.2 j cs hj)⟩
theorem PS.of_below {a w : World} (h : Below a.heap.size a w) : PS a w := ⟨h.size, fun k cs hk => blk_below h hk⟩
theorem PS.set {a w : World} (h : PS a w) {g j : Nat} {cs : Array Value} {T : TypeId} (hk : w.heap[g]? = some (.cells cs T (0, 0))) (hT : T ≠ 27) (u : Value) : PS a (w.setCell ⟨g, j, none⟩ u) := by
  refine ⟨by simpa [World.setCell] using h.1, fun k cs' hk' => ?_⟩
  have h1 := h.2 k cs' hk'
  refine blk_far h1 (fun e => ?_) _
  have e2 : k = g := e
  subst e2
  rw [hk] at h1
  injection h1 with h1
  injection h1 with _ h2 _
  exact hT h2
theorem PS.grown {a w w' : World} {B n : Nat} {T : TypeId} {v : Value} {xs : List Value} (h : PS a w) (hown : w.ownsRow B T 1 v n xs) (hT : T ≠ 27) (hg : w.grownBy w' v.ownBlock) : PS a w' := by
  refine ⟨Nat.le_trans h.1 hg.size, fun k cs hk => ?_⟩
  have h1 := h.2 k cs hk
  refine (hg.block k (lt_of_blk h1) (fun e => ?_)).trans h1
  rcases hown.2 with ⟨rfl, _⟩ | ⟨g, cap, cur, rfl, _, hb, _⟩
  · cases e
  · cases e
    rw [hb] at h1
    injection h1 with h1
    injection h1 with _ h2 _
    exact hT h2

/-- The function that goes on, with what it has captured. -/
def visF (n : Nat) : Value := .func (.func 54) #[] #[.pointer (some ⟨n, 0, none⟩), .pointer (some ⟨n + 4, 0, none⟩), .pointer (some ⟨n + 3, 0, none⟩), .pointer (some ⟨n + 1, 0, none⟩), .pointer (some ⟨n + 2, 0, none⟩), .pointer (some ⟨n + 5, 0, none⟩)]
/-- The state in memory. -/
structure VM (w : World) (s : Int × Int) (pv : Value) (o : List Int) (st : List Int × Int) (W : World) : Prop where
  bel : Below w.heap.size w W
  k0 : W.heap[w.heap.size]? = some (.cells #[.int .i64 s.1, .int .i64 s.2] 27 (0, 0))
  k1 : W.heap[w.heap.size + 1]? = some (.cells #[pv] 29 (0, 0))
  kv : W.heap[w.heap.size + 5]? = some (.cells #[visF w.heap.size] 85 (0, 0))
  kl : W.heap[w.heap.size + 4]? = some (.cells #[.int .i64 st.2] 3 (0, 0))
  rows : ∃ (A : Option Addr) (c : Nat) (bv : Value), W.heap[w.heap.size + 3]? = some (.cells #[.slice A o.length c] 22 (0, 0)) ∧ W.ownsRow (w.heap.size + 6) 3 1 (.slice A o.length c) o.length (o.map (Value.int .i64)) ∧
    W.heap[w.heap.size + 2]? = some (.cells #[bv] 22 (0, 0)) ∧ W.ownsRow (w.heap.size + 6) 3 1 bv st.1.length (st.1.map (Value.int .i64)) ∧ ∀ g, (Value.slice A o.length c).ownBlock = some g → bv.ownBlock ≠ some g
  big : w.heap.size + 6 ≤ W.heap.size
theorem VM.below {w : World} {s : Int × Int} {pv : Value} {o : List Int} {st : List Int × Int} {W W' : World} (h : VM w s pv o st W) (hb : Below W.heap.size W W') : VM w s pv o st W' := by
  obtain ⟨h1, h2, h3, h4, h5, ⟨A, c, bv, r1, r2, r3, r4, r5⟩, h7⟩ := h
  exact ⟨h1.then_below hb h1.size, blk_below hb h2, blk_below hb h3, blk_below hb h4, blk_below hb h5, ⟨A, c, bv, blk_below hb r1, own_below r2 hb, blk_below hb r3, own_below r4 hb, r5⟩, Nat.le_trans h7 hb.size⟩

theorem VM.drew {w : World} {s : Int × Int} {pv : Value} {o : List Int} {st : List Int × Int} {W : World} (h : VM w s pv o st W) : VM w s pv o st W.drew := h.below (Below.refl _ _).drew
theorem below_kept {B sb : Nat} {a b c : World} (h : Below B a b) (k : Kept sb b c) (hB : B ≤ sb) (hb : B ≤ b.heap.size) : Below B a c := by
  obtain ⟨x, y, z⟩ := k.outer
  refine ⟨x.trans h.os, y.trans h.tape, z.trans h.output, Nat.le_trans h.size k.more, fun j hj => ?_⟩
  exact (k.old j (Nat.lt_of_lt_of_le hj hb) (by omega)).trans (h.block j hj)
theorem PS.kept {sb : Nat} {b c : World} (k : Kept sb b c) {cs : Array Value} {T : TypeId} (hk : b.heap[sb]? = some (.cells cs T (0, 0))) (hT : T ≠ 27) : PS b c := by
  refine ⟨k.more, fun j cs' hj => ?_⟩
  refine (k.old j (lt_of_blk hj) (fun e => ?_)).trans hj
  subst e
  rw [hk] at hj
  injection hj with hj
  injection hj with _ h2 _
  exact hT h2
theorem own_same (A : Option Addr) (n c m d : Nat) : (Value.slice A n c).ownBlock = (Value.slice A m d).ownBlock := by cases A <;> rfl
/-- The order grows by one. -/
theorem VM.push {w : World} {s : Int × Int} {pv : Value} {o : List Int} {st : List Int × Int} {W w2 : World} {A : Option Addr} {c : Nat} {bv v' : Value} {x : Int} (h : VM w s pv o st W)
    (r1 : W.heap[w.heap.size + 3]? = some (.cells #[.slice A o.length c] 22 (0, 0))) (r2 : W.ownsRow (w.heap.size + 6) 3 1 (.slice A o.length c) o.length (o.map (Value.int .i64)))
    (r3 : W.heap[w.heap.size + 2]? = some (.cells #[bv] 22 (0, 0))) (r4 : W.ownsRow (w.heap.size + 6) 3 1 bv st.1.length (st.1.map (Value.int .i64))) (r5 : ∀ g, (Value.slice A o.length c).ownBlock = some g → bv.ownBlock ≠ some g)
    (hown : w2.ownsRow (w.heap.size + 6) 3 1 v' (o.length + 1) (o.map (Value.int .i64) ++ [.int .i64 x])) (hg : W.grownBy w2 (Value.slice A o.length c).ownBlock) (hwh : v'.ownBlock = (Value.slice A o.length c).ownBlock ∨ v'.ownBlock = some W.heap.size) :
    VM w s pv (o ++ [x]) st (w2.setCell ⟨w.heap.size + 3, 0, none⟩ v') := by
  have hrow := own_row r2
  have hb := fun (k : Nat) (hk : k < w.heap.size + 6) (o' : Obj) (ho : W.heap[k]? = some o') => (hg.block k (lt_of_blk ho) (fun e => by have := hrow k e.symm; omega)).trans ho
  have hz : W.heap.size ≤ w2.heap.size := hg.size
  obtain ⟨A', c', rfl, _⟩ := own_form hown
  have hbv : w2.ownsRow (w.heap.size + 6) 3 1 bv st.1.length (st.1.map (Value.int .i64)) := by
    refine r4.kept hg ?_
    cases hb1 : bv.ownBlock with
    | none => exact .inl rfl
    | some g => exact .inr (fun e => r5 g e.symm hb1)
  refine ⟨(h.bel.grown hg h.bel.size (fun k hk => by have := hrow k hk; omega)).setCell (by show _ ≤ w.heap.size + 3; omega) _, ?_, ?_, ?_, ?_, ⟨A', c', bv, ?_, ?_, ?_, ?_, ?_⟩, ?_⟩
  · exact blk_far (hb _ (by omega) _ h.k0) (by show _ ≠ w.heap.size + 3; omega) _
  · exact blk_far (hb _ (by omega) _ h.k1) (by show _ ≠ w.heap.size + 3; omega) _
  · exact blk_far (hb _ (by omega) _ h.kv) (by show _ ≠ w.heap.size + 3; omega) _
  · exact blk_far (hb _ (by omega) _ h.kl) (by show _ ≠ w.heap.size + 3; omega) _
  · rw [List.length_append]
    exact blk_set (hb _ (by omega) _ r1) _
  · rw [List.length_append, List.map_append]
    exact own_far hown (by show w.heap.size + 3 < _; omega) _
  · exact blk_far (hb _ (by omega) _ r3) (by show _ ≠ w.heap.size + 3; omega) _
  · exact own_far hbv (by show w.heap.size + 3 < _; omega) _
  · intro g hgo hbo
    have hgb := own_lt r4 g hbo
    have h2 : (Value.slice A' (o.length + 1) c').ownBlock = some g := (own_same _ _ _ _ _).trans hgo
    rcases hwh with e | e
    · rw [h2] at e; exact r5 g e.symm hbo
    · rw [h2] at e; injection e with e; omega
  · have := h.big
    simp [World.setCell]
    omega
/-- The order loses its last one. -/
theorem VM.pop {w : World} {s : Int × Int} {pv : Value} {o : List Int} {x : Int} {st : List Int × Int} {W : World} {A : Option Addr} {c : Nat} {bv : Value} (h : VM w s pv (o ++ [x]) st W)
    (r1 : W.heap[w.heap.size + 3]? = some (.cells #[.slice A (o ++ [x]).length c] 22 (0, 0))) (r2 : W.ownsRow (w.heap.size + 6) 3 1 (.slice A (o ++ [x]).length c) (o ++ [x]).length ((o ++ [x]).map (Value.int .i64)))
    (r3 : W.heap[w.heap.size + 2]? = some (.cells #[bv] 22 (0, 0))) (r4 : W.ownsRow (w.heap.size + 6) 3 1 bv st.1.length (st.1.map (Value.int .i64))) (r5 : ∀ g, (Value.slice A (o ++ [x]).length c).ownBlock = some g → bv.ownBlock ≠ some g) :
    VM w s pv o st (W.setCell ⟨w.heap.size + 3, 0, none⟩ (.slice A o.length c)) := by
  have r2' : W.ownsRow (w.heap.size + 6) 3 1 (.slice A o.length c) o.length (o.map (Value.int .i64)) := by
    rcases r2.2 with ⟨h1, _⟩ | ⟨g, cap, cur, h1, _⟩
    · injection h1 with _ h1 _
      rw [List.length_append] at h1
      simp at h1
    · injection h1 with h1 h2 h3
      subst h1
      refine own_trunc (x := .int .i64 x) ?_ (by rw [List.length_map])
      have := r2
      rw [List.length_append, List.map_append] at this
      exact this
  refine ⟨h.bel.setCell (by show _ ≤ w.heap.size + 3; omega) _, ?_, ?_, ?_, ?_, ⟨A, c, bv, ?_, ?_, ?_, ?_, ?_⟩, ?_⟩
  · exact blk_far h.k0 (by show _ ≠ w.heap.size + 3; omega) _
  · exact blk_far h.k1 (by show _ ≠ w.heap.size + 3; omega) _
  · exact blk_far h.kv (by show _ ≠ w.heap.size + 3; omega) _
  · exact blk_far h.kl (by show _ ≠ w.heap.size + 3; omega) _
  · exact blk_set r1 _
  · exact own_far r2' (by show w.heap.size + 3 < _; omega) _
  · exact blk_far r3 (by show _ ≠ w.heap.size + 3; omega) _
  · exact own_far r4 (by show w.heap.size + 3 < _; omega) _
  · intro g hgo
    exact r5 g ((own_same _ _ _ _ _).trans hgo)
  · have := h.big
    simpa [World.setCell] using this

set_option maxRecDepth 100000 in
set_option maxHeartbeats 32000000 in
theorem visit_any (s : Int × Int) (l : List (Int × Int)) (hs : okPt s = true) (hl : ∀ p ∈ l, okPt p = true) (hln : l.length ≤ 1000) (Ap : Option Addr) (cp : Nat) (w : World) (h1 : Reads encP (.slice Ap l.length cp) l w) :
    ∀ (f : Nat) (o : List Int) (gone : Int) (st : List Int × Int) (w0 : World), o.length + f = l.length → 0 ≤ gone → gone ≤ (o.length : Int) * 1000000 → 0 ≤ st.2 → VM w s (.slice Ap l.length cp) o st w0 →
    Calls Try.prog 54 #[.agg #[.int .i64 (atOf s l o).1, .int .i64 (atOf s l o).2], .int .i64 gone, .pointer (some ⟨w.heap.size, 0, none⟩), .pointer (some ⟨w.heap.size + 4, 0, none⟩), .pointer (some ⟨w.heap.size + 3, 0, none⟩), .pointer (some ⟨w.heap.size + 1, 0, none⟩), .pointer (some ⟨w.heap.size + 2, 0, none⟩), .pointer (some ⟨w.heap.size + 5, 0, none⟩)] w0
      fun e w' => e = .returned (.tuple #[]) ∧ VM w s (.slice Ap l.length cp) o (vis s l f o gone st) w' ∧ PS w0 w' := by
  have HEN := enters_of Try.func54 (by kernel_rfl) rfl
  intro f
  induction f with
  | zero =>
    intro o gone st w0 hof hg0 hg1 hst0 hV
    have HR := Lib.hid h1
    have HL := Lib.hid hl
    have HSP := Lib.hid hs
    have CD := Lib.hid (fun a b ha hb W => distance_any a b ha hb W)
    have hAO := atOf_ok (s := s) (l := l) hs hl o
    obtain ⟨hap0, hap1⟩ := apart_bd hAO hs
    have CD0 := Lib.hid (fun W => CD.out (atOf s l o) s hAO hs W)
    have HCUT := Lib.hid (@vis_cut s l 0 o gone st)
    have HMORE := Lib.hid (@vis_end s l o gone st)
    clear h1 hl hst0
    obtain ⟨a, ha⟩ : ∃ a, atOf s l o = a := ⟨_, rfl⟩
    rw [ha] at CD0 HCUT HMORE hap0 hap1 hAO ⊢
    have HAT := Lib.hid ha
    clear ha
    obtain ⟨a1, a2⟩ := a
    dsimp only
    have H0 : Hid (VM w s (.slice Ap l.length cp) o st (w0.alloc (.cells #[.int .i64 a1, .int .i64 a2] 27)) ∧ (w0.alloc (.cells #[.int .i64 a1, .int .i64 a2] 27)).heap[w0.heap.size]? = some (.cells #[.int .i64 a1, .int .i64 a2] 27 (0, 0)) ∧ PS w0 (w0.alloc (.cells #[.int .i64 a1, .int .i64 a2] 27))) :=
      ⟨hV.below ((Below.refl _ _).alloc (Nat.le_refl _) _), blk_new w0 _ rfl, PS.of_below ((Below.refl _ _).alloc (Nat.le_refl _) _)⟩
    obtain ⟨s1, s2⟩ := s
    dsimp only at CD0
    generalize apart (a1, a2) (s1, s2) = ap at *
    go_enter Try.func54, Try.ntmps54
    go_upto_region 1 with (fail)
    have hbig := hV.big
    clear hV
    generalize w0.alloc (.cells #[.int .i64 a1, .int .i64 a2] 27) = wx at *
    have hxl := lt_of_blk H0.out.2.1
    obtain ⟨ls, hls⟩ : ∃ x, st.2 = x := ⟨_, rfl⟩
    have HKL : Hid (wx.heap[w.heap.size + 4]? = some (.cells #[.int .i64 ls] 3 (0, 0))) := by have := H0.out.1.kl; rw [hls] at this; exact this
    rw [hls] at HCUT HMORE
    have HLS := Lib.hid hls
    clear hls
    refine Rg.rgL (fun a b => Below a.heap.size a b)
      [(fun vs u => vs 0 = .int .i64 gone), (fun vs u => vs 1 = .agg #[.int .i64 a1, .int .i64 a2]), (fun vs u => vs 2 = .agg #[.int .i64 s1, .int .i64 s2]), (fun vs u => vs 3 = .int .i64 ap), (fun vs u => vs 4 = .int .i64 (gone + ap)), (fun vs u => vs 5 = .int .i64 ls)]
      [[], [], [], [1, 2], [0, 1, 2, 3], []] [some 12, some 13, some 14, some 15, some 16, some 17, some 18] [] (fun _ _ => True) [[], [], [], [1, 2], [0, 1, 2, 3], [], [0, 1, 2, 3, 4, 5]]
      (by kernel_rfl) (by decide) (by kernel_rfl) (by kernel_rfl) (by kernel_rfl) (by kernel_rfl) (by kernel_rfl) (fun _ => Below.refl _ _) (fun _ _ _ h k => h.ext k) (fun _ _ h => h.size) ?_ trivial ?_ ?_
    · intro t ht vs w w' h hE
      simp only [List.mem_cons, List.not_mem_nil, or_false] at ht
      rcases ht with rfl | rfl | rfl | rfl | rfl | rfl
      · exact h
      · exact h
      · exact h
      · exact h
      · exact h
      · exact h
    ·
      refine Rg.cons 0 1 rfl (Rg.plain rfl ?_) ?_
      · intro vs W n hn hI hG hT hF K hK
        simp only [Rg.putsD, List.getD_cons_zero, List.getD_cons_succ, Act.put, List.setIfInBounds_toArray, List.set_cons_zero, List.set_cons_succ] at hK ⊢
        clear hn
        clear hF hI
        have H := Lib.hid hK
        clear hK hT
        go_simp
        exact H.out _ _ (Below.refl _ _) rfl (fun h => by cases h) trivial
      refine Rg.cons 1 2 rfl (Rg.plain rfl ?_) ?_
      · intro vs W n hn hI hG hT hF K hK
        simp only [Rg.putsD, List.getD_cons_zero, List.getD_cons_succ, Act.put, List.setIfInBounds_toArray, List.set_cons_zero, List.set_cons_succ] at hK ⊢
        clear hn
        clear hF hI
        obtain ⟨c0, c1, _, _⟩ := blk2 (blk_below hG H0.out.2.1)
        have hgl := lt_of_blk (blk_below hG H0.out.2.1)
        have H := Lib.hid hK
        clear hK hT
        go_simp
        exact H.out _ _ (Below.refl _ _) rfl (fun h => by cases h) trivial
      refine Rg.cons 2 3 rfl (Rg.plain rfl ?_) ?_
      · intro vs W n hn hI hG hT hF K hK
        simp only [Rg.putsD, List.getD_cons_zero, List.getD_cons_succ, Act.put, List.setIfInBounds_toArray, List.set_cons_zero, List.set_cons_succ] at hK ⊢
        clear hn
        clear hF hI
        obtain ⟨c0, c1, _, _⟩ := blk2 (blk_below hG H0.out.1.k0)
        have H := Lib.hid hK
        clear hK hT
        go_simp
        exact H.out _ _ (Below.refl _ _) rfl (fun h => by cases h) trivial
      refine Rg.cons 3 4 rfl (Rg.plain rfl ?_) ?_
      · intro vs W n hn hI hG hT hF K hK
        simp only [Rg.putsD, List.getD_cons_zero, List.getD_cons_succ, Act.put, List.setIfInBounds_toArray, List.set_cons_zero, List.set_cons_succ] at hK ⊢
        clear hn
        clear hF hI
        have t1 : vs 1 = .agg #[.int .i64 a1, .int .i64 a2] := hT 1 (by decide)
        have t2 : vs 2 = .agg #[.int .i64 s1, .int .i64 s2] := hT 2 (by decide)
        have HG := Lib.hid hG
        clear hG
        simp only [t1, t2] at hK
        have H := Lib.hid hK
        clear hK hT
        go_simp
        refine (CD0.out _).mono ?_
        rintro e w6 ⟨rfl, b6⟩
        exact H.out _ _ b6 rfl (fun h => by cases h) trivial
      refine Rg.cons 4 5 rfl (Rg.plain rfl ?_) ?_
      · intro vs W n hn hI hG hT hF K hK
        simp only [Rg.putsD, List.getD_cons_zero, List.getD_cons_succ, Act.put, List.setIfInBounds_toArray, List.set_cons_zero, List.set_cons_succ] at hK ⊢
        clear hn
        clear hF hI
        have t0 : vs 0 = .int .i64 gone := hT 0 (by decide)
        have t1 : vs 1 = .agg #[.int .i64 a1, .int .i64 a2] := hT 1 (by decide)
        have t2 : vs 2 = .agg #[.int .i64 s1, .int .i64 s2] := hT 2 (by decide)
        have t3 : vs 3 = .int .i64 ap := hT 3 (by decide)
        simp only [t0, t1, t2, t3] at hK
        have H := Lib.hid hK
        clear hK hT
        go_simp
        have hw : IntKind.i64.wrap (gone + ap) = gone + ap := IntWalk.i64_in _ (by omega)
        rw [hw]
        exact H.out _ _ (Below.refl _ _) rfl (fun h => by cases h) trivial
      refine Rg.cons 5 6 rfl (Rg.plain rfl ?_) ?_
      · intro vs W n hn hI hG hT hF K hK
        simp only [Rg.putsD, List.getD_cons_zero, List.getD_cons_succ, Act.put, List.setIfInBounds_toArray, List.set_cons_zero, List.set_cons_succ] at hK ⊢
        clear hn
        clear hF hI
        have c0 := cell_of_blk (blk_below hG HKL.out) 0
        simp at c0
        have H := Lib.hid hK
        clear hK hT
        go_simp
        exact H.out _ _ (Below.refl _ _) rfl (fun h => by cases h) trivial
      exact Rg.nil
    · intro vs W hG hI hT hF
      have t0 : vs 0 = .int .i64 gone := hT 0 (by decide)
      have t1 : vs 1 = .agg #[.int .i64 a1, .int .i64 a2] := hT 1 (by decide)
      have t2 : vs 2 = .agg #[.int .i64 s1, .int .i64 s2] := hT 2 (by decide)
      have t3 : vs 3 = .int .i64 ap := hT 3 (by decide)
      have t4 : vs 4 = .int .i64 (gone + ap) := hT 4 (by decide)
      have t5 : vs 5 = .int .i64 ls := hT 5 (by decide)
      simp only [List.length_cons, List.length_nil, Nat.reduceAdd, List.range, List.range.loop, List.drop_succ_cons, List.drop_zero, Rg.putsD, List.getD_cons_zero, List.getD_cons_succ, Act.put, List.setIfInBounds_toArray, List.set_cons_zero, List.set_cons_succ, t0, t1, t2, t3, t4, t5]
      clear hT t0 t1 t2 t3 t4 t5
      have H1 : Hid (VM w (s1, s2) (.slice Ap l.length cp) o st W ∧ W.heap[w0.heap.size]? = some (.cells #[.int .i64 a1, .int .i64 a2] 27 (0, 0)) ∧ PS w0 W) := ⟨H0.out.1.drew.below hG, blk_below hG H0.out.2.1, H0.out.2.2.trans (PS.of_below (a := wx.drew) hG)⟩
      clear hF hI hG H0 HKL
      by_cases hcut : ls ≤ gone + ap
      · have HF := Lib.hid (HCUT.out hcut)
        go_wp2_with fail
        refine bodyPost_ret (v := .tuple #[]) (by unfold results; simp only [Try.results54]; go_simp) rfl ⟨rfl, by rw [HF.out]; exact H1.out.1, H1.out.2.2⟩
      have HF := Lib.hid (HMORE.out hcut)
      have hne : ((o.length : Int) == (l.length : Int)) = true := beq_iff_eq.mpr (by omega)
      obtain ⟨A, c, bv, r1, r2, r3, r4, r5⟩ := H1.out.1.rows
      have c3 := cell_of_blk r1 0
      have c1 := cell_of_blk H1.out.1.k1 0
      simp at c3 c1
      have HX := Lib.hid (And.intro r1 (And.intro r2 r3))
      have hWb := H1.out.1.big
      have CCL : Hid (∀ (U : World), Reads encN (.slice A o.length c) o U → Calls Try.prog 36 #[.slice A o.length c] U fun e w' => ∃ v', e = .returned v' ∧ w'.ownsRow U.heap.size 3 1 v' o.length (o.map (Value.int .i64)) ∧ Below U.heap.size U w') := fun U hU => by
        obtain ⟨A', c', e, h⟩ := hU
        cases e
        rcases h with rfl | ⟨g, rfl, h⟩
        · cases A with
          | none =>
            refine (Try.slices_Clone_int_nil 0 c U).mono ?_
            rintro e w' ⟨rfl, rfl⟩
            exact ⟨_, rfl, World.ownsRow_nil _ _ _ _, Below.refl _ _⟩
          | some a =>
            refine (Try.slices_Clone_int_zero a c U).mono ?_
            rintro e w' ⟨v', rfl, h1, _, h2⟩
            exact ⟨_, rfl, h1, h2⟩
        · refine (Try.slices_Clone_int g 0 o.length c o U (Nat.le_refl _) (by omega) (fun j hj => ?_)).mono ?_
          · rw [Nat.zero_add, row_n h hj, List.getD_eq_getElem?_getD, List.getElem?_eq_getElem hj]
            rfl
          · rintro e w' ⟨v', rfl, h1, _, h2⟩
            rw [List.take_of_length_le (Nat.le_refl _)] at h1
            exact ⟨_, rfl, h1, h2⟩
      clear r1 r2 r3 r4 r5
      go_upto_region 3 with (fail)
      clear HCUT hcut HMORE HLS
      obtain ⟨w1, rfl⟩ : ∃ w1 : World, w1 = W := ⟨_, rfl⟩
      have hxw := lt_of_blk H1.out.2.1
      refine Rg.rgS 7 [2, 6] (Kept (w.heap.size + 2)) (fun a b => Below a.heap.size a b) (Kept (w.heap.size + 2))
        [(fun vs u => vs 0 = .slice A o.length c), (fun vs u => ∃ v9 : Value, vs 1 = v9 ∧ u.ownsRow w1.heap.size 3 1 v9 o.length (o.map (Value.int .i64))), (fun vs u => vs 2 = .int .i64 gone), (fun vs u => vs 3 = .agg #[.int .i64 a1, .int .i64 a2]), (fun vs u => vs 4 = .agg #[.int .i64 s1, .int .i64 s2]), (fun vs u => vs 5 = .int .i64 ap), (fun vs u => vs 6 = .int .i64 (gone + ap)), (fun vs u => u.heap[w.heap.size + 2]? = some (.cells #[vs 1] 22 (0, 0)))]
        [[], [0], [], [], [], [0, 1, 3, 4], [0, 1, 2, 3, 4, 5], [0, 1, 3, 4, 5]] [some 24, some 25, some 26, some 27, some 28, some 29, some 30, none, none] [] (fun _ U => ∃ v, U.heap[w.heap.size + 2]? = some (.cells #[v] 22 (0, 0))) [[], [0], [], [], [], [0, 1, 3, 4], [0, 1, 2, 3, 4, 5], [0, 1, 3, 4, 5], [0, 1, 2, 3, 4, 5, 6, 7]]
        (by kernel_rfl) (by decide) (by kernel_rfl) (by kernel_rfl) (by kernel_rfl) (by kernel_rfl) (by kernel_rfl) (fun _ => Kept.same _ _) (fun _ _ _ h k => Kept.then_ h k) (fun _ _ h => h.more) (fun _ _ h => Kept.of_below h) (fun _ _ h => h) (by decide) ?_ ?_ ⟨_, HX.out.2.2⟩ ?_ ?_
      · intro j hj vs w w' h hE
        match j, hj, h with
        | 0, _, h => exact h
        | 1, _, h =>
          have h : ∃ v9 : Value, vs 1 = v9 ∧ w.ownsRow w1.heap.size 3 1 v9 o.length (o.map (Value.int .i64)) := h
          show ∃ v9 : Value, vs 1 = v9 ∧ w'.ownsRow w1.heap.size 3 1 v9 o.length (o.map (Value.int .i64))
          obtain ⟨v, e, k⟩ := h
          exact ⟨v, e, own_below k hE⟩
        | 2, _, h => exact h
        | 3, _, h => exact h
        | 4, _, h => exact h
        | 5, _, h => exact h
        | 6, _, h => exact h
        | 7, hj, _ => exact absurd rfl hj
        | (j + 8), _, h => exact h
      · intro j hj hc vs w w' h hE
        match j, hj, hc, h with
        | 0, _, _, h => exact h
        | 1, _, _, h =>
          have h : ∃ v9 : Value, vs 1 = v9 ∧ w.ownsRow w1.heap.size 3 1 v9 o.length (o.map (Value.int .i64)) := h
          show ∃ v9 : Value, vs 1 = v9 ∧ w'.ownsRow w1.heap.size 3 1 v9 o.length (o.map (Value.int .i64))
          obtain ⟨v, e, k⟩ := h
          exact ⟨v, e, kept_own k hE (by omega)⟩
        | 2, _, _, h => exact h
        | 3, _, _, h => exact h
        | 4, _, _, h => exact h
        | 5, _, _, h => exact h
        | 6, _, _, h => exact h
        | 7, hj, _, _ => exact absurd rfl hj
        | (j + 8), _, _, h => exact h
      ·
        refine Rg.cons 0 1 rfl (Rg.plain rfl ?_) ?_
        · intro vs W n hn hI hG hT hF K hK
          simp only [Rg.putsD, List.getD_cons_zero, List.getD_cons_succ, Act.put, List.setIfInBounds_toArray, List.set_cons_zero, List.set_cons_succ] at hK ⊢
          clear hn
          clear hF
          have c0 := cell_of_blk (Kept.blk hG HX.out.1 (by omega)) 0
          simp at c0
          have H := Lib.hid hK
          clear hK hT
          go_simp
          exact H.out _ _ (Below.refl _ _) rfl (fun h => by cases h) hI
        refine Rg.cons 1 2 rfl (Rg.plain rfl ?_) ?_
        · intro vs W n hn hI hG hT hF K hK
          simp only [Rg.putsD, List.getD_cons_zero, List.getD_cons_succ, Act.put, List.setIfInBounds_toArray, List.set_cons_zero, List.set_cons_succ] at hK ⊢
          clear hn
          clear hF
          have t0 : vs 0 = .slice A o.length c := hT 0 (by decide)
          have HG := Lib.hid hG
          clear hG
          simp only [t0] at hK
          have H := Lib.hid hK
          clear hK hT
          go_simp
          refine (CCL.out _ (readsN_own' (kept_own (w := w1.drew) HX.out.2.1.drew HG.out (by omega)) rfl)).mono ?_
          rintro e w6 ⟨v9, rfl, o9, b6⟩
          exact H.out _ _ b6 ⟨_, rfl, own_mono o9 HG.out.more⟩ (fun h => by cases h) (by obtain ⟨v, h⟩ := hI; exact ⟨v, blk_below b6 h⟩)
        refine Rg.cons 2 3 rfl (Rg.plain rfl ?_) ?_
        · intro vs W n hn hI hG hT hF K hK
          simp only [Rg.putsD, List.getD_cons_zero, List.getD_cons_succ, Act.put, List.setIfInBounds_toArray, List.set_cons_zero, List.set_cons_succ] at hK ⊢
          clear hn
          clear hF
          have H := Lib.hid hK
          clear hK hT
          go_simp
          exact H.out _ _ (rfl) rfl (fun h => by cases h) hI
        refine Rg.cons 3 4 rfl (Rg.plain rfl ?_) ?_
        · intro vs W n hn hI hG hT hF K hK
          simp only [Rg.putsD, List.getD_cons_zero, List.getD_cons_succ, Act.put, List.setIfInBounds_toArray, List.set_cons_zero, List.set_cons_succ] at hK ⊢
          clear hn
          clear hF
          obtain ⟨c0, c1, _, _⟩ := blk2 (Kept.blk hG H1.out.2.1 (by omega))
          have hgl := lt_of_blk (Kept.blk hG H1.out.2.1 (by omega))
          have H := Lib.hid hK
          clear hK hT
          go_simp
          exact H.out _ _ (Below.refl _ _) rfl (fun h => by cases h) hI
        refine Rg.cons 4 5 rfl (Rg.plain rfl ?_) ?_
        · intro vs W n hn hI hG hT hF K hK
          simp only [Rg.putsD, List.getD_cons_zero, List.getD_cons_succ, Act.put, List.setIfInBounds_toArray, List.set_cons_zero, List.set_cons_succ] at hK ⊢
          clear hn
          clear hF
          obtain ⟨c0, c1, _, _⟩ := blk2 (Kept.blk hG H1.out.1.k0 (by omega))
          have H := Lib.hid hK
          clear hK hT
          go_simp
          exact H.out _ _ (Below.refl _ _) rfl (fun h => by cases h) hI
        refine Rg.cons 5 6 rfl (Rg.plain rfl ?_) ?_
        · intro vs W n hn hI hG hT hF K hK
          simp only [Rg.putsD, List.getD_cons_zero, List.getD_cons_succ, Act.put, List.setIfInBounds_toArray, List.set_cons_zero, List.set_cons_succ] at hK ⊢
          clear hn
          clear hF
          have t0 : vs 0 = .slice A o.length c := hT 0 (by decide)
          have t1 : ∃ v9 : Value, vs 1 = v9 ∧ W.ownsRow w1.heap.size 3 1 v9 o.length (o.map (Value.int .i64)) := hT 1 (by decide)
          have t3 : vs 3 = .agg #[.int .i64 a1, .int .i64 a2] := hT 3 (by decide)
          have t4 : vs 4 = .agg #[.int .i64 s1, .int .i64 s2] := hT 4 (by decide)
          have HG := Lib.hid hG
          clear hG
          simp only [t0, t3, t4] at hK
          have H := Lib.hid hK
          clear hK hT
          go_simp
          refine (CD0.out _).mono ?_
          rintro e w6 ⟨rfl, b6⟩
          exact H.out _ _ b6 rfl (fun h => by cases h) (by obtain ⟨v, h⟩ := hI; exact ⟨v, blk_below b6 h⟩)
        refine Rg.cons 6 7 rfl (Rg.plain rfl ?_) ?_
        · intro vs W n hn hI hG hT hF K hK
          simp only [Rg.putsD, List.getD_cons_zero, List.getD_cons_succ, Act.put, List.setIfInBounds_toArray, List.set_cons_zero, List.set_cons_succ] at hK ⊢
          clear hn
          clear hF
          have t0 : vs 0 = .slice A o.length c := hT 0 (by decide)
          have t1 : ∃ v9 : Value, vs 1 = v9 ∧ W.ownsRow w1.heap.size 3 1 v9 o.length (o.map (Value.int .i64)) := hT 1 (by decide)
          have t2 : vs 2 = .int .i64 gone := hT 2 (by decide)
          have t3 : vs 3 = .agg #[.int .i64 a1, .int .i64 a2] := hT 3 (by decide)
          have t4 : vs 4 = .agg #[.int .i64 s1, .int .i64 s2] := hT 4 (by decide)
          have t5 : vs 5 = .int .i64 ap := hT 5 (by decide)
          simp only [t0, t2, t3, t4, t5] at hK
          have H := Lib.hid hK
          clear hK hT
          go_simp
          have hw : IntKind.i64.wrap (gone + ap) = gone + ap := IntWalk.i64_in _ (by omega)
          rw [hw]
          exact H.out _ _ rfl rfl (fun h => by cases h) hI
        refine Rg.cons 7 8 rfl (Rg.plain rfl ?_) ?_
        · intro vs W n hn hI hG hT hF K hK
          simp only [Rg.putsD, List.getD_cons_zero, List.getD_cons_succ, Act.put, List.setIfInBounds_toArray, List.set_cons_zero, List.set_cons_succ] at hK ⊢
          clear hn
          clear hF
          have t0 : vs 0 = .slice A o.length c := hT 0 (by decide)
          have t1 : ∃ v9 : Value, vs 1 = v9 ∧ W.ownsRow w1.heap.size 3 1 v9 o.length (o.map (Value.int .i64)) := hT 1 (by decide)
          have t3 : vs 3 = .agg #[.int .i64 a1, .int .i64 a2] := hT 3 (by decide)
          have t4 : vs 4 = .agg #[.int .i64 s1, .int .i64 s2] := hT 4 (by decide)
          have t5 : vs 5 = .int .i64 ap := hT 5 (by decide)
          obtain ⟨v9, e9, o9⟩ := t1
          obtain ⟨A9, c9, rfl, _⟩ := own_form o9
          simp only [e9] at hK
          obtain ⟨vb, kb⟩ := hI
          have cb := cell_of_blk kb 0
          have fb := frozen_of_blk kb 0
          have lb := lt_of_blk kb
          simp at cb
          simp only [t0, t3, t4, t5] at hK
          have H := Lib.hid hK
          clear hK hT
          go_simp
          exact H.out (.bool true) _ ((Kept.same _ W).store (p := ⟨w.heap.size + 2, 0, none⟩) (.inl rfl) _) (by show _ = some (Obj.cells #[vs 1] _ _); rw [e9]; exact blk_set kb _) (fun h => by cases h) ⟨_, blk_set kb _⟩
        exact Rg.nil
      · intro vs W hG hI hT hF
        have t0 : vs 0 = .slice A o.length c := hT 0 (by decide)
        have t1 : ∃ v9 : Value, vs 1 = v9 ∧ W.ownsRow w1.heap.size 3 1 v9 o.length (o.map (Value.int .i64)) := hT 1 (by decide)
        have t2 : vs 2 = .int .i64 gone := hT 2 (by decide)
        have t3 : vs 3 = .agg #[.int .i64 a1, .int .i64 a2] := hT 3 (by decide)
        have t4 : vs 4 = .agg #[.int .i64 s1, .int .i64 s2] := hT 4 (by decide)
        have t5 : vs 5 = .int .i64 ap := hT 5 (by decide)
        have t6 : vs 6 = .int .i64 (gone + ap) := hT 6 (by decide)
        have t7 : W.heap[w.heap.size + 2]? = some (.cells #[vs 1] 22 (0, 0)) := hT 7 (by decide)
        simp only [List.length_cons, List.length_nil, Nat.reduceAdd, List.range, List.range.loop, List.drop_succ_cons, List.drop_zero, Rg.putsD, List.getD_cons_zero, List.getD_cons_succ, Act.put, List.setIfInBounds_toArray, List.set_cons_zero, List.set_cons_succ, t0, t2, t3, t4, t5, t6]
        clear hT t0 t2 t3 t4 t5 t6
        obtain ⟨v9, e9, o9⟩ := t1
        obtain ⟨A9, c9, rfl, h9⟩ := own_form o9
        rw [e9] at t7
        have kk4 := Kept.blk hG H1.out.1.kl (by omega)
        have f4 := frozen_of_blk kk4 0
        have l4 := lt_of_blk kk4
        have c4 := cell_of_blk kk4 0
        simp at c4
        have HE : Hid (VM w (s1, s2) (.slice Ap l.length cp) o (o, gone + ap) (W.setCell ⟨w.heap.size + 4, 0, none⟩ (.int .i64 (gone + ap))) ∧ PS w0 (W.setCell ⟨w.heap.size + 4, 0, none⟩ (.int .i64 (gone + ap)))) := by
          have hps : PS w1 W := PS.kept (b := w1.drew) hG HX.out.2.2 (by decide)
          have hor := own_lt HX.out.2.1
          refine ⟨⟨(below_kept H1.out.1.bel.drew hG (by omega) (by show _ ≤ w1.heap.size; omega)).setCell (by show _ ≤ w.heap.size + 4; omega) _, ?_, ?_, ?_, ?_, ⟨A, c, .slice A9 o.length c9, ?_, ?_, ?_, ?_, ?_⟩, ?_⟩, PS.set (H1.out.2.2.trans hps) kk4 (by decide) _⟩
          · exact blk_far (Kept.blk hG H1.out.1.k0 (by omega)) (by show _ ≠ w.heap.size + 4; omega) _
          · exact blk_far (Kept.blk hG H1.out.1.k1 (by omega)) (by show _ ≠ w.heap.size + 4; omega) _
          · exact blk_far (Kept.blk hG H1.out.1.kv (by omega)) (by show _ ≠ w.heap.size + 4; omega) _
          · exact blk_set kk4 _
          · exact blk_far (Kept.blk hG HX.out.1 (by omega)) (by show _ ≠ w.heap.size + 4; omega) _
          · exact own_far (kept_own (w := w1.drew) HX.out.2.1.drew hG (by omega)) (by show w.heap.size + 4 < _; omega) _
          · exact blk_far t7 (by show _ ≠ w.heap.size + 4; omega) _
          · exact own_far (own_mono o9 (by omega)) (by show w.heap.size + 4 < _; omega) _
          · intro g hg hb9
            have h1 := hor g hg
            have h2 := own_row o9 g hb9
            omega
          · have := hG.more
            have h3 : w1.drew.heap.size = w1.heap.size := rfl
            simp [World.setCell]
            omega
        simp only [e9]
        clear hF hI hG t7 o9 h9 H1 HX CCL CD0
        go_wp2_with fail
        generalize W.setCell ⟨w.heap.size + 4, 0, none⟩ (.int .i64 (gone + ap)) = w7 at *
        refine bodyPost_ret (v := .tuple #[]) (by unfold results; simp only [Try.results54]; go_simp) rfl ⟨rfl, by rw [HF.out]; exact HE.out.1, HE.out.2⟩
  | succ f ih =>
    intro o gone st w0 hof hg0 hg1 hst0 hV
    have HR := Lib.hid h1
    have HL := Lib.hid hl
    have HSP := Lib.hid hs
    have IH := Lib.hid ih
    have CD := Lib.hid (fun a b ha hb W => distance_any a b ha hb W)
    have hAO := atOf_ok (s := s) (l := l) hs hl o
    obtain ⟨hap0, hap1⟩ := apart_bd hAO hs
    have CD0 := Lib.hid (fun W => CD.out (atOf s l o) s hAO hs W)
    have HCUT := Lib.hid (@vis_cut s l (f + 1) o gone st)
    have HMORE := Lib.hid (@vis_more s l f o gone st)
    have HTN := Lib.hid (fun k => visT_nn hs hl f o gone st hg0 hst0 k)
    have HTS := Lib.hid (fun k => visT_succ s l f o gone st k)
    clear ih h1 hl hst0
    obtain ⟨a, ha⟩ : ∃ a, atOf s l o = a := ⟨_, rfl⟩
    rw [ha] at CD0 HCUT HMORE hap0 hap1 hAO ⊢
    have HAT := Lib.hid ha
    clear ha
    obtain ⟨a1, a2⟩ := a
    dsimp only
    have H0 : Hid (VM w s (.slice Ap l.length cp) o st (w0.alloc (.cells #[.int .i64 a1, .int .i64 a2] 27)) ∧ (w0.alloc (.cells #[.int .i64 a1, .int .i64 a2] 27)).heap[w0.heap.size]? = some (.cells #[.int .i64 a1, .int .i64 a2] 27 (0, 0)) ∧ PS w0 (w0.alloc (.cells #[.int .i64 a1, .int .i64 a2] 27))) :=
      ⟨hV.below ((Below.refl _ _).alloc (Nat.le_refl _) _), blk_new w0 _ rfl, PS.of_below ((Below.refl _ _).alloc (Nat.le_refl _) _)⟩
    obtain ⟨s1, s2⟩ := s
    dsimp only at CD0
    generalize apart (a1, a2) (s1, s2) = ap at *
    go_enter Try.func54, Try.ntmps54
    go_upto_region 1 with (fail)
    have hbig := hV.big
    clear hV
    generalize w0.alloc (.cells #[.int .i64 a1, .int .i64 a2] 27) = wx at *
    have hxl := lt_of_blk H0.out.2.1
    obtain ⟨ls, hls⟩ : ∃ x, st.2 = x := ⟨_, rfl⟩
    have HKL : Hid (wx.heap[w.heap.size + 4]? = some (.cells #[.int .i64 ls] 3 (0, 0))) := by have := H0.out.1.kl; rw [hls] at this; exact this
    rw [hls] at HCUT HMORE
    have HLS := Lib.hid hls
    clear hls
    refine Rg.rgL (fun a b => Below a.heap.size a b)
      [(fun vs u => vs 0 = .int .i64 gone), (fun vs u => vs 1 = .agg #[.int .i64 a1, .int .i64 a2]), (fun vs u => vs 2 = .agg #[.int .i64 s1, .int .i64 s2]), (fun vs u => vs 3 = .int .i64 ap), (fun vs u => vs 4 = .int .i64 (gone + ap)), (fun vs u => vs 5 = .int .i64 ls)]
      [[], [], [], [1, 2], [0, 1, 2, 3], []] [some 12, some 13, some 14, some 15, some 16, some 17, some 18] [] (fun _ _ => True) [[], [], [], [1, 2], [0, 1, 2, 3], [], [0, 1, 2, 3, 4, 5]]
      (by kernel_rfl) (by decide) (by kernel_rfl) (by kernel_rfl) (by kernel_rfl) (by kernel_rfl) (by kernel_rfl) (fun _ => Below.refl _ _) (fun _ _ _ h k => h.ext k) (fun _ _ h => h.size) ?_ trivial ?_ ?_
    · intro t ht vs w w' h hE
      simp only [List.mem_cons, List.not_mem_nil, or_false] at ht
      rcases ht with rfl | rfl | rfl | rfl | rfl | rfl
      · exact h
      · exact h
      · exact h
      · exact h
      · exact h
      · exact h
    ·
      refine Rg.cons 0 1 rfl (Rg.plain rfl ?_) ?_
      · intro vs W n hn hI hG hT hF K hK
        simp only [Rg.putsD, List.getD_cons_zero, List.getD_cons_succ, Act.put, List.setIfInBounds_toArray, List.set_cons_zero, List.set_cons_succ] at hK ⊢
        clear hn
        clear hF hI
        have H := Lib.hid hK
        clear hK hT
        go_simp
        exact H.out _ _ (Below.refl _ _) rfl (fun h => by cases h) trivial
      refine Rg.cons 1 2 rfl (Rg.plain rfl ?_) ?_
      · intro vs W n hn hI hG hT hF K hK
        simp only [Rg.putsD, List.getD_cons_zero, List.getD_cons_succ, Act.put, List.setIfInBounds_toArray, List.set_cons_zero, List.set_cons_succ] at hK ⊢
        clear hn
        clear hF hI
        obtain ⟨c0, c1, _, _⟩ := blk2 (blk_below hG H0.out.2.1)
        have hgl := lt_of_blk (blk_below hG H0.out.2.1)
        have H := Lib.hid hK
        clear hK hT
        go_simp
        exact H.out _ _ (Below.refl _ _) rfl (fun h => by cases h) trivial
      refine Rg.cons 2 3 rfl (Rg.plain rfl ?_) ?_
      · intro vs W n hn hI hG hT hF K hK
        simp only [Rg.putsD, List.getD_cons_zero, List.getD_cons_succ, Act.put, List.setIfInBounds_toArray, List.set_cons_zero, List.set_cons_succ] at hK ⊢
        clear hn
        clear hF hI
        obtain ⟨c0, c1, _, _⟩ := blk2 (blk_below hG H0.out.1.k0)
        have H := Lib.hid hK
        clear hK hT
        go_simp
        exact H.out _ _ (Below.refl _ _) rfl (fun h => by cases h) trivial
      refine Rg.cons 3 4 rfl (Rg.plain rfl ?_) ?_
      · intro vs W n hn hI hG hT hF K hK
        simp only [Rg.putsD, List.getD_cons_zero, List.getD_cons_succ, Act.put, List.setIfInBounds_toArray, List.set_cons_zero, List.set_cons_succ] at hK ⊢
        clear hn
        clear hF hI
        have t1 : vs 1 = .agg #[.int .i64 a1, .int .i64 a2] := hT 1 (by decide)
        have t2 : vs 2 = .agg #[.int .i64 s1, .int .i64 s2] := hT 2 (by decide)
        have HG := Lib.hid hG
        clear hG
        simp only [t1, t2] at hK
        have H := Lib.hid hK
        clear hK hT
        go_simp
        refine (CD0.out _).mono ?_
        rintro e w6 ⟨rfl, b6⟩
        exact H.out _ _ b6 rfl (fun h => by cases h) trivial
      refine Rg.cons 4 5 rfl (Rg.plain rfl ?_) ?_
      · intro vs W n hn hI hG hT hF K hK
        simp only [Rg.putsD, List.getD_cons_zero, List.getD_cons_succ, Act.put, List.setIfInBounds_toArray, List.set_cons_zero, List.set_cons_succ] at hK ⊢
        clear hn
        clear hF hI
        have t0 : vs 0 = .int .i64 gone := hT 0 (by decide)
        have t1 : vs 1 = .agg #[.int .i64 a1, .int .i64 a2] := hT 1 (by decide)
        have t2 : vs 2 = .agg #[.int .i64 s1, .int .i64 s2] := hT 2 (by decide)
        have t3 : vs 3 = .int .i64 ap := hT 3 (by decide)
        simp only [t0, t1, t2, t3] at hK
        have H := Lib.hid hK
        clear hK hT
        go_simp
        have hw : IntKind.i64.wrap (gone + ap) = gone + ap := IntWalk.i64_in _ (by omega)
        rw [hw]
        exact H.out _ _ (Below.refl _ _) rfl (fun h => by cases h) trivial
      refine Rg.cons 5 6 rfl (Rg.plain rfl ?_) ?_
      · intro vs W n hn hI hG hT hF K hK
        simp only [Rg.putsD, List.getD_cons_zero, List.getD_cons_succ, Act.put, List.setIfInBounds_toArray, List.set_cons_zero, List.set_cons_succ] at hK ⊢
        clear hn
        clear hF hI
        have c0 := cell_of_blk (blk_below hG HKL.out) 0
        simp at c0
        have H := Lib.hid hK
        clear hK hT
        go_simp
        exact H.out _ _ (Below.refl _ _) rfl (fun h => by cases h) trivial
      exact Rg.nil
    · intro vs W hG hI hT hF
      have t0 : vs 0 = .int .i64 gone := hT 0 (by decide)
      have t1 : vs 1 = .agg #[.int .i64 a1, .int .i64 a2] := hT 1 (by decide)
      have t2 : vs 2 = .agg #[.int .i64 s1, .int .i64 s2] := hT 2 (by decide)
      have t3 : vs 3 = .int .i64 ap := hT 3 (by decide)
      have t4 : vs 4 = .int .i64 (gone + ap) := hT 4 (by decide)
      have t5 : vs 5 = .int .i64 ls := hT 5 (by decide)
      simp only [List.length_cons, List.length_nil, Nat.reduceAdd, List.range, List.range.loop, List.drop_succ_cons, List.drop_zero, Rg.putsD, List.getD_cons_zero, List.getD_cons_succ, Act.put, List.setIfInBounds_toArray, List.set_cons_zero, List.set_cons_succ, t0, t1, t2, t3, t4, t5]
      clear hT t0 t1 t2 t3 t4 t5
      have H1 : Hid (VM w (s1, s2) (.slice Ap l.length cp) o st W ∧ W.heap[w0.heap.size]? = some (.cells #[.int .i64 a1, .int .i64 a2] 27 (0, 0)) ∧ PS w0 W) := ⟨H0.out.1.drew.below hG, blk_below hG H0.out.2.1, H0.out.2.2.trans (PS.of_below (a := wx.drew) hG)⟩
      clear hF hI hG H0 HKL CD0
      by_cases hcut : ls ≤ gone + ap
      · have HF := Lib.hid (HCUT.out hcut)
        go_wp2_with fail
        refine bodyPost_ret (v := .tuple #[]) (by unfold results; simp only [Try.results54]; go_simp) rfl ⟨rfl, by rw [HF.out]; exact H1.out.1, H1.out.2.2⟩
      have HF := Lib.hid (HMORE.out hcut)
      have hne : ((o.length : Int) == (l.length : Int)) = false := beq_eq_false_iff_ne.mpr (by omega)
      obtain ⟨A, c, bv, r1, r2, r3, r4, r5⟩ := H1.out.1.rows
      have c3 := cell_of_blk r1 0
      have c1 := cell_of_blk H1.out.1.k1 0
      simp at c3 c1
      have HX := Lib.hid (And.intro r1 r2)
      clear r1 r2 r3 r4 r5
      go_upto_region 4 with (fail)
      have hWb := H1.out.1.big
      go_wp2_with fail
      have HV0 : Hid (VM w (s1, s2) (.slice Ap l.length cp) o (visT (s1, s2) l f o gone st 0) W ∧ W.heap[w0.heap.size]? = some (.cells #[.int .i64 a1, .int .i64 a2] 27 (0, 0)) ∧ PS w0 W) := H1
      clear H1 HX c3 c1 HCUT hcut HMORE HLS hap0 hap1
      go_loopw [33] (fun kk wr => ∃ k : Nat, k ≤ l.length ∧ kk = .int .i64 k ∧ Hid (VM w (s1, s2) (.slice Ap l.length cp) o (visT (s1, s2) l f o gone st k) wr ∧ wr.heap[w0.heap.size]? = some (.cells #[.int .i64 a1, .int .i64 a2] 27 (0, 0)) ∧ PS w0 wr)) (fun kk _ => l.length - (intOf kk).toNat)
      case atStart => exact ⟨0, by omega, rfl, HV0⟩
      case round =>
        obtain ⟨k, hk, rfl, HS⟩ := hrel
        by_cases hlt : k < l.length
        · obtain ⟨Ap', cp', ep, hrp⟩ := HR.out.below HS.out.1.bel
          cases ep
          rcases hrp with rfl | ⟨gp, rfl, hrowp⟩
          · simp at hlt
          obtain ⟨q0, q1⟩ := row_pt hrowp hlt
          have hgp := hrowp.1
          have HPO := Lib.hid (ptAt_ok HL.out (k : Int))
          have HPN := Lib.hid (ptAt_nat l hlt)
          have HSC : Hid (o.contains (k : Int) = true → visT (s1, s2) l f o gone st (k + 1) = visT (s1, s2) l f o gone st k) := fun h => by
            show _ = _
            rw [HTS.out, if_pos h]
          have HSF : Hid (o.contains (k : Int) = false → visT (s1, s2) l f o gone st (k + 1) = vis (s1, s2) l f (o ++ [(k : Int)]) (gone + apart (a1, a2) l[k]) (visT (s1, s2) l f o gone st k)) := fun h => by
            show _ = _
            rw [HTS.out, if_neg (by rw [h]; simp), HAT.out, HPN.out]
          have HAS : Hid (atOf (s1, s2) l (o ++ [(k : Int)]) = l[k]) := by
            show _ = _
            rw [atOf_snoc, HPN.out]
          rw [HPN.out] at HPO
          clear hrowp
          generalize l[k] = p at *
          obtain ⟨x, y⟩ := p
          dsimp only at q0 q1
          have CD1 := Lib.hid (fun W => CD.out (a1, a2) (x, y) hAO HPO.out W)
          obtain ⟨hap0, hap1⟩ := apart_bd hAO HPO.out
          dsimp only at CD1
          generalize apart (a1, a2) (x, y) = ap2 at *
          have i1 : (0 : Int) ≤ (k : Int) := by omega
          have i2 : (k : Int) < (l.length : Int) := by omega
          have HJ : Hid (VM w (s1, s2) (.slice (some ⟨gp, 0, none⟩) l.length cp) o (visT (s1, s2) l f o gone st k) (wr.alloc (.cells #[.int .i64 x, .int .i64 y] 27)) ∧ (wr.alloc (.cells #[.int .i64 x, .int .i64 y] 27)).heap[w0.heap.size]? = some (.cells #[.int .i64 a1, .int .i64 a2] 27 (0, 0)) ∧ PS w0 (wr.alloc (.cells #[.int .i64 x, .int .i64 y] 27)) ∧ (wr.alloc (.cells #[.int .i64 x, .int .i64 y] 27)).heap[wr.heap.size]? = some (.cells #[.int .i64 x, .int .i64 y] 27 (0, 0))) :=
            ⟨HS.out.1.below ((Below.refl _ _).alloc (Nat.le_refl _) _), blk_alloc HS.out.2.1 _, HS.out.2.2.trans (PS.of_below ((Below.refl _ _).alloc (Nat.le_refl _) _)), blk_new wr _ rfl⟩
          go_upto_region 7 with (fail)
          generalize wr.alloc (.cells #[.int .i64 x, .int .i64 y] 27) = wj at *
          generalize wr.heap.size = np at *
          clear q0 q1
          obtain ⟨A, c, bv, r1, r2, r3, r4, r5⟩ := HJ.out.1.rows
          have c3 := cell_of_blk r1 0
          simp at c3
          have hbj := HJ.out.1.big
          have HXR := Lib.hid (And.intro r1 (And.intro r2 (And.intro r3 (And.intro r4 r5))))
          have CK := Lib.hid (containsN_any o (by omega) o.length (Nat.le_refl _) (k : Int) (c := c) (readsN_own' r2 (by rw []) : Reads encN (.slice A o.length c) o wj))
          rw [List.take_of_length_le (Nat.le_refl _)] at CK
          clear r1 r2 r3 r4 r5
          cases hct : o.contains (k : Int)
          rotate_left
          · rw [hct] at CK
            have HEQ := Lib.hid (HSC.out hct)
            clear hct HSC HSF
            go_wp2_with fail
            refine CK.out.mono ?_
            rintro e w9 ⟨rfl, rfl⟩
            go_wp2_with fail
            go_roundw
            case rel => exact ⟨k + 1, by omega, by go_num, by rw [HEQ.out]; exact HJ.out.1, HJ.out.2.1, HJ.out.2.2.1⟩
            case measure => simp [intOf]; omega
          · rw [hct] at CK
            have HEQ := Lib.hid (HSF.out hct)
            clear hct HSC HSF
            go_wp2_with fail
            refine CK.out.mono ?_
            rintro e w9 ⟨rfl, rfl⟩
            obtain ⟨i9, hi0, hz0, hzz1, hz20⟩ := info_parts int_infoN
            have HI := Lib.hid (And.intro hi0 (And.intro hz0 (And.intro hzz1 hz20)))
            clear hi0 hz0 hzz1 hz20 CK
            go_wp2_with (at_builtin; refine hold ?_)
            refine loose ?_
            refine wpList_append_where rfl _ _ 22 rfl (w.heap.size + 6) 3 i9 _ 1 8 Try.underlying22 HI.out.1 HI.out.2.1 HI.out.2.2.1 HI.out.2.2.2 rfl (by omega) _ o.length (o.map (Value.int .i64)) rfl (HXR.out.2.1.alloc _) ⟨w9.heap.size, 0, none⟩ 1 1 [.int .i64 k] rfl rfl (cell_one_new _ _ _) (by intro u hu; simp at hu; subst hu; rfl) (by unfold maxLen; omega) (by omega) (by simp; omega) (by omega) ?_
            intro v' w2 hown' hg' hwh
            have hrow := own_row HXR.out.2.1
            have hk3 := (hg'.block (w.heap.size + 3) (by simp; omega) (fun e => by have := hrow _ e.symm; omega)).trans (blk_alloc HXR.out.1 _)
            have hVP := VM.push (HJ.out.1.below ((Below.refl _ _).alloc (Nat.le_refl _) _)) (blk_alloc HXR.out.1 _) (HXR.out.2.1.alloc _) (blk_alloc HXR.out.2.2.1 _) (HXR.out.2.2.2.1.alloc _) HXR.out.2.2.2.2 hown' hg' hwh
            have hPS : PS w9 (w2.setCell ⟨w.heap.size + 3, 0, none⟩ v') := PS.set (PS.grown (PS.of_below ((Below.refl _ _).alloc (Nat.le_refl _) (.cells #[.int .i64 (k : Int)] 3))) (HXR.out.2.1.alloc _) (by decide) hg') hk3 (by decide) v'
            have H3 : Hid (VM w (s1, s2) (.slice (some ⟨gp, 0, none⟩) l.length cp) (o ++ [(k : Int)]) (visT (s1, s2) l f o gone st k) (w2.setCell ⟨w.heap.size + 3, 0, none⟩ v') ∧ (w2.setCell ⟨w.heap.size + 3, 0, none⟩ v').heap[w0.heap.size]? = some (.cells #[.int .i64 a1, .int .i64 a2] 27 (0, 0)) ∧ PS w0 (w2.setCell ⟨w.heap.size + 3, 0, none⟩ v') ∧ (w2.setCell ⟨w.heap.size + 3, 0, none⟩ v').heap[np]? = some (.cells #[.int .i64 x, .int .i64 y] 27 (0, 0))) :=
              ⟨hVP, hPS.2 _ _ HJ.out.2.1, HJ.out.2.2.1.trans hPS, hPS.2 _ _ HJ.out.2.2.2⟩
            have f3 := frozen_of_blk hk3 0
            have hl3 := lt_of_blk hk3
            have c3' := cell_of_blk hk3 0
            simp at c3'
            obtain ⟨A', c', rfl, _⟩ := own_form hown'
            clear hown' hg' hwh hrow hVP hPS hk3 c3
            go_upto_region 9 with (fail)
            generalize w2.setCell ⟨w.heap.size + 3, 0, none⟩ (.slice A' (o.length + 1) c') = w3 at *
            clear f3 hl3 c3' HXR HJ HS HV0
            have hlp := lt_of_blk H3.out.2.2.2
            have hla := lt_of_blk H3.out.2.1
            have hb3 := H3.out.1.big
            refine Rg.rgL (fun a b => Below a.heap.size a b)
              [(fun vs u => vs 0 = visF w.heap.size), (fun vs u => vs 1 = .agg #[.int .i64 x, .int .i64 y]), (fun vs u => vs 2 = .int .i64 gone), (fun vs u => vs 3 = .agg #[.int .i64 a1, .int .i64 a2]), (fun vs u => vs 4 = .agg #[.int .i64 x, .int .i64 y]), (fun vs u => vs 5 = .int .i64 ap2), (fun vs u => vs 6 = .int .i64 (gone + ap2))]
              [[], [], [], [], [], [3, 4], [2, 3, 4, 5]] [some 46, some 47, some 48, some 49, some 50, some 51, some 52, some 53] [] (fun _ _ => True) [[], [], [], [], [], [3, 4], [2, 3, 4, 5], [0, 1, 2, 3, 4, 5, 6]]
              (by kernel_rfl) (by decide) (by kernel_rfl) (by kernel_rfl) (by kernel_rfl) (by kernel_rfl) (by kernel_rfl) (fun _ => Below.refl _ _) (fun _ _ _ h k => h.ext k) (fun _ _ h => h.size) ?_ trivial ?_ ?_
            · intro t ht vs w w' h hE
              simp only [List.mem_cons, List.not_mem_nil, or_false] at ht
              rcases ht with rfl | rfl | rfl | rfl | rfl | rfl | rfl
              · exact h
              · exact h
              · exact h
              · exact h
              · exact h
              · exact h
              · exact h
            ·
              refine Rg.cons 0 1 rfl (Rg.plain rfl ?_) ?_
              · intro vs W n hn hI hG hT hF K hK
                simp only [Rg.putsD, List.getD_cons_zero, List.getD_cons_succ, Act.put, List.setIfInBounds_toArray, List.set_cons_zero, List.set_cons_succ] at hK ⊢
                clear hn
                clear hF hI
                have c0 := cell_of_blk (blk_below hG H3.out.1.kv) 0
                simp at c0
                have H := Lib.hid hK
                clear hK hT
                go_simp
                exact H.out _ _ (Below.refl _ _) rfl (fun h => by cases h) trivial
              refine Rg.cons 1 2 rfl (Rg.plain rfl ?_) ?_
              · intro vs W n hn hI hG hT hF K hK
                simp only [Rg.putsD, List.getD_cons_zero, List.getD_cons_succ, Act.put, List.setIfInBounds_toArray, List.set_cons_zero, List.set_cons_succ] at hK ⊢
                clear hn
                clear hF hI
                obtain ⟨c0, c1, _, _⟩ := blk2 (blk_below hG H3.out.2.2.2)
                have H := Lib.hid hK
                clear hK hT
                go_simp
                exact H.out _ _ (Below.refl _ _) rfl (fun h => by cases h) trivial
              refine Rg.cons 2 3 rfl (Rg.plain rfl ?_) ?_
              · intro vs W n hn hI hG hT hF K hK
                simp only [Rg.putsD, List.getD_cons_zero, List.getD_cons_succ, Act.put, List.setIfInBounds_toArray, List.set_cons_zero, List.set_cons_succ] at hK ⊢
                clear hn
                clear hF hI
                have H := Lib.hid hK
                clear hK hT
                go_simp
                exact H.out _ _ (Below.refl _ _) rfl (fun h => by cases h) trivial
              refine Rg.cons 3 4 rfl (Rg.plain rfl ?_) ?_
              · intro vs W n hn hI hG hT hF K hK
                simp only [Rg.putsD, List.getD_cons_zero, List.getD_cons_succ, Act.put, List.setIfInBounds_toArray, List.set_cons_zero, List.set_cons_succ] at hK ⊢
                clear hn
                clear hF hI
                obtain ⟨c0, c1, _, _⟩ := blk2 (blk_below hG H3.out.2.1)
                have H := Lib.hid hK
                clear hK hT
                go_simp
                exact H.out _ _ (Below.refl _ _) rfl (fun h => by cases h) trivial
              refine Rg.cons 4 5 rfl (Rg.plain rfl ?_) ?_
              · intro vs W n hn hI hG hT hF K hK
                simp only [Rg.putsD, List.getD_cons_zero, List.getD_cons_succ, Act.put, List.setIfInBounds_toArray, List.set_cons_zero, List.set_cons_succ] at hK ⊢
                clear hn
                clear hF hI
                obtain ⟨c0, c1, _, _⟩ := blk2 (blk_below hG H3.out.2.2.2)
                have H := Lib.hid hK
                clear hK hT
                go_simp
                exact H.out _ _ (Below.refl _ _) rfl (fun h => by cases h) trivial
              refine Rg.cons 5 6 rfl (Rg.plain rfl ?_) ?_
              · intro vs W n hn hI hG hT hF K hK
                simp only [Rg.putsD, List.getD_cons_zero, List.getD_cons_succ, Act.put, List.setIfInBounds_toArray, List.set_cons_zero, List.set_cons_succ] at hK ⊢
                clear hn
                clear hF hI
                have t3 : vs 3 = .agg #[.int .i64 a1, .int .i64 a2] := hT 3 (by decide)
                have t4 : vs 4 = .agg #[.int .i64 x, .int .i64 y] := hT 4 (by decide)
                have HG := Lib.hid hG
                clear hG
                simp only [t3, t4] at hK
                have H := Lib.hid hK
                clear hK hT
                go_simp
                refine (CD1.out _).mono ?_
                rintro e w6 ⟨rfl, b6⟩
                exact H.out _ _ b6 rfl (fun h => by cases h) trivial
              refine Rg.cons 6 7 rfl (Rg.plain rfl ?_) ?_
              · intro vs W n hn hI hG hT hF K hK
                simp only [Rg.putsD, List.getD_cons_zero, List.getD_cons_succ, Act.put, List.setIfInBounds_toArray, List.set_cons_zero, List.set_cons_succ] at hK ⊢
                clear hn
                clear hF hI
                have t2 : vs 2 = .int .i64 gone := hT 2 (by decide)
                have t3 : vs 3 = .agg #[.int .i64 a1, .int .i64 a2] := hT 3 (by decide)
                have t4 : vs 4 = .agg #[.int .i64 x, .int .i64 y] := hT 4 (by decide)
                have t5 : vs 5 = .int .i64 ap2 := hT 5 (by decide)
                simp only [t2, t3, t4, t5] at hK
                have H := Lib.hid hK
                clear hK hT
                go_simp
                have hw : IntKind.i64.wrap (gone + ap2) = gone + ap2 := IntWalk.i64_in _ (by omega)
                rw [hw]
                exact H.out _ _ (Below.refl _ _) rfl (fun h => by cases h) trivial
              exact Rg.nil
            · intro vs W hG hI hT hF
              have t0 : vs 0 = visF w.heap.size := hT 0 (by decide)
              have t1 : vs 1 = .agg #[.int .i64 x, .int .i64 y] := hT 1 (by decide)
              have t2 : vs 2 = .int .i64 gone := hT 2 (by decide)
              have t3 : vs 3 = .agg #[.int .i64 a1, .int .i64 a2] := hT 3 (by decide)
              have t4 : vs 4 = .agg #[.int .i64 x, .int .i64 y] := hT 4 (by decide)
              have t5 : vs 5 = .int .i64 ap2 := hT 5 (by decide)
              have t6 : vs 6 = .int .i64 (gone + ap2) := hT 6 (by decide)
              simp only [List.length_cons, List.length_nil, Nat.reduceAdd, List.range, List.range.loop, List.drop_succ_cons, List.drop_zero, Rg.putsD, List.getD_cons_zero, List.getD_cons_succ, Act.put, List.setIfInBounds_toArray, List.set_cons_zero, List.set_cons_succ, t0, t1, t2, t3, t4, t5, t6]
              clear hT t0 t1 t2 t3 t4 t5 t6
              have H4 : Hid (VM w (s1, s2) (.slice (some ⟨gp, 0, none⟩) l.length cp) (o ++ [(k : Int)]) (visT (s1, s2) l f o gone st k) W ∧ W.heap[w0.heap.size]? = some (.cells #[.int .i64 a1, .int .i64 a2] 27 (0, 0)) ∧ PS w0 W) :=
                ⟨H3.out.1.drew.below hG, blk_below hG H3.out.2.1, H3.out.2.2.1.trans (PS.of_below (a := w3.drew) hG)⟩
              have CI := Lib.hid (IH.out (o ++ [(k : Int)]) (gone + ap2) (visT (s1, s2) l f o gone st k) W (by rw [List.length_append]; simp; omega) (by omega) (by rw [List.length_append]; push_cast; simp; omega) (HTN.out k) H4.out.1)
              rw [HAS.out] at CI
              dsimp only at CI
              rw [← HEQ.out] at CI
              clear hF hI hG H3 IH CD1
              simp only [visF]
              go_wp2_with fail
              refine CI.out.mono ?_
              rintro e w5 ⟨rfl, hV5, hP5⟩
              have H5 : Hid (VM w (s1, s2) (.slice (some ⟨gp, 0, none⟩) l.length cp) (o ++ [(k : Int)]) (visT (s1, s2) l f o gone st (k + 1)) w5 ∧ w5.heap[w0.heap.size]? = some (.cells #[.int .i64 a1, .int .i64 a2] 27 (0, 0)) ∧ PS w0 w5) := ⟨hV5, hP5.2 _ _ H4.out.2.1, H4.out.2.2.trans hP5⟩
              clear hV5 hP5 H4 CI
              obtain ⟨A5, c5, bv5, r1, r2, r3, r4, r5⟩ := H5.out.1.rows
              have hVQ := VM.pop H5.out.1 r1 r2 r3 r4 r5
              have hb5 := H5.out.1.big
              have hlo : (o ++ [(k : Int)]).length = o.length + 1 := by rw [List.length_append]; rfl
              rw [hlo] at r1 r2
              have hcc : o.length + 1 ≤ c5 := by
                rcases r2.2 with ⟨h, _⟩ | ⟨g, cap, cur, h, _, _, hc, _⟩
                · injection h with _ h _; omega
                · injection h with h1 h2 h3; subst h3; exact hc
              obtain ⟨g5, rfl⟩ : ∃ g5 : Nat, A5 = some ⟨g5, 0, none⟩ := by
                rcases r2.2 with ⟨h, _⟩ | ⟨g, cap, cur, h, _⟩
                · injection h with _ h _; omega
                · injection h with h1 h2 h3; exact ⟨g, h1⟩
              have c3 := cell_of_blk r1 0
              simp at c3
              have f3 := frozen_of_blk r1 0
              have hl3 := lt_of_blk r1
              have H6 : Hid (VM w (s1, s2) (.slice (some ⟨gp, 0, none⟩) l.length cp) o (visT (s1, s2) l f o gone st (k + 1)) (w5.setCell ⟨w.heap.size + 3, 0, none⟩ (.slice (some ⟨g5, 0, none⟩) o.length c5)) ∧ (w5.setCell ⟨w.heap.size + 3, 0, none⟩ (.slice (some ⟨g5, 0, none⟩) o.length c5)).heap[w0.heap.size]? = some (.cells #[.int .i64 a1, .int .i64 a2] 27 (0, 0)) ∧ PS w0 (w5.setCell ⟨w.heap.size + 3, 0, none⟩ (.slice (some ⟨g5, 0, none⟩) o.length c5))) := by
                have hP6 : PS w5 (w5.setCell ⟨w.heap.size + 3, 0, none⟩ (.slice (some ⟨g5, 0, none⟩) o.length c5)) := PS.set (PS.refl _) r1 (by decide) _
                exact ⟨hVQ, hP6.2 _ _ H5.out.2.1, H5.out.2.2.trans hP6⟩
              clear r1 r2 r3 r4 r5 hVQ H5
              go_wp2_with fail
              generalize w5.setCell ⟨w.heap.size + 3, 0, none⟩ (.slice (some ⟨g5, 0, none⟩) o.length c5) = w7 at *
              go_roundw
              case rel => exact ⟨k + 1, by omega, by go_num, H6⟩
              case measure => simp [intOf]; omega
        · obtain rfl : k = l.length := by omega
          go_wp2_with fail
          refine bodyPost_end (v := .tuple #[]) (by unfold results; simp only [Try.results54]; go_simp) rfl ⟨rfl, by rw [HF.out]; exact HS.out.1, HS.out.2.2⟩
end Go.Proofs.Ytbkbjljkfhahbaa
