/-
  The walk of the law PartsExposed.
-/
import Derived.Test.YtopnadilfjakiaaDoorPx19
namespace Go.Proofs.YtopnadilfjakiaaDoor
open Go.RowKit
set_option linter.unusedSimpArgs false
set_option linter.unusedVariables false

theorem own_aside {w : World} {base : Nat} {e : TypeId} {size n : Nat} {v : Value} {xs : List Value} (h : w.ownsRow base e size v n xs) {p : Addr} (hp : ∀ j, v.ownBlock = some j → p.block ≠ j) (u : Value) : (w.setCell p u).ownsRow base e size v n xs := by
  refine ⟨h.1, h.2.imp_right ?_⟩
  rintro ⟨g, cap, cur, rfl, hg, hc, rest⟩
  exact ⟨g, cap, cur, rfl, hg, blk_far hc (fun q => hp g rfl q.symm) u, rest⟩

theorem law_life (lvl : Int) : ∃ (ln sp : Int) (lm : Bool), (∀ W, Calls Tryd.prog 11 #[.int .i64 lvl] W fun e w' => e = .returned (.tuple #[.int .i64 ln, .bool lm, .int .i64 sp]) ∧ W = w') ∧
    (∀ W, Calls Tryd.prog 12 #[.int .i64 lvl, .int .i64 1, .int .i64 6] W fun e w' => e = .returned (.int .i64 sp) ∧ W = w') ∧
    (¬ sp = 0 → ln = 0 ∧ lm = false) ∧ (sp = 0 → ∀ W, Calls Tryd.prog 13 #[.int .i64 lvl] W fun e w' => e = .returned (.tuple #[.int .i64 ln, .bool lm]) ∧ Below W.heap.size W w') := by
  refine ⟨lifE lvl, spanE lvl 1 6, limE lvl, life_any lvl, span_any lvl 1 6, ?_, ?_⟩
  · unfold spanE lifE limE
    cases inR lvl 1 6 <;> simp
  · unfold spanE lifE limE
    cases h : inR lvl 1 6
    · intro h2; simp at h2
    · intro _ W
      exact lifeOf_ok lvl h W

theorem law_facts (key pk : ByteArray) (lv bk : Int) (A : Option Addr) (c : Nat) (l : List Sy) (hl : l.length ≤ 400) (hk1 : key.size ≤ 1000) (hk2 : pk.size ≤ 1000) (tm a b : Int) : ∃ (st E e1 e2 xv lx ev : Int) (lb uv eb : Bool),
    (∀ W, SyAt W A l → Calls Tryd.prog 9 #[.slice A l.length c] W fun e w' => e = .returned (.int .i64 st) ∧ Below W.heap.size W w') ∧
    (∀ W, SyAt W A l → Calls Tryd.prog 10 #[.slice A l.length c] W fun e w' => e = .returned (.int .i64 st) ∧ Below W.heap.size W w') ∧
    (∀ W, SyAt W A l → Calls Tryd.prog 14 #[.agg #[.string key, .string pk, .int .i64 lv, .int .i64 bk], .slice A l.length c] W fun e w' => e = .returned (.int .i64 E) ∧ Below W.heap.size W w') ∧
    (∀ W, SyAt W A l → Calls Tryd.prog 15 #[.agg #[.string key, .string pk, .int .i64 lv, .int .i64 bk], .slice A l.length c, .int .i64 tm] W fun e w' => e = .returned (.tuple #[.int .i64 xv, .int .i64 e1]) ∧ Below W.heap.size W w') ∧
    (∀ W, SyAt W A l → Calls Tryd.prog 16 #[.agg #[.string key, .string pk, .int .i64 lv, .int .i64 bk], .slice A l.length c, .int .i64 tm] W fun e w' => e = .returned (.tuple #[.int .i64 lx, .bool lb, .int .i64 e1]) ∧ Below W.heap.size W w') ∧
    (∀ W, SyAt W A l → Calls Tryd.prog 17 #[.agg #[.string key, .string pk, .int .i64 lv, .int .i64 bk], .slice A l.length c, .agg #[.int .i64 a, .int .i64 b]] W fun e w' => e = .returned (.tuple #[.bool uv, .int .i64 e2]) ∧ Below W.heap.size W w') ∧
    (∀ W, SyAt W A l → Calls Tryd.prog 18 #[.agg #[.string key, .string pk, .int .i64 lv, .int .i64 bk], .slice A l.length c] W fun e w' => e = .returned (.tuple #[.int .i64 ev, .bool eb, .int .i64 E]) ∧ Below W.heap.size W w') ∧
    (errsL [E, spanE tm 0 345686399999] = e1 ∧ errsL [E, spanE a 0 b, spanE b 0 345686399999] = e2) ∧
    (e1 = 0 → ∀ W, SyAt W A l → Calls Tryd.prog 21 #[.agg #[.string key, .string pk, .int .i64 lv, .int .i64 bk], .slice A l.length c, .int .i64 tm] W fun e w' => e = .returned (.int .i64 xv) ∧ Below W.heap.size W w') ∧
    (e1 = 0 → ∀ W, SyAt W A l → Calls Tryd.prog 22 #[.agg #[.string key, .string pk, .int .i64 lv, .int .i64 bk], .slice A l.length c, .int .i64 tm] W fun e w' => e = .returned (.tuple #[.int .i64 lx, .bool lb]) ∧ Below W.heap.size W w') ∧
    (¬ e1 = 0 → xv = 0 ∧ lx = 0 ∧ lb = false) ∧
    (e2 = 0 → ∀ W, SyAt W A l → Calls Tryd.prog 23 #[.agg #[.string key, .string pk, .int .i64 lv, .int .i64 bk], .slice A l.length c, .agg #[.int .i64 a, .int .i64 b]] W fun e w' => e = .returned (.bool uv) ∧ Below W.heap.size W w') ∧
    (¬ e2 = 0 → uv = false) ∧
    (E = 0 → ∀ W, SyAt W A l → Calls Tryd.prog 24 #[.agg #[.string key, .string pk, .int .i64 lv, .int .i64 bk], .slice A l.length c] W fun e w' => e = .returned (.tuple #[.int .i64 ev, .bool eb]) ∧ Below W.heap.size W w') ∧
    (¬ E = 0 → ev = 0 ∧ eb = false) := by
  refine ⟨staysErr l, lyE key pk lv bk l, exE key pk lv bk l tm, usE key pk lv bk l a b, exV key pk lv bk l tm, lfV key pk lv bk l tm, (epO key pk lv bk l).getD 0, lfB key pk lv bk l tm, usV key pk lv bk l a b, (epO key pk lv bk l).isSome,
    fun W h => checkStays_any A c l (by omega) W h, fun W h => staysFault_any A c l (by omega) W h, fun W h => livedFault_any key pk lv bk A c l (by omega) W h hk1 hk2,
    fun W h => exposedP_any key pk lv bk A c l hl tm W h, fun W h => leftP_any key pk lv bk A c l hl tm W h, fun W h => usableP_any key pk lv bk A c l hl a b W h, fun W h => expiresP_any key pk lv bk A c l hl W h,
    ⟨one_eq key pk lv bk l tm, two_eq key pk lv bk l a b⟩, ?_, ?_, exN, ?_, usN, ?_, ?_⟩
  · intro h W hA
    obtain ⟨_, _, _, _, hg, _⟩ := lyE_ok (exE_ok h).1
    have ht := (exE_ok h).2
    rw [exV_ok h]
    exact exposedOf_any key pk lv bk A c l hl tm W hA hg (by simp [inR] at ht; omega)
  · intro h W hA
    obtain ⟨_, hlv, _, _, hg, _⟩ := lyE_ok (exE_ok h).1
    have ht := (exE_ok h).2
    rw [(lfV_ok h).1, (lfV_ok h).2]
    exact leftOf_any key pk lv bk A c l hl tm W hA hg hlv (by simp [inR] at ht; omega)
  · intro h W hA
    obtain ⟨h0, h1, h2, h3⟩ := usE_ok h
    obtain ⟨_, hlv, _, _, hg, _⟩ := lyE_ok h0
    rw [usV_ok h]
    exact usableIn_any key pk lv bk A c l hl a b W hA hg hlv ⟨h1, h2, h3⟩
  · intro h W hA
    obtain ⟨_, hlv, _, _, hg, _⟩ := lyE_ok h
    rw [epO_ok h]
    exact expiresOf_any key pk lv bk A c l hl W hA hg hlv
  · intro h
    rw [epN h]
    exact ⟨rfl, rfl⟩

set_option maxRecDepth 100000 in
set_option maxHeartbeats 8000000 in
theorem law1_any (A0 : Option Addr) (n c0 : Nat) (w : World) (hc : n ≤ c0) (hm : c0 ≤ 9223372036854775807) (hA : IntsAt w A0 n w.heap.size) :
    Calls Tryd.prog 3 #[.slice A0 n c0] w fun e w' => e = .returned (.bool true) ∧ Below w.heap.size w w' := by
  have hs0 : IsStream (w.alloc (.cells #[.slice A0 n c0, .int .i64 0] 25)) w.heap.size 0 := by
    refine ⟨A0, n, c0, 0, hc, hm, Nat.le_refl _, blk_new w _ rfl, fun hn => ?_⟩
    obtain ⟨ad, e, h1, h2, h3⟩ := hA hn
    refine ⟨ad, e, by simp; omega, h2, fun k hk => ?_⟩
    obtain ⟨x, hx⟩ := h3 k hk
    exact ⟨x, ((((Below.refl w.heap.size w).alloc (Nat.le_refl _) _).cell (by rw [addr_block]; exact h1))).trans hx⟩
  have hsz0 : (w.alloc (.cells #[.slice A0 n c0, .int .i64 0] 25)).heap.size = w.heap.size + 1 := by simp
  go_enter Tryd.func3, Tryd.ntmps3
  go_wp2_with fail
  refine (onePart_any w.heap.size 0 _ (by omega) hs0).mono ?_
  rintro e w1 ⟨key, pk, lv, bk, rfl, hk1, hk2, t1⟩
  go_wp2_with fail
  refine (stays_any w.heap.size 5 _ (by omega) t1.1).mono ?_
  rintro e w2 ⟨v, l, rfl, hl, o2, t2⟩
  obtain ⟨A, c, rfl, _⟩ := own_form o2
  have hb1 : w.heap.size < w1.heap.size := by have := t1.size; omega
  have O2 := Lib.hid o2
  clear o2
  go_wp2_with fail
  refine (odd_any w.heap.size 105 1 6 _ (by omega) (by omega) (by omega) (by omega) t2.1).mono ?_
  rintro e w3 ⟨lvl, rfl, t3⟩
  have hb3 : w.heap.size < w3.heap.size := by have := t2.size; have := t3.size; omega
  have O3 : Hid (w3.ownsRow w1.heap.size 61 2 (.slice A l.length c) l.length (flatSy l) ∧ Took w.heap.size 107 (w.alloc (.cells #[.slice A0 n c0, .int .i64 0] 25)) w3) := ⟨kept_own O2.out t3.2 hb1, (t1.trans t2).trans t3⟩
  clear t1 t2 t3 O2 hs0 hsz0 hA
  go_upto_region 3 with (fail)
  have O4 : Hid ((w3.alloc (.cells #[.string key, .string pk, .int .i64 lv, .int .i64 bk] 27)).ownsRow w1.heap.size 61 2 (.slice A l.length c) l.length (flatSy l) ∧ Took w.heap.size 107 (w.alloc (.cells #[.slice A0 n c0, .int .i64 0] 25)) (w3.alloc (.cells #[.string key, .string pk, .int .i64 lv, .int .i64 bk] 27)) ∧ PartB (w3.alloc (.cells #[.string key, .string pk, .int .i64 lv, .int .i64 bk] 27)) w3.heap.size key pk lv bk) :=
    ⟨O3.out.1.alloc _, O3.out.2.alloc _, blk_new w3 _ rfl⟩
  generalize w3.alloc (.cells #[.string key, .string pk, .int .i64 lv, .int .i64 bk] 27) = w4 at *
  generalize w3.heap.size = g4 at *
  have hg4 : g4 ≠ w.heap.size := by omega
  clear O3
  go_wp2_with fail
  refine (aTime_any w.heap.size 107 w1.heap.size A c l (by omega) _ (by omega) O4.out.2.1.1 hb1 O4.out.1).mono ?_
  rintro e w5 ⟨tm, rfl, t5⟩
  have O5 : Hid (w5.ownsRow w1.heap.size 61 2 (.slice A l.length c) l.length (flatSy l) ∧ Took w.heap.size 157 (w.alloc (.cells #[.slice A0 n c0, .int .i64 0] 25)) w5 ∧ PartB w5 g4 key pk lv bk) :=
    ⟨kept_own O4.out.1 t5.2 hb1, O4.out.2.1.trans t5, t5.blk O4.out.2.2 hg4⟩
  clear t5 O4
  go_wp2_with fail
  refine (aTime_any w.heap.size 157 w1.heap.size A c l (by omega) _ (by omega) O5.out.2.1.1 hb1 O5.out.1).mono ?_
  rintro e w6 ⟨wa, rfl, t6⟩
  have O6 : Hid (w6.ownsRow w1.heap.size 61 2 (.slice A l.length c) l.length (flatSy l) ∧ Took w.heap.size 207 (w.alloc (.cells #[.slice A0 n c0, .int .i64 0] 25)) w6 ∧ PartB w6 g4 key pk lv bk) :=
    ⟨kept_own O5.out.1 t6.2 hb1, O5.out.2.1.trans t6, t6.blk O5.out.2.2 hg4⟩
  clear t6 O5
  go_wp2_with fail
  refine (aTime_any w.heap.size 207 w1.heap.size A c l (by omega) _ (by omega) O6.out.2.1.1 hb1 O6.out.1).mono ?_
  rintro e w7 ⟨wb, rfl, t7⟩
  have O7 : Hid (w7.ownsRow w1.heap.size 61 2 (.slice A l.length c) l.length (flatSy l) ∧ Took w.heap.size 257 (w.alloc (.cells #[.slice A0 n c0, .int .i64 0] 25)) w7 ∧ PartB w7 g4 key pk lv bk) :=
    ⟨kept_own O6.out.1 t7.2 hb1, O6.out.2.1.trans t7, t7.blk O6.out.2.2 hg4⟩
  have hb7 : w.heap.size < w7.heap.size := by have := O7.out.2.1.size; simp at this; omega
  clear t7 O6
  go_upto_region 5 with (fail)
  have O8 : Hid ((w7.alloc (.cells #[.int .i64 wa, .int .i64 wb] 34)).ownsRow w1.heap.size 61 2 (.slice A l.length c) l.length (flatSy l) ∧ Took w.heap.size 257 (w.alloc (.cells #[.slice A0 n c0, .int .i64 0] 25)) (w7.alloc (.cells #[.int .i64 wa, .int .i64 wb] 34)) ∧ PartB (w7.alloc (.cells #[.int .i64 wa, .int .i64 wb] 34)) g4 key pk lv bk ∧ (w7.alloc (.cells #[.int .i64 wa, .int .i64 wb] 34)).heap[w7.heap.size]? = some (.cells #[.int .i64 wa, .int .i64 wb] 34 (0, 0)) ∧ g4 ≠ w7.heap.size) :=
    ⟨O7.out.1.alloc _, O7.out.2.1.alloc _, blk_alloc O7.out.2.2 _, blk_new w7 _ rfl, by have := lt_of_blk O7.out.2.2; omega⟩
  generalize w7.alloc (.cells #[.int .i64 wa, .int .i64 wb] 34) = w8 at *
  generalize w7.heap.size = gW at *
  have hgW : gW ≠ w.heap.size := by omega
  clear O7
  go_cut [62] (fun s wc => ∃ sw : Bool, s = .bool sw ∧ Hid (wc.ownsRow w1.heap.size 61 2 (.slice A l.length c) l.length (flatSy l) ∧ Took w.heap.size 300 (w.alloc (.cells #[.slice A0 n c0, .int .i64 0] 25)) wc ∧ PartB wc g4 key pk lv bk ∧ wc.heap[gW]? = some (.cells #[.int .i64 wa, .int .i64 wb] 34 (0, 0)) ∧ g4 ≠ gW))
  case first => as_aux_lemma =>
    obtain ⟨x0, x1, _, _⟩ := blk2 O8.out.2.2.2.1
    have hxz := lt_of_blk O8.out.2.2.2.1
    by_cases hlt : wb < wa
    · go_wp2_with fail
      refine (flip_any w.heap.size 257 6 _ (by omega) (by omega) (by omega) O8.out.2.1.1).mono ?_
      rintro e w9 ⟨f, rfl, t9⟩
      have O9 : Hid (w9.ownsRow w1.heap.size 61 2 (.slice A l.length c) l.length (flatSy l) ∧ Took w.heap.size 300 (w.alloc (.cells #[.slice A0 n c0, .int .i64 0] 25)) w9 ∧ PartB w9 g4 key pk lv bk ∧ w9.heap[gW]? = some (.cells #[.int .i64 wa, .int .i64 wb] 34 (0, 0)) ∧ g4 ≠ gW) :=
        ⟨kept_own O8.out.1 t9.2 hb1, (O8.out.2.1.trans t9).more (by omega), t9.blk O8.out.2.2.1 hg4, t9.blk O8.out.2.2.2.1 hgW, O8.out.2.2.2.2⟩
      clear t9 O8 x0 x1
      go_wp2_with fail
      go_meet
      exact ⟨_, rfl, O9⟩
    · go_wp2_with fail
      go_meet
      exact ⟨_, rfl, O8.out.1, O8.out.2.1.more (by omega), O8.out.2.2⟩
  case rest => as_aux_lemma =>
    clear O8
    obtain ⟨sw, rfl, O9⟩ := hcut
    go_upto_if 62 with (fail)
    go_cut [] (fun wd => ∃ a b : Int, Hid (LwM w g4 gW key pk lv bk A l a b wd))
    case first => as_aux_lemma =>
      obtain ⟨x0, x1, f0, f1⟩ := blk2 O9.out.2.2.2.1
      have hxz := lt_of_blk O9.out.2.2.2.1
      have hSy : ∀ W : World, W.ownsRow w1.heap.size 61 2 (.slice A l.length c) l.length (flatSy l) → SyAt W A l := fun W h => by
        by_cases h0 : l.length = 0
        · exact .inl (List.length_eq_zero_iff.mp h0)
        · obtain ⟨g, cap, hv, _⟩ := own_read h (by omega)
          simp only [Value.slice.injEq, true_and] at hv
          obtain ⟨rfl, rfl⟩ := hv
          exact .inr ⟨g, rfl, sy_line h (by omega)⟩
      cases sw
      · go_wp2_with fail
        go_meet
        exact ⟨wa, wb, kept_below O9.out.2.1.2, O9.out.2.2.1, O9.out.2.2.2.1, hSy _ O9.out.1⟩
      · go_wp2_with fail
        go_meet
        have hot := own_other O9.out.1 O9.out.2.2.2.1 (by decide)
        have hset := blk_set (i := 1) (blk_set (i := 0) O9.out.2.2.2.1 (.int .i64 wb)) (.int .i64 wa)
        exact ⟨wb, wa, kept_below ((O9.out.2.1.setCell (p := ⟨gW, 0, none⟩) (by simp; omega) (by simp) _).setCell (p := ⟨gW, 1, none⟩) (by simp; omega) (by simp) _).2,
          blk_far (blk_far O9.out.2.2.1 (p := ⟨gW, 0, none⟩) O9.out.2.2.2.2 _) (p := ⟨gW, 1, none⟩) O9.out.2.2.2.2 _, hset, hSy _ (own_aside (own_aside O9.out.1 (p := ⟨gW, 0, none⟩) hot _) (p := ⟨gW, 1, none⟩) hot _)⟩
    case rest => as_aux_lemma =>
      clear O9
      obtain ⟨a, b, HM0⟩ := hcut
      obtain ⟨st, E, e1, e2, xv, lx, ev, lb, uv, eb, c1, c2, c3, c4, c5, c6, c7, h8, c9, c10, h11, c12, h13, c14, h15⟩ := law_facts key pk lv bk A c l (by omega) hk1 hk2 tm a b
      obtain ⟨ln, sp, lm, d1, d2, d3, d4⟩ := law_life lvl
      have C1 := Lib.hid c1
      have C2 := Lib.hid c2
      have C3 := Lib.hid c3
      have C4 := Lib.hid c4
      have C5 := Lib.hid c5
      have C6 := Lib.hid c6
      have C7 := Lib.hid c7
      have H8 := Lib.hid h8
      have C9 := Lib.hid c9
      have C10 := Lib.hid c10
      have H11 := Lib.hid h11
      have C12 := Lib.hid c12
      have H13 := Lib.hid h13
      have C14 := Lib.hid c14
      have H15 := Lib.hid h15
      have D1 := Lib.hid d1
      have D2 := Lib.hid d2
      have D3 := Lib.hid d3
      have D4 := Lib.hid d4
      clear c1 c2 c3 c4 c5 c6 c7 h8 c9 c10 h11 c12 h13 c14 h15 d1 d2 d3 d4 hk1 hk2 hc hm hb1 hb3 hb7 hg4 hgW
      go_wp2_with fail
      refine (C1.out _ HM0.out.2.2.2).mono ?_
      rintro e wA1 ⟨rfl, bA⟩
      have HM1 := Lib.hid (HM0.out.below bA)
      clear bA HM0
      go_wp2_with fail
      refine (C2.out _ HM1.out.2.2.2).mono ?_
      rintro e wA2 ⟨rfl, bA⟩
      have HM2 := Lib.hid (HM1.out.below bA)
      clear bA HM1
      go_wp2_with fail
      refine (D1.out _).mono ?_
      rintro e wB ⟨rfl, rfl⟩
      go_wp2_with fail
      refine (D2.out _).mono ?_
      rintro e wB ⟨rfl, rfl⟩
      go_upto_if 83 with (fail)
      go_cut [] (fun wd => Hid (LwM w g4 gW key pk lv bk A l a b wd))
      case first => as_aux_lemma =>
        by_cases hsp : sp = 0
        · have DL := Lib.hid (D4.out hsp)
          have hs1 : (sp != 0) = false := by rw [hsp]; rfl
          clear D1 D2 D3 D4
          subst hsp
          clear hs1
          go_wp2_with fail
          refine (DL.out _).mono ?_
          rintro e wA ⟨rfl, bA⟩
          have HMX := Lib.hid (HM2.out.below bA)
          clear bA
          go_wp2_with fail
          go_meet
          exact HMX
        · have hs1 : (sp != 0) = true := by simpa using hsp
          obtain ⟨rfl, rfl⟩ := D3.out hsp
          clear hsp D1 D2 D3 D4
          go_wp2_with fail
          go_meet
          exact HM2
      case rest => as_aux_lemma =>
        clear HM2 D1 D2 D3 D4
        have HM3 := hcut
        clear hcut
        obtain ⟨q0, q1, q2, q3⟩ := blk4 HM3.out.2.1
        have hpz := lt_of_blk HM3.out.2.1
        go_wp2_with fail
        refine (C3.out _ HM3.out.2.2.2).mono ?_
        rintro e wA4 ⟨rfl, bA⟩
        have HM4 := Lib.hid (HM3.out.below bA)
        clear bA HM3 q0 q1 q2 q3 hpz
        obtain ⟨q0, q1, q2, q3⟩ := blk4 HM4.out.2.1
        have hpz := lt_of_blk HM4.out.2.1
        go_wp2_with fail
        refine (C4.out _ HM4.out.2.2.2).mono ?_
        rintro e wA5 ⟨rfl, bA⟩
        have HM5 := Lib.hid (HM4.out.below bA)
        clear bA HM4 q0 q1 q2 q3 hpz
        obtain ⟨q0, q1, q2, q3⟩ := blk4 HM5.out.2.1
        have hpz := lt_of_blk HM5.out.2.1
        go_wp2_with fail
        refine (C5.out _ HM5.out.2.2.2).mono ?_
        rintro e wA6 ⟨rfl, bA⟩
        have HM6 := Lib.hid (HM5.out.below bA)
        clear bA HM5 q0 q1 q2 q3 hpz
        obtain ⟨q0, q1, q2, q3⟩ := blk4 HM6.out.2.1
        have hpz := lt_of_blk HM6.out.2.1
        obtain ⟨x0, x1, _, _⟩ := blk2 HM6.out.2.2.1
        have hxz := lt_of_blk HM6.out.2.2.1
        go_wp2_with fail
        refine (C6.out _ HM6.out.2.2.2).mono ?_
        rintro e wA7 ⟨rfl, bA⟩
        have HM7 := Lib.hid (HM6.out.below bA)
        clear bA HM6 x0 x1 hxz q0 q1 q2 q3 hpz
        obtain ⟨q0, q1, q2, q3⟩ := blk4 HM7.out.2.1
        have hpz := lt_of_blk HM7.out.2.1
        go_wp2_with fail
        refine (C7.out _ HM7.out.2.2.2).mono ?_
        rintro e wA8 ⟨rfl, bA⟩
        have HM8 := Lib.hid (HM7.out.below bA)
        clear bA HM7 q0 q1 q2 q3 hpz
        as_aux_lemma =>
          go_upto_region 22 with (fail)
          obtain ⟨s1, hs1⟩ : ∃ x, spanE tm 0 345686399999 = x := ⟨_, rfl⟩
          obtain ⟨s2, hs2⟩ : ∃ x, spanE a 0 b = x := ⟨_, rfl⟩
          obtain ⟨s3, hs3⟩ : ∃ x, spanE b 0 345686399999 = x := ⟨_, rfl⟩
          have F1 : Hid (∀ W, Calls Tryd.prog 20 #[.int .i64 tm] W fun e w' => e = .returned (.int .i64 s1) ∧ W = w') := fun W => by rw [← hs1]; exact momentF_any tm W
          have F2 : Hid (∀ W, Calls Tryd.prog 12 #[.int .i64 a, .int .i64 0, .int .i64 b] W fun e w' => e = .returned (.int .i64 s2) ∧ W = w') := fun W => by rw [← hs2]; exact span_any a 0 b W
          have F3 : Hid (∀ W, Calls Tryd.prog 20 #[.int .i64 b] W fun e w' => e = .returned (.int .i64 s3) ∧ W = w') := fun W => by rw [← hs3]; exact momentF_any b W
          have O1 : Hid (∀ W g, LineAt W g ([E, s1].map (Value.int .i64)) → Calls Tryd.prog 19 #[.slice (some ⟨g, 0, none⟩) 2 2] W fun e w' => e = .returned (.int .i64 e1) ∧ W = w') := fun W g h => by
            have h9 := or_any [E, s1] (by simp) g 2 W h
            rw [← hs1, H8.out.1] at h9
            exact h9
          have O2 : Hid (∀ W g, LineAt W g ([E, s2, s3].map (Value.int .i64)) → Calls Tryd.prog 19 #[.slice (some ⟨g, 0, none⟩) 3 3] W fun e w' => e = .returned (.int .i64 e2) ∧ W = w') := fun W g h => by
            have h9 := or_any [E, s2, s3] (by simp) g 3 W h
            rw [← hs2, ← hs3, H8.out.2] at h9
            exact h9
          clear hs1 hs2 hs3 H8 C1 C2 C3 C4 C5 C6 C7
          refine Rg.rgL (fun a b => Below a.heap.size a b)
            [(fun vs u => vs 0 = .int .i64 E), (fun vs u => vs 1 = .int .i64 tm), (fun vs u => vs 2 = .int .i64 s1), (fun vs u => ∃ gb : Nat, vs 3 = .slice (some ⟨gb, 0, none⟩) 2 2 ∧ u.heap[gb]? = some (.cells #[.int .i64 E, .int .i64 s1] 36 (0, 0))), (fun vs u => vs 4 = .int .i64 e1), (fun vs u => vs 5 = .int .i64 E), (fun vs u => vs 6 = .pointer (some ⟨gW, 0, none⟩)), (fun vs u => vs 7 = .int .i64 a), (fun vs u => vs 8 = .pointer (some ⟨gW, 1, none⟩)), (fun vs u => vs 9 = .int .i64 b), (fun vs u => vs 10 = .int .i64 s2), (fun vs u => vs 11 = .pointer (some ⟨gW, 1, none⟩)), (fun vs u => vs 12 = .int .i64 b), (fun vs u => vs 13 = .int .i64 s3)]
            [[], [], [1], [0, 1, 2], [0, 1, 2, 3], [], [], [6], [], [8], [0, 1, 2, 3, 4, 6, 7, 8, 9], [], [11], [0, 1, 2, 3, 4, 6, 7, 8, 9, 10, 11, 12]] [some 143, some 144, some 145, some 146, some 147, some 148, some 149, some 150, some 151, some 152, some 153, some 154, some 155, some 156, some 157, some 158, some 26, some 27] [3] (fun _ _ => True) [[], [], [1], [0, 1, 2], [0, 1, 2, 3], [], [], [6], [], [8], [0, 1, 2, 3, 4, 6, 7, 8, 9], [], [11], [0, 1, 2, 3, 4, 6, 7, 8, 9, 10, 11, 12], [0, 1, 2, 3, 4, 5, 6, 7, 8, 9, 10, 11, 12, 13], [0, 1, 2, 3, 4, 5, 6, 7, 8, 9, 10, 11, 12, 13, 14], [0, 1, 2, 3, 4, 5, 6, 7, 8, 9, 10, 11, 12, 13, 14, 15], [0, 1, 2, 3, 4, 5, 6, 7, 8, 9, 10, 11, 12, 13, 14, 15, 16]]
            (by kernel_rfl) (by decide) (by kernel_rfl) (by kernel_rfl) (by kernel_rfl) (by kernel_rfl) (by kernel_rfl) (fun _ => Below.refl _ _) (fun _ _ _ h k => h.ext k) (fun _ _ h => h.size) ?_ trivial ?_ ?_
          · intro t ht vs w w' h hE
            simp only [List.mem_cons, List.not_mem_nil, or_false] at ht
            rcases ht with rfl | rfl | rfl | rfl | rfl | rfl | rfl | rfl | rfl | rfl | rfl | rfl | rfl | rfl
            · exact h
            · exact h
            · exact h
            · obtain ⟨gb, e, k⟩ := h
              exact ⟨gb, e, blk_below hE k⟩
            · exact h
            · exact h
            · exact h
            · exact h
            · exact h
            · exact h
            · exact h
            · exact h
            · exact h
            · exact h
          ·
            refine Rg.cons 0 1 rfl (Rg.plain rfl ?_) ?_
            · intro vs W n hn hI hG hT hF K hK
              simp only [Rg.putsD, List.getD_cons_zero, List.getD_cons_succ, Act.put, List.setIfInBounds_toArray, List.set_cons_zero, List.set_cons_succ] at hK ⊢
              clear hn
              clear hF hI
              have H := Lib.hid hK
              clear hK hT
              go_simp
              exact H.out _ _ (Below.refl _ _) rfl (fun h => by cases h) trivial
            refine Rg.cons 1 2 rfl (Rg.plain rfl ?_) ?_
            · intro vs W n hn hI hG hT hF K hK
              simp only [Rg.putsD, List.getD_cons_zero, List.getD_cons_succ, Act.put, List.setIfInBounds_toArray, List.set_cons_zero, List.set_cons_succ] at hK ⊢
              clear hn
              clear hF hI
              have H := Lib.hid hK
              clear hK hT
              go_simp
              exact H.out _ _ (Below.refl _ _) rfl (fun h => by cases h) trivial
            refine Rg.cons 2 3 rfl (Rg.plain rfl ?_) ?_
            · intro vs W n hn hI hG hT hF K hK
              simp only [Rg.putsD, List.getD_cons_zero, List.getD_cons_succ, Act.put, List.setIfInBounds_toArray, List.set_cons_zero, List.set_cons_succ] at hK ⊢
              clear hn
              clear hF hI
              have t1 : vs 1 = .int .i64 tm := hT 1 (by decide)
              simp only [t1] at hK
              have H := Lib.hid hK
              clear hK hT
              go_simp
              refine (F1.out _).mono ?_
              rintro e wa ⟨rfl, rfl⟩
              exact H.out _ _ (Below.refl _ _) rfl (fun h => by cases h) trivial
            refine Rg.cons 3 4 rfl (Rg.plain rfl ?_) ?_
            · intro vs W n hn hI hG hT hF K hK
              simp only [Rg.putsD, List.getD_cons_zero, List.getD_cons_succ, Act.put, List.setIfInBounds_toArray, List.set_cons_zero, List.set_cons_succ] at hK ⊢
              clear hn
              clear hF hI
              have t0 : vs 0 = .int .i64 E := hT 0 (by decide)
              have t1 : vs 1 = .int .i64 tm := hT 1 (by decide)
              have t2 : vs 2 = .int .i64 s1 := hT 2 (by decide)
              simp only [t0, t1, t2] at hK
              have H := Lib.hid hK
              clear hK hT
              go_simp
              exact H.out _ _ ((Below.refl _ _).alloc (Nat.le_refl _) _) (show ∃ gb : Nat, _ = _ ∧ _ = _ from ⟨_, rfl, blk_new W _ rfl⟩) (fun _ => ⟨W.heap.size, rfl, Nat.le_refl _, by simp⟩) trivial
            refine Rg.cons 4 5 rfl (Rg.plain rfl ?_) ?_
            · intro vs W n hn hI hG hT hF K hK
              simp only [Rg.putsD, List.getD_cons_zero, List.getD_cons_succ, Act.put, List.setIfInBounds_toArray, List.set_cons_zero, List.set_cons_succ] at hK ⊢
              clear hn
              clear hF hI
              have t0 : vs 0 = .int .i64 E := hT 0 (by decide)
              have t1 : vs 1 = .int .i64 tm := hT 1 (by decide)
              have t2 : vs 2 = .int .i64 s1 := hT 2 (by decide)
              have t3 : ∃ gb : Nat, vs 3 = .slice (some ⟨gb, 0, none⟩) 2 2 ∧ W.heap[gb]? = some (.cells #[.int .i64 E, .int .i64 s1] 36 (0, 0)) := hT 3 (by decide)
              obtain ⟨gb, e3, k3⟩ := t3
              simp only [e3] at hK
              have K3 := Lib.hid k3
              clear k3
              simp only [t0, t1, t2] at hK
              have H := Lib.hid hK
              clear hK hT
              go_simp
              refine (O1.out _ gb ⟨lt_of_blk K3.out, fun j u hu => by rw [cell_of_blk K3.out]; simpa using hu⟩).mono ?_
              rintro e wa ⟨rfl, rfl⟩
              exact H.out _ _ (Below.refl _ _) rfl (fun h => by cases h) trivial
            refine Rg.cons 5 6 rfl (Rg.plain rfl ?_) ?_
            · intro vs W n hn hI hG hT hF K hK
              simp only [Rg.putsD, List.getD_cons_zero, List.getD_cons_succ, Act.put, List.setIfInBounds_toArray, List.set_cons_zero, List.set_cons_succ] at hK ⊢
              clear hn
              clear hF hI
              have H := Lib.hid hK
              clear hK hT
              go_simp
              exact H.out _ _ (Below.refl _ _) rfl (fun h => by cases h) trivial
            refine Rg.cons 6 7 rfl (Rg.plain rfl ?_) ?_
            · intro vs W n hn hI hG hT hF K hK
              simp only [Rg.putsD, List.getD_cons_zero, List.getD_cons_succ, Act.put, List.setIfInBounds_toArray, List.set_cons_zero, List.set_cons_succ] at hK ⊢
              clear hn
              clear hF hI
              have H := Lib.hid hK
              clear hK hT
              go_simp
              exact H.out _ _ (Below.refl _ _) rfl (fun h => by cases h) trivial
            refine Rg.cons 7 8 rfl (Rg.plain rfl ?_) ?_
            · intro vs W n hn hI hG hT hF K hK
              simp only [Rg.putsD, List.getD_cons_zero, List.getD_cons_succ, Act.put, List.setIfInBounds_toArray, List.set_cons_zero, List.set_cons_succ] at hK ⊢
              clear hn
              clear hF hI
              have t6 : vs 6 = .pointer (some ⟨gW, 0, none⟩) := hT 6 (by decide)
              obtain ⟨m0, m1, _, _⟩ := blk2 (blk_below hG HM8.out.2.2.1)
              simp only [t6] at hK
              have H := Lib.hid hK
              clear hK hT
              go_simp
              exact H.out _ _ (Below.refl _ _) rfl (fun h => by cases h) trivial
            refine Rg.cons 8 9 rfl (Rg.plain rfl ?_) ?_
            · intro vs W n hn hI hG hT hF K hK
              simp only [Rg.putsD, List.getD_cons_zero, List.getD_cons_succ, Act.put, List.setIfInBounds_toArray, List.set_cons_zero, List.set_cons_succ] at hK ⊢
              clear hn
              clear hF hI
              have H := Lib.hid hK
              clear hK hT
              go_simp
              exact H.out _ _ (Below.refl _ _) rfl (fun h => by cases h) trivial
            refine Rg.cons 9 10 rfl (Rg.plain rfl ?_) ?_
            · intro vs W n hn hI hG hT hF K hK
              simp only [Rg.putsD, List.getD_cons_zero, List.getD_cons_succ, Act.put, List.setIfInBounds_toArray, List.set_cons_zero, List.set_cons_succ] at hK ⊢
              clear hn
              clear hF hI
              have t8 : vs 8 = .pointer (some ⟨gW, 1, none⟩) := hT 8 (by decide)
              obtain ⟨m0, m1, _, _⟩ := blk2 (blk_below hG HM8.out.2.2.1)
              simp only [t8] at hK
              have H := Lib.hid hK
              clear hK hT
              go_simp
              exact H.out _ _ (Below.refl _ _) rfl (fun h => by cases h) trivial
            refine Rg.cons 10 11 rfl (Rg.plain rfl ?_) ?_
            · intro vs W n hn hI hG hT hF K hK
              simp only [Rg.putsD, List.getD_cons_zero, List.getD_cons_succ, Act.put, List.setIfInBounds_toArray, List.set_cons_zero, List.set_cons_succ] at hK ⊢
              clear hn
              clear hF hI
              have t0 : vs 0 = .int .i64 E := hT 0 (by decide)
              have t1 : vs 1 = .int .i64 tm := hT 1 (by decide)
              have t2 : vs 2 = .int .i64 s1 := hT 2 (by decide)
              have t3 : ∃ gb : Nat, vs 3 = .slice (some ⟨gb, 0, none⟩) 2 2 ∧ W.heap[gb]? = some (.cells #[.int .i64 E, .int .i64 s1] 36 (0, 0)) := hT 3 (by decide)
              have t4 : vs 4 = .int .i64 e1 := hT 4 (by decide)
              have t6 : vs 6 = .pointer (some ⟨gW, 0, none⟩) := hT 6 (by decide)
              have t7 : vs 7 = .int .i64 a := hT 7 (by decide)
              have t8 : vs 8 = .pointer (some ⟨gW, 1, none⟩) := hT 8 (by decide)
              have t9 : vs 9 = .int .i64 b := hT 9 (by decide)
              simp only [t0, t1, t2, t4, t6, t7, t8, t9] at hK
              have H := Lib.hid hK
              clear hK hT
              go_simp
              refine (F2.out _).mono ?_
              rintro e wa ⟨rfl, rfl⟩
              exact H.out _ _ (Below.refl _ _) rfl (fun h => by cases h) trivial
            refine Rg.cons 11 12 rfl (Rg.plain rfl ?_) ?_
            · intro vs W n hn hI hG hT hF K hK
              simp only [Rg.putsD, List.getD_cons_zero, List.getD_cons_succ, Act.put, List.setIfInBounds_toArray, List.set_cons_zero, List.set_cons_succ] at hK ⊢
              clear hn
              clear hF hI
              have H := Lib.hid hK
              clear hK hT
              go_simp
              exact H.out _ _ (Below.refl _ _) rfl (fun h => by cases h) trivial
            refine Rg.cons 12 13 rfl (Rg.plain rfl ?_) ?_
            · intro vs W n hn hI hG hT hF K hK
              simp only [Rg.putsD, List.getD_cons_zero, List.getD_cons_succ, Act.put, List.setIfInBounds_toArray, List.set_cons_zero, List.set_cons_succ] at hK ⊢
              clear hn
              clear hF hI
              have t11 : vs 11 = .pointer (some ⟨gW, 1, none⟩) := hT 11 (by decide)
              obtain ⟨m0, m1, _, _⟩ := blk2 (blk_below hG HM8.out.2.2.1)
              simp only [t11] at hK
              have H := Lib.hid hK
              clear hK hT
              go_simp
              exact H.out _ _ (Below.refl _ _) rfl (fun h => by cases h) trivial
            refine Rg.cons 13 14 rfl (Rg.plain rfl ?_) ?_
            · intro vs W n hn hI hG hT hF K hK
              simp only [Rg.putsD, List.getD_cons_zero, List.getD_cons_succ, Act.put, List.setIfInBounds_toArray, List.set_cons_zero, List.set_cons_succ] at hK ⊢
              clear hn
              clear hF hI
              have t0 : vs 0 = .int .i64 E := hT 0 (by decide)
              have t1 : vs 1 = .int .i64 tm := hT 1 (by decide)
              have t2 : vs 2 = .int .i64 s1 := hT 2 (by decide)
              have t3 : ∃ gb : Nat, vs 3 = .slice (some ⟨gb, 0, none⟩) 2 2 ∧ W.heap[gb]? = some (.cells #[.int .i64 E, .int .i64 s1] 36 (0, 0)) := hT 3 (by decide)
              have t4 : vs 4 = .int .i64 e1 := hT 4 (by decide)
              have t6 : vs 6 = .pointer (some ⟨gW, 0, none⟩) := hT 6 (by decide)
              have t7 : vs 7 = .int .i64 a := hT 7 (by decide)
              have t8 : vs 8 = .pointer (some ⟨gW, 1, none⟩) := hT 8 (by decide)
              have t9 : vs 9 = .int .i64 b := hT 9 (by decide)
              have t10 : vs 10 = .int .i64 s2 := hT 10 (by decide)
              have t11 : vs 11 = .pointer (some ⟨gW, 1, none⟩) := hT 11 (by decide)
              have t12 : vs 12 = .int .i64 b := hT 12 (by decide)
              simp only [t0, t1, t2, t4, t6, t7, t8, t9, t10, t11, t12] at hK
              have H := Lib.hid hK
              clear hK hT
              go_simp
              refine (F3.out _).mono ?_
              rintro e wa ⟨rfl, rfl⟩
              exact H.out _ _ (Below.refl _ _) rfl (fun h => by cases h) trivial
            exact Rg.nil
          · intro vs W hG hI hT hF
            have t0 : vs 0 = .int .i64 E := hT 0 (by decide)
            have t1 : vs 1 = .int .i64 tm := hT 1 (by decide)
            have t2 : vs 2 = .int .i64 s1 := hT 2 (by decide)
            have t3 : ∃ gb : Nat, vs 3 = .slice (some ⟨gb, 0, none⟩) 2 2 ∧ W.heap[gb]? = some (.cells #[.int .i64 E, .int .i64 s1] 36 (0, 0)) := hT 3 (by decide)
            have t4 : vs 4 = .int .i64 e1 := hT 4 (by decide)
            have t5 : vs 5 = .int .i64 E := hT 5 (by decide)
            have t6 : vs 6 = .pointer (some ⟨gW, 0, none⟩) := hT 6 (by decide)
            have t7 : vs 7 = .int .i64 a := hT 7 (by decide)
            have t8 : vs 8 = .pointer (some ⟨gW, 1, none⟩) := hT 8 (by decide)
            have t9 : vs 9 = .int .i64 b := hT 9 (by decide)
            have t10 : vs 10 = .int .i64 s2 := hT 10 (by decide)
            have t11 : vs 11 = .pointer (some ⟨gW, 1, none⟩) := hT 11 (by decide)
            have t12 : vs 12 = .int .i64 b := hT 12 (by decide)
            have t13 : vs 13 = .int .i64 s3 := hT 13 (by decide)
            simp only [List.length_cons, List.length_nil, Nat.reduceAdd, List.range, List.range.loop, List.drop_succ_cons, List.drop_zero, Rg.putsD, List.getD_cons_zero, List.getD_cons_succ, Act.put, List.setIfInBounds_toArray, List.set_cons_zero, List.set_cons_succ, t0, t1, t2, t4, t5, t6, t7, t8, t9, t10, t11, t12, t13]
            clear hT t0 t1 t2 t4 t5 t6 t7 t8 t9 t10 t11 t12 t13
            have HM9 : Hid (LwM w g4 gW key pk lv bk A l a b W) := HM8.out.below ((Below.refl _ _).drew.then_below hG (Nat.le_refl _))
            clear hG hI hF HM8 t3
            go_wp2_with fail
            refine (O2.out _ _ ⟨by simp, fun j u hu => ?_⟩).mono ?_
            · rw [cell_of_blk (blk_new (g := W.heap.size) _ _ rfl)]
              simpa using hu
            rintro e wB ⟨rfl, rfl⟩
            have HMA : Hid (LwM w g4 gW key pk lv bk A l a b (W.alloc (.cells #[.int .i64 E, .int .i64 s2, .int .i64 s3] 36))) := HM9.out.below ((Below.refl _ _).alloc (Nat.le_refl _) _)
            generalize W.alloc (.cells #[.int .i64 E, .int .i64 s2, .int .i64 s3] 36) = wz at *
            clear HM9 F1 F2 F3 O1 O2
            go_upto_if 160 with (fail)
            go_cut [28, 29, 30] (fun s28 s29 s30 wd => s28 = .int .i64 xv ∧ s29 = .int .i64 lx ∧ s30 = .bool lb ∧ Hid (LwM w g4 gW key pk lv bk A l a b wd))
            case first => as_aux_lemma =>
              by_cases h : e1 = 0
              · have G1 := Lib.hid (C9.out h)
                have G2 := Lib.hid (C10.out h)
                clear H11 C12 H13 C14 H15 C9 C10
                subst h
                obtain ⟨q0, q1, q2, q3⟩ := blk4 HMA.out.2.1
                have hpz := lt_of_blk HMA.out.2.1
                go_wp2_with fail
                refine (G1.out _ HMA.out.2.2.2).mono ?_
                rintro e wA ⟨rfl, bA⟩
                have HMB := Lib.hid (HMA.out.below bA)
                clear bA HMA q0 q1 q2 q3 hpz
                obtain ⟨q0, q1, q2, q3⟩ := blk4 HMB.out.2.1
                have hpz := lt_of_blk HMB.out.2.1
                go_wp2_with fail
                refine (G2.out _ HMB.out.2.2.2).mono ?_
                rintro e wA2 ⟨rfl, bA⟩
                have HMC := Lib.hid (HMB.out.below bA)
                clear bA HMB q0 q1 q2 q3 hpz
                go_wp2_with fail
                go_meet
                exact ⟨rfl, rfl, rfl, HMC⟩
              · have h0 : (e1 == 0) = false := by simpa using h
                obtain ⟨rfl, rfl, rfl⟩ := H11.out h
                clear h
                go_wp2_with fail
                go_meet
                exact ⟨rfl, rfl, rfl, HMA⟩
            case rest => as_aux_lemma =>
              clear HMA H11 C9 C10
              obtain ⟨rfl, rfl, rfl, HMB⟩ := hcut
              go_upto_if 173 with (fail)
              go_cut [31] (fun s31 wd => s31 = .bool uv ∧ Hid (LwM w g4 gW key pk lv bk A l a b wd))
              case first => as_aux_lemma =>
                by_cases h : e2 = 0
                · have G1 := Lib.hid (C12.out h)
                  clear H13 C14 H15 C12
                  subst h
                  obtain ⟨q0, q1, q2, q3⟩ := blk4 HMB.out.2.1
                  have hpz := lt_of_blk HMB.out.2.1
                  obtain ⟨x0, x1, _, _⟩ := blk2 HMB.out.2.2.1
                  have hxz := lt_of_blk HMB.out.2.2.1
                  go_wp2_with fail
                  refine (G1.out _ HMB.out.2.2.2).mono ?_
                  rintro e wA ⟨rfl, bA⟩
                  have HMC := Lib.hid (HMB.out.below bA)
                  clear bA HMB q0 q1 q2 q3 hpz x0 x1 hxz
                  go_wp2_with fail
                  go_meet
                  exact ⟨rfl, HMC⟩
                · have h0 : (e2 == 0) = false := by simpa using h
                  obtain rfl := H13.out h
                  clear h
                  go_wp2_with fail
                  go_meet
                  exact ⟨rfl, HMB⟩
              case rest => as_aux_lemma =>
                clear HMB C12 H13
                obtain ⟨rfl, HMC⟩ := hcut
                go_upto_if 179 with (fail)
                go_cut [32, 33] (fun s32 s33 wd => s32 = .int .i64 ev ∧ s33 = .bool eb ∧ Hid (LwM w g4 gW key pk lv bk A l a b wd))
                case first => as_aux_lemma =>
                  by_cases h : E = 0
                  · have G1 := Lib.hid (C14.out h)
                    clear C14 H15
                    subst h
                    obtain ⟨q0, q1, q2, q3⟩ := blk4 HMC.out.2.1
                    have hpz := lt_of_blk HMC.out.2.1
                    go_wp2_with fail
                    refine (G1.out _ HMC.out.2.2.2).mono ?_
                    rintro e wA ⟨rfl, bA⟩
                    have HMD := Lib.hid (HMC.out.below bA)
                    clear bA HMC q0 q1 q2 q3 hpz
                    go_wp2_with fail
                    go_meet
                    exact ⟨rfl, rfl, HMD⟩
                  · have h0 : (E == 0) = false := by simpa using h
                    obtain ⟨rfl, rfl⟩ := H15.out h
                    clear h
                    go_wp2_with fail
                    go_meet
                    exact ⟨rfl, rfl, HMC⟩
                case rest => as_aux_lemma =>
                  clear HMC C14 H15
                  obtain ⟨rfl, rfl, HMD⟩ := hcut
                  go_wp2_with fail
                  refine (aged_any _).mono ?_
                  rintro e wE ⟨rfl, rfl⟩
                  go_wp2_with fail
                  go_ret
                  exact ⟨rfl, HMD.out.1⟩
end Go.Proofs.YtopnadilfjakiaaDoor
