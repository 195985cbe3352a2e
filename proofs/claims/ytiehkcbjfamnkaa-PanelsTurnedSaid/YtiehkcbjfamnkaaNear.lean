/-
  The walks of areas: those of bodies, and the pairs that are near.
-/
import Derived.Test.YtiehkcbjfamnkaaBod
import Derived.Test.YtiehkcbjfamnkaaGen0
import Derived.Deep.AppendLies
namespace Go.Proofs.Ytiehkcbjfamnkaa
open Go.RowKit

theorem str_info9 : (Try.prog.info? 9).map (fun i => (i.zero, i.size, i.bytes)) = some (some (.string ⟨#[]⟩), 1, 16) := by kernel_rfl
theorem area_info : (Try.prog.info? 135).map (fun i => (i.zero, i.size, i.bytes)) = some (some (.agg #[.int .i64 0, .int .i64 0, .int .i64 0, .int .i64 0]), 4, 32) := by kernel_rfl
/-- Areas, as cells. -/
def flatA (l : List Ar) : List Value := l.flatMap Ar.cells
def encS (s : ByteArray) : List Value := [.string s]
def flatS (l : List ByteArray) : List Value := l.flatMap encS

/-- Something is appended to a row of one's own. -/
theorem below_app {B : Nat} {w0 W w' : World} {row : Option Nat} (hb : Below B w0 W) (hB : B ≤ W.heap.size) (hg : W.grownBy w' row) (hr : ∀ j, row = some j → B ≤ j) : Below B w0 w' := hb.grown hg hB hr

theorem own_below {w w' : World} {base : Nat} {e : TypeId} {size n : Nat} {v : Value} {xs : List Value} (h : w.ownsRow base e size v n xs) (hb : Below w.heap.size w w') : w'.ownsRow base e size v n xs := by
  refine ⟨h.1, h.2.imp_right ?_⟩
  rintro ⟨g, cap, cur, hv, hg, hc, rest⟩
  exact ⟨g, cap, cur, hv, hg, (hb.block _ (lt_of_blk hc)).trans hc, rest⟩
theorem own_lt {w : World} {base : Nat} {e : TypeId} {size n : Nat} {v : Value} {xs : List Value} (h : w.ownsRow base e size v n xs) : ∀ j, v.ownBlock = some j → j < w.heap.size := by
  intro j hj
  rcases h.2 with ⟨rfl, _⟩ | ⟨g, cap, cur, rfl, hb, hc, _⟩
  · simp [Value.ownBlock] at hj
  · simp [Value.ownBlock] at hj
    subst hj
    exact lt_of_blk hc
theorem blk5 {w : World} {g : Nat} {a b c d e : Value} {t : TypeId} (h : w.heap[g]? = some (.cells #[a, b, c, d, e] t (0, 0))) :
    w.cell? ⟨g, 0, none⟩ = some a ∧ w.cell? ⟨g, 1, none⟩ = some b ∧ w.cell? ⟨g, 2, none⟩ = some c ∧ w.cell? ⟨g, 3, none⟩ = some d ∧ w.cell? ⟨g, 4, none⟩ = some e :=
  ⟨by rw [cell_of_blk h]; rfl, by rw [cell_of_blk h]; rfl, by rw [cell_of_blk h]; rfl, by rw [cell_of_blk h]; rfl, by rw [cell_of_blk h]; rfl⟩
def namesOf (b : List Bo) (l : List Pl) : List ByteArray := (l.filterMap (nameBox b)).map Prod.fst
def areasOf (b : List Bo) (l : List Pl) : List Ar := (l.filterMap (nameBox b)).map Prod.snd

theorem namesOf_some {b : List Bo} {p : Pl} {a : Ar} (h : boxOf b p = some a) (l : List Pl) : namesOf b (l ++ [p]) = namesOf b l ++ [p.name] ∧ areasOf b (l ++ [p]) = areasOf b l ++ [a] := by
  have e : [p].filterMap (nameBox b) = [(p.name, a)] := by simp [nameBox, h]
  unfold namesOf areasOf
  rw [List.filterMap_append, e]
  simp
theorem namesOf_none {b : List Bo} {p : Pl} (h : boxOf b p = none) (l : List Pl) : namesOf b (l ++ [p]) = namesOf b l ∧ areasOf b (l ++ [p]) = areasOf b l := by
  have e : [p].filterMap (nameBox b) = [] := by simp [nameBox, h]
  unfold namesOf areasOf
  rw [List.filterMap_append, e]
  simp

theorem boOf_found {b : List Bo} {part : ByteArray} {i : Nat} (h : i < b.length) (hr : Rising Bo.part b) (he : bt b[i].part = bt part) : boOf b part = some b[i] := by
  unfold boOf
  rw [List.find?_eq_some_iff_getElem]
  refine ⟨by simpa using he, i, h, rfl, fun j hj => ?_⟩
  have := hr j i hj h
  rw [he] at this
  simp only [Bool.not_eq_eq_eq_not, Bool.not_true, decide_eq_false_iff_not]
  intro e
  rw [e] at this
  exact List.lt_irrefl _ this
theorem boOf_none {b : List Bo} {part : ByteArray} (h : ∀ x ∈ b, bt x.part ≠ bt part) : boOf b part = none := by
  unfold boOf
  rw [List.find?_eq_none]
  intro x hx
  simpa using h x hx

set_option maxRecDepth 100000 in
set_option maxHeartbeats 4000000 in
theorem bodyAreas_any (key : ByteArray) (W H : Int) (A : Option Addr) (c : Nat) (l : List Pl) (hl : l.length ≤ 1000) (hp : ∀ p ∈ l, (0 ≤ p.x ∧ p.x ≤ 500000) ∧ (0 ≤ p.y ∧ p.y ≤ 500000) ∧ 0 ≤ p.q)
    (B : Option Addr) (d : Nat) (b : List Bo) (hbl : b.length ≤ 1000) (hbo : ∀ o ∈ b, (1 ≤ o.w ∧ o.w ≤ 500000) ∧ (1 ≤ o.h ∧ o.h ≤ 500000)) (hr : Rising Bo.part b) (w : World) (hA : PlAt w A l) (hB : BoAt w B b) :
    Calls Try.prog 79 #[prod key W H A l.length c, .slice B b.length d] w fun e w' => ∃ v1 v2, e = .returned (.tuple #[v1, v2]) ∧ Below w.heap.size w w' ∧
      w'.ownsRow w.heap.size 9 1 v1 (namesOf b l).length (flatS (namesOf b l)) ∧ w'.ownsRow w.heap.size 135 4 v2 (areasOf b l).length (flatA (areasOf b l)) := by
  have HR := Lib.hid hr
  have HP := Lib.hid hp
  have HBO := Lib.hid hbo
  clear hr hp hbo
  go_enter Try.func79, Try.ntmps79
  go_wp2_with fail
  go_loopw [6, 7, 17] (fun v6 v7 kk wr => ∃ k : Nat, k ≤ l.length ∧ kk = .int .i64 k ∧ w.heap.size < wr.heap.size ∧ Hid (Below w.heap.size w wr ∧
    wr.ownsRow (w.heap.size + 1) 9 1 v6 (namesOf b (l.take k)).length (flatS (namesOf b (l.take k))) ∧ wr.ownsRow (w.heap.size + 1) 135 4 v7 (areasOf b (l.take k)).length (flatA (areasOf b (l.take k))) ∧
    (∀ j, v6.ownBlock = some j → v7.ownBlock ≠ some j))) (fun _ _ kk _ => l.length - (intOf kk).toNat)
  case atStart => exact ⟨0, by omega, rfl, by simp, (Below.refl _ _).alloc (Nat.le_refl _) _, World.ownsRow_nil _ _ _ _, World.ownsRow_nil _ _ _ _, by simp [Value.ownBlock]⟩
  case round =>
    obtain ⟨k, hk, rfl, hsz, HS⟩ := hrel
    by_cases hlt : k < l.length
    · obtain ⟨p, hp⟩ : ∃ p, l[k] = p := ⟨_, rfl⟩
      have hpm : p ∈ l := by rw [← hp]; exact List.getElem_mem hlt
      obtain ⟨⟨hx0, hx1⟩, ⟨hy0, hy1⟩, hq0⟩ := HP.out p hpm
      have hT : l.take (k + 1) = l.take k ++ [p] := by rw [List.take_succ_eq_append_getElem hlt, hp]
      rcases hA with rfl | ⟨g, rfl, hrow⟩
      · simp at hlt
      obtain ⟨p0, p1, p2, p3, p4⟩ := row_pl (hrow.below HS.out.1) hlt
      rw [hp] at p0 p1 p2 p3 p4
      obtain ⟨nm, pt, x, y, q⟩ := p
      dsimp only at p0 p1 p2 p3 p4 hx0 hx1 hy0 hy1 hq0
      have hg1 : g < wr.heap.size := Nat.lt_of_lt_of_le hrow.1 HS.out.1.size
      have HT := Lib.hid hT
      have HROW := Lib.hid hrow
      clear hT hp hpm hrow
      go_wp2_with fail
      refine (searchBo_any B d b pt _ (hB.below (HS.out.1.alloc HS.out.1.size _)) hbl HR.out).mono ?_
      rintro e w1 ⟨⟨i, f, rfl, hf1, hf2⟩, hb'⟩
      have hs1 := hb'.size
      have hal : Below wr.heap.size wr w1 := ((Below.refl _ _).alloc (Nat.le_refl _) _).then_below hb'
      have HS1 : Hid (Below w.heap.size w w1 ∧
        w1.ownsRow (w.heap.size + 1) 9 1 u6 (namesOf b (l.take k)).length (flatS (namesOf b (l.take k))) ∧ w1.ownsRow (w.heap.size + 1) 135 4 u7 (areasOf b (l.take k)).length (flatA (areasOf b (l.take k))) ∧
        (∀ j, u6.ownBlock = some j → u7.ownBlock ≠ some j) ∧ w1.heap[wr.heap.size]? = some (.cells #[.string nm, .string pt, .int .i64 x, .int .i64 y, .int .i64 q] 50 (0, 0)) ∧
        (∀ j, u6.ownBlock = some j → j < wr.heap.size) ∧ (∀ j, u7.ownBlock = some j → j < wr.heap.size)) :=
        ⟨HS.out.1.ext hal, own_below HS.out.2.1 hal, own_below HS.out.2.2.1 hal, HS.out.2.2.2, blk_below hb' (blk_new wr _ rfl), own_lt HS.out.2.1, own_lt HS.out.2.2.1⟩
      have hsz1 : wr.heap.size < w1.heap.size := by simp at hs1; omega
      have HF := Lib.hid (And.intro hf1 hf2)
      clear hal hb' hs1 HS p0 p1 p2 p3 p4 hf1 hf2
      cases f
      case false =>
        have hn : boxOf b ⟨nm, pt, x, y, q⟩ = none := by unfold boxOf; rw [boOf_none (HF.out.2 rfl)]; rfl
        have HN := Lib.hid (namesOf_none hn (l.take k))
        clear hn
        go_wp2_with fail
        go_roundw
        case rel => exact ⟨k + 1, by omega, by go_num, by omega, by rw [HT.out, HN.out.1, HN.out.2]; exact ⟨HS1.out.1, HS1.out.2.1, HS1.out.2.2.1, HS1.out.2.2.2.1⟩⟩
        case measure => simp [intOf]; omega
      case true =>
        obtain ⟨hil, hie⟩ := HF.out.1 rfl
        obtain ⟨o, ho⟩ : ∃ o, b[i] = o := ⟨_, rfl⟩
        have hom : o ∈ b := by rw [← ho]; exact List.getElem_mem hil
        obtain ⟨⟨hw0, hw1⟩, hh0, hh1⟩ := HBO.out o hom
        have hbx : boxOf b ⟨nm, pt, x, y, q⟩ = some (arOf ⟨nm, pt, x, y, q⟩ o) := by unfold boxOf; rw [boOf_found hil HR.out hie, ho]; rfl
        have HN := Lib.hid (namesOf_some hbx (l.take k))
        rcases hB with rfl | ⟨gb, rfl, hrb⟩
        · simp at hil
        obtain ⟨_, b1, b2⟩ := row_bo (hrb.below HS1.out.1) hil
        rw [ho] at b1 b2
        have hgb1 : gb < w1.heap.size := Nat.lt_of_lt_of_le hrb.1 HS1.out.1.size
        obtain ⟨c0, c1, c2, c3, c4⟩ := blk5 HS1.out.2.2.2.2.1
        have HRB := Lib.hid hrb
        have hi1 : (0 : Int) ≤ (i : Int) := by omega
        have hi2 : (i : Int) < (b.length : Int) := by omega
        clear ho hom hbx hrb hie
        obtain ⟨op, ow, oh⟩ := o
        dsimp only at b1 b2 hw0 hw1 hh0 hh1
        go_wp2_with fail
        go_quiet ((go_at_call 103; exact Calls.quiet_of_same ((turned_any _ _ _ _ (by omega)).mono fun _ _ h => ⟨h.1, h.2.symm⟩)))
        have hbw : turnW ow oh q = ow ∨ turnW ow oh q = oh := by unfold turnW; split <;> simp
        have hbh : turnH ow oh q = ow ∨ turnH ow oh q = oh := by unfold turnH; split <;> simp
        have hbw' : 1 ≤ turnW ow oh q ∧ turnW ow oh q ≤ 500000 := by omega
        have hbh' : 1 ≤ turnH ow oh q ∧ turnH ow oh q ≤ 500000 := by omega
        have HAR : Hid (arOf ⟨nm, pt, x, y, q⟩ ⟨op, ow, oh⟩ = ⟨2 * x - turnW ow oh q, 2 * x + turnW ow oh q, 2 * y - turnH ow oh q, 2 * y + turnH ow oh q⟩) := rfl
        clear hbw hbh b1 b2 hw0 hw1 hh0 hh1 hi1 hi2
        generalize turnW ow oh q = tw at *
        generalize turnH ow oh q = th at *
        obtain ⟨A6, k6, rfl, _⟩ := own_form HS1.out.2.1
        obtain ⟨A7, k7, rfl, _⟩ := own_form HS1.out.2.2.1
        have hnl : (namesOf b (l.take k)).length ≤ 1000 := by unfold namesOf; rw [List.length_map]; exact Nat.le_trans (List.length_filterMap_le _ _) (by rw [List.length_take]; omega)
        have hal : (areasOf b (l.take k)).length ≤ 1000 := by unfold areasOf; rw [List.length_map]; exact Nat.le_trans (List.length_filterMap_le _ _) (by rw [List.length_take]; omega)
        go_wp2_with (at_builtin; refine hold ?_)
        refine loose ?_
        obtain ⟨i0, hi, hz0, hz1, hz2⟩ := info_parts str_info9
        refine wpList_append_lies _ rfl _ _ 83 rfl (w.heap.size + 1) 9 i0 _ 1 16 Try.underlying83 hi hz0 hz1 hz2 rfl (by omega) _ (namesOf b (l.take k)).length (flatS (namesOf b (l.take k))) rfl ((own_below HS1.out.2.1 ((Below.refl _ _).drawN _)).alloc _) ⟨w1.heap.size, 0, none⟩ 1 1 (encS nm) rfl rfl ?c1 (by intro u hu; simp [encS] at hu; subst hu; rfl) (by omega) ?c2 ?c3 ?c4 (w1.heap.size + 1) ?c5 ?_
        case c1 =>
          intro j u hu
          rw [addr_new, cell_of_blk (blk_new (g := w1.heap.size) _ _ (by simp))]
          simpa [encS] using hu
        case c2 => unfold maxLen; omega
        case c3 => omega
        case c4 => simp; omega
        case c5 => simp
        intro g6 cap6 wA hoA hgA hatA hltA
        have hsA := hgA.size
        simp at hsA
        have h6 : ∀ j, (Value.slice A6 (namesOf b (l.take k)).length k6).ownBlock = some j → j < wr.heap.size := HS1.out.2.2.2.2.2.1
        have h7 : ∀ j, (Value.slice A7 (areasOf b (l.take k)).length k7).ownBlock = some j → j < wr.heap.size := HS1.out.2.2.2.2.2.2
        have r6 := own_row HS1.out.2.1
        have k9 : wA.heap[wr.heap.size]? = some (.cells #[.string nm, .string pt, .int .i64 x, .int .i64 y, .int .i64 q] 50 (0, 0)) := by
          refine (hgA.block wr.heap.size (by simp; omega) (fun e => by have := h6 _ e.symm; omega)).trans ?_
          exact blk_alloc (w := w1.drewN nq) HS1.out.2.2.2.2.1 _
        have HA2 : Hid (Below w.heap.size w wA ∧
            wA.ownsRow (w.heap.size + 1) 9 1 (.slice (some ⟨g6, 0, none⟩) ((namesOf b (l.take k)).length + 1) cap6) ((namesOf b (l.take k)).length + 1) (flatS (namesOf b (l.take k)) ++ encS nm) ∧
            wA.ownsRow (w.heap.size + 1) 135 4 (.slice A7 (areasOf b (l.take k)).length k7) (areasOf b (l.take k)).length (flatA (areasOf b (l.take k))) ∧
            (Value.slice A7 (areasOf b (l.take k)).length k7).ownBlock ≠ some g6 ∧ w.heap.size + 1 ≤ g6) := by
          have o7 : ((w1.drewN nq).alloc (Obj.cells #[.string nm] 9)).ownsRow (w.heap.size + 1) 135 4 (.slice A7 (areasOf b (l.take k)).length k7) (areasOf b (l.take k)).length (flatA (areasOf b (l.take k))) := (own_below HS1.out.2.2.1 ((Below.refl _ _).drawN _)).alloc _
          have hd : (Value.slice A7 (areasOf b (l.take k)).length k7).ownBlock ≠ some g6 := by
            intro e
            rcases hatA with h | h
            · exact HS1.out.2.2.2.1 _ h e
            · have := h7 _ e; omega
          refine ⟨?_, hoA, ?_, hd, ?_⟩
          · exact ((HS1.out.1.drawN nq).alloc (by simpa using HS1.out.1.size) _).grown hgA (by have := HS1.out.1.size; simp; omega) (fun j e => by have := r6 j e; omega)
          · cases hq : (Value.slice A7 (areasOf b (l.take k)).length k7).ownBlock with
            | none => exact o7.kept hgA (.inl hq)
            | some j => exact o7.kept hgA (.inr fun e => HS1.out.2.2.2.1 j (e.symm.trans hq) hq)
          · exact own_row hoA g6 rfl
        have hgA6 : g6 < wA.heap.size := hltA
        obtain ⟨c0, c1, c2, c3, c4⟩ := blk5 k9
        have HT2 := Lib.hid (And.intro h6 (And.intro h7 k9))
        clear hi hz0 hz1 hz2 hoA hgA hatA r6 h6 h7 k9 hltA
        go_wp2_with (at_builtin; refine hold ?_)
        refine loose ?_
        obtain ⟨i0, hi, hz0, hz1, hz2⟩ := info_parts area_info
        refine wpList_append_lies _ rfl _ _ 137 rfl (w.heap.size + 1) 135 i0 _ 4 32 Try.underlying137 hi hz0 hz1 hz2 rfl (by omega) _ (areasOf b (l.take k)).length (flatA (areasOf b (l.take k))) rfl (HA2.out.2.2.1.alloc _) ⟨wA.heap.size, 0, none⟩ 1 1 (Ar.cells ⟨2 * x - tw, 2 * x + tw, 2 * y - th, 2 * y + th⟩) rfl rfl ?d1 (by intro u hu; simp [Ar.cells] at hu; rcases hu with rfl | rfl | rfl | rfl <;> rfl) (by omega) ?d2 ?d3 ?d4 (wA.heap.size + 1) ?d5 ?_
        case d1 =>
          intro j u hu
          rw [addr_new, cell_of_blk (blk_new (g := wA.heap.size) _ _ rfl)]
          simpa [Ar.cells] using hu
        case d2 => unfold maxLen; omega
        case d3 => omega
        case d4 => simp; omega
        case d5 => simp
        intro g7 cap7 wB hoB hgB hatB hltB
        have hsB := hgB.size
        simp at hsB
        have HFIN : Hid (Below w.heap.size w wB ∧
            wB.ownsRow (w.heap.size + 1) 9 1 (.slice (some ⟨g6, 0, none⟩) ((namesOf b (l.take k)).length + 1) cap6) (namesOf b (l.take (k + 1))).length (flatS (namesOf b (l.take (k + 1)))) ∧
            wB.ownsRow (w.heap.size + 1) 135 4 (.slice (some ⟨g7, 0, none⟩) ((areasOf b (l.take k)).length + 1) cap7) (areasOf b (l.take (k + 1))).length (flatA (areasOf b (l.take (k + 1)))) ∧
            (∀ j, (Value.slice (some ⟨g6, 0, none⟩) ((namesOf b (l.take k)).length + 1) cap6).ownBlock = some j → (Value.slice (some ⟨g7, 0, none⟩) ((areasOf b (l.take k)).length + 1) cap7).ownBlock ≠ some j)) := by
          have r7 := own_row HA2.out.2.2.1
          refine ⟨(HA2.out.1.alloc HA2.out.1.size _).grown hgB (by have := HA2.out.1.size; simp; omega) (fun j e => by have := r7 j e; omega), ?_, ?_, ?_⟩
          · rw [HT.out, HN.out.1, List.length_append]
            have e1 : flatS (namesOf b (l.take k) ++ [nm]) = flatS (namesOf b (l.take k)) ++ encS nm := by simp [flatS]
            rw [e1]
            exact (HA2.out.2.1.alloc _).kept hgB (.inr (fun e => HA2.out.2.2.2.1 e.symm))
          · rw [HT.out, HN.out.2, List.length_append]
            have e1 : flatA (areasOf b (l.take k) ++ [arOf ⟨nm, pt, x, y, q⟩ ⟨op, ow, oh⟩]) = flatA (areasOf b (l.take k)) ++ Ar.cells ⟨2 * x - tw, 2 * x + tw, 2 * y - th, 2 * y + th⟩ := by rw [HAR.out]; simp [flatA]
            rw [e1]
            exact hoB
          · rintro j e e2
            simp [Value.ownBlock] at e e2
            subst e
            rcases hatB with h | h
            · exact HA2.out.2.2.2.1 (Eq.trans h (by rw [e2]))
            · omega
        clear hi hz0 hz1 hz2 hoB hgB hatB hltB
        go_wp2_with fail
        go_roundw
        case rel => exact ⟨k + 1, by omega, by go_num, by omega, HFIN.out⟩
        case measure => simp [intOf]; omega
    · have hk2 : k = l.length := by omega
      subst hk2
      have HL : Hid (l.take l.length = l) := List.take_length
      obtain ⟨A6, k6, rfl, _⟩ := own_form HS.out.2.1
      obtain ⟨A7, k7, rfl, _⟩ := own_form HS.out.2.2.1
      go_wp2_with fail
      go_ret2
      refine ⟨_, _, rfl, HS.out.1, ?_, ?_⟩
      · have h1 := HS.out.2.1
        have h2 := own_mono h1 (show w.heap.size ≤ w.heap.size + 1 by omega)
        rw [HL.out] at h2 ⊢
        exact h2
      · have h1 := HS.out.2.2.1
        have h2 := own_mono h1 (show w.heap.size ≤ w.heap.size + 1 by omega)
        rw [HL.out] at h2 ⊢
        exact h2
end Go.Proofs.Ytiehkcbjfamnkaa
