/-
  slices.Concat at two lists; slices.EqualFunc at lists that are equal.
-/
import Derived.Test.YtjmjmijjdgolfaaSeY
namespace Go.Proofs.Ytjmjmijjdgolfaa
open Go.RowKit
set_option linter.unusedSimpArgs false
set_option linter.unusedVariables false

def Sz (a b : Nat) (v3 v11 : Value) : Prop := (v11 = .int .i64 0 ∧ v3 = .int .i64 0) ∨ (v11 = .int .i64 1 ∧ v3 = .int .i64 a) ∨ (v11 = .int .i64 2 ∧ v3 = .int .i64 ((a : Int) + b))
def Cc (w : World) (L1 L2 : List (List ByteArray)) (v6 v27 : Value) (wr : World) : Prop :=
  Below w.heap.size w wr ∧ ((v27 = .int .i64 0 ∧ LsA w.heap.size 0 [] [] v6 wr) ∨ (v27 = .int .i64 1 ∧ ∃ us, LsA w.heap.size L1.length us L1 v6 wr) ∨ (v27 = .int .i64 2 ∧ ∃ us, LsA w.heap.size (L1.length + L2.length) us (L1 ++ L2) v6 wr))
set_option maxHeartbeats 2000000 in
theorem concat_any {b1 b2 : Nat} {L1 L2 : List (List ByteArray)} {v1 v2 : Value} {g : Nat} {w : World} (hg : w.heap[g]? = some (.cells #[v1, v2] 54 (0, 0))) (h1 : ListsF b1 v1 L1 w) (h2 : ListsF b2 v2 L2 w) (hl : 1 ≤ L1.length + L2.length) (hu : L1.length + L2.length ≤ 1000000) :
    Calls Try.prog 46 #[.slice (some ⟨g, 0, none⟩) 2 2] w fun e w' => ∃ v, e = .returned v ∧ Below w.heap.size w w' ∧ ListsF 0 v (L1 ++ L2) w' := by
  have HG := Lib.hid (And.intro hg (And.intro h1 h2))
  have CG := Lib.hid (grow_any (L1.length + L2.length) hl hu w)
  have e9 : ((L1.length + L2.length : Nat) : Int) = (L1.length : Int) + (L2.length : Int) := by omega
  rw [e9] at CG
  clear e9
  obtain ⟨A1, c1, rfl, _, _⟩ := h1
  obtain ⟨A2, c2, rfl, _, _⟩ := h2
  have hgl := lt_of_blk hg
  have p0 : w.cell? ⟨g, 0, none⟩ = some (.slice A1 L1.length c1) := by rw [cell_of_blk hg]; rfl
  have p1 : w.cell? ⟨g, 1, none⟩ = some (.slice A2 L2.length c2) := by rw [cell_of_blk hg]; rfl
  have HP := Lib.hid (And.intro p0 p1)
  clear hg p0 p1
  go_enter Try.func46, Try.ntmps46
  go_wp2_with fail
  go_loopw [3, 11] (fun v3 v11 wr => wr = w ∧ Sz L1.length L2.length v3 v11) (fun _ kk _ => 2 - (intOf kk).toNat)
  case atStart => exact ⟨rfl, .inl ⟨rfl, rfl⟩⟩
  case round =>
    obtain ⟨rfl, hk⟩ := hrel
    obtain ⟨p0, p1⟩ := HP.out
    rcases hk with ⟨rfl, rfl⟩ | ⟨rfl, rfl⟩ | ⟨rfl, rfl⟩
    · have hn0 : ¬ ((L1.length : Int) < 0) := by omega
      go_wp2_with fail
      go_roundw
      case rel => exact ⟨trivial, .inr (.inl ⟨rfl, by go_num⟩)⟩
      case measure => simp [intOf]
    · have hn0 : ¬ ((L1.length : Int) + (L2.length : Int) < 0) := by omega
      go_wp2_with fail
      go_roundw
      case rel => exact ⟨trivial, .inr (.inr ⟨rfl, rfl⟩)⟩
      case measure => simp [intOf]
    · clear p0 p1
      obtain ⟨wo, rfl⟩ : ∃ wo : World, wo = wr := ⟨_, rfl⟩
      go_wp2_with fail
      refine CG.out.mono ?_
      rintro e w1 ⟨v6, rfl, hls, hb⟩
      have H1 : Hid (Cc wo L1 L2 v6 (.int .i64 0) w1) := ⟨hb, .inl ⟨rfl, hls⟩⟩
      clear hls hb CG
      go_wp2_with fail
      go_loopw [6, 27] (fun v6 v27 wq => Hid (Cc wo L1 L2 v6 v27 wq)) (fun _ kk _ => 2 - (intOf kk).toNat)
      case atStart => exact H1
      case round =>
        clear H1
        obtain ⟨hb, hk⟩ := hrel.out
        have hz : wo.heap.size ≤ wr.heap.size := hb.size
        have p0 : wr.cell? ⟨g, 0, none⟩ = some (.slice A1 L1.length c1) := (hb.cell (p := ⟨g, 0, none⟩) hgl).trans HP.out.1
        have p1 : wr.cell? ⟨g, 1, none⟩ = some (.slice A2 L2.length c2) := (hb.cell (p := ⟨g, 1, none⟩) hgl).trans HP.out.2
        have HB := Lib.hid hb
        clear hb hrel
        rcases hk with ⟨rfl, hls⟩ | ⟨rfl, us, hls⟩ | ⟨rfl, us, hls⟩
        · have HLS := Lib.hid hls
          have HM := Lib.hid (HG.out.2.1.below HB.out)
          clear hls p1
          go_wp2_with (at_builtin; refine hold ?_)
          refine loose ?_
          refine wpList_append_lists rfl _ _ rfl rfl HLS.out rfl HM.out hz (by omega) ?_
          intro v' us' w2 hls' hg'
          have HF : Hid (Cc wo L1 L2 v' (.int .i64 1) w2) := ⟨HB.out.grown hg' hz (own_row HLS.out.2.2.1), .inr (.inl ⟨rfl, us', by rw [Nat.zero_add, List.nil_append] at hls'; exact hls'⟩)⟩
          clear hls' hg' HLS HM p0
          go_wp2_with fail
          go_roundw
          case rel => exact HF
          case measure => simp [intOf]
        · have HLS := Lib.hid hls
          have HM := Lib.hid (HG.out.2.2.below HB.out)
          clear hls p0
          go_wp2_with (at_builtin; refine hold ?_)
          refine loose ?_
          refine wpList_append_lists rfl _ _ rfl rfl HLS.out rfl HM.out hz (by omega) ?_
          intro v' us' w2 hls' hg'
          have HF : Hid (Cc wo L1 L2 v' (.int .i64 2) w2) := ⟨HB.out.grown hg' hz (own_row HLS.out.2.2.1), .inr (.inr ⟨rfl, us', hls'⟩)⟩
          clear hls' hg' HLS HM p1
          go_wp2_with fail
          go_roundw
          case rel => exact HF
          case measure => simp [intOf]
        · have HLS := Lib.hid hls
          clear hls p0 p1
          go_wp2_with fail
          go_ret
          exact ⟨_, rfl, HB.out, HLS.out.lists⟩
set_option maxHeartbeats 2000000 in
theorem equalLists_any (L : List (List ByteArray)) (hL : L.length ≤ 100000) (hLL : ∀ l ∈ L, l.length ≤ 100000) {b1 b2 : Nat} {v1 v2 : Value} {w : World} (h1 : ListsF b1 v1 L w) (h2 : ListsF b2 v2 L w) :
    Calls Try.prog 50 #[v1, v2, .func (.func 39) #[] #[]] w fun e w' => e = .returned (.bool true) ∧ Below w.heap.size w w' := by
  have HH := Lib.hid (And.intro h1 h2)
  obtain ⟨A1, c1, rfl, _, _⟩ := h1
  obtain ⟨A2, c2, rfl, _, _⟩ := h2
  go_enter Try.func50, Try.ntmps50
  go_wp2_with fail
  go_loopw [17] (fun kk wr => ∃ k : Nat, k ≤ L.length ∧ kk = .int .i64 k ∧ Hid (Below w.heap.size w wr)) (fun kk _ => L.length - (intOf kk).toNat)
  case atStart => exact ⟨0, by omega, rfl, Below.refl _ _⟩
  case round =>
    obtain ⟨k, hk, rfl, HB⟩ := hrel
    by_cases hlt : k < L.length
    · obtain ⟨A1', c1', e1, _, hr1⟩ := HH.out.1.below HB.out
      obtain ⟨A2', c2', e2, _, hr2⟩ := HH.out.2.below HB.out
      cases e1
      cases e2
      rcases hr1 with hr | ⟨g1, o1, rfl, _, hl1, hc1⟩
      · subst hr; simp at hlt
      rcases hr2 with hr | ⟨g2, o2, rfl, _, hl2, hc2⟩
      · subst hr; simp at hlt
      obtain ⟨u1, q1, hu1⟩ := hc1 k hlt
      obtain ⟨u2, q2, hu2⟩ := hc2 k hlt
      have i1 : (0 : Int) ≤ (k : Int) := by omega
      have i2 : (k : Int) < (L.length : Int) := by omega
      have CE := Lib.hid (equalStr_any L[k] (by have := hLL _ (List.getElem_mem hlt); omega) u1 u2 wr hu1.reads hu2.reads)
      clear hc1 hc2 hu1 hu2
      go_wp2_with fail
      refine CE.out.mono ?_
      rintro e w' ⟨rfl, hb⟩
      have HB2 := Lib.hid (HB.out.then_below hb HB.out.size)
      clear hb
      go_wp2_with fail
      go_roundw
      case rel => exact ⟨k + 1, by omega, by go_num, HB2⟩
      case measure => simp [intOf]; omega
    · go_wp2_with fail
      go_ret
      exact ⟨rfl, HB.out⟩
end Go.Proofs.Ytjmjmijjdgolfaa
