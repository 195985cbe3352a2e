/-
  The walks of Outside, and of the reference's.
-/
import Derived.Test.YtiehkcbjfamnkaaPanA
namespace Go.Proofs.Ytiehkcbjfamnkaa
open Go.RowKit

def flatNat (l : List Nat) : List Value := l.flatMap natC
theorem int_info : (Try.prog.info? 3).map (fun i => (i.zero, i.size, i.bytes)) = some (some (.int .i64 0), 1, 8) := by kernel_rfl

/-- What both begin with: the product and the panel in memory. -/
def PanB (w wP : World) (key : ByteArray) (W H : Int) (A : Option Addr) (n c : Nat) (PW PH : Int) (B : Option Addr) (m d : Nat) : Prop :=
  wP.heap[w.heap.size]? = some (.cells #[.string key, .int .i64 W, .int .i64 H, .slice A n c] 28 (0, 0)) ∧ wP.heap[w.heap.size + 1]? = some (.cells #[.int .i64 PW, .int .i64 PH, .slice B m d] 32 (0, 0)) ∧ Below w.heap.size w wP ∧ w.heap.size + 1 < wP.heap.size

set_option maxRecDepth 100000 in
set_option maxHeartbeats 4000000 in
theorem outside_any (key : ByteArray) (W H : Int) (A : Option Addr) (c : Nat) (l : List Pl) (hl : l.length ≤ 4611686018427387904) (PW PH : Int) (B : Option Addr) (d : Nat) (s : List Sl) (hsl : s.length ≤ 4611686018427387904) (w : World) (hA : PlAt w A l) (hB : SlAt w B s) :
    Calls Try.prog 27 #[prod key W H A l.length c, pan PW PH B s.length d] w fun e w' => ∃ v, e = .returned (.tuple #[v, .int .i64 (panErr key W H l PW PH s)]) ∧ Below w.heap.size w w' ∧ Reads natC v (if panErr key W H l PW PH s = 0 then outs W H PW PH s s.length else []) w' := by
  have CP := Lib.hid (fun (W' : World) (h : PlAt W' A l) (h2 : SlAt W' B s) => checkPanel_any key W H A c l hl PW PH B d s hsl W' h h2)
  by_cases h1 : panErr key W H l PW PH s = 0
  rotate_left
  · rw [if_neg h1]
    generalize panErr key W H l PW PH s = E at *
    have h2 : (E != 0) = true := by simpa using h1
    clear h1
    go_enter Try.func27, Try.ntmps27
    go_wp2_with fail
    refine (CP.out _ (hA.below (((Below.refl _ _).alloc (Nat.le_refl _) _).alloc (by simp) _)) (hB.below (((Below.refl _ _).alloc (Nat.le_refl _) _).alloc (by simp) _))).mono ?_
    rintro e w1 ⟨rfl, b1⟩
    have HB1 := Lib.hid ((((Below.refl w.heap.size w).alloc (Nat.le_refl _) _).alloc (by simp) _).then_below b1 (by simp; omega))
    clear b1
    go_wp2_with fail
    go_ret2
    exact ⟨_, rfl, HB1.out, none, 0, rfl, .inl rfl⟩
  · rw [if_pos h1]
    obtain ⟨_, _, ho⟩ := pan_ok h1
    rw [h1] at CP ⊢
    have hsl2 := ho.slen
    have HO := Lib.hid ho
    clear h1 ho
    go_enter Try.func27, Try.ntmps27
    go_wp2_with fail
    have kP : PanB w ((w.alloc (Obj.cells #[.string key, .int .i64 W, .int .i64 H, .slice A l.length c] 28)).alloc (Obj.cells #[.int .i64 PW, .int .i64 PH, .slice B s.length d] 32)) key W H A l.length c PW PH B s.length d := ⟨blk_alloc (blk_new w _ rfl) _, blk_new _ _ (by simp), ((Below.refl _ _).alloc (Nat.le_refl _) _).alloc (by simp) _, by simp⟩
    generalize ((w.alloc (Obj.cells #[.string key, .int .i64 W, .int .i64 H, .slice A l.length c] 28)).alloc (Obj.cells #[.int .i64 PW, .int .i64 PH, .slice B s.length d] 32)) = wP at *
    have KP := Lib.hid kP
    clear kP
    refine (CP.out _ (hA.below KP.out.2.2.1) (hB.below KP.out.2.2.1)).mono ?_
    rintro e w1 ⟨rfl, b1⟩
    have KQ : Hid (PanB w w1 key W H A l.length c PW PH B s.length d) := ⟨blk_below b1 KP.out.1, blk_below b1 KP.out.2.1, KP.out.2.2.1.then_below b1 KP.out.2.2.1.size, Nat.lt_of_lt_of_le KP.out.2.2.2 b1.size⟩
    clear b1 KP
    obtain ⟨e0, e1, e2, hPl⟩ := blk3 KQ.out.2.1
    go_wp2_with fail
    clear e0 e1 e2 hPl
    go_loopw [7, 20] (fun v kk wr => ∃ i : Nat, i ≤ s.length ∧ kk = .int .i64 i ∧ Hid (Below w1.heap.size w1 wr ∧ wr.ownsRow w1.heap.size 3 1 v (outs W H PW PH s i).length (flatNat (outs W H PW PH s i)))) (fun _ kk _ => s.length - (intOf kk).toNat)
    case atStart => exact ⟨0, by omega, rfl, Below.refl _ _, World.ownsRow_nil _ _ _ _⟩
    case round =>
      obtain ⟨i, hi, rfl, HS⟩ := hrel
      have hac := outs_len W H PW PH s i
      by_cases hlt : i < s.length
      · obtain ⟨p, hp⟩ : ∃ p, s[i] = p := ⟨_, rfl⟩
        obtain ⟨hx, hy, hq0, hq1⟩ := HO.out.sl p (by rw [← hp]; exact List.getElem_mem hlt)
        have hnx := outs_next W H PW PH s hlt
        rw [hp] at hnx
        rcases hB with rfl | ⟨g, rfl, hrow⟩
        · simp at hlt
        have hr2 := (hrow.below KQ.out.2.2.1).below HS.out.1
        obtain ⟨p0, p1, p2, p3⟩ := row_sl hr2 hlt
        rw [hp] at p0 p1 p2 p3
        have hg := hr2.1
        obtain ⟨b0, b1, b2, b3⟩ := blk4 (blk_below HS.out.1 KQ.out.1)
        have hwP : w.heap.size + 1 < wr.heap.size := Nat.lt_of_lt_of_le KQ.out.2.2.2 HS.out.1.size
        have hwP0 : w.heap.size < wr.heap.size := by omega
        have CA := Lib.hid (fun W' => boardArea_any key W H A l.length c p W' HO.out.w HO.out.h hx hy hq0)
        have HNX := Lib.hid hnx
        have HROW := Lib.hid hrow
        have HOB : Hid (outB W H PW PH p = (decide (PW < (slAr W H p).xt) || decide (PH < (slAr W H p).yt))) := rfl
        clear hp hnx hrow hr2 hx hy hq0 hq1
        generalize slAr W H p = a at *
        obtain ⟨x, y, q, sk⟩ := p
        obtain ⟨axf, axt, ayf, ayt⟩ := a
        dsimp only at *
        obtain ⟨A7, k7, rfl, _⟩ := own_form HS.out.2
        go_wp2_with fail
        refine (CA.out _).mono ?_
        rintro e w2 ⟨rfl, b2⟩
        have hal : Below wr.heap.size wr w2 := ((Below.refl _ _).alloc (Nat.le_refl _) _).then_below b2
        have HS2 : Hid (Below w1.heap.size w1 w2 ∧ w2.ownsRow w1.heap.size 3 1 (.slice A7 (outs W H PW PH s i).length k7) (outs W H PW PH s i).length (flatNat (outs W H PW PH s i))) := ⟨HS.out.1.ext hal, own_below HS.out.2 hal⟩
        obtain ⟨e0, e1, e2, _⟩ := blk3 (blk_below HS2.out.1 KQ.out.2.1)
        have hs2 : w.heap.size + 1 < w2.heap.size := Nat.lt_of_lt_of_le hwP hal.size
        clear hal b2 HS p0 p1 p2 p3 b0 b1
        by_cases hxx : PW < axt
        · have HT : Hid (outs W H PW PH s (i + 1) = outs W H PW PH s i ++ [i]) := HNX.out.trans (by rw [HOB.out]; simp [hxx])
          go_wp2_with (at_builtin; refine hold ?_)
          refine loose ?_
          obtain ⟨i0, hi0, hz0, hz1, hz2⟩ := info_parts int_info
          refine wpList_append_own _ rfl _ _ 22 rfl w1.heap.size 3 i0 _ 1 8 Try.underlying22 hi0 hz0 hz1 hz2 rfl (by omega) _ (outs W H PW PH s i).length (flatNat (outs W H PW PH s i)) rfl ((HS2.out.2.alloc _).alloc _) ⟨w2.heap.size + 1, 0, none⟩ 1 1 (natC i) rfl rfl ?_ (by intro u hu; simp [natC] at hu; subst hu; rfl) (by unfold maxLen; omega) (by omega) (by have := HS2.out.1.size; simp; omega) ?_
          · intro j u hu
            rw [addr_new, cell_of_blk (blk_new (g := w2.heap.size + 1) _ _ (by simp))]
            simpa [natC] using hu
          intro v' w' hown' hg' _
          have HF : Hid (Below w1.heap.size w1 w' ∧ w'.ownsRow w1.heap.size 3 1 v' (outs W H PW PH s (i + 1)).length (flatNat (outs W H PW PH s (i + 1)))) := by
            refine ⟨((HS2.out.1.alloc HS2.out.1.size _).alloc (by have := HS2.out.1.size; simp; omega) _).grown hg' (by have := HS2.out.1.size; simp; omega) (fun j e => own_row HS2.out.2 j e), ?_⟩
            rw [HT.out, List.length_append]
            have e1 : flatNat (outs W H PW PH s i ++ [i]) = flatNat (outs W H PW PH s i) ++ natC i := by simp [flatNat]
            rw [e1]
            exact hown'
          clear hown' hg' hi0 hz0 hz1 hz2
          go_wp2_with fail
          go_roundw
          case rel => exact ⟨i + 1, by omega, by go_num, HF⟩
          case measure => simp [intOf]; omega
        · by_cases hyy : PH < ayt
          · have HT : Hid (outs W H PW PH s (i + 1) = outs W H PW PH s i ++ [i]) := HNX.out.trans (by rw [HOB.out]; simp [hxx, hyy])
            go_wp2_with (at_builtin; refine hold ?_)
            refine loose ?_
            obtain ⟨i0, hi0, hz0, hz1, hz2⟩ := info_parts int_info
            refine wpList_append_own _ rfl _ _ 22 rfl w1.heap.size 3 i0 _ 1 8 Try.underlying22 hi0 hz0 hz1 hz2 rfl (by omega) _ (outs W H PW PH s i).length (flatNat (outs W H PW PH s i)) rfl ((HS2.out.2.alloc _).alloc _) ⟨w2.heap.size + 1, 0, none⟩ 1 1 (natC i) rfl rfl ?_ (by intro u hu; simp [natC] at hu; subst hu; rfl) (by unfold maxLen; omega) (by omega) (by have := HS2.out.1.size; simp; omega) ?_
            · intro j u hu
              rw [addr_new, cell_of_blk (blk_new (g := w2.heap.size + 1) _ _ (by simp))]
              simpa [natC] using hu
            intro v' w' hown' hg' _
            have HF : Hid (Below w1.heap.size w1 w' ∧ w'.ownsRow w1.heap.size 3 1 v' (outs W H PW PH s (i + 1)).length (flatNat (outs W H PW PH s (i + 1)))) := by
              refine ⟨((HS2.out.1.alloc HS2.out.1.size _).alloc (by have := HS2.out.1.size; simp; omega) _).grown hg' (by have := HS2.out.1.size; simp; omega) (fun j e => own_row HS2.out.2 j e), ?_⟩
              rw [HT.out, List.length_append]
              have e1 : flatNat (outs W H PW PH s i ++ [i]) = flatNat (outs W H PW PH s i) ++ natC i := by simp [flatNat]
              rw [e1]
              exact hown'
            clear hown' hg' hi0 hz0 hz1 hz2
            go_wp2_with fail
            go_roundw
            case rel => exact ⟨i + 1, by omega, by go_num, HF⟩
            case measure => simp [intOf]; omega
          · have HT : Hid (outs W H PW PH s (i + 1) = outs W H PW PH s i) := HNX.out.trans (by rw [HOB.out]; simp [hxx, hyy])
            have HF : Hid (Below w1.heap.size w1 (w2.alloc (.cells #[.int .i64 axf, .int .i64 axt, .int .i64 ayf, .int .i64 ayt] 135)) ∧ (w2.alloc (.cells #[.int .i64 axf, .int .i64 axt, .int .i64 ayf, .int .i64 ayt] 135)).ownsRow w1.heap.size 3 1 (.slice A7 (outs W H PW PH s i).length k7) (outs W H PW PH s (i + 1)).length (flatNat (outs W H PW PH s (i + 1)))) := by
              rw [HT.out]
              exact ⟨HS2.out.1.alloc HS2.out.1.size _, HS2.out.2.alloc _⟩
            go_wp2_with fail
            go_roundw
            case rel => exact ⟨i + 1, by omega, by go_num, HF⟩
            case measure => simp [intOf]; omega
      · obtain rfl : i = s.length := by omega
        obtain ⟨A7, k7, rfl, _⟩ := own_form HS.out.2
        go_wp2_with fail
        go_ret2
        exact ⟨_, rfl, KQ.out.2.2.1.then_below HS.out.1 KQ.out.2.2.1.size, reads_own HS.out.2⟩
end Go.Proofs.Ytiehkcbjfamnkaa
