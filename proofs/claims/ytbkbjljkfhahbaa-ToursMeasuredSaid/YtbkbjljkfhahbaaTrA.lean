/-
  Improved: the reference.
-/
import Derived.Test.YtbkbjljkfhahbaaTqZ
import Derived.Deep.LoopGhost
namespace Go.Proofs.Ytbkbjljkfhahbaa
open Go.RowKit
set_option linter.unusedSimpArgs false
set_option linter.unusedVariables false

theorem FirstT.len {s : Int × Int} {l : List (Int × Int)} {o r : List Int} (h : FirstT s l o r true) : r.length = o.length := by
  rcases h with ⟨_, i, k, h1, h2, _, _, rfl⟩ | ⟨h, _⟩
  · exact tl_len (by omega) h2
  · cases h

set_option maxRecDepth 100000 in
set_option maxHeartbeats 16000000 in
theorem improvedRef_any (s : Int × Int) (l : List (Int × Int)) (o : List Int) (hs : okPt s = true) (hl : ∀ p ∈ l, okPt p = true) (hln : l.length ≤ 1000) (hol : o.length ≤ 1000) (ho : ∀ k ∈ o, 0 ≤ k ∧ k < (l.length : Int)) {pv ov : Value} (w : World) (h1 : Reads encP pv l w) (h2 : Reads encN ov o w) :
    Calls Try.prog 16 #[.agg #[.int .i64 s.1, .int .i64 s.2], pv, ov] w fun e w' => ∃ v, e = .returned (.tuple #[v, .int .i64 (lenOf s l (impL s l o))]) ∧ w'.ownsRow w.heap.size 3 1 v (impL s l o).length ((impL s l o).map (Value.int .i64)) ∧ Below w.heap.size w w' := by
  have HP := Lib.hid h1
  have CK := Lib.hid (fun (W : World) (h : Reads encN ov o W) => cloneN_any o hol h)
  have CS := Lib.hid (fun (o' : List Int) (v : Value) (W : World) (hol : o'.length ≤ 1000) (ho : ∀ k ∈ o', 0 ≤ k ∧ k < (l.length : Int)) (h1 : Reads encP pv l W) (h2 : Reads encN v o' W) => shorterRef_any s l o' hs hl hln hol ho W h1 h2)
  have CL := Lib.hid (fun (o' : List Int) (v : Value) (W : World) (hol : o'.length ≤ 1000) (ho : ∀ k ∈ o', 0 ≤ k ∧ k < (l.length : Int)) (h1 : Reads encP pv l W) (h2 : Reads encN v o' W) => lengthOf_any s l o' hs hl hln hol ho W h1 h2)
  have HSL := Lib.hid (And.intro hs hl)
  have HO := Lib.hid h2
  have HOO := Lib.hid ho
  obtain ⟨s1, s2⟩ := s
  obtain ⟨Ao, co, rfl, _⟩ := h2
  clear ho hs hl h1
  dsimp only at *
  have H0 : Hid (Below w.heap.size w (w.alloc (.cells #[.int .i64 s1, .int .i64 s2] 27)) ∧ (w.alloc (.cells #[.int .i64 s1, .int .i64 s2] 27)).heap[w.heap.size]? = some (.cells #[.int .i64 s1, .int .i64 s2] 27 (0, 0))) := ⟨(Below.refl _ _).alloc (Nat.le_refl _) _, blk_new w _ rfl⟩
  go_enter Try.func16, Try.ntmps16
  go_upto_region 1 with (fail)
  generalize w.alloc (.cells #[.int .i64 s1, .int .i64 s2] 27) = w0 at *
  go_wp2_with fail
  refine (CK.out w0 (HO.out.below H0.out.1)).mono ?_
  rintro e w1 ⟨v1, rfl, o1, b1⟩
  have H1 : Hid (Below w.heap.size w w1 ∧ w1.heap[w.heap.size]? = some (.cells #[.int .i64 s1, .int .i64 s2] 27 (0, 0)) ∧ w1.ownsRow w.heap.size 3 1 v1 o.length (o.map (Value.int .i64))) := ⟨H0.out.1.then_below b1 H0.out.1.size, blk_below b1 H0.out.2, own_mono o1 H0.out.1.size⟩
  clear o1 b1 CK H0
  go_wp2_with fail
  go_loopg [2] (lenOf (s1, s2) l o).toNat (fun g v2 wr => ∃ cur : List Int, g = (lenOf (s1, s2) l cur).toNat ∧ Hid (cur.length = o.length) ∧ Hid (∀ r, Imp (s1, s2) l cur r → Imp (s1, s2) l o r) ∧ Hid (∀ k ∈ cur, 0 ≤ k ∧ k < (l.length : Int)) ∧ Hid (Below w.heap.size w wr ∧ wr.heap[w.heap.size]? = some (.cells #[.int .i64 s1, .int .i64 s2] 27 (0, 0)) ∧ wr.ownsRow w.heap.size 3 1 v2 cur.length (cur.map (Value.int .i64))))
  case atStart => exact ⟨o, rfl, rfl, fun _ h => h, HOO.out, H1⟩
  case round =>
    obtain ⟨cur, rfl, HN, HI, HR, HS⟩ := hrel
    clear H1
    have HRD := Lib.hid (readsN_own HS.out.2.2)
    obtain ⟨A, c, rfl, _⟩ := own_form HS.out.2.2
    obtain ⟨c0, c00, _, _⟩ := blk2 HS.out.2.1
    have hgl := lt_of_blk HS.out.2.1
    go_wp2_with fail
    refine (CS.out cur _ wr (by rw [HN.out]; exact hol) HR.out (HP.out.below HS.out.1) HRD.out).mono ?_
    rintro e w2 ⟨v2, b, r, rfl, hF, o2, b2⟩
    have H2 : Hid (Below w.heap.size w w2 ∧ w2.heap[w.heap.size]? = some (.cells #[.int .i64 s1, .int .i64 s2] 27 (0, 0)) ∧ w2.ownsRow w.heap.size 3 1 v2 r.length (r.map (Value.int .i64)) ∧ w2.ownsRow w.heap.size 3 1 (.slice A cur.length c) cur.length (cur.map (Value.int .i64))) := ⟨HS.out.1.then_below b2 HS.out.1.size, blk_below b2 HS.out.2.1, own_mono o2 HS.out.1.size, own_below HS.out.2.2 b2⟩
    clear o2 b2 HS c0 c00 hgl HRD
    cases b
    · have HD : Hid (impL (s1, s2) l o = cur) := by
        rcases hF with ⟨h, _⟩ | ⟨_, _, h⟩
        · cases h
        · exact (HI.out cur (.done cur h)).eq.symm
      clear hF
      obtain ⟨c0, c00, _, _⟩ := blk2 H2.out.2.1
      have hgl := lt_of_blk H2.out.2.1
      go_wp2_with fail
      refine (CL.out cur _ w2 (by rw [HN.out]; exact hol) HR.out (HP.out.below H2.out.1) (readsN_own H2.out.2.2.2)).mono ?_
      rintro e w3 ⟨rfl, b3⟩
      have H3 : Hid (Below w.heap.size w w3 ∧ w3.ownsRow w.heap.size 3 1 (.slice A cur.length c) cur.length (cur.map (Value.int .i64))) := ⟨H2.out.1.then_below b3 H2.out.1.size, own_below H2.out.2.2.2 b3⟩
      clear b3 H2 c0 c00 hgl
      go_wp2_with fail
      refine bodyPost_ret (v := .tuple #[.slice A cur.length c, .int .i64 (lenOf (s1, s2) l cur)]) (by unfold results; simp only [Try.results16]; go_simp) rfl ⟨_, by rw [HD.out], by rw [HD.out]; exact H3.out.2, H3.out.1⟩
    · have HL : Hid (r.length = cur.length ∧ (∀ r', Imp (s1, s2) l r r' → Imp (s1, s2) l o r') ∧ (∀ k ∈ r, 0 ≤ k ∧ k < (l.length : Int)) ∧ (lenOf (s1, s2) l r).toNat < (lenOf (s1, s2) l cur).toNat) := by
        rcases hF with ⟨_, i, k, h1, h2, h3, h4, rfl⟩ | ⟨h, _⟩
        · refine ⟨tl_len (by omega) h2, Imp.back HI.out h1 h2 h3 h4, fun x hx => HR.out x (tl_mem hx), ?_⟩
          have h5 := tl_short (by omega : i ≤ k) h2 h4
          have h6 := (lenFrom_bd HSL.out.1 HSL.out.2 (tl cur i k) (s1, s2) HSL.out.1).1
          have h7 : 0 ≤ lenOf (s1, s2) l (tl cur i k) := h6
          omega
        · cases h
      clear hF
      go_wp2_with fail
      go_roundg (lenOf (s1, s2) l r).toNat
      case measure => exact HL.out.2.2.2
      case rel => exact ⟨r, rfl, HL.out.1.trans HN.out, HL.out.2.1, HL.out.2.2.1, H2.out.1, H2.out.2.1, H2.out.2.2.1⟩
end Go.Proofs.Ytbkbjljkfhahbaa
