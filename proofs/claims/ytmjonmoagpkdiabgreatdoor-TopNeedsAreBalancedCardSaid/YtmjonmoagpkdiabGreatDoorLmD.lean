/-
  A look on its own: its names, its moment, its verdict. One look: its component, whether it is bad, the check of a list of it, bad ones of a million. The check of one look, and how many of a million are bad.
-/
import Derived.Test.YtmjonmoagpkdiabGreatDoorLmA
import Derived.Shelf.Abstract
import Derived.IntWalk
import Derived.Test.YtmjonmoagpkdiabGreatDoorRg
import Derived.Maps.Keyed
import Derived.DeepKeys4
import Derived.Maps.OwnSet
namespace Go.Proofs.YtmjonmoagpkdiabGreatDoor
open Go.RowKit
set_option linter.unusedSimpArgs false
set_option linter.unusedVariables false

structure Lk where
  board : ByteArray
  name : ByteArray
  at_ : Int
  ver : Int
  bad : Bool
  mach : ByteArray
  noz : ByteArray
  reel : ByteArray
def encK (x : Lk) : List Value := [.string x.board, .string x.name, .int .i64 x.at_, .int .i64 x.ver, .bool x.bad, .string x.mach, .string x.noz, .string x.reel]
def lkAgg (x : Lk) : Value := .agg #[.string x.board, .string x.name, .int .i64 x.at_, .int .i64 x.ver, .bool x.bad, .string x.mach, .string x.noz, .string x.reel]
theorem blk8 {w : World} {g : Nat} {a b c d e f h i : Value} {t : TypeId} (hk : w.heap[g]? = some (.cells #[a, b, c, d, e, f, h, i] t (0, 0))) :
    w.cell? ⟨g, 0, none⟩ = some a ∧ w.cell? ⟨g, 1, none⟩ = some b ∧ w.cell? ⟨g, 2, none⟩ = some c ∧ w.cell? ⟨g, 3, none⟩ = some d ∧ w.cell? ⟨g, 4, none⟩ = some e ∧ w.cell? ⟨g, 5, none⟩ = some f ∧ w.cell? ⟨g, 6, none⟩ = some h ∧ w.cell? ⟨g, 7, none⟩ = some i := by
  refine ⟨?_, ?_, ?_, ?_, ?_, ?_, ?_, ?_⟩ <;> (rw [cell_of_blk hk]; rfl)
def lkNames (x : Lk) : List ByteArray := [x.board, x.name, x.mach, x.noz, x.reel]
def noKey (l : List ByteArray) : Bool := l.any fun s => !keyB s
def lkErr (x : Lk) : Int := if noKey (lkNames x) = true then 5 else if inR x.at_ 0 345686399999 = false then 1 else if inR x.ver 1 5 = false then 4 else 0

set_option maxHeartbeats 2000000 in
theorem keyNo_any (s : ByteArray) (w : World) : Calls Tryz.prog 101 #[.string s] w fun e w' => e = .returned (.bool (!keyB s)) ∧ w' = w := by
  have CK := Lib.hid (key_any s w)
  generalize keyB s = b at *
  go_enter Tryz.func101, Tryz.ntmps101
  go_wp2_with fail
  refine CK.out.mono ?_
  rintro e w2 ⟨rfl, rfl⟩
  go_wp2_with fail
  go_ret
  exact ⟨rfl, rfl⟩
set_option maxHeartbeats 4000000 in
theorem indexK_any (l : List ByteArray) (hl : l.length ≤ 1000000) {v : Value} {w : World} (h : Reads encS v l w) :
    Calls Tryz.prog 120 #[v, .func (.func 101) #[] #[]] w fun e w' => ∃ r : Int, e = .returned (.int .i64 r) ∧ decide (0 ≤ r) = noKey l ∧ w' = w := by
  have HEN := enters_of Tryz.func101 (by kernel_rfl) rfl
  have HH := Lib.hid h
  obtain ⟨A, c, rfl, _⟩ := h
  go_enter Tryz.func120, Tryz.ntmps120
  go_wp2_with fail
  go_loopw [8] (fun kk wr => ∃ i : Nat, i ≤ l.length ∧ kk = .int .i64 i ∧ Hid (noKey l = noKey (l.drop i)) ∧ wr = w) (fun kk _ => l.length - (intOf kk).toNat)
  case atStart => exact ⟨0, by omega, rfl, rfl, rfl⟩
  case round =>
    obtain ⟨i, hi, rfl, HI, rfl⟩ := hrel
    by_cases hlt : i < l.length
    · obtain ⟨A', c', e, hr⟩ := HH.out
      cases e
      rcases hr with rfl | ⟨g, rfl, hrow⟩
      · simp at hlt
      have c0 := row_strg hrow hlt
      have hgl := hrow.1
      have HI2 : Hid (noKey l = (!keyB l[i] || noKey (l.drop (i + 1)))) := HI.out.trans (by rw [drop_at l hlt]; rfl)
      have CP := Lib.hid (keyNo_any l[i] wr)
      clear HI hrow
      generalize keyB l[i] = b at *
      generalize l[i] = m at *
      have i1 : (0 : Int) ≤ (i : Int) := by omega
      have i2 : (i : Int) < (l.length : Int) := by omega
      go_wp2_with fail
      refine CP.out.mono ?_
      rintro e w2 ⟨rfl, rfl⟩
      clear CP
      cases b
      · have HFF : Hid (noKey l = true) := HI2.out
        go_wp2_with fail
        go_ret
        exact ⟨_, rfl, by rw [HFF.out]; simp, rfl⟩
      · have HF : Hid (noKey l = noKey (l.drop (i + 1))) := HI2.out
        clear HI2
        go_wp2_with fail
        go_roundw
        case rel => exact ⟨i + 1, by omega, by go_num, HF, trivial⟩
        case measure => simp [intOf]; omega
    · have HFF : Hid (noKey l = false) := HI.out.trans (by rw [List.drop_eq_nil_of_le (by omega)]; rfl)
      go_wp2_with fail
      go_ret
      exact ⟨-1, rfl, by rw [HFF.out]; rfl, rfl⟩
set_option maxHeartbeats 4000000 in
theorem containsK_any (l : List ByteArray) (hl : l.length ≤ 1000000) {v : Value} {w : World} (h : Reads encS v l w) :
    Calls Tryz.prog 100 #[v, .func (.func 101) #[] #[]] w fun e w' => e = .returned (.bool (noKey l)) ∧ w' = w := by
  have CI := Lib.hid (indexK_any l hl h)
  obtain ⟨A, c, rfl, _⟩ := h
  generalize noKey l = b at *
  go_enter Tryz.func100, Tryz.ntmps100
  go_wp2_with fail
  refine CI.out.mono ?_
  rintro e w2 ⟨r, rfl, hr, rfl⟩
  have HR := Lib.hid hr
  clear hr CI
  go_wp2_with fail
  go_ret
  exact ⟨ret_bool HR.out, rfl⟩
theorem momentK_any (n : Int) (w : World) : Calls Tryz.prog 102 #[.int .i64 n] w fun e w' => e = .returned (.bool (inR n 0 345686399999)) ∧ w = w' := by
  go_enter Tryz.func102, Tryz.ntmps102
  go_wp2_with fail
  refine (withinR _ _ _ _).mono ?_
  rintro e w' ⟨rfl, rfl⟩
  go_wp2_with fail
  go_ret
  exact ⟨rfl, rfl⟩
set_option maxRecDepth 100000 in
set_option maxHeartbeats 8000000 in
theorem checkLook_any (x : Lk) (w : World) : Calls Tryz.prog 77 #[lkAgg x] w fun e w' => e = .returned (.int .i64 (lkErr x)) ∧ Below w.heap.size w w' := by
  have HE : Hid (lkErr x = if noKey (lkNames x) = true then 5 else if inR x.at_ 0 345686399999 = false then 1 else if inR x.ver 1 5 = false then 4 else 0) := rfl
  have CK := Lib.hid (fun (v : Value) (W : World) (h : Reads encS v (lkNames x) W) => containsK_any (lkNames x) (by simp [lkNames]) h)
  have CM := Lib.hid (fun (W : World) => momentK_any x.at_ W)
  have CW := Lib.hid (fun (W : World) => withinR x.ver 1 5 W)
  obtain ⟨board, name, at_, ver, bad, mach, noz, reel⟩ := x
  unfold lkAgg
  dsimp only at *
  have H0 : Hid (Below w.heap.size w (w.alloc (.cells #[.string board, .string name, .int .i64 at_, .int .i64 ver, .bool bad, .string mach, .string noz, .string reel] 69)) ∧ (w.alloc (.cells #[.string board, .string name, .int .i64 at_, .int .i64 ver, .bool bad, .string mach, .string noz, .string reel] 69)).heap[w.heap.size]? = some (.cells #[.string board, .string name, .int .i64 at_, .int .i64 ver, .bool bad, .string mach, .string noz, .string reel] 69 (0, 0))) := ⟨(Below.refl _ _).alloc (Nat.le_refl _) _, blk_new w _ rfl⟩
  go_enter Tryz.func77, Tryz.ntmps77
  go_upto_region 1 with (fail)
  generalize w.alloc (.cells #[.string board, .string name, .int .i64 at_, .int .i64 ver, .bool bad, .string mach, .string noz, .string reel] 69) = w0 at *
  obtain ⟨p0, p1, p2, p3, p4, p5, p6, p7⟩ := blk8 H0.out.2
  have pl := lt_of_blk H0.out.2
  have H1 : Hid (Below w.heap.size w (w0.alloc (.cells #[.string board, .string name, .string mach, .string noz, .string reel] 9)) ∧ (w0.alloc (.cells #[.string board, .string name, .string mach, .string noz, .string reel] 9)).heap[w.heap.size]? = some (.cells #[.string board, .string name, .int .i64 at_, .int .i64 ver, .bool bad, .string mach, .string noz, .string reel] 69 (0, 0)) ∧ Reads encS (.slice (some ⟨w0.heap.size, 0, none⟩) 5 5) (lkNames ⟨board, name, at_, ver, bad, mach, noz, reel⟩) (w0.alloc (.cells #[.string board, .string name, .string mach, .string noz, .string reel] 9))) :=
    ⟨H0.out.1.alloc H0.out.1.size _, blk_alloc H0.out.2 _, (readsF_lit (base := 0) (l := [board, name, mach, noz, reel]) rfl (Nat.le_refl _) (blk_new w0 _ rfl) (Nat.zero_le _)).reads⟩
  go_upto_region 2 with (fail)
  clear p0 p1 p2 p3 p4 p5 p6 p7 pl
  generalize hgw : w0.alloc (.cells #[.string board, .string name, .string mach, .string noz, .string reel] 9) = w1 at *
  obtain ⟨g1, hg1⟩ : ∃ g, w0.heap.size = g := ⟨_, rfl⟩
  rw [hg1] at H1 ⊢
  clear hgw hg1 H0
  have CK1 := Lib.hid (CK.out _ w1 H1.out.2.2)
  generalize hk : noKey (lkNames ⟨board, name, at_, ver, bad, mach, noz, reel⟩) = k at *
  generalize inR at_ 0 345686399999 = m at *
  generalize inR ver 1 5 = v at *
  clear hk CK
  go_wp2_with fail
  refine CK1.out.mono ?_
  rintro e w2 ⟨rfl, rfl⟩
  obtain ⟨p0, p1, p2, p3, p4, p5, p6, p7⟩ := blk8 H1.out.2.1
  have pl := lt_of_blk H1.out.2.1
  cases k
  · cases m
    · go_wp2_with fail
      refine (CM.out _).mono ?_
      rintro e w3 ⟨rfl, rfl⟩
      go_wp2_with fail
      go_ret
      exact ⟨ret_int HE.out.symm, H1.out.1⟩
    · cases v
      · go_wp2_with fail
        refine (CM.out _).mono ?_
        rintro e w3 ⟨rfl, rfl⟩
        go_wp2_with fail
        refine (CW.out _).mono ?_
        rintro e w3 ⟨rfl, rfl⟩
        go_wp2_with fail
        go_ret
        exact ⟨ret_int HE.out.symm, H1.out.1⟩
      · go_wp2_with fail
        refine (CM.out _).mono ?_
        rintro e w3 ⟨rfl, rfl⟩
        go_wp2_with fail
        refine (CW.out _).mono ?_
        rintro e w3 ⟨rfl, rfl⟩
        go_wp2_with fail
        go_ret
        exact ⟨ret_int HE.out.symm, H1.out.1⟩
  · go_wp2_with fail
    go_ret
    exact ⟨ret_int HE.out.symm, H1.out.1⟩
end Go.Proofs.YtmjonmoagpkdiabGreatDoor
namespace Go.Proofs.YtmjonmoagpkdiabGreatDoor
open Go.RowKit Go.WideMaps Go.Maps
set_option linter.unusedSimpArgs false
set_option linter.unusedVariables false

theorem size_put0 {w : World} {k : TypeId} {R : Value → Option (DataW Unit × List MemPlace)} {b n : Nat} {D : DataW Unit} (h : w.ownsMap Tryz.prog k R b n D) (h0 : Maps.size D = 0) (kl : Lit) (d : DataW Unit) : Maps.size (D.put kl d) = 1 := by
  obtain ⟨es, clock, _, _, _, rfl⟩ := h
  rw [Maps.size_eq, List.length_eq_zero_iff] at h0
  rw [h0]
  rfl
theorem mapU_below {w w' : World} {k : TypeId} {R : Value → Option (DataW Unit × List MemPlace)} {b n : Nat} {D : DataW Unit} (h : w.ownsMap Tryz.prog k R b n D) (hb : Below w.heap.size w w') : w'.ownsMap Tryz.prog k R b n D := by
  obtain ⟨es, clock, hk, rest⟩ := h
  exact ⟨es, clock, blk_below hb hk, rest⟩
theorem lawComp : Keyed Tryz.prog 150 := Keyed.of_law (deep_law_laid (m := 3) (by kernel_rfl) (by omega) (of_decide_eq_true (by kernel_rfl)) (by kernel_rfl) (by kernel_rfl))
def unitR (_ : Value) : Option (DataW Unit × List MemPlace) := some (.nil, [])
theorem key_bc : (keyOf Tryz.prog 150 (.agg #[.string ⟨#[98]⟩, .string ⟨#[99]⟩])).isSome = true := by kernel_rfl

set_option maxRecDepth 100000 in
set_option maxHeartbeats 8000000 in
theorem componentOf_any (x : Lk) (w : World) : Calls Tryz.prog 106 #[lkAgg x] w fun e w' => e = .returned (.agg #[.string x.board, .string x.name]) ∧ Below w.heap.size w w' := by
  obtain ⟨board, name, at_, ver, bad, mach, noz, reel⟩ := x
  unfold lkAgg
  dsimp only
  have HB : Hid (Below w.heap.size w ((w.alloc (.cells #[.string board, .string name, .int .i64 at_, .int .i64 ver, .bool bad, .string mach, .string noz, .string reel] 69)).alloc (.cells #[.string board, .string name] 150))) := ((Below.refl _ _).alloc (Nat.le_refl _) _).alloc (by simp) _
  go_enter Tryz.func106, Tryz.ntmps106
  go_wp2_with fail
  refine bodyPost_ret (v := .agg #[.string board, .string name]) (by unfold results; simp only [Tryz.results106]; go_simp) rfl ⟨rfl, HB.out⟩
set_option maxRecDepth 100000 in
set_option maxHeartbeats 8000000 in
theorem bad_any (x : Lk) (w : World) : Calls Tryz.prog 50 #[lkAgg x] w fun e w' => e = .returned (.bool x.bad) ∧ Below w.heap.size w w' := by
  obtain ⟨board, name, at_, ver, bad, mach, noz, reel⟩ := x
  unfold lkAgg
  dsimp only
  have HB : Hid (Below w.heap.size w (w.alloc (.cells #[.string board, .string name, .int .i64 at_, .int .i64 ver, .bool bad, .string mach, .string noz, .string reel] 69))) := (Below.refl _ _).alloc (Nat.le_refl _) _
  go_enter Tryz.func50, Tryz.ntmps50
  go_wp2_with fail
  go_ret
  exact ⟨rfl, HB.out⟩

/-- A list of one look in memory. -/
def OneAt (g : Nat) (x : Lk) (w : World) : Prop := w.heap[g]? = some (.cells #[.string x.board, .string x.name, .int .i64 x.at_, .int .i64 x.ver, .bool x.bad, .string x.mach, .string x.noz, .string x.reel] 69 (0, 0))
theorem OneAt.below {g : Nat} {x : Lk} {w w' : World} (h : OneAt g x w) (hb : Below w.heap.size w w') : OneAt g x w' := blk_below hb h
set_option maxRecDepth 100000 in
set_option maxHeartbeats 8000000 in
theorem count1_any (x : Lk) (hbad : x.bad = true) (g c : Nat) (w : World) (h : OneAt g x w) :
    Calls Tryz.prog 49 #[.slice (some ⟨g, 0, none⟩) 1 c, .func (.func 50) #[] #[]] w fun e w' => e = .returned (.int .i64 1) ∧ Below w.heap.size w w' := by
  have HEN := enters_of Tryz.func50 (by kernel_rfl) rfl
  have HH := Lib.hid h
  have CB := Lib.hid (fun W => bad_any x W)
  obtain ⟨board, name, at_, ver, bad, mach, noz, reel⟩ := x
  unfold lkAgg at CB
  dsimp only [OneAt] at *
  subst hbad
  clear h
  go_enter Tryz.func49, Tryz.ntmps49
  go_wp2_with fail
  go_loopw [5, 10] (fun v5 kk wr => ∃ t : Nat, t ≤ 1 ∧ kk = .int .i64 t ∧ v5 = .int .i64 t ∧ Hid (Below w.heap.size w wr)) (fun _ kk _ => 1 - (intOf kk).toNat)
  case atStart => exact ⟨0, by omega, rfl, rfl, Below.refl _ _⟩
  case round =>
    obtain ⟨t, ht, rfl, rfl, HS⟩ := hrel
    by_cases ht0 : t = 0
    · subst ht0
      obtain ⟨p0, p1, p2, p3, p4, p5, p6, p7⟩ := blk8 (blk_below HS.out HH.out)
      have pl := lt_of_blk (blk_below HS.out HH.out)
      have H5 : Hid (Below w.heap.size w (wr.alloc (.cells #[.string board, .string name, .int .i64 at_, .int .i64 ver, .bool true, .string mach, .string noz, .string reel] 69)) ∧ (wr.alloc (.cells #[.string board, .string name, .int .i64 at_, .int .i64 ver, .bool true, .string mach, .string noz, .string reel] 69)).heap[wr.heap.size]? = some (.cells #[.string board, .string name, .int .i64 at_, .int .i64 ver, .bool true, .string mach, .string noz, .string reel] 69 (0, 0))) := ⟨HS.out.alloc HS.out.size _, blk_new wr _ rfl⟩
      go_upto_region 5 with (fail)
      generalize wr.alloc (.cells #[.string board, .string name, .int .i64 at_, .int .i64 ver, .bool true, .string mach, .string noz, .string reel] 69) = w5 at *
      obtain ⟨gx, hgx⟩ : ∃ gx, wr.heap.size = gx := ⟨_, rfl⟩
      rw [hgx] at H5 ⊢
      clear hgx p0 p1 p2 p3 p4 p5 p6 p7 pl
      obtain ⟨p0, p1, p2, p3, p4, p5, p6, p7⟩ := blk8 H5.out.2
      have pl := lt_of_blk H5.out.2
      go_wp2_with fail
      refine (CB.out _).mono ?_
      rintro e w6 ⟨rfl, b6⟩
      have H6 := Lib.hid (H5.out.1.then_below b6 H5.out.1.size)
      clear b6 H5 p0 p1 p2 p3 p4 p5 p6 p7 pl
      go_wp2_with fail
      go_roundw
      case rel => exact ⟨1, by omega, by go_num, by go_num, H6⟩
      case measure => simp [intOf]
    · obtain rfl : t = 1 := by omega
      go_wp2_with fail
      go_ret
      exact ⟨rfl, HS.out⟩
set_option maxRecDepth 100000 in
set_option maxHeartbeats 8000000 in
theorem byComponent1_any (x : Lk) (hx : (keyOf Tryz.prog 150 (.agg #[.string x.board, .string x.name])).isSome = true) (g c : Nat) (w : World) (h : OneAt g x w) :
    Calls Tryz.prog 79 #[.slice (some ⟨g, 0, none⟩) 1 c] w fun e w' => ∃ (D : DataW Unit), e = .returned (.map (some w.heap.size)) ∧ Below w.heap.size w w' ∧ w'.ownsMap Tryz.prog 150 unitR w.heap.size 1 D ∧ Maps.size D = 1 := by
  have hmm := @run_makeMap Tryz.prog
  have HH := Lib.hid h
  have CB := Lib.hid (fun W => componentOf_any x W)
  obtain ⟨kl, hkl⟩ := Option.isSome_iff_exists.mp hx
  obtain ⟨board, name, at_, ver, bad, mach, noz, reel⟩ := x
  unfold lkAgg at CB
  dsimp only [OneAt] at *
  have HKL := Lib.hid hkl
  clear h hx hkl
  have H0 : Hid (Below w.heap.size w (w.alloc (.map #[] 0)) ∧ ∃ D : DataW Unit, (w.alloc (.map #[] 0)).ownsMap Tryz.prog 150 unitR w.heap.size 0 D ∧ D = .map []) := ⟨(Below.refl _ _).alloc (Nat.le_refl _) _, _, World.ownsMap_made w _ _ _, rfl⟩
  go_enter Tryz.func79, Tryz.ntmps79
  go_wp2_with fail
  clear hmm
  go_loopw [9] (fun kk wr => ∃ t : Nat, t ≤ 1 ∧ kk = .int .i64 t ∧ w.heap.size < wr.heap.size ∧ Hid (Below w.heap.size w wr ∧ ∃ D : DataW Unit, wr.ownsMap Tryz.prog 150 unitR w.heap.size t D ∧ Maps.size D = t)) (fun kk _ => 1 - (intOf kk).toNat)
  case atStart =>
    obtain ⟨D, h1, h2⟩ := H0.out.2
    exact ⟨0, by omega, rfl, by simp, H0.out.1, D, h1, by rw [h2]; rfl⟩
  case round =>
    clear H0
    obtain ⟨t, ht, rfl, hwz, HS⟩ := hrel
    by_cases ht0 : t = 0
    · subst ht0
      obtain ⟨p0, p1, p2, p3, p4, p5, p6, p7⟩ := blk8 (blk_below HS.out.1 HH.out)
      have pl := lt_of_blk (blk_below HS.out.1 HH.out)
      have H5 : Hid (Below w.heap.size w (wr.alloc (.cells #[.string board, .string name, .int .i64 at_, .int .i64 ver, .bool bad, .string mach, .string noz, .string reel] 69)) ∧ (∃ D : DataW Unit, (wr.alloc (.cells #[.string board, .string name, .int .i64 at_, .int .i64 ver, .bool bad, .string mach, .string noz, .string reel] 69)).ownsMap Tryz.prog 150 unitR w.heap.size 0 D ∧ Maps.size D = 0) ∧ (wr.alloc (.cells #[.string board, .string name, .int .i64 at_, .int .i64 ver, .bool bad, .string mach, .string noz, .string reel] 69)).heap[wr.heap.size]? = some (.cells #[.string board, .string name, .int .i64 at_, .int .i64 ver, .bool bad, .string mach, .string noz, .string reel] 69 (0, 0))) := by
        obtain ⟨hb, D, h1, h2⟩ := HS.out
        exact ⟨hb.alloc hb.size _, ⟨D, h1.alloc _, h2⟩, blk_new wr _ rfl⟩
      go_upto_region 5 with (fail)
      generalize wr.alloc (.cells #[.string board, .string name, .int .i64 at_, .int .i64 ver, .bool bad, .string mach, .string noz, .string reel] 69) = w5 at *
      obtain ⟨gx, hgx⟩ : ∃ gx, wr.heap.size = gx := ⟨_, rfl⟩
      rw [hgx] at H5 ⊢
      clear hgx p0 p1 p2 p3 p4 p5 p6 p7 pl
      refine Rg.rgL (fun a b => Below a.heap.size a b)
        [(fun vs u => vs 0 = .map (some w.heap.size)), (fun vs u => vs 1 = .agg #[.string board, .string name, .int .i64 at_, .int .i64 ver, .bool bad, .string mach, .string noz, .string reel]), (fun vs u => vs 2 = .agg #[.string board, .string name]), (fun vs u => vs 3 = .agg #[.string board, .string name, .int .i64 at_, .int .i64 ver, .bool bad, .string mach, .string noz, .string reel])]
        [[], [], [1], []] [some 13, some 14, some 15, some 16, none] [] (fun _ _ => True) [[], [], [1], [], [0, 1, 2, 3]]
        (by kernel_rfl) (by decide) (by kernel_rfl) (by kernel_rfl) (by kernel_rfl) (by kernel_rfl) (by kernel_rfl) (fun _ => Below.refl _ _) (fun _ _ _ h k => h.ext k) (fun _ _ h => h.size) ?_ trivial ?_ ?_
      · intro t ht vs w w' h hE
        simp only [List.mem_cons, List.not_mem_nil, or_false] at ht
        rcases ht with rfl | rfl | rfl | rfl
        · exact h
        · exact h
        · exact h
        · exact h
      ·
        refine Rg.cons 0 1 rfl (Rg.plain rfl ?_) ?_
        · intro vs W n hn hI hG hT hF K hK
          simp only [Rg.putsD, List.getD_cons_zero, List.getD_cons_succ, Act.put, List.setIfInBounds_toArray, List.set_cons_zero, List.set_cons_succ] at hK ⊢
          clear hn
          clear hF hI
          have H := Lib.hid hK
          clear hK hT
          go_simp
          exact H.out _ _ (Below.refl _ _) rfl (fun h => by cases h) trivial
        refine Rg.cons 1 2 rfl (Rg.plain rfl ?_) ?_
        · intro vs W n hn hI hG hT hF K hK
          simp only [Rg.putsD, List.getD_cons_zero, List.getD_cons_succ, Act.put, List.setIfInBounds_toArray, List.set_cons_zero, List.set_cons_succ] at hK ⊢
          clear hn
          clear hF hI
          obtain ⟨p0, p1, p2, p3, p4, p5, p6, p7⟩ := blk8 (blk_below hG H5.out.2.2)
          have pl := lt_of_blk (blk_below hG H5.out.2.2)
          have H := Lib.hid hK
          clear hK hT
          go_simp
          exact H.out _ _ (Below.refl _ _) rfl (fun h => by cases h) trivial
        refine Rg.cons 2 3 rfl (Rg.plain rfl ?_) ?_
        · intro vs W n hn hI hG hT hF K hK
          simp only [Rg.putsD, List.getD_cons_zero, List.getD_cons_succ, Act.put, List.setIfInBounds_toArray, List.set_cons_zero, List.set_cons_succ] at hK ⊢
          clear hn
          clear hF hI
          have t1 : vs 1 = .agg #[.string board, .string name, .int .i64 at_, .int .i64 ver, .bool bad, .string mach, .string noz, .string reel] := hT 1 (by decide)
          have HG := Lib.hid hG
          clear hG
          simp only [t1] at hK
          have H := Lib.hid hK
          clear hK hT
          go_simp
          refine (CB.out _).mono ?_
          rintro e w6 ⟨rfl, b6⟩
          exact H.out _ _ b6 rfl (fun h => by cases h) trivial
        refine Rg.cons 3 4 rfl (Rg.plain rfl ?_) ?_
        · intro vs W n hn hI hG hT hF K hK
          simp only [Rg.putsD, List.getD_cons_zero, List.getD_cons_succ, Act.put, List.setIfInBounds_toArray, List.set_cons_zero, List.set_cons_succ] at hK ⊢
          clear hn
          clear hF hI
          obtain ⟨p0, p1, p2, p3, p4, p5, p6, p7⟩ := blk8 (blk_below hG H5.out.2.2)
          have pl := lt_of_blk (blk_below hG H5.out.2.2)
          have H := Lib.hid hK
          clear hK hT
          go_simp
          exact H.out _ _ (Below.refl _ _) rfl (fun h => by cases h) trivial
        exact Rg.nil
      · intro vs W hG hI hT hF
        have t0 : vs 0 = .map (some w.heap.size) := hT 0 (by decide)
        have t1 : vs 1 = .agg #[.string board, .string name, .int .i64 at_, .int .i64 ver, .bool bad, .string mach, .string noz, .string reel] := hT 1 (by decide)
        have t2 : vs 2 = .agg #[.string board, .string name] := hT 2 (by decide)
        have t3 : vs 3 = .agg #[.string board, .string name, .int .i64 at_, .int .i64 ver, .bool bad, .string mach, .string noz, .string reel] := hT 3 (by decide)
        simp only [List.length_cons, List.length_nil, Nat.reduceAdd, List.range, List.range.loop, List.drop_succ_cons, List.drop_zero, Rg.putsD, List.getD_cons_zero, List.getD_cons_succ, Act.put, List.setIfInBounds_toArray, List.set_cons_zero, List.set_cons_succ, t0, t1, t2, t3]
        clear hT t0 t1 t2 t3
        have hGW := (Below.refl w5.heap.size w5).drew.then_below hG (Nat.le_refl _)
        have H6 : Hid (Below w.heap.size w W ∧ (∃ D : DataW Unit, W.ownsMap Tryz.prog 150 unitR w.heap.size 0 D ∧ Maps.size D = 0)) := by
          obtain ⟨D, h1, h2⟩ := H5.out.2.1
          exact ⟨H5.out.1.then_below hGW H5.out.1.size, D, mapU_below h1 hGW, h2⟩
        clear hF hI hG hGW H5
        obtain ⟨D, hown, hD⟩ := H6.out.2
        have HD := Lib.hid (size_put0 hown hD)
        clear hD
        go_wp2_with (at_mapUpdate; refine hold ?_)
        refine loose ?_
        refine wpList_mapUpdate_own _ rfl _ _ _ 131 rfl 150 69 lawComp Tryz.underlying131 unitR w.heap.size 0 D rfl hown (by unfold maxLen; omega) _ _ _ rfl rfl HKL.out .nil [] rfl ?_
        intro w2 hown2 hgrow2
        have HF2 : Hid (Below w.heap.size w w2 ∧ ∃ D : DataW Unit, w2.ownsMap Tryz.prog 150 unitR w.heap.size 1 D ∧ Maps.size D = 1) := ⟨H6.out.1.grown hgrow2 H6.out.1.size (fun j hj => by cases hj; exact Nat.le_refl _), _, hown2, HD.out _ _⟩
        have hz2 : w.heap.size < w2.heap.size := by
          obtain ⟨es, clock, hb, _⟩ := hown2
          exact lt_of_blk hb
        clear hown2 hgrow2 hown H6
        go_wp2_with fail
        go_roundw
        case rel => exact ⟨1, by omega, by go_num, hz2, HF2⟩
        case measure => simp [intOf]
    · obtain rfl : t = 1 := by omega
      go_wp2_with fail
      go_ret
      obtain ⟨hb, D, h1, h2⟩ := HS.out
      exact ⟨D, rfl, hb, h1, h2⟩
end Go.Proofs.YtmjonmoagpkdiabGreatDoor
namespace Go.Proofs.YtmjonmoagpkdiabGreatDoor
open Go.RowKit Go.WideMaps Go.Maps
set_option linter.unusedSimpArgs false
set_option linter.unusedVariables false

set_option maxRecDepth 100000 in
set_option maxHeartbeats 8000000 in
theorem checkLooks1_any (x : Lk) (he : lkErr x = 0) (hx : (keyOf Tryz.prog 150 (.agg #[.string x.board, .string x.name])).isSome = true) (g c : Nat) (w : World) (h : OneAt g x w) :
    Calls Tryz.prog 47 #[.slice (some ⟨g, 0, none⟩) 1 c] w fun e w' => e = .returned (.int .i64 0) ∧ Below w.heap.size w w' := by
  have HH := Lib.hid h
  have CB := Lib.hid (fun (W : World) (h : OneAt g x W) => byComponent1_any x hx g c W h)
  have CK := Lib.hid (fun W => checkLook_any x W)
  rw [he] at CK
  obtain ⟨board, name, at_, ver, bad, mach, noz, reel⟩ := x
  unfold lkAgg at CK
  dsimp only [OneAt] at *
  clear h hx he
  go_enter Tryz.func47, Tryz.ntmps47
  go_wp2_with fail
  go_loopw [11] (fun kk wr => ∃ t : Nat, t ≤ 1 ∧ kk = .int .i64 t ∧ Hid (Below w.heap.size w wr)) (fun kk _ => 1 - (intOf kk).toNat)
  case atStart => exact ⟨0, by omega, rfl, Below.refl _ _⟩
  case round =>
    obtain ⟨t, ht, rfl, HS⟩ := hrel
    by_cases ht0 : t = 0
    · subst ht0
      obtain ⟨p0, p1, p2, p3, p4, p5, p6, p7⟩ := blk8 (blk_below HS.out HH.out)
      have pl := lt_of_blk (blk_below HS.out HH.out)
      have H5 : Hid (Below w.heap.size w (wr.alloc (.cells #[.string board, .string name, .int .i64 at_, .int .i64 ver, .bool bad, .string mach, .string noz, .string reel] 69)) ∧ (wr.alloc (.cells #[.string board, .string name, .int .i64 at_, .int .i64 ver, .bool bad, .string mach, .string noz, .string reel] 69)).heap[wr.heap.size]? = some (.cells #[.string board, .string name, .int .i64 at_, .int .i64 ver, .bool bad, .string mach, .string noz, .string reel] 69 (0, 0))) := ⟨HS.out.alloc HS.out.size _, blk_new wr _ rfl⟩
      go_upto_region 6 with (fail)
      generalize wr.alloc (.cells #[.string board, .string name, .int .i64 at_, .int .i64 ver, .bool bad, .string mach, .string noz, .string reel] 69) = w5 at *
      obtain ⟨gx, hgx⟩ : ∃ gx, wr.heap.size = gx := ⟨_, rfl⟩
      rw [hgx] at H5 ⊢
      clear hgx p0 p1 p2 p3 p4 p5 p6 p7 pl
      obtain ⟨p0, p1, p2, p3, p4, p5, p6, p7⟩ := blk8 H5.out.2
      have pl := lt_of_blk H5.out.2
      go_wp2_with fail
      refine (CK.out _).mono ?_
      rintro e w6 ⟨rfl, b6⟩
      have H6 := Lib.hid (H5.out.1.then_below b6 H5.out.1.size)
      clear b6 H5 p0 p1 p2 p3 p4 p5 p6 p7 pl
      go_upto_region 9 with (fail)
      refine Rg.rgL (fun a b => Below a.heap.size a b)
        [(fun vs u => vs 0 = .int .i64 0), (fun vs u => vs 1 = .bool false), (fun vs u => vs 2 = .bool false), (fun vs u => vs 3 = undef), (fun vs u => vs 4 = undef), (fun vs u => vs 5 = undef), (fun vs u => vs 6 = undef), (fun vs u => vs 7 = undef), (fun vs u => vs 8 = undef)]
        [[], [0], [0, 1], [0, 1, 2], [0, 1, 2], [0, 1, 2], [0, 1, 2, 5], [0, 1, 2, 4, 5, 6], [0, 1, 2, 4, 5, 6, 7]] [some 21, some 22, some 23, some 24, some 25, some 26, some 27, some 28, some 29, some 30, some 31, some 32] [] (fun _ _ => True) [[], [0], [0, 1], [0, 1, 2], [0, 1, 2], [0, 1, 2], [0, 1, 2, 5], [0, 1, 2, 4, 5, 6], [0, 1, 2, 4, 5, 6, 7], [0, 1, 2, 3, 4, 5, 6, 7, 8], [0, 1, 2, 3, 4, 5, 6, 7, 8, 9], [0, 1, 2, 3, 4, 5, 6, 7, 8, 9, 10]]
        (by kernel_rfl) (by decide) (by kernel_rfl) (by kernel_rfl) (by kernel_rfl) (by kernel_rfl) (by kernel_rfl) (fun _ => Below.refl _ _) (fun _ _ _ h k => h.ext k) (fun _ _ h => h.size) ?_ trivial ?_ ?_
      · intro t ht vs w w' h hE
        simp only [List.mem_cons, List.not_mem_nil, or_false] at ht
        rcases ht with rfl | rfl | rfl | rfl | rfl | rfl | rfl | rfl | rfl
        · exact h
        · exact h
        · exact h
        · exact h
        · exact h
        · exact h
        · exact h
        · exact h
        · exact h
      ·
        refine Rg.cons 0 1 rfl (Rg.plain rfl ?_) ?_
        · intro vs W n hn hI hG hT hF K hK
          simp only [Rg.putsD, List.getD_cons_zero, List.getD_cons_succ, Act.put, List.setIfInBounds_toArray, List.set_cons_zero, List.set_cons_succ] at hK ⊢
          clear hn
          clear hF hI
          have H := Lib.hid hK
          clear hK hT
          go_simp
          exact H.out _ _ (Below.refl _ _) rfl (fun h => by cases h) trivial
        refine Rg.cons 1 2 rfl (Rg.plain rfl ?_) ?_
        · intro vs W n hn hI hG hT hF K hK
          simp only [Rg.putsD, List.getD_cons_zero, List.getD_cons_succ, Act.put, List.setIfInBounds_toArray, List.set_cons_zero, List.set_cons_succ] at hK ⊢
          clear hn
          clear hF hI
          have t0 : vs 0 = .int .i64 0 := hT 0 (by decide)
          simp only [t0] at hK
          have H := Lib.hid hK
          clear hK hT
          go_simp
          exact H.out _ _ (Below.refl _ _) rfl (fun h => by cases h) trivial
        refine Rg.cons 2 3 rfl (Rg.plain rfl ?_) ?_
        · intro vs W n hn hI hG hT hF K hK
          simp only [Rg.putsD, List.getD_cons_zero, List.getD_cons_succ, Act.put, List.setIfInBounds_toArray, List.set_cons_zero, List.set_cons_succ] at hK ⊢
          clear hn
          clear hF hI
          have t0 : vs 0 = .int .i64 0 := hT 0 (by decide)
          have t1 : vs 1 = .bool false := hT 1 (by decide)
          simp only [t0, t1] at hK
          have H := Lib.hid hK
          clear hK hT
          go_simp
          exact H.out _ _ (Below.refl _ _) rfl (fun h => by cases h) trivial
        refine Rg.cons 3 4 rfl (Rg.skipped (fun _ => Below.refl _ _) (fun _ _ => rfl) (by decide) (fun _ _ h => h) ?_) ?_
        · intro vs W hT
          have tg : vs 2 = .bool false := hT 2 (by decide)
          simp only [Rg.putsD, List.getD_cons_zero, List.getD_cons_succ, Act.put, List.setIfInBounds_toArray, List.set_cons_zero, List.set_cons_succ, tg]
          rfl
        refine Rg.cons 4 5 rfl (Rg.skipped (fun _ => Below.refl _ _) (fun _ _ => rfl) (by decide) (fun _ _ h => h) ?_) ?_
        · intro vs W hT
          have tg : vs 2 = .bool false := hT 2 (by decide)
          simp only [Rg.putsD, List.getD_cons_zero, List.getD_cons_succ, Act.put, List.setIfInBounds_toArray, List.set_cons_zero, List.set_cons_succ, tg]
          rfl
        refine Rg.cons 5 6 rfl (Rg.skipped (fun _ => Below.refl _ _) (fun _ _ => rfl) (by decide) (fun _ _ h => h) ?_) ?_
        · intro vs W hT
          have tg : vs 2 = .bool false := hT 2 (by decide)
          simp only [Rg.putsD, List.getD_cons_zero, List.getD_cons_succ, Act.put, List.setIfInBounds_toArray, List.set_cons_zero, List.set_cons_succ, tg]
          rfl
        refine Rg.cons 6 7 rfl (Rg.skipped (fun _ => Below.refl _ _) (fun _ _ => rfl) (by decide) (fun _ _ h => h) ?_) ?_
        · intro vs W hT
          have tg : vs 2 = .bool false := hT 2 (by decide)
          simp only [Rg.putsD, List.getD_cons_zero, List.getD_cons_succ, Act.put, List.setIfInBounds_toArray, List.set_cons_zero, List.set_cons_succ, tg]
          rfl
        refine Rg.cons 7 8 rfl (Rg.skipped (fun _ => Below.refl _ _) (fun _ _ => rfl) (by decide) (fun _ _ h => h) ?_) ?_
        · intro vs W hT
          have tg : vs 2 = .bool false := hT 2 (by decide)
          simp only [Rg.putsD, List.getD_cons_zero, List.getD_cons_succ, Act.put, List.setIfInBounds_toArray, List.set_cons_zero, List.set_cons_succ, tg]
          rfl
        refine Rg.cons 8 9 rfl (Rg.skipped (fun _ => Below.refl _ _) (fun _ _ => rfl) (by decide) (fun _ _ h => h) ?_) ?_
        · intro vs W hT
          have tg : vs 2 = .bool false := hT 2 (by decide)
          simp only [Rg.putsD, List.getD_cons_zero, List.getD_cons_succ, Act.put, List.setIfInBounds_toArray, List.set_cons_zero, List.set_cons_succ, tg]
          rfl
        exact Rg.nil
      · intro vs W hG hI hT hF
        have t0 : vs 0 = .int .i64 0 := hT 0 (by decide)
        have t1 : vs 1 = .bool false := hT 1 (by decide)
        have t2 : vs 2 = .bool false := hT 2 (by decide)
        have t3 : vs 3 = undef := hT 3 (by decide)
        have t4 : vs 4 = undef := hT 4 (by decide)
        have t5 : vs 5 = undef := hT 5 (by decide)
        have t6 : vs 6 = undef := hT 6 (by decide)
        have t7 : vs 7 = undef := hT 7 (by decide)
        have t8 : vs 8 = undef := hT 8 (by decide)
        simp only [List.length_cons, List.length_nil, Nat.reduceAdd, List.range, List.range.loop, List.drop_succ_cons, List.drop_zero, Rg.putsD, List.getD_cons_zero, List.getD_cons_succ, Act.put, List.setIfInBounds_toArray, List.set_cons_zero, List.set_cons_succ, t0, t1, t2, t3, t4, t5, t6, t7, t8]
        clear hT t0 t1 t2 t3 t4 t5 t6 t7 t8
        have H7 := Lib.hid (H6.out.then_below ((Below.refl w6.heap.size w6).drew.then_below hG (Nat.le_refl _)) H6.out.size)
        clear hF hI hG H6
        go_wp2_with fail
        go_roundw
        case rel => exact ⟨1, by omega, by go_num, H7⟩
        case measure => simp [intOf]
    · obtain rfl : t = 1 := by omega
      have CB1 := Lib.hid (CB.out wr (blk_below HS.out HH.out))
      go_wp2_with fail
      refine CB1.out.mono ?_
      rintro e w7 ⟨D, rfl, b7, hown, hD⟩
      have H7 := Lib.hid (And.intro (HS.out.then_below b7 HS.out.size) hD)
      clear b7 hD CB CB1 HS
      go_wp2_with (at_len; refine hold ?_)
      refine loose ?_
      refine wpList_len_own _ rfl _ 131 rfl 150 69 Tryz.underlying131 unitR wr.heap.size 1 D rfl hown ?_
      rw [H7.out.2]
      clear hown
      go_wp2_with fail
      go_ret
      exact ⟨rfl, H7.out.1⟩
set_option maxRecDepth 100000 in
set_option maxHeartbeats 8000000 in
theorem million1_any (x : Lk) (he : lkErr x = 0) (hbad : x.bad = true) (hx : (keyOf Tryz.prog 150 (.agg #[.string x.board, .string x.name])).isSome = true) (g c : Nat) (w : World) (h : OneAt g x w) :
    Calls Tryz.prog 21 #[.slice (some ⟨g, 0, none⟩) 1 c] w fun e w' => e = .returned (.tuple #[.agg #[.int .i64 1000000, .int .i64 1], .int .i64 0]) ∧ Below w.heap.size w w' := by
  have HH := Lib.hid h
  have C1 := Lib.hid (fun (W : World) (h : OneAt g x W) => checkLooks1_any x he hx g c W h)
  have C2 := Lib.hid (fun (W : World) (h : OneAt g x W) => count1_any x hbad g c W h)
  have C3 := Lib.hid (fun (W : World) => lowest_any 1000000 1 W (by omega) (by omega) (by omega) (by omega))
  rw [show low 1000000 1 = .agg #[.int .i64 1000000, .int .i64 1] from rfl] at C3
  clear h hx he
  have H0 : Hid (Below w.heap.size w (w.alloc (.cells #[.int .i64 0, .int .i64 0] 65)) ∧ (w.alloc (.cells #[.int .i64 0, .int .i64 0] 65)).heap[w.heap.size]? = some (.cells #[.int .i64 0, .int .i64 0] 65 (0, 0))) := ⟨(Below.refl _ _).alloc (Nat.le_refl _) _, blk_new w _ rfl⟩
  go_enter Tryz.func21, Tryz.ntmps21
  go_upto_region 1 with (fail)
  generalize w.alloc (.cells #[.int .i64 0, .int .i64 0] 65) = w0 at *
  go_wp2_with fail
  refine (C1.out _ (HH.out.below H0.out.1)).mono ?_
  rintro e w1 ⟨rfl, b1⟩
  have H1 := Lib.hid (And.intro (H0.out.1.then_below b1 H0.out.1.size) (blk_below b1 H0.out.2))
  clear b1 H0 C1
  go_wp2_with fail
  refine (C2.out _ (HH.out.below H1.out.1)).mono ?_
  rintro e w2 ⟨rfl, b2⟩
  have H2 := Lib.hid (And.intro (H1.out.1.then_below b2 H1.out.1.size) (blk_below b2 H1.out.2))
  clear b2 H1 C2
  go_wp2_with fail
  refine (C3.out _).mono ?_
  rintro e w3 ⟨rfl, b3⟩
  have H3 := Lib.hid (And.intro (H2.out.1.then_below b3 H2.out.1.size) (blk_below b3 H2.out.2))
  clear b3 H2 C3
  obtain ⟨r0, r1, _, _⟩ := blk2 H3.out.2
  have f0 := frozen_of_blk H3.out.2 0
  have f1 := frozen_of_blk H3.out.2 1
  have l0 := lt_of_blk H3.out.2
  have H4 : Hid (Below w.heap.size w ((w3.setCell ⟨w.heap.size, 0, none⟩ (.int .i64 1000000)).setCell ⟨w.heap.size, 1, none⟩ (.int .i64 1)) ∧ ((w3.setCell ⟨w.heap.size, 0, none⟩ (.int .i64 1000000)).setCell ⟨w.heap.size, 1, none⟩ (.int .i64 1)).heap[w.heap.size]? = some (.cells #[.int .i64 1000000, .int .i64 1] 65 (0, 0))) := ⟨(H3.out.1.setCell (Nat.le_refl _) _).setCell (Nat.le_refl _) _, blk_set (blk_set H3.out.2 _) _⟩
  go_wp2_with fail
  generalize (w3.setCell ⟨w.heap.size, 0, none⟩ (.int .i64 1000000)).setCell ⟨w.heap.size, 1, none⟩ (.int .i64 1) = w4 at *
  clear r0 r1 f0 f1 l0 H3
  obtain ⟨r0, r1, _, _⟩ := blk2 H4.out.2
  have l0 := lt_of_blk H4.out.2
  refine bodyPost_ret (v := .tuple #[.agg #[.int .i64 1000000, .int .i64 1], .int .i64 0]) (by unfold results; simp only [Tryz.results21]; go_simp) rfl ⟨rfl, H4.out.1⟩
end Go.Proofs.YtmjonmoagpkdiabGreatDoor
