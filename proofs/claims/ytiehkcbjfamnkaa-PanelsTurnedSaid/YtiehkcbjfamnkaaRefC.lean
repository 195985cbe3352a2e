/-
  The walks of the reference's Crowded and Beyond.
-/
import Derived.Test.YtiehkcbjfamnkaaRefB
import Derived.Test.YtiehkcbjfamnkaaBey
namespace Go.Proofs.Ytiehkcbjfamnkaa
open Go.RowKit

set_option maxHeartbeats 400000 in
theorem apartR_any (a b c d : Int) (w : World) (ha : -10000000 ≤ a ∧ a ≤ 10000000) (hb : -10000000 ≤ b ∧ b ≤ 10000000) (hc : -10000000 ≤ c ∧ c ≤ 10000000) (hd : -10000000 ≤ d ∧ d ≤ 10000000) :
    Calls Try.prog 82 #[.int .i64 a, .int .i64 b, .int .i64 c, .int .i64 d] w fun e w' => e = .returned (.int .i64 (max (a - d) (c - b))) ∧ w = w' := by
  have HM := Lib.hid (Int.max_comm (c - b) (a - d))
  go_enter Try.func82, Try.ntmps82
  go_wp2_with fail
  go_ret
  exact ⟨ret_int HM.out, rfl⟩

theorem crowdR_cons (b : List Bo) (g : Int) (p : Pl) (l : List Pl) : crowdR b g (p :: l) = l.filterMap (crowd2 b g p) ++ crowdR b g l := by
  unfold crowdR
  rw [prs, List.filterMap_append, List.filterMap_map]
  rfl
def CrSt (B : Nat) (wP : World) (acc : List (ByteArray × ByteArray)) (v : Value) (W : World) : Prop :=
  Below B wP W ∧ W.ownsRow B 92 2 v acc.length (acc.flatMap pairOf)
def CrSt2 (B : Nat) (wP : World) (acc : List (ByteArray × ByteArray)) (v : Value) (G : Nat) (p : Pl) (W : World) : Prop :=
  Below B wP W ∧ W.ownsRow B 92 2 v acc.length (acc.flatMap pairOf) ∧ v.ownBlock ≠ some G ∧ W.heap[G]? = some (.cells #[.string p.name, .string p.part, .int .i64 p.x, .int .i64 p.y, .int .i64 p.q] 50 (0, 0)) ∧ B ≤ G
theorem CrSt2.below {B : Nat} {wP : World} {acc : List (ByteArray × ByteArray)} {v : Value} {G : Nat} {p : Pl} {W W' : World} (h : CrSt2 B wP acc v G p W) (hb : Below W.heap.size W W') : CrSt2 B wP acc v G p W' :=
  ⟨h.1.then_below hb (by have := lt_of_blk h.2.2.2.1; have := h.2.2.2.2; omega), own_below h.2.1 hb, h.2.2.1, blk_below hb h.2.2.2.1, h.2.2.2.2⟩

theorem box_mem {b : List Bo} {l : List Pl} {p : Pl} {a : Ar} (hp : p ∈ l) (h : boxOf b p = some a) : a ∈ areasOf b l := by
  unfold areasOf
  rw [List.mem_map]
  exact ⟨(p.name, a), List.mem_filterMap.mpr ⟨p, hp, by simp [nameBox, h]⟩, rfl⟩
theorem blkA {w : World} {g : Nat} {a : Ar} {t : TypeId} (h : w.heap[g]? = some (.cells (boxC a) t (0, 0))) :
    w.cell? ⟨g, 0, none⟩ = some (.int .i64 a.xf) ∧ w.cell? ⟨g, 1, none⟩ = some (.int .i64 a.yf) ∧ w.cell? ⟨g, 2, none⟩ = some (.int .i64 a.xt) ∧ w.cell? ⟨g, 3, none⟩ = some (.int .i64 a.yt) := blk4 h
theorem crowd2_none {b : List Bo} {g : Int} {p q : Pl} (h : boxOf b p = none ∨ boxOf b q = none) : crowd2 b g p q = none := by
  unfold crowd2
  rcases h with h | h <;> rw [h]
  cases boxOf b p <;> rfl
theorem crowd2_some {b : List Bo} {g : Int} {p q : Pl} {x y : Ar} (h : boxOf b p = some x) (k : boxOf b q = some y) : crowd2 b g p q = if nearA g x y then some (p.name, q.name) else none := by
  unfold crowd2
  rw [h, k]

set_option maxRecDepth 100000 in
set_option maxHeartbeats 4000000 in
theorem crowdedOf_any (key : ByteArray) (W H : Int) (A : Option Addr) (c : Nat) (l : List Pl) (B : Option Addr) (d : Nat) (b : List Bo) (gap : Int) (w : World) (hA : PlAt w A l) (hB : BoAt w B b) (hcap : l.length ≤ c) (hc9 : c ≤ 9223372036854775807) (hE : distErr key W H l b gap = 0) :
    Calls Try.prog 42 #[prod key W H A l.length c, .slice B b.length d, .int .i64 gap] w fun e w' => ∃ v, e = .returned v ∧ Below w.heap.size w w' ∧
      w'.ownsRow w.heap.size 92 2 v (crowdR b (2 * gap) l).length ((crowdR b (2 * gap) l).flatMap pairOf) := by
  have hd := dist_ok hE
  have hlen := hd.len
  have hblen := hd.blen
  obtain ⟨hg0, hg1⟩ := hd.gap
  have HD := Lib.hid hd
  clear hd hE
  go_enter Try.func42, Try.ntmps42
  go_wp2_with fail
  have kP : (w.alloc (Obj.cells #[.string key, .int .i64 W, .int .i64 H, .slice A l.length c] 28)).heap[w.heap.size]? = some (.cells #[.string key, .int .i64 W, .int .i64 H, .slice A l.length c] 28 (0, 0)) := blk_new w _ rfl
  have bP : Below w.heap.size w (w.alloc (Obj.cells #[.string key, .int .i64 W, .int .i64 H, .slice A l.length c] 28)) := (Below.refl _ _).alloc (Nat.le_refl _) _
  have sP : (w.alloc (Obj.cells #[.string key, .int .i64 W, .int .i64 H, .slice A l.length c] 28)).heap.size = w.heap.size + 1 := by simp
  generalize w.alloc (Obj.cells #[.string key, .int .i64 W, .int .i64 H, .slice A l.length c] 28) = wP at *
  have HWP := Lib.hid (And.intro kP (And.intro bP sP))
  clear kP bP sP
  go_loopw [7, 20] (fun v kk wr => ∃ (i : Nat) (acc : List (ByteArray × ByteArray)), i ≤ l.length ∧ kk = .int .i64 i ∧ acc.length ≤ i * 1000 ∧ Hid (CrSt wP.heap.size wP acc v wr) ∧ Hid (crowdR b (2 * gap) l = acc ++ crowdR b (2 * gap) (l.drop i))) (fun _ kk _ => l.length - (intOf kk).toNat)
  case atStart => exact ⟨0, [], by omega, rfl, by simp, ⟨Below.refl _ _, World.ownsRow_nil _ _ _ _⟩, rfl⟩
  case round =>
    obtain ⟨i, acc, hi, rfl, hac, HS, HT⟩ := hrel
    by_cases hlt : i < l.length
    · obtain ⟨p, hp⟩ : ∃ p, l[i] = p := ⟨_, rfl⟩
      have hpm0 : p ∈ l := by rw [← hp]; exact List.getElem_mem hlt
      have hpb := HD.out.pl p hpm0
      have hT2 : crowdR b (2 * gap) l = acc ++ ((l.drop (i + 1)).filterMap (crowd2 b (2 * gap) p) ++ crowdR b (2 * gap) (l.drop (i + 1))) := HT.out.trans (by rw [drop_at l hlt, hp, crowdR_cons])
      rcases hA with rfl | ⟨g, rfl, hrow⟩
      · simp at hlt
      have hrP := (hrow.below HWP.out.2.1).below HS.out.1
      obtain ⟨p0, p1, p2, p3, p4⟩ := row_pl hrP hlt
      rw [hp] at p0 p1 p2 p3 p4
      have hg1 : g < wr.heap.size := hrP.1
      obtain ⟨c0, c1, c2, c3⟩ := blk4 (blk_below HS.out.1 HWP.out.1)
      have hwP : w.heap.size < wr.heap.size := by have := HS.out.1.size; have := HWP.out.2.2; omega
      have HPB := Lib.hid hpb
      have HPM0 := Lib.hid hpm0
      have HT2 := Lib.hid hT2
      have HROW := Lib.hid (hrow.below HWP.out.2.1)
      clear hp hpb hT2 hrow hrP HT hpm0
      obtain ⟨nm, pt, x, y, q⟩ := p
      dsimp only at p0 p1 p2 p3 p4
      obtain ⟨wo, rfl⟩ : ∃ wo : World, wo = wr := ⟨_, rfl⟩
      have HIN : Hid (CrSt2 wP.heap.size wP acc u7 wo.heap.size ⟨nm, pt, x, y, q⟩ (wo.alloc (.cells #[.string nm, .string pt, .int .i64 x, .int .i64 y, .int .i64 q] 50))) :=
        ⟨HS.out.1.alloc HS.out.1.size _, HS.out.2.alloc _, fun e => absurd (own_lt HS.out.2 _ e) (by omega), blk_new _ _ rfl, HS.out.1.size⟩
      clear HS
      by_cases hce : c = i + 1
      · have hce2 : l.length - (i + 1) = 0 := by omega
        subst hce
        go_wp2_with fail
        go_loopw [7, 31] (fun v kk wr => ∃ (k : Nat) (acc' : List (ByteArray × ByteArray)), k ≤ l.length - (i + 1) ∧ kk = .int .i64 k ∧ acc'.length ≤ i * 1000 + k ∧ wo.heap.size < wr.heap.size ∧ Hid (CrSt2 wP.heap.size wP acc' v wo.heap.size ⟨nm, pt, x, y, q⟩ wr) ∧
          Hid (crowdR b (2 * gap) l = acc' ++ ((l.drop (i + 1 + k)).filterMap (crowd2 b (2 * gap) ⟨nm, pt, x, y, q⟩) ++ crowdR b (2 * gap) (l.drop (i + 1))))) (fun _ kk _ => (l.length - (i + 1)) - (intOf kk).toNat)
        case atStart => exact ⟨0, acc, by omega, rfl, by omega, by simp, HIN, HT2⟩
        case round =>
          clear HIN
          obtain ⟨k, acc', hk, rfl, hac', hsz, HS, HTT⟩ := hrel
          by_cases hlk : k < l.length - (i + 1)
          · omega
          · obtain rfl : k = l.length - (i + 1) := by omega
            have HF : Hid (crowdR b (2 * gap) l = acc' ++ crowdR b (2 * gap) (l.drop (i + 1))) := HTT.out.trans (by rw [List.drop_eq_nil_of_le (by omega)]; rfl)
            have HS1 : Hid (CrSt wP.heap.size wP acc' u7 wr) := ⟨HS.out.1, HS.out.2.1⟩
            clear HS
            go_wp2_with fail
            go_roundw
            case rel => exact ⟨i + 1, acc', by omega, by go_num, by omega, HS1, HF⟩
            case measure => simp [intOf]; omega
      · go_wp2_with fail
        go_loopw [7, 31] (fun v kk wr => ∃ (k : Nat) (acc' : List (ByteArray × ByteArray)), k ≤ l.length - (i + 1) ∧ kk = .int .i64 k ∧ acc'.length ≤ i * 1000 + k ∧ wo.heap.size < wr.heap.size ∧ Hid (CrSt2 wP.heap.size wP acc' v wo.heap.size ⟨nm, pt, x, y, q⟩ wr) ∧
          Hid (crowdR b (2 * gap) l = acc' ++ ((l.drop (i + 1 + k)).filterMap (crowd2 b (2 * gap) ⟨nm, pt, x, y, q⟩) ++ crowdR b (2 * gap) (l.drop (i + 1))))) (fun _ kk _ => (l.length - (i + 1)) - (intOf kk).toNat)
        case atStart => exact ⟨0, acc, by omega, rfl, by omega, by simp, HIN, HT2⟩
        case round =>
          clear HIN
          obtain ⟨k, acc', hk, rfl, hac', hsz, HS, HTT⟩ := hrel
          by_cases hlk : k < l.length - (i + 1)
          · have hik : i + 1 + k < l.length := by omega
            obtain ⟨p2, hp2⟩ : ∃ p, l[i + 1 + k] = p := ⟨_, rfl⟩
            have hpm2 : p2 ∈ l := by rw [← hp2]; exact List.getElem_mem hik
            have hpb2 := HD.out.pl p2 hpm2
            have hT3 : crowdR b (2 * gap) l = acc' ++ ((p2 :: l.drop (i + 1 + (k + 1))).filterMap (crowd2 b (2 * gap) ⟨nm, pt, x, y, q⟩) ++ crowdR b (2 * gap) (l.drop (i + 1))) := HTT.out.trans (by rw [drop_at l hik, hp2, show i + 1 + k + 1 = i + 1 + (k + 1) by omega])
            have hr2 := HROW.out.below HS.out.1
            obtain ⟨q0, q1, q2, q3, q4⟩ := row_pl hr2 hik
            rw [hp2, show (i + 1 + k) * 5 = (i + 1) * 5 + k * 5 by omega] at q0 q1 q2 q3 q4
            obtain ⟨d0, d1, d2, d3, d4⟩ := blk5 HS.out.2.2.2.1
            have hg2 : g < wr.heap.size := hr2.1
            have hPM := Lib.hid hpm2
            have HPB2 := Lib.hid hpb2
            have HT3 := Lib.hid hT3
            clear hp2 hpm2 hpb2 hT3 hr2 HTT
            obtain ⟨nm2, pt2, x2, y2, e2⟩ := p2
            dsimp only at q0 q1 q2 q3 q4
            have HBw : Hid (Below w.heap.size w wr) := HWP.out.2.1.then_below HS.out.1 HWP.out.2.1.size
            have hwr : w.heap.size < wr.heap.size := by have := HS.out.1.size; have := HWP.out.2.2; omega
            have CX0 := Lib.hid (fun (W' : World) (h : BoAt W' B b) hn => bodyBox_none B d b (by omega) ⟨nm, pt, x, y, q⟩ W' h hn)
            have CX1 := Lib.hid (fun (W' : World) (h : BoAt W' B b) a hn => bodyBox_some B d b (by omega) HD.out.bo ⟨nm, pt, x, y, q⟩ ⟨HPB.out.1, HPB.out.2.1, HPB.out.2.2.1⟩ a W' h hn)
            have CY0 := Lib.hid (fun (W' : World) (h : BoAt W' B b) hn => bodyBox_none B d b (by omega) ⟨nm2, pt2, x2, y2, e2⟩ W' h hn)
            have CY1 := Lib.hid (fun (W' : World) (h : BoAt W' B b) a hn => bodyBox_some B d b (by omega) HD.out.bo ⟨nm2, pt2, x2, y2, e2⟩ ⟨HPB2.out.1, HPB2.out.2.1, HPB2.out.2.2.1⟩ a W' h hn)
            dsimp only [boxC] at CX0 CX1 CY0 CY1
            have hbk := HS.out.2.2.2.2
            cases ha : boxOf b ⟨nm, pt, x, y, q⟩ with
            | none =>
              have HF : Hid (crowdR b (2 * gap) l = acc' ++ ((l.drop (i + 1 + (k + 1))).filterMap (crowd2 b (2 * gap) ⟨nm, pt, x, y, q⟩) ++ crowdR b (2 * gap) (l.drop (i + 1)))) := HT3.out.trans (by rw [List.filterMap_cons_none (crowd2_none (.inl ha))])
              have HA := Lib.hid ha
              clear ha
              cases hb2 : boxOf b ⟨nm2, pt2, x2, y2, e2⟩ with
              | none =>
                have HB2 := Lib.hid hb2
                clear hb2
                go_wp2_with fail
                refine (CX0.out _ (hB.below (HBw.out.alloc HBw.out.size _)) HA.out).mono ?_
                rintro e w1 ⟨rfl, hb1⟩
                have hal1 : Below wr.heap.size wr w1 := ((Below.refl _ _).alloc (Nat.le_refl _) _).then_below hb1
                have ky := blk_below hb1 (blk_new wr _ rfl)
                obtain ⟨f0, f1, f2, f3, f4⟩ := blk5 ky
                have hs1 : wr.heap.size < w1.heap.size := by have := hb1.size; simp at this; omega
                have HW1 := Lib.hid (And.intro (HS.out.below hal1) (And.intro ky (HBw.out.then_below hal1 HBw.out.size)))
                clear hal1 ky hb1 d0 d1 d2 d3 d4 q0 q1 q2 q3 q4 HS
                go_wp2_with fail
                refine (CY0.out _ (hB.below (HW1.out.2.2.alloc HW1.out.2.2.size _)) HB2.out).mono ?_
                rintro e w2 ⟨rfl, hb2⟩
                have hal2 : Below w1.heap.size w1 w2 := ((Below.refl _ _).alloc (Nat.le_refl _) _).then_below hb2
                have hs2 : w1.heap.size < w2.heap.size := by have := hb2.size; simp at this; omega
                have HW2 := Lib.hid (And.intro (HW1.out.1.below hal2) (And.intro (blk_below hal2 HW1.out.2.1) (And.intro (blk_below hb2 (blk_new w1 _ rfl)) (HW1.out.2.2.then_below hal2 HW1.out.2.2.size))))
                clear hal2 hb2 f0 f1 f2 f3 f4 HW1
                have HFS : Hid (CrSt2 wP.heap.size wP acc' u7 wo.heap.size ⟨nm, pt, x, y, q⟩ (w2.alloc (.cells #[.int .i64 0, .int .i64 0, .int .i64 0, .int .i64 0] 141))) := HW2.out.1.below ((Below.refl _ _).alloc (Nat.le_refl _) _)
                clear HW2
                go_wp2_with fail
                go_roundw
                case rel => exact ⟨k + 1, acc', by omega, by go_num, by omega, by simp; omega, HFS, HF⟩
                case measure => simp [intOf]; omega
              | some a2 =>
                obtain ⟨bxf, bxt, byf, byt⟩ := a2
                have HB2 := Lib.hid hb2
                clear hb2
                go_wp2_with fail
                refine (CX0.out _ (hB.below (HBw.out.alloc HBw.out.size _)) HA.out).mono ?_
                rintro e w1 ⟨rfl, hb1⟩
                have hal1 : Below wr.heap.size wr w1 := ((Below.refl _ _).alloc (Nat.le_refl _) _).then_below hb1
                have ky := blk_below hb1 (blk_new wr _ rfl)
                obtain ⟨f0, f1, f2, f3, f4⟩ := blk5 ky
                have hs1 : wr.heap.size < w1.heap.size := by have := hb1.size; simp at this; omega
                have HW1 := Lib.hid (And.intro (HS.out.below hal1) (And.intro ky (HBw.out.then_below hal1 HBw.out.size)))
                clear hal1 ky hb1 d0 d1 d2 d3 d4 q0 q1 q2 q3 q4 HS
                go_wp2_with fail
                refine (CY1.out _ (hB.below (HW1.out.2.2.alloc HW1.out.2.2.size _)) ⟨bxf, bxt, byf, byt⟩ HB2.out).mono ?_
                rintro e w2 ⟨rfl, hb2⟩
                have hal2 : Below w1.heap.size w1 w2 := ((Below.refl _ _).alloc (Nat.le_refl _) _).then_below hb2
                have hs2 : w1.heap.size < w2.heap.size := by have := hb2.size; simp at this; omega
                have HW2 := Lib.hid (And.intro (HW1.out.1.below hal2) (And.intro (blk_below hal2 HW1.out.2.1) (And.intro (blk_below hb2 (blk_new w1 _ rfl)) (HW1.out.2.2.then_below hal2 HW1.out.2.2.size))))
                clear hal2 hb2 f0 f1 f2 f3 f4 HW1
                have HFS : Hid (CrSt2 wP.heap.size wP acc' u7 wo.heap.size ⟨nm, pt, x, y, q⟩ (w2.alloc (.cells #[.int .i64 bxf, .int .i64 byf, .int .i64 bxt, .int .i64 byt] 141))) := HW2.out.1.below ((Below.refl _ _).alloc (Nat.le_refl _) _)
                clear HW2
                go_wp2_with fail
                go_roundw
                case rel => exact ⟨k + 1, acc', by omega, by go_num, by omega, by simp; omega, HFS, HF⟩
                case measure => simp [intOf]; omega
            | some a =>
              obtain ⟨axf, axt, ayf, ayt⟩ := a
              cases hb2 : boxOf b ⟨nm2, pt2, x2, y2, e2⟩ with
              | none =>
                have HF : Hid (crowdR b (2 * gap) l = acc' ++ ((l.drop (i + 1 + (k + 1))).filterMap (crowd2 b (2 * gap) ⟨nm, pt, x, y, q⟩) ++ crowdR b (2 * gap) (l.drop (i + 1)))) := HT3.out.trans (by rw [List.filterMap_cons_none (crowd2_none (.inr hb2))])
                have HA := Lib.hid ha
                have HB2 := Lib.hid hb2
                clear ha hb2
                go_wp2_with fail
                refine (CX1.out _ (hB.below (HBw.out.alloc HBw.out.size _)) ⟨axf, axt, ayf, ayt⟩ HA.out).mono ?_
                rintro e w1 ⟨rfl, hb1⟩
                have hal1 : Below wr.heap.size wr w1 := ((Below.refl _ _).alloc (Nat.le_refl _) _).then_below hb1
                have ky := blk_below hb1 (blk_new wr _ rfl)
                obtain ⟨f0, f1, f2, f3, f4⟩ := blk5 ky
                have hs1 : wr.heap.size < w1.heap.size := by have := hb1.size; simp at this; omega
                have HW1 := Lib.hid (And.intro (HS.out.below hal1) (And.intro ky (HBw.out.then_below hal1 HBw.out.size)))
                clear hal1 ky hb1 d0 d1 d2 d3 d4 q0 q1 q2 q3 q4 HS
                go_wp2_with fail
                refine (CY0.out _ (hB.below (HW1.out.2.2.alloc HW1.out.2.2.size _)) HB2.out).mono ?_
                rintro e w2 ⟨rfl, hb2⟩
                have hal2 : Below w1.heap.size w1 w2 := ((Below.refl _ _).alloc (Nat.le_refl _) _).then_below hb2
                have hs2 : w1.heap.size < w2.heap.size := by have := hb2.size; simp at this; omega
                have HW2 := Lib.hid (And.intro (HW1.out.1.below hal2) (And.intro (blk_below hal2 HW1.out.2.1) (And.intro (blk_below hb2 (blk_new w1 _ rfl)) (HW1.out.2.2.then_below hal2 HW1.out.2.2.size))))
                clear hal2 hb2 f0 f1 f2 f3 f4 HW1
                have HFS : Hid (CrSt2 wP.heap.size wP acc' u7 wo.heap.size ⟨nm, pt, x, y, q⟩ (w2.alloc (.cells #[.int .i64 0, .int .i64 0, .int .i64 0, .int .i64 0] 141))) := HW2.out.1.below ((Below.refl _ _).alloc (Nat.le_refl _) _)
                clear HW2
                go_wp2_with fail
                go_roundw
                case rel => exact ⟨k + 1, acc', by omega, by go_num, by omega, by simp; omega, HFS, HF⟩
                case measure => simp [intOf]; omega
              | some a2 =>
                obtain ⟨bxf, bxt, byf, byt⟩ := a2
                have hc2 := crowd2_some (g := 2 * gap) ha hb2
                obtain ⟨⟨ax0, ax1⟩, ⟨ax2, ax3⟩, ⟨ay0, ay1⟩, ay2, ay3⟩ := arB_areas HD.out _ (box_mem (HPM0.out) ha)
                obtain ⟨⟨bx0, bx1⟩, ⟨bx2, bx3⟩, ⟨by0, by1⟩, by2, by3⟩ := arB_areas HD.out _ (box_mem hPM.out hb2)
                dsimp only at ax0 ax1 ax2 ax3 ay0 ay1 ay2 ay3 bx0 bx1 bx2 bx3 by0 by1 by2 by3
                have C1 := Lib.hid (fun W' => apartR_any axf axt bxf bxt W' ⟨ax0, ax1⟩ ⟨ax2, ax3⟩ ⟨bx0, bx1⟩ ⟨bx2, bx3⟩)
                have C2 := Lib.hid (fun W' => apartR_any ayf ayt byf byt W' ⟨ay0, ay1⟩ ⟨ay2, ay3⟩ ⟨by0, by1⟩ ⟨by2, by3⟩)
                have HNA : Hid (nearA (2 * gap) ⟨axf, axt, ayf, ayt⟩ ⟨bxf, bxt, byf, byt⟩ = (decide (max (axf - bxt) (bxf - axt) < 2 * gap) && decide (max (ayf - byt) (byf - ayt) < 2 * gap))) := rfl
                have HC2 := Lib.hid hc2
                have HA := Lib.hid ha
                have HB2 := Lib.hid hb2
                clear ha hb2 hc2 ax0 ax1 ax2 ax3 ay0 ay1 ay2 ay3 bx0 bx1 bx2 bx3 by0 by1 by2 by3
                generalize max (axf - bxt) (bxf - axt) = m1 at *
                generalize max (ayf - byt) (byf - ayt) = m2 at *
                go_wp2_with fail
                refine (CX1.out _ (hB.below (HBw.out.alloc HBw.out.size _)) ⟨axf, axt, ayf, ayt⟩ HA.out).mono ?_
                rintro e w1 ⟨rfl, hb1⟩
                have hal1 : Below wr.heap.size wr w1 := ((Below.refl _ _).alloc (Nat.le_refl _) _).then_below hb1
                have ky := blk_below hb1 (blk_new wr _ rfl)
                obtain ⟨f0, f1, f2, f3, f4⟩ := blk5 ky
                have hs1 : wr.heap.size < w1.heap.size := by have := hb1.size; simp at this; omega
                have HW1 := Lib.hid (And.intro (HS.out.below hal1) (And.intro ky (HBw.out.then_below hal1 HBw.out.size)))
                clear hal1 ky hb1 d0 d1 d2 d3 d4 q0 q1 q2 q3 q4 HS
                go_wp2_with fail
                refine (CY1.out _ (hB.below (HW1.out.2.2.alloc HW1.out.2.2.size _)) ⟨bxf, bxt, byf, byt⟩ HB2.out).mono ?_
                rintro e w2 ⟨rfl, hb2⟩
                have hal2 : Below w1.heap.size w1 w2 := ((Below.refl _ _).alloc (Nat.le_refl _) _).then_below hb2
                have hs2 : w1.heap.size < w2.heap.size := by have := hb2.size; simp at this; omega
                have HW2 := Lib.hid (And.intro (HW1.out.1.below hal2) (And.intro (blk_below hal2 HW1.out.2.1) (And.intro (blk_below hb2 (blk_new w1 _ rfl)) (HW1.out.2.2.then_below hal2 HW1.out.2.2.size))))
                clear hal2 hb2 f0 f1 f2 f3 f4 HW1
                obtain ⟨g0, g1', g2, g3⟩ := blk4 HW2.out.2.2.1
                obtain ⟨h0, _, _, _, _⟩ := blk5 HW2.out.1.2.2.2.1
                obtain ⟨j0, _, _, _, _⟩ := blk5 HW2.out.2.1
                have hwo2 : wo.heap.size < w2.heap.size := by omega
                have hwr2 : wr.heap.size < w2.heap.size := by omega
                by_cases h1 : m1 < 2 * gap
                · by_cases h2 : m2 < 2 * gap
                  · have HN : Hid (nearA (2 * gap) ⟨axf, axt, ayf, ayt⟩ ⟨bxf, bxt, byf, byt⟩ = true) := HNA.out.trans (by simp [h1, h2])
                    have HF : Hid (crowdR b (2 * gap) l = (acc' ++ [(nm, nm2)]) ++ ((l.drop (i + 1 + (k + 1))).filterMap (crowd2 b (2 * gap) ⟨nm, pt, x, y, q⟩) ++ crowdR b (2 * gap) (l.drop (i + 1)))) := HT3.out.trans (by rw [List.filterMap_cons_some (HC2.out.trans (by rw [HN.out]; rfl))]; simp)
                    obtain ⟨A7, k7, rfl, _⟩ := own_form HW2.out.1.2.1
                    go_wp2_with fail
                    refine (C1.out _).mono ?_
                    rintro e w3 ⟨rfl, rfl⟩
                    go_wp2_with fail
                    refine (C2.out _).mono ?_
                    rintro e w3 ⟨rfl, rfl⟩
                    go_wp2_with (at_builtin; refine hold ?_)
                    refine loose ?_
                    obtain ⟨i0, hi0, hz0, hz1, hz2⟩ := info_parts pair_info
                    refine wpList_append_lies _ rfl _ _ 80 rfl wP.heap.size 92 i0 _ 2 32 Try.underlying80 hi0 hz0 hz1 hz2 rfl (by omega) _ acc'.length (acc'.flatMap pairOf) rfl ((HW2.out.1.2.1.alloc _).alloc _) ⟨w2.heap.size + 1, 0, none⟩ 1 1 [.string nm, .string nm2] rfl rfl ?c1 (by intro u hu; simp at hu; rcases hu with rfl | rfl <;> rfl) (by omega) ?c2 ?c3 ?c4 (w2.heap.size + 2) ?c5 ?_
                    case c1 =>
                      intro j u hu
                      rw [addr_new, cell_of_blk (blk_new (g := w2.heap.size + 1) _ _ (by simp))]
                      simpa using hu
                    case c2 => unfold maxLen; omega
                    case c3 => omega
                    case c4 => simp; omega
                    case c5 => simp
                    intro gg cap w' hown hgr hat hlt'
                    have hat' : (Value.slice A7 acc'.length k7).ownBlock = some gg ∨ gg = w2.heap.size + 2 := hat
                    have hgr' : World.grownBy _ w' (Value.slice A7 acc'.length k7).ownBlock := hgr
                    have hsg := hgr.size
                    simp at hsg
                    have HFS : Hid (CrSt2 wP.heap.size wP (acc' ++ [(nm, nm2)]) (.slice (some ⟨gg, 0, none⟩) (acc'.length + 1) cap) wo.heap.size ⟨nm, pt, x, y, q⟩ w') := by
                      have hbb : Below wP.heap.size wP ((w2.alloc (Obj.cells #[.int .i64 bxf, .int .i64 byf, .int .i64 bxt, .int .i64 byt] 141)).alloc (Obj.cells #[.string nm, .string nm2] 92)) := (HW2.out.1.1.alloc HW2.out.1.1.size _).alloc (by simp; have := HW2.out.1.1.size; omega) _
                      refine ⟨hbb.grown hgr (by simp; have := HW2.out.1.1.size; omega) (fun j e => own_row HW2.out.1.2.1 j e), ?_, ?_, ?_, hbk⟩
                      · have e1 : (acc' ++ [(nm, nm2)]).flatMap pairOf = acc'.flatMap pairOf ++ [.string nm, .string nm2] := by rw [List.flatMap_append]; simp [pairOf]
                        rw [e1, List.length_append]
                        exact hown
                      · intro e
                        simp [Value.ownBlock] at e
                        rcases hat' with h | h
                        · exact HW2.out.1.2.2.1 (by rw [h, e])
                        · omega
                      · exact (hgr'.block _ (by simp; omega) (fun e => HW2.out.1.2.2.1 e.symm)).trans (blk_alloc (blk_alloc HW2.out.1.2.2.2.1 _) _)
                    have hszF : wo.heap.size < w'.heap.size := by omega
                    clear hown hgr hgr' hat hat' hlt' HW2 hi0 hz0 hz1 hz2 hsg
                    go_wp2_with fail
                    go_roundw
                    case rel => exact ⟨k + 1, acc' ++ [(nm, nm2)], by omega, by go_num, by simp; omega, hszF, HFS, HF⟩
                    case measure => simp [intOf]; omega
                  · have HN : Hid (nearA (2 * gap) ⟨axf, axt, ayf, ayt⟩ ⟨bxf, bxt, byf, byt⟩ = false) := HNA.out.trans (by simp [h2])
                    have HF : Hid (crowdR b (2 * gap) l = acc' ++ ((l.drop (i + 1 + (k + 1))).filterMap (crowd2 b (2 * gap) ⟨nm, pt, x, y, q⟩) ++ crowdR b (2 * gap) (l.drop (i + 1)))) := HT3.out.trans (by rw [List.filterMap_cons_none (HC2.out.trans (by rw [HN.out]; rfl))])
                    have HFS : Hid (CrSt2 wP.heap.size wP acc' u7 wo.heap.size ⟨nm, pt, x, y, q⟩ (w2.alloc (.cells #[.int .i64 bxf, .int .i64 byf, .int .i64 bxt, .int .i64 byt] 141))) := HW2.out.1.below ((Below.refl _ _).alloc (Nat.le_refl _) _)
                    clear HW2
                    go_wp2_with fail
                    refine (C1.out _).mono ?_
                    rintro e w3 ⟨rfl, rfl⟩
                    go_wp2_with fail
                    refine (C2.out _).mono ?_
                    rintro e w3 ⟨rfl, rfl⟩
                    go_wp2_with fail
                    go_roundw
                    case rel => exact ⟨k + 1, acc', by omega, by go_num, by omega, by simp; omega, HFS, HF⟩
                    case measure => simp [intOf]; omega
                · have HN : Hid (nearA (2 * gap) ⟨axf, axt, ayf, ayt⟩ ⟨bxf, bxt, byf, byt⟩ = false) := HNA.out.trans (by simp [h1])
                  have HF : Hid (crowdR b (2 * gap) l = acc' ++ ((l.drop (i + 1 + (k + 1))).filterMap (crowd2 b (2 * gap) ⟨nm, pt, x, y, q⟩) ++ crowdR b (2 * gap) (l.drop (i + 1)))) := HT3.out.trans (by rw [List.filterMap_cons_none (HC2.out.trans (by rw [HN.out]; rfl))])
                  have HFS : Hid (CrSt2 wP.heap.size wP acc' u7 wo.heap.size ⟨nm, pt, x, y, q⟩ (w2.alloc (.cells #[.int .i64 bxf, .int .i64 byf, .int .i64 bxt, .int .i64 byt] 141))) := HW2.out.1.below ((Below.refl _ _).alloc (Nat.le_refl _) _)
                  clear HW2
                  go_wp2_with fail
                  refine (C1.out _).mono ?_
                  rintro e w3 ⟨rfl, rfl⟩
                  go_wp2_with fail
                  go_roundw
                  case rel => exact ⟨k + 1, acc', by omega, by go_num, by omega, by simp; omega, HFS, HF⟩
                  case measure => simp [intOf]; omega
          · obtain rfl : k = l.length - (i + 1) := by omega
            have HF : Hid (crowdR b (2 * gap) l = acc' ++ crowdR b (2 * gap) (l.drop (i + 1))) := HTT.out.trans (by rw [List.drop_eq_nil_of_le (by omega)]; rfl)
            have HS1 : Hid (CrSt wP.heap.size wP acc' u7 wr) := ⟨HS.out.1, HS.out.2.1⟩
            clear HS
            go_wp2_with fail
            go_roundw
            case rel => exact ⟨i + 1, acc', by omega, by go_num, by omega, HS1, HF⟩
            case measure => simp [intOf]; omega
    · obtain rfl : i = l.length := by omega
      obtain ⟨A3, k3, rfl, _⟩ := own_form HS.out.2
      have HF : Hid (crowdR b (2 * gap) l = acc) := HT.out.trans (by rw [List.drop_length]; simp [crowdR, prs])
      have hs := HWP.out.2.1.size
      go_wp2_with fail
      go_ret
      rw [HF.out]
      exact ⟨_, rfl, HWP.out.2.1.then_below HS.out.1 hs, own_mono HS.out.2 hs⟩
end Go.Proofs.Ytiehkcbjfamnkaa
