/-
  The parts that no machine can place: the program's answer. The bound: plain words, the least time of a part.
-/
import Derived.Test.YtopoemfnnnfgdaaGreatDoorLbQ
namespace Go.Proofs.YtopoemfnnnfgdaaGreatDoor
open Go.RowKit
set_option linter.unusedSimpArgs false
set_option linter.unusedVariables false

set_option maxRecDepth 100000 in
set_option maxHeartbeats 8000000 in
theorem nobody_any {base : Nat} (ms : List Mc) (ns : List Nd) (hl : ms.length ≤ 1000000) (hc : ∀ m ∈ ms, m.can.length ≤ 1000000) (hnl : ns.length ≤ 1000000) {v1 v2 : Value} {w : World} (h1 : MsF base v1 ms w) (h2 : Reads encD v2 ns w) :
    Calls Tryz.prog 11 #[v1, v2] w fun e w' => ∃ v, e = .returned (.tuple #[v, .int .i64 (bothErr ms ns)]) ∧ Reads encS v (nobV ms ns) w' ∧ Below w.heap.size w w' := by
  have HR := Lib.hid (And.intro h1 h2)
  have C0 := Lib.hid (check_line ms ns hl hc hnl h1 h2)
  obtain ⟨A1, c1, rfl, hc1, _⟩ := h1
  obtain ⟨A2, c2, rfl, _⟩ := h2
  obtain ⟨i0, hi0, hz0, hzz1, hz20⟩ := info_parts str_info9
  have HI := Lib.hid (And.intro hi0 (And.intro hz0 (And.intro hzz1 hz20)))
  clear hi0 hz0 hzz1 hz20
  by_cases h0 : bothErr ms ns = 0
  rotate_left
  · have HV : Hid (nobV ms ns = []) := if_neg h0
    have hne : (bothErr ms ns != 0) = true := by simp [h0]
    generalize bothErr ms ns = E at *
    generalize nobV ms ns = CV at *
    clear h0
    go_enter Tryz.func11, Tryz.ntmps11
    go_wp2_with fail
    refine C0.out.mono ?_
    rintro e w2 ⟨rfl, b2⟩
    have HB := Lib.hid b2
    clear b2 C0
    go_wp2_with fail
    refine bodyPost_ret (v := .tuple #[.slice none 0 0, .int .i64 E]) (by unfold results; simp only [Tryz.results11]; go_simp) rfl ⟨_, rfl, ?_, HB.out⟩
    rw [HV.out]
    exact nil_readsS _
  have HV : Hid (nobV ms ns = nobT ms ns) := if_pos h0
  have hm := machErr_ok (bothErr_ok h0).1
  have hn := needErr_ok (bothErr_ok h0).2
  have HM := Lib.hid hm
  have hmf := hm.few
  have hnf := hn.few
  rw [h0] at C0 ⊢
  generalize nobV ms ns = CV at *
  clear hm hn h0
  go_enter Tryz.func11, Tryz.ntmps11
  go_wp2_with fail
  refine C0.out.mono ?_
  rintro e w2 ⟨rfl, b2⟩
  have HB2 := Lib.hid b2
  have hz2 := b2.size
  clear b2 C0
  go_wp2_with fail
  go_loopw [7, 18] (fun v5 kk wr => ∃ (t : Nat) (l : List ByteArray), t ≤ ns.length ∧ l.length ≤ t ∧ kk = .int .i64 t ∧ w.heap.size ≤ wr.heap.size ∧ Hid (l = nobT ms (ns.take t) ∧ Below w.heap.size w wr ∧ wr.ownsRow w.heap.size 9 1 v5 l.length (l.map Value.string))) (fun _ kk _ => ns.length - (intOf kk).toNat)
  case atStart => exact ⟨0, [], by omega, by simp, rfl, hz2, by rw [List.take_zero]; rfl, HB2.out, World.ownsRow_nil _ _ _ _⟩
  case round =>
    clear HB2 hz2
    obtain ⟨t, l, ht, hlt, rfl, hwz, HS⟩ := hrel
    obtain ⟨A5, c5, rfl, _⟩ := own_form HS.out.2.2
    by_cases htl : t < ns.length
    · obtain ⟨g2, e2, hg2, n0, n1⟩ := readsD_at (HR.out.2.below HS.out.2.1) htl
      cases e2
      have HT : Hid (nobT ms (ns.take (t + 1)) = nobT ms (ns.take t) ++ (if anyB ms ns[t].part = true then [] else [ns[t].part])) := by
        show _ = _
        rw [List.take_succ_eq_append_getElem htl, nobT_snoc]
      generalize ns[t] = nd at *
      obtain ⟨part, many⟩ := nd
      dsimp only at n0 n1 HT
      have i1 : (0 : Int) ≤ (t : Int) := by omega
      have i2 : (t : Int) < (ns.length : Int) := by omega
      have HX : Hid (Below w.heap.size w (wr.alloc (.cells #[.string part, .int .i64 many] 62)) ∧ (wr.alloc (.cells #[.string part, .int .i64 many] 62)).ownsRow w.heap.size 9 1 (.slice A5 l.length c5) l.length (l.map Value.string) ∧ (wr.alloc (.cells #[.string part, .int .i64 many] 62)).heap[wr.heap.size]? = some (.cells #[.string part, .int .i64 many] 62 (0, 0))) := ⟨HS.out.2.1.alloc HS.out.2.1.size _, HS.out.2.2.alloc _, blk_new wr _ rfl⟩
      have HL0 : Hid (l = nobT ms (ns.take t)) := HS.out.1
      go_upto_region 8 with (fail)
      generalize wr.alloc (.cells #[.string part, .int .i64 many] 62) = wx at *
      obtain ⟨gx, hgx⟩ : ∃ gx, wr.heap.size = gx := ⟨_, rfl⟩
      rw [hgx] at HX hwz ⊢
      clear hgx n0 n1 HS hg2
      have hkat : KAt gx part wx := ⟨lt_of_blk HX.out.2.2, (blk2c HX.out.2.2).1⟩
      have CC := Lib.hid (containsP_any (enters_of Tryz.func31 (by kernel_rfl) rfl) gx (fun m => has m.can part) (KAt gx part) (fun W W' h hb => h.below hb) ms (fun m hmm A c W h hr => nobP_any m (HM.out.ok m hmm) gx part h hr) (by omega) (HR.out.1.below HX.out.1) hkat)
      have HAB : Hid (ms.any (fun m => has m.can part) = anyB ms part) := rfl
      rw [HAB.out] at CC
      clear hkat HAB
      have hzx := HX.out.1.size
      generalize anyB ms part = f at *
      go_wp2_with fail
      refine CC.out.mono ?_
      rintro e w4 ⟨rfl, b4⟩
      have H4 : Hid (Below w.heap.size w w4 ∧ w4.ownsRow w.heap.size 9 1 (.slice A5 l.length c5) l.length (l.map Value.string) ∧ w4.heap[gx]? = some (.cells #[.string part, .int .i64 many] 62 (0, 0))) := ⟨HX.out.1.then_below b4 hzx, own_below HX.out.2.1 b4, blk_below b4 HX.out.2.2⟩
      have hz4 := H4.out.1.size
      clear b4 HX CC
      cases f
      · obtain ⟨p0, _⟩ := blk2c H4.out.2.2
        have pl := lt_of_blk H4.out.2.2
        go_wp2_with (at_builtin; refine hold ?_)
        refine loose ?_
        refine wpList_append_own _ rfl _ _ 40 rfl w.heap.size 9 i0 _ 1 16 Tryz.underlying40 HI.out.1 HI.out.2.1 HI.out.2.2.1 HI.out.2.2.2 rfl (by omega) _ l.length (l.map Value.string) rfl (H4.out.2.1.alloc _) ⟨w4.heap.size, 0, none⟩ 1 1 [.string part] rfl rfl (cell_one_new _ _ _) (by intro u hu; simp at hu; subst hu; rfl) (by unfold maxLen; omega) (by omega) (by simp; omega) ?_
        intro v' w5 hown' hg' _
        have H5 : Hid (l ++ [part] = nobT ms (ns.take (t + 1)) ∧ Below w.heap.size w w5 ∧ w5.ownsRow w.heap.size 9 1 v' (l ++ [part]).length ((l ++ [part]).map Value.string)) := by
          refine ⟨by rw [HT.out, HL0.out]; rfl, (H4.out.1.alloc H4.out.1.size _).grown hg' (by simp; omega) (own_row H4.out.2.1), ?_⟩
          rw [List.length_append, List.map_append]
          exact hown'
        have hz5 := H5.out.2.1.size
        clear hown' hg' H4 p0 pl
        go_wp2_with fail
        go_roundw
        case rel => exact ⟨t + 1, l ++ [part], by omega, by simp; omega, by go_num, hz5, H5⟩
        case measure => simp [intOf]; omega
      · have H5 : Hid (l = nobT ms (ns.take (t + 1)) ∧ Below w.heap.size w w4 ∧ w4.ownsRow w.heap.size 9 1 (.slice A5 l.length c5) l.length (l.map Value.string)) := ⟨by rw [HT.out, HL0.out]; simp, H4.out.1, H4.out.2.1⟩
        go_wp2_with fail
        go_roundw
        case rel => exact ⟨t + 1, l, by omega, by omega, by go_num, hz4, H5⟩
        case measure => simp [intOf]; omega
    · obtain rfl : t = ns.length := by omega
      go_wp2_with fail
      refine bodyPost_ret (v := .tuple #[.slice A5 l.length c5, .int .i64 0]) (by unfold results; simp only [Tryz.results11]; go_simp) rfl ⟨_, rfl, ?_, HS.out.2.1⟩
      have hl := HS.out.1
      rw [List.take_of_length_le (Nat.le_refl _)] at hl
      rw [HV.out, ← hl]
      exact readsS_own HS.out.2.2 rfl

/-! ### The least time of a part -/
def stE (x : ByteArray) (o : Option Int) (m : Mc) : Option Int := if has m.can x = true ∧ (∀ a, o = some a → m.each < a) then some m.each else o
def leO (ms : List Mc) (x : ByteArray) : Option Int := ms.foldl (stE x) none
theorem leO_take {ms : List Mc} (x : ByteArray) {k : Nat} (hk : k < ms.length) : leO (ms.take (k + 1)) x = stE x (leO (ms.take k) x) ms[k] := by
  unfold leO
  rw [List.take_succ_eq_append_getElem hk, List.foldl_append]
  rfl
theorem leO_bd {ms : List Mc} (hm : ∀ m ∈ ms, McOk m) (x : ByteArray) : ∀ k, k ≤ ms.length → ∀ a, leO (ms.take k) x = some a → 0 ≤ a ∧ a ≤ 10000000
  | 0, _, a, h => by simp [leO] at h
  | k + 1, hk, a, h => by
    rw [leO_take x (by omega)] at h
    unfold stE at h
    split at h
    · injection h with h
      subst h
      exact (hm _ (List.getElem_mem (by omega))).each
    · exact leO_bd hm x k (by omega) a h
def leI (o : Option Int) : Int := o.getD 0
def leM (o : Option Int) : Int := o.getD (-1)

set_option maxRecDepth 100000 in
set_option maxHeartbeats 8000000 in
theorem leastEach_any {base : Nat} (ms : List Mc) (x : ByteArray) (hm : MsOk ms) {v1 : Value} {w : World} (h1 : MsF base v1 ms w) :
    Calls Tryz.prog 29 #[v1, .string x] w fun e w' => e = .returned (.int .i64 (leI (leO ms x))) ∧ Below w.heap.size w w' := by
  have HR := Lib.hid h1
  have HM := Lib.hid hm
  have hmf := hm.few
  obtain ⟨A1, c1, rfl, hc1, _⟩ := h1
  clear hm
  go_enter Tryz.func29, Tryz.ntmps29
  go_wp2_with fail
  go_loopw [5, 6, 11] (fun v5 v6 kk wr => ∃ (k : Nat) (o : Option Int), k ≤ ms.length ∧ kk = .int .i64 k ∧ v5 = .int .i64 (leI o) ∧ v6 = .bool o.isSome ∧ Hid (leO (ms.take k) x = o ∧ Below w.heap.size w wr)) (fun _ _ kk _ => ms.length - (intOf kk).toNat)
  case atStart => exact ⟨0, none, by omega, rfl, rfl, rfl, rfl, Below.refl _ _⟩
  case round =>
    obtain ⟨k, o, hk, rfl, rfl, rfl, HS⟩ := hrel
    by_cases hlt : k < ms.length
    · obtain ⟨g1, e1, hg1, q0, q1, q2, q3, u, q4, A4, c4, rfl, hc4, hr4⟩ := (HR.out.below HS.out.2).at_ hlt
      cases e1
      have hmo := HM.out.ok _ (List.getElem_mem hlt)
      have HT : Hid (leO (ms.take (k + 1)) x = stE x o ms[k]) := (leO_take x hlt).trans (by rw [HS.out.1])
      generalize ms[k] = m at *
      obtain ⟨key, each, fixed, feed, can⟩ := m
      have hcl := hmo.few
      have hco := hmo.can
      dsimp only at q0 q1 q2 q3 q4 hcl hco hc4 hr4
      have HU : Hid (ReadsF base encS (.slice A4 can.length c4) can wr) := ⟨A4, c4, rfl, hc4, hr4⟩
      have CP := Lib.hid (fun (W : World) (h : ReadsF base encS (.slice A4 can.length c4) can W) => canPlace_any key each fixed feed can x (by omega) hco h)
      have i1 : (0 : Int) ≤ (k : Int) := by omega
      have i2 : (k : Int) < (ms.length : Int) := by omega
      have HX : Hid (Below w.heap.size w (wr.alloc (.cells #[.string key, .int .i64 each, .int .i64 fixed, .int .i64 feed, .slice A4 can.length c4] 57)) ∧ ReadsF base encS (.slice A4 can.length c4) can (wr.alloc (.cells #[.string key, .int .i64 each, .int .i64 fixed, .int .i64 feed, .slice A4 can.length c4] 57)) ∧ (wr.alloc (.cells #[.string key, .int .i64 each, .int .i64 fixed, .int .i64 feed, .slice A4 can.length c4] 57)).heap[wr.heap.size]? = some (.cells #[.string key, .int .i64 each, .int .i64 fixed, .int .i64 feed, .slice A4 can.length c4] 57 (0, 0))) := ⟨HS.out.2.alloc HS.out.2.size _, HU.out.below ((Below.refl _ _).alloc (Nat.le_refl _) _), blk_new wr _ rfl⟩
      clear hmo hr4 hco
      go_upto_region 5 with (fail)
      generalize wr.alloc (.cells #[.string key, .int .i64 each, .int .i64 fixed, .int .i64 feed, .slice A4 can.length c4] 57) = wx at *
      obtain ⟨gx, hgx⟩ : ∃ gx, wr.heap.size = gx := ⟨_, rfl⟩
      rw [hgx] at HX ⊢
      clear hgx q0 q1 q2 q3 q4 HU HS
      obtain ⟨p0, p1, p2, p3, p4⟩ := blk5 HX.out.2.2
      have pl := lt_of_blk HX.out.2.2
      have CPX := Lib.hid (CP.out wx HX.out.2.1)
      have hzx := HX.out.1.size
      cases hf : has can x
      · have HF : Hid (leO (ms.take (k + 1)) x = o) := HT.out.trans (by unfold stE; rw [if_neg (by rw [hf]; simp)])
        rw [hf] at CPX
        clear hf HT CP
        go_wp2_with fail
        refine CPX.out.mono ?_
        rintro e w4 ⟨rfl, b4⟩
        have H4 := Lib.hid (HX.out.1.then_below b4 hzx)
        clear b4 HX p0 p1 p2 p3 p4 pl CPX
        go_wp2_with fail
        go_roundw
        case rel => exact ⟨k + 1, o, by omega, by go_num, rfl, rfl, HF.out, H4.out⟩
        case measure => simp [intOf]; omega
      · rw [hf] at CPX
        clear CP
        cases o with
        | none =>
          have HF : Hid (leO (ms.take (k + 1)) x = some each) := HT.out.trans (by unfold stE; rw [if_pos ⟨hf, fun a h => by cases h⟩])
          clear hf HT
          simp only [Option.isSome_none]
          go_wp2_with fail
          refine CPX.out.mono ?_
          rintro e w4 ⟨rfl, b4⟩
          have H4 : Hid (Below w.heap.size w w4 ∧ w4.heap[gx]? = some (.cells #[.string key, .int .i64 each, .int .i64 fixed, .int .i64 feed, .slice A4 can.length c4] 57 (0, 0))) := ⟨HX.out.1.then_below b4 hzx, blk_below b4 HX.out.2.2⟩
          clear b4 HX p0 p1 p2 p3 p4 pl CPX
          obtain ⟨p0, p1, p2, p3, p4⟩ := blk5 H4.out.2
          have pl := lt_of_blk H4.out.2
          go_wp2_with fail
          go_roundw
          case rel => exact ⟨k + 1, some each, by omega, by go_num, rfl, rfl, HF.out, H4.out.1⟩
          case measure => simp [intOf]; omega
        | some a =>
          have HA : Hid (leI (some a) = a) := rfl
          rw [HA.out]
          simp only [Option.isSome_some]
          by_cases hlt2 : each < a
          · have HF : Hid (leO (ms.take (k + 1)) x = some each) := HT.out.trans (by unfold stE; rw [if_pos ⟨hf, fun b h => by cases h; exact hlt2⟩])
            clear hf HT
            go_wp2_with fail
            refine CPX.out.mono ?_
            rintro e w4 ⟨rfl, b4⟩
            have H4 : Hid (Below w.heap.size w w4 ∧ w4.heap[gx]? = some (.cells #[.string key, .int .i64 each, .int .i64 fixed, .int .i64 feed, .slice A4 can.length c4] 57 (0, 0))) := ⟨HX.out.1.then_below b4 hzx, blk_below b4 HX.out.2.2⟩
            clear b4 HX p0 p1 p2 p3 p4 pl CPX
            obtain ⟨p0, p1, p2, p3, p4⟩ := blk5 H4.out.2
            have pl := lt_of_blk H4.out.2
            go_wp2_with fail
            go_roundw
            case rel => exact ⟨k + 1, some each, by omega, by go_num, rfl, rfl, HF.out, H4.out.1⟩
            case measure => simp [intOf]; omega
          · have HF : Hid (leO (ms.take (k + 1)) x = some a) := HT.out.trans (by unfold stE; rw [if_neg (fun h => hlt2 (h.2 a rfl))])
            clear hf HT
            go_wp2_with fail
            refine CPX.out.mono ?_
            rintro e w4 ⟨rfl, b4⟩
            have H4 : Hid (Below w.heap.size w w4 ∧ w4.heap[gx]? = some (.cells #[.string key, .int .i64 each, .int .i64 fixed, .int .i64 feed, .slice A4 can.length c4] 57 (0, 0))) := ⟨HX.out.1.then_below b4 hzx, blk_below b4 HX.out.2.2⟩
            clear b4 HX p0 p1 p2 p3 p4 pl CPX
            obtain ⟨p0, p1, p2, p3, p4⟩ := blk5 H4.out.2
            have pl := lt_of_blk H4.out.2
            go_wp2_with fail
            go_roundw
            case rel => exact ⟨k + 1, some a, by omega, by go_num, rfl, rfl, HF.out, H4.out.1⟩
            case measure => simp [intOf]; omega
    · obtain rfl : k = ms.length := by omega
      have HF : Hid (leO ms x = o) := by
        have := HS.out.1
        rw [List.take_of_length_le (Nat.le_refl _)] at this
        exact this
      go_wp2_with fail
      go_ret
      exact ⟨by rw [HF.out]; rfl, HS.out.2⟩
end Go.Proofs.YtopoemfnnnfgdaaGreatDoor
