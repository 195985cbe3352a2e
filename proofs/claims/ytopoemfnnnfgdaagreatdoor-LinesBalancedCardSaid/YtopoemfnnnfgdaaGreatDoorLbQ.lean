/-
  The parts that no machine can place: the program's answer, and the reference's.
-/
import Derived.Test.YtopoemfnnnfgdaaGreatDoorLcD
import Derived.Test.YtopoemfnnnfgdaaGreatDoorLcE
import Derived.Test.YtopoemfnnnfgdaaGreatDoorLcF
import Derived.Test.YtopoemfnnnfgdaaGreatDoorLmD
import Derived.Test.YtopoemfnnnfgdaaGreatDoorLnS
namespace Go.Proofs.YtopoemfnnnfgdaaGreatDoor
open Go.RowKit
set_option linter.unusedSimpArgs false
set_option linter.unusedVariables false

set_option maxHeartbeats 4000000 in
theorem indexP_any {F : FuncId} (hF : ∀ args w, (callFunc F args).run Tryz.prog w = .ok (.enter F args) w) (p : Nat) (P : Mc → Bool) (Cap : World → Prop) (hcap : ∀ W W', Cap W → Below W.heap.size W W' → Cap W') {base : Nat} (l : List Mc)
    (hp : ∀ m ∈ l, ∀ (A : Option Addr) (c : Nat) (W : World), Cap W → ReadsF base encS (.slice A m.can.length c) m.can W → Calls Tryz.prog F #[.agg #[.string m.key, .int .i64 m.each, .int .i64 m.fixed, .int .i64 m.feed, .slice A m.can.length c], .pointer (some ⟨p, 0, none⟩)] W fun e w' => e = .returned (.bool (P m)) ∧ Below W.heap.size W w')
    (hl : l.length ≤ 1000000) {v : Value} {w : World} (h : MsF base v l w) (hk : Cap w) :
    Calls Tryz.prog 57 #[v, .func (.func F) #[] #[.pointer (some ⟨p, 0, none⟩)]] w fun e w' => ∃ r : Int, e = .returned (.int .i64 r) ∧ decide (0 ≤ r) = l.any P ∧ Below w.heap.size w w' := by
  have HH := Lib.hid (And.intro h hk)
  have HP := Lib.hid hp
  have HC := Lib.hid hcap
  obtain ⟨A, c, rfl, _, _⟩ := h
  clear hp hk hcap
  go_enter Tryz.func57, Tryz.ntmps57
  go_wp2_with fail
  go_loopw [8] (fun kk wr => ∃ i : Nat, i ≤ l.length ∧ kk = .int .i64 i ∧ Hid (l.any P = (l.drop i).any P) ∧ Hid (Below w.heap.size w wr)) (fun kk _ => l.length - (intOf kk).toNat)
  case atStart => exact ⟨0, by omega, rfl, rfl, Below.refl _ _⟩
  case round =>
    obtain ⟨i, hi, rfl, HI, HB⟩ := hrel
    by_cases hlt : i < l.length
    · obtain ⟨A', c', e, _, hr⟩ := HH.out.1.below HB.out
      cases e
      rcases hr with rfl | ⟨g, rfl, hgl, hrow⟩
      · simp at hlt
      have hI : l.any P = (P l[i] || (l.drop (i + 1)).any P) := HI.out.trans (by rw [drop_at l hlt, List.any_cons])
      have HI2 := Lib.hid hI
      obtain ⟨q0, q1, q2, q3, u, q4, hu⟩ := hrow i hlt
      obtain ⟨A2, c2, rfl, hc2, hr2⟩ := hu
      have CP := Lib.hid (HP.out l[i] (List.getElem_mem hlt) A2 c2 wr (HC.out _ _ HH.out.2 HB.out) ⟨A2, c2, rfl, hc2, hr2⟩)
      clear hI HI hrow hr2
      generalize P l[i] = b at *
      generalize l[i] = m at *
      obtain ⟨key, each, fixed, feed, can⟩ := m
      dsimp only at q0 q1 q2 q3 q4 CP hc2
      have i1 : (0 : Int) ≤ (i : Int) := by omega
      have i2 : (i : Int) < (l.length : Int) := by omega
      go_wp2_with fail
      refine CP.out.mono ?_
      rintro e w2 ⟨rfl, b2⟩
      have HB2 := Lib.hid (HB.out.then_below b2 HB.out.size)
      clear b2 HB q0 q1 q2 q3 q4 CP
      cases b
      · have HF : Hid (l.any P = (l.drop (i + 1)).any P) := HI2.out
        clear HI2
        go_wp2_with fail
        go_roundw
        case rel => exact ⟨i + 1, by omega, by go_num, HF, HB2⟩
        case measure => simp [intOf]; omega
      · have HFF : Hid (l.any P = true) := HI2.out
        clear HI2
        go_wp2_with fail
        go_ret
        exact ⟨_, rfl, by rw [HFF.out]; simp, HB2.out⟩
    · have HFF : Hid (l.any P = false) := HI.out.trans (by rw [List.drop_eq_nil_of_le (by omega)]; rfl)
      go_wp2_with fail
      go_ret
      exact ⟨_, rfl, by rw [HFF.out]; simp, HB.out⟩
theorem containsP_any {F : FuncId} (hF : ∀ args w, (callFunc F args).run Tryz.prog w = .ok (.enter F args) w) (p : Nat) (P : Mc → Bool) (Cap : World → Prop) (hcap : ∀ W W', Cap W → Below W.heap.size W W' → Cap W') {base : Nat} (l : List Mc)
    (hp : ∀ m ∈ l, ∀ (A : Option Addr) (c : Nat) (W : World), Cap W → ReadsF base encS (.slice A m.can.length c) m.can W → Calls Tryz.prog F #[.agg #[.string m.key, .int .i64 m.each, .int .i64 m.fixed, .int .i64 m.feed, .slice A m.can.length c], .pointer (some ⟨p, 0, none⟩)] W fun e w' => e = .returned (.bool (P m)) ∧ Below W.heap.size W w')
    (hl : l.length ≤ 1000000) {v : Value} {w : World} (h : MsF base v l w) (hk : Cap w) :
    Calls Tryz.prog 30 #[v, .func (.func F) #[] #[.pointer (some ⟨p, 0, none⟩)]] w fun e w' => e = .returned (.bool (l.any P)) ∧ Below w.heap.size w w' := by
  have CI := Lib.hid (indexP_any hF p P Cap hcap l hp hl h hk)
  obtain ⟨A, c, rfl, _⟩ := h
  generalize l.any P = r at *
  clear hp hF hcap
  go_enter Tryz.func30, Tryz.ntmps30
  go_wp2_with fail
  refine CI.out.mono ?_
  rintro e w2 ⟨ix, rfl, hx, b2⟩
  have HB2 := Lib.hid b2
  have HX := Lib.hid hx
  clear b2 hx
  go_wp2_with fail
  go_ret
  exact ⟨ret_bool HX.out, HB2.out⟩

set_option maxHeartbeats 4000000 in
theorem nobP_any {base : Nat} (m : Mc) (hm : McOk m) (p : Nat) (part : ByteArray) {A : Option Addr} {c : Nat} {w : World} (h : KAt p part w) (hr : ReadsF base encS (.slice A m.can.length c) m.can w) :
    Calls Tryz.prog 31 #[.agg #[.string m.key, .int .i64 m.each, .int .i64 m.fixed, .int .i64 m.feed, .slice A m.can.length c], .pointer (some ⟨p, 0, none⟩)] w fun e w' => e = .returned (.bool (has m.can part)) ∧ Below w.heap.size w w' := by
  have hcl := hm.few
  have hco := hm.can
  obtain ⟨key, each, fixed, feed, can⟩ := m
  dsimp only at *
  have hba : Below w.heap.size w (w.alloc (.cells #[.string key, .int .i64 each, .int .i64 fixed, .int .i64 feed, .slice A can.length c] 57)) := (Below.refl _ _).alloc (Nat.le_refl _) _
  have H0 : Hid (Below w.heap.size w (w.alloc (.cells #[.string key, .int .i64 each, .int .i64 fixed, .int .i64 feed, .slice A can.length c] 57)) ∧ KAt p part (w.alloc (.cells #[.string key, .int .i64 each, .int .i64 fixed, .int .i64 feed, .slice A can.length c] 57)) ∧ ReadsF base encS (.slice A can.length c) can (w.alloc (.cells #[.string key, .int .i64 each, .int .i64 fixed, .int .i64 feed, .slice A can.length c] 57)) ∧ (w.alloc (.cells #[.string key, .int .i64 each, .int .i64 fixed, .int .i64 feed, .slice A can.length c] 57)).heap[w.heap.size]? = some (.cells #[.string key, .int .i64 each, .int .i64 fixed, .int .i64 feed, .slice A can.length c] 57 (0, 0))) := ⟨hba, h.below hba, hr.below hba, blk_new w _ rfl⟩
  clear hba h hr hm
  go_enter Tryz.func31, Tryz.ntmps31
  go_upto_region 1 with (fail)
  generalize w.alloc (.cells #[.string key, .int .i64 each, .int .i64 fixed, .int .i64 feed, .slice A can.length c] 57) = wx at *
  obtain ⟨p0, p1, p2, p3, p4⟩ := blk5 H0.out.2.2.2
  have pl := lt_of_blk H0.out.2.2.2
  obtain ⟨l1, c1⟩ := H0.out.2.1
  have CP := Lib.hid (canPlace_any key each fixed feed can part (by omega) hco H0.out.2.2.1)
  generalize hb : has can part = b at *
  have H9 := Lib.hid hb
  clear hb
  go_wp2_with fail
  refine CP.out.mono ?_
  rintro e w2 ⟨rfl, b2⟩
  have HB := Lib.hid (H0.out.1.then_below b2 H0.out.1.size)
  clear b2 p0 p1 p2 p3 p4 pl
  go_wp2_with fail
  go_ret
  exact ⟨ret_bool H9.out.symm, HB.out⟩
set_option maxHeartbeats 4000000 in
theorem nobQ_any {base : Nat} (m : Mc) (hm : McOk m) (p : Nat) (part : ByteArray) {A : Option Addr} {c : Nat} {w : World} (h : KAt p part w) (hr : ReadsF base encS (.slice A m.can.length c) m.can w) :
    Calls Tryz.prog 43 #[.agg #[.string m.key, .int .i64 m.each, .int .i64 m.fixed, .int .i64 m.feed, .slice A m.can.length c], .pointer (some ⟨p, 0, none⟩)] w fun e w' => e = .returned (.bool (has m.can part)) ∧ Below w.heap.size w w' := by
  have hcl := hm.few
  obtain ⟨key, each, fixed, feed, can⟩ := m
  dsimp only at *
  have hba : Below w.heap.size w (w.alloc (.cells #[.string key, .int .i64 each, .int .i64 fixed, .int .i64 feed, .slice A can.length c] 57)) := (Below.refl _ _).alloc (Nat.le_refl _) _
  have H0 : Hid (Below w.heap.size w (w.alloc (.cells #[.string key, .int .i64 each, .int .i64 fixed, .int .i64 feed, .slice A can.length c] 57)) ∧ KAt p part (w.alloc (.cells #[.string key, .int .i64 each, .int .i64 fixed, .int .i64 feed, .slice A can.length c] 57)) ∧ ReadsF base encS (.slice A can.length c) can (w.alloc (.cells #[.string key, .int .i64 each, .int .i64 fixed, .int .i64 feed, .slice A can.length c] 57)) ∧ (w.alloc (.cells #[.string key, .int .i64 each, .int .i64 fixed, .int .i64 feed, .slice A can.length c] 57)).heap[w.heap.size]? = some (.cells #[.string key, .int .i64 each, .int .i64 fixed, .int .i64 feed, .slice A can.length c] 57 (0, 0))) := ⟨hba, h.below hba, hr.below hba, blk_new w _ rfl⟩
  clear hba h hr hm
  go_enter Tryz.func43, Tryz.ntmps43
  go_upto_region 1 with (fail)
  generalize w.alloc (.cells #[.string key, .int .i64 each, .int .i64 fixed, .int .i64 feed, .slice A can.length c] 57) = wx at *
  obtain ⟨p0, p1, p2, p3, p4⟩ := blk5 H0.out.2.2.2
  have pl := lt_of_blk H0.out.2.2.2
  obtain ⟨l1, c1⟩ := H0.out.2.1
  have CP0 := contains_any part can.length (Nat.le_refl _) (by omega) H0.out.2.2.1 c
  rw [List.take_of_length_le (Nat.le_refl _)] at CP0
  have CP := Lib.hid CP0
  clear CP0
  generalize hb : has can part = b at *
  have H9 := Lib.hid hb
  clear hb
  go_wp2_with fail
  refine CP.out.mono ?_
  rintro e w2 ⟨rfl, rfl⟩
  go_wp2_with fail
  go_ret
  exact ⟨ret_bool H9.out.symm, H0.out.1⟩

def anyB (ms : List Mc) (x : ByteArray) : Bool := ms.any fun m => has m.can x
def nobT (ms : List Mc) : List Nd → List ByteArray
  | [] => []
  | n :: r => if anyB ms n.part = true then nobT ms r else n.part :: nobT ms r
theorem nobT_snoc (ms : List Mc) (n : Nd) : ∀ l : List Nd, nobT ms (l ++ [n]) = nobT ms l ++ (if anyB ms n.part = true then [] else [n.part])
  | [] => by
    rw [List.nil_append, nobT, nobT]
    split <;> rfl
  | a :: l => by
    rw [List.cons_append, nobT, nobT, nobT_snoc ms n l]
    split
    · rfl
    · rfl
theorem nobT_len (ms : List Mc) : ∀ l : List Nd, (nobT ms l).length ≤ l.length
  | [] => by simp [nobT]
  | a :: l => by
    have := nobT_len ms l
    rw [nobT]
    split <;> simp <;> omega
theorem readsS_own {w : World} {base : Nat} {v : Value} {l : List ByteArray} {n : Nat} (h : w.ownsRow base 9 1 v n (l.map Value.string)) (hn : n = l.length) : Reads encS v l w := by
  subst hn
  refine reads_own (base := base) (T := 9) (size := 1) ?_
  rw [show l.flatMap encS = l.map Value.string from flatS_map l]
  exact h
theorem nil_readsS (W : World) : Reads encS (.slice none 0 0) [] W := ⟨none, 0, rfl, .inl rfl⟩
def nobV (ms : List Mc) (ns : List Nd) : List ByteArray := if bothErr ms ns = 0 then nobT ms ns else []

set_option maxRecDepth 100000 in
set_option maxHeartbeats 8000000 in
theorem nobodyOf_any {base : Nat} (ms : List Mc) (ns : List Nd) (hm : MsOk ms) (hn : NsOk ns) {v1 v2 : Value} {w : World} (h1 : MsF base v1 ms w) (h2 : Reads encD v2 ns w) :
    Calls Tryz.prog 17 #[v1, v2] w fun e w' => ∃ v, e = .returned v ∧ Reads encS v (nobT ms ns) w' ∧ Below w.heap.size w w' := by
  have HR := Lib.hid (And.intro h1 h2)
  have HM := Lib.hid hm
  have hmf := hm.few
  have hnf := hn.few
  obtain ⟨A1, c1, rfl, hc1, _⟩ := h1
  obtain ⟨A2, c2, rfl, _⟩ := h2
  obtain ⟨i0, hi0, hz0, hzz1, hz20⟩ := info_parts str_info9
  have HI := Lib.hid (And.intro hi0 (And.intro hz0 (And.intro hzz1 hz20)))
  clear hm hn hi0 hz0 hzz1 hz20
  go_enter Tryz.func17, Tryz.ntmps17
  go_wp2_with fail
  go_loopw [5, 10] (fun v5 kk wr => ∃ (t : Nat) (l : List ByteArray), t ≤ ns.length ∧ l.length ≤ t ∧ kk = .int .i64 t ∧ w.heap.size ≤ wr.heap.size ∧ Hid (l = nobT ms (ns.take t) ∧ Below w.heap.size w wr ∧ wr.ownsRow w.heap.size 9 1 v5 l.length (l.map Value.string))) (fun _ kk _ => ns.length - (intOf kk).toNat)
  case atStart => exact ⟨0, [], by omega, by simp, rfl, Nat.le_refl _, by rw [List.take_zero]; rfl, Below.refl _ _, World.ownsRow_nil _ _ _ _⟩
  case round =>
    obtain ⟨t, l, ht, hlt, rfl, hwz, HS⟩ := hrel
    obtain ⟨A5, c5, rfl, _⟩ := own_form HS.out.2.2
    by_cases htl : t < ns.length
    · obtain ⟨g2, e2, hg2, n0, n1⟩ := readsD_at (HR.out.2.below HS.out.2.1) htl
      cases e2
      have HT : Hid (nobT ms (ns.take (t + 1)) = nobT ms (ns.take t) ++ (if anyB ms ns[t].part = true then [] else [ns[t].part])) := by
        show _ = _
        rw [List.take_succ_eq_append_getElem htl, nobT_snoc]
      generalize ns[t] = nd at *
      obtain ⟨part, many⟩ := nd
      dsimp only at n0 n1 HT
      have i1 : (0 : Int) ≤ (t : Int) := by omega
      have i2 : (t : Int) < (ns.length : Int) := by omega
      have HX : Hid (Below w.heap.size w (wr.alloc (.cells #[.string part, .int .i64 many] 62)) ∧ (wr.alloc (.cells #[.string part, .int .i64 many] 62)).ownsRow w.heap.size 9 1 (.slice A5 l.length c5) l.length (l.map Value.string) ∧ (wr.alloc (.cells #[.string part, .int .i64 many] 62)).heap[wr.heap.size]? = some (.cells #[.string part, .int .i64 many] 62 (0, 0))) := ⟨HS.out.2.1.alloc HS.out.2.1.size _, HS.out.2.2.alloc _, blk_new wr _ rfl⟩
      have HL0 : Hid (l = nobT ms (ns.take t)) := HS.out.1
      go_upto_region 5 with (fail)
      generalize wr.alloc (.cells #[.string part, .int .i64 many] 62) = wx at *
      obtain ⟨gx, hgx⟩ : ∃ gx, wr.heap.size = gx := ⟨_, rfl⟩
      rw [hgx] at HX hwz ⊢
      clear hgx n0 n1 HS hg2
      have hkat : KAt gx part wx := ⟨lt_of_blk HX.out.2.2, (blk2c HX.out.2.2).1⟩
      have CC := Lib.hid (containsP_any (enters_of Tryz.func43 (by kernel_rfl) rfl) gx (fun m => has m.can part) (KAt gx part) (fun W W' h hb => h.below hb) ms (fun m hmm A c W h hr => nobQ_any m (HM.out.ok m hmm) gx part h hr) (by omega) (HR.out.1.below HX.out.1) hkat)
      have HAB : Hid (ms.any (fun m => has m.can part) = anyB ms part) := rfl
      rw [HAB.out] at CC
      clear hkat HAB
      have hzx := HX.out.1.size
      generalize anyB ms part = f at *
      go_wp2_with fail
      refine CC.out.mono ?_
      rintro e w4 ⟨rfl, b4⟩
      have H4 : Hid (Below w.heap.size w w4 ∧ w4.ownsRow w.heap.size 9 1 (.slice A5 l.length c5) l.length (l.map Value.string) ∧ w4.heap[gx]? = some (.cells #[.string part, .int .i64 many] 62 (0, 0))) := ⟨HX.out.1.then_below b4 hzx, own_below HX.out.2.1 b4, blk_below b4 HX.out.2.2⟩
      have hz4 := H4.out.1.size
      clear b4 HX CC
      cases f
      · obtain ⟨p0, _⟩ := blk2c H4.out.2.2
        have pl := lt_of_blk H4.out.2.2
        go_wp2_with (at_builtin; refine hold ?_)
        refine loose ?_
        refine wpList_append_own _ rfl _ _ 40 rfl w.heap.size 9 i0 _ 1 16 Tryz.underlying40 HI.out.1 HI.out.2.1 HI.out.2.2.1 HI.out.2.2.2 rfl (by omega) _ l.length (l.map Value.string) rfl (H4.out.2.1.alloc _) ⟨w4.heap.size, 0, none⟩ 1 1 [.string part] rfl rfl (cell_one_new _ _ _) (by intro u hu; simp at hu; subst hu; rfl) (by unfold maxLen; omega) (by omega) (by simp; omega) ?_
        intro v' w5 hown' hg' _
        have H5 : Hid (l ++ [part] = nobT ms (ns.take (t + 1)) ∧ Below w.heap.size w w5 ∧ w5.ownsRow w.heap.size 9 1 v' (l ++ [part]).length ((l ++ [part]).map Value.string)) := by
          refine ⟨by rw [HT.out, HL0.out]; rfl, (H4.out.1.alloc H4.out.1.size _).grown hg' (by simp; omega) (own_row H4.out.2.1), ?_⟩
          rw [List.length_append, List.map_append]
          exact hown'
        have hz5 := H5.out.2.1.size
        clear hown' hg' H4 p0 pl
        go_wp2_with fail
        go_roundw
        case rel => exact ⟨t + 1, l ++ [part], by omega, by simp; omega, by go_num, hz5, H5⟩
        case measure => simp [intOf]; omega
      · have H5 : Hid (l = nobT ms (ns.take (t + 1)) ∧ Below w.heap.size w w4 ∧ w4.ownsRow w.heap.size 9 1 (.slice A5 l.length c5) l.length (l.map Value.string)) := ⟨by rw [HT.out, HL0.out]; simp, H4.out.1, H4.out.2.1⟩
        go_wp2_with fail
        go_roundw
        case rel => exact ⟨t + 1, l, by omega, by omega, by go_num, hz4, H5⟩
        case measure => simp [intOf]; omega
    · obtain rfl : t = ns.length := by omega
      go_wp2_with fail
      go_ret
      have hl := HS.out.1
      rw [List.take_of_length_le (Nat.le_refl _)] at hl
      exact ⟨_, rfl, by rw [← hl]; exact readsS_own HS.out.2.2 rfl, HS.out.2.1⟩
end Go.Proofs.YtopoemfnnnfgdaaGreatDoor
