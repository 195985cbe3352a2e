/-
  The plan by the rule of thumb with its checks; the reference's balance when there are too many needs. The maker of many needs, and machines that can place them. The walk of the law LinesBalanced.
-/
import Derived.Test.YtopoemfnnnfgdaaGreatDoorLdH
import Derived.Test.YtopoemfnnnfgdaaGreatDoorLcQ
import Derived.Test.YtopoemfnnnfgdaaGreatDoorLcO
import Derived.Test.YtopoemfnnnfgdaaGreatDoorLcF
import Derived.Test.YtopoemfnnnfgdaaGreatDoorLcS
namespace Go.Proofs.YtopoemfnnnfgdaaGreatDoor
open Go.RowKit
set_option linter.unusedSimpArgs false
set_option linter.unusedVariables false

def fPV (ms : List Mc) (ns : List Nd) : List Int := if bothErr ms ns = 0 then fpP ms ns else []
def fFV (ms : List Mc) (ns : List Nd) : Bool := if bothErr ms ns = 0 then fpF ms ns else false
set_option maxRecDepth 100000 in
set_option maxHeartbeats 8000000 in
theorem firstL_any {base : Nat} (ms : List Mc) (ns : List Nd) (hl : ms.length ≤ 1000000) (hc : ∀ m ∈ ms, m.can.length ≤ 1000000) (hnl : ns.length ≤ 13) {v1 v2 : Value} {w : World} (h1 : MsF base v1 ms w) (h2 : Reads encD v2 ns w) :
    Calls Tryz.prog 9 #[v1, v2] w fun e w' => ∃ v, e = .returned (.tuple #[v, .bool (fFV ms ns), .int .i64 (bothErr ms ns)]) ∧ Reads encN v (fPV ms ns) w' ∧ Below w.heap.size w w' := by
  have HR := Lib.hid (And.intro h1 h2)
  have C0 := Lib.hid (check_line ms ns hl hc (by omega) h1 h2)
  obtain ⟨A1, c1, rfl, hc1, _⟩ := h1
  obtain ⟨A2, c2, rfl, _⟩ := h2
  by_cases h0 : bothErr ms ns = 0
  rotate_left
  · have HV : Hid (fPV ms ns = [] ∧ fFV ms ns = false) := ⟨if_neg h0, if_neg h0⟩
    have hne : (bothErr ms ns != 0) = true := by simp [h0]
    generalize bothErr ms ns = E at *
    clear h0
    go_enter Tryz.func9, Tryz.ntmps9
    go_wp2_with fail
    refine C0.out.mono ?_
    rintro e w2 ⟨rfl, b2⟩
    have HB := Lib.hid b2
    clear b2 C0
    go_wp2_with fail
    refine bodyPost_ret (v := .tuple #[.slice none 0 0, .bool false, .int .i64 E]) (by unfold results; simp only [Tryz.results9]; go_simp) rfl ⟨.slice none 0 0, by rw [HV.out.2], by rw [HV.out.1]; exact nil_readsN _, HB.out⟩
  have HV : Hid (fPV ms ns = fpP ms ns ∧ fFV ms ns = fpF ms ns) := ⟨if_pos h0, if_pos h0⟩
  have hm := machErr_ok (bothErr_ok h0).1
  have hn := needErr_ok (bothErr_ok h0).2
  have CB := Lib.hid (fun (W : World) (hb : Below w.heap.size w W) => first_any ms ns hm hn hnl (HR.out.1.below hb) (HR.out.2.below hb))
  rw [h0] at C0 ⊢
  clear h0 hm hn
  go_enter Tryz.func9, Tryz.ntmps9
  go_wp2_with fail
  refine C0.out.mono ?_
  rintro e w2 ⟨rfl, b2⟩
  have HB := Lib.hid b2
  clear b2 C0
  go_wp2_with fail
  refine (CB.out w2 HB.out).mono ?_
  rintro e w3 ⟨v, rfl, hr, b3⟩
  have H3 := Lib.hid (And.intro hr (HB.out.then_below b3 HB.out.size))
  clear hr b3 CB
  generalize fpF ms ns = F at *
  go_wp2_with fail
  refine bodyPost_ret (v := .tuple #[v, .bool F, .int .i64 0]) (by unfold results; simp only [Tryz.results9]; go_simp) rfl ⟨v, by rw [HV.out.2], by rw [HV.out.1]; exact H3.out.1, H3.out.2⟩

set_option maxRecDepth 100000 in
set_option maxHeartbeats 8000000 in
theorem balanceOf_big {base : Nat} (ms : List Mc) (ns : List Nd) (hnl : 12 < ns.length) (hn2 : ns.length ≤ 1000000) {v1 v2 : Value} {w : World} (h1 : MsF base v1 ms w) (h2 : Reads encD v2 ns w) :
    Calls Tryz.prog 18 #[v1, v2] w fun e w' => e = .returned (.tuple #[.slice none 0 0, .int .i64 0, .bool false, .int .i64 2]) ∧ Below w.heap.size w w' := by
  obtain ⟨A1, c1, rfl, hc1, _⟩ := h1
  obtain ⟨A2, c2, rfl, _⟩ := h2
  have i1 : (12 : Int) < (ns.length : Int) := by omega
  have HX : Hid (Below w.heap.size w ((w.alloc (.cells #[.slice A1 ms.length c1] 26)).alloc (.cells #[.slice A2 ns.length c2] 28))) := ((Below.refl _ _).alloc (Nat.le_refl _) _).alloc (by simp) _
  go_enter Tryz.func18, Tryz.ntmps18
  go_wp2_with fail
  refine bodyPost_ret (v := .tuple #[.slice none 0 0, .int .i64 0, .bool false, .int .i64 2]) (by unfold results; simp only [Tryz.results18]; go_simp) rfl ⟨rfl, HX.out⟩
end Go.Proofs.YtopoemfnnnfgdaaGreatDoor
namespace Go.Proofs.YtopoemfnnnfgdaaGreatDoor
open Go.RowKit
set_option linter.unusedSimpArgs false
set_option linter.unusedVariables false

/-- Machines in rows of their own. -/
structure MsB (B : Nat) (v : Value) (us : List (Mc × Value)) (W : World) : Prop where
  row : W.ownsRow B 57 5 v us.length (us.flatMap encMv)
  cans : ∀ x ∈ us, Can7 B x W
theorem MsB.kept {B sb : Nat} {v : Value} {us : List (Mc × Value)} {W W' : World} (h : MsB B v us W) (hk : Kept sb W W') (hs : sb < B) : MsB B v us W' :=
  ⟨kept_own h.row hk hs, fun x hx => ⟨(h.cans x hx).1, kept_own (h.cans x hx).2 hk hs⟩⟩
theorem flatS_eq (l : List ByteArray) : l.flatMap encS = l.map Value.string := flatS_map l
theorem MsB.msF {B : Nat} {v : Value} {us : List (Mc × Value)} {W : World} (h : MsB B v us W) : MsF B v (us.map Prod.fst) W := by
  obtain ⟨A, c, rfl, hA⟩ := own_form h.row
  have hlen : (us.map Prod.fst).length = us.length := List.length_map _
  rcases Nat.eq_zero_or_pos us.length with h0 | h0
  · refine ⟨A, c, by rw [hlen], ?_, .inl (by rw [List.length_eq_zero_iff.mp h0]; rfl)⟩
    rw [hlen, h0]
    exact Nat.zero_le _
  · obtain ⟨g, cap, hv, _, hlt, hc, _, hrd⟩ := own_read h.row h0
    cases hv
    refine ⟨_, c, by rw [hlen], by rw [hlen]; exact hc, .inr ⟨g, rfl, hlt, fun j hj => ?_⟩⟩
    have hju : j < us.length := by rw [← hlen]; exact hj
    have e := fun i (hi : i < 5) => flatK_at encMv 5 (fun _ => rfl) us j hju i hi
    rw [List.getElem_map]
    have hca := (h.cans us[j] (List.getElem_mem hju)).2
    refine ⟨hrd _ _ (e 0 (by omega)), hrd _ _ (e 1 (by omega)), hrd _ _ (e 2 (by omega)), hrd _ _ (e 3 (by omega)), us[j].2, hrd _ _ (e 4 (by omega)), ?_⟩
    refine readsF_own (T := 9) (size := 1) ?_
    rw [flatS_eq]
    exact hca
theorem MsB.len {B : Nat} {v : Value} {us : List (Mc × Value)} {W : World} (h : MsB B v us W) : ∀ m ∈ us.map Prod.fst, m.can.length ≤ 7 := fun m hm => by
  obtain ⟨x, hx, rfl⟩ := List.mem_map.mp hm
  exact (h.cans x hx).1
theorem kept_other {w w' : World} {B B' : Nat} {T T' : TypeId} {s s' n n' : Nat} {v v' : Value} {xs xs' : List Value} (h : w.ownsRow B T s v n xs) (h' : w.ownsRow B' T' s' v' n' xs') (hT : T ≠ T') (hg : w.grownBy w' v'.ownBlock) : w'.ownsRow B T s v n xs := by
  refine h.kept hg ?_
  cases e : v.ownBlock with
  | none => exact .inl rfl
  | some j =>
    refine .inr fun e2 => ?_
    obtain ⟨c1, k1⟩ := own_blkc h e
    obtain ⟨c2, k2⟩ := own_blkc h' e2.symm
    rw [k1] at k2
    injection k2 with k2
    injection k2 with _ h2 _
    exact hT h2
structure QM (w : World) (sb b : Nat) (vc vn : Value) (cs : List ByteArray) (ns : List Nd) (W : World) : Prop where
  tk : Took sb b w W
  cn : W.ownsRow w.heap.size 9 1 vc cs.length (cs.map Value.string)
  nd : W.ownsRow w.heap.size 62 2 vn ns.length (ns.flatMap encD)
theorem QM.took {w : World} {sb b b' : Nat} {vc vn : Value} {cs : List ByteArray} {ns : List Nd} {W W' : World} (h : QM w sb b vc vn cs ns W) (k : Took sb b' W W') (hs : sb < w.heap.size) : QM w sb b' vc vn cs ns W' :=
  ⟨h.tk.trans k, kept_own h.cn k.2 hs, kept_own h.nd k.2 hs⟩
def ManyOf (sb b : Nat) (w : World) (e : Ending) (w' : World) : Prop :=
  ∃ (v1 v2 : Value) (ms : List Mc) (ns : List Nd), e = .returned (.tuple #[v1, v2]) ∧ ms.length ≤ 3 ∧ (∀ m ∈ ms, m.can.length ≤ 13) ∧ ns.length ≤ 13 ∧ Took sb b w w' ∧ MsF w.heap.size v1 ms w' ∧ Reads encD v2 ns w'
theorem enc97 : ∀ t : Nat, t < 13 → (Utf8.encode (97 + (t : Int))).size ≤ 4 := by decide

set_option maxRecDepth 100000 in
set_option maxHeartbeats 8000000 in
theorem manyNeeds_any (sb b : Nat) (w : World) (hb : b ≤ 800000) (hs : IsStream w sb b) :
    Calls Tryz.prog 7 #[.pointer (some ⟨sb, 0, none⟩)] w (ManyOf sb (b + 20) w) := by
  have hlt := hs.lt
  have HS0 := Lib.hid hs
  clear hs
  obtain ⟨i0, hi0, hz0, hzz1, hz20⟩ := info_parts str_info9
  have HIS := Lib.hid (And.intro hi0 (And.intro hz0 (And.intro hzz1 hz20)))
  obtain ⟨i1, hi1, hy0, hyy1, hy20⟩ := info_parts nd_info
  have HIN := Lib.hid (And.intro hi1 (And.intro hy0 (And.intro hyy1 hy20)))
  clear hi0 hz0 hzz1 hz20 hi1 hy0 hyy1 hy20
  go_enter Tryz.func7, Tryz.ntmps7
  go_wp2_with fail
  refine (range_any sb b 0 1 w (by omega) (by omega) (by omega) (by omega) HS0.out).mono ?_
  rintro e w1 ⟨r, hr0, hr1, rfl, t1⟩
  obtain ⟨r, rfl⟩ := Int.eq_ofNat_of_zero_le (show 0 ≤ r by omega)
  have T1 := Lib.hid t1
  have hz1 := t1.size
  clear t1
  go_wp2_with fail
  go_loopw [4, 5, 11] (fun v4 v5 kk wr => ∃ (t : Nat) (cs : List ByteArray) (ns : List Nd), t ≤ 12 + r ∧ kk = .int .i64 t ∧ cs.length = t ∧ ns.length = t ∧ w.heap.size ≤ wr.heap.size ∧ Hid (QM w sb (b + 1 + t) v5 v4 cs ns wr)) (fun _ _ kk _ => 13 - (intOf kk).toNat)
  case atStart => exact ⟨0, [], [], by omega, rfl, rfl, rfl, hz1, T1.out, World.ownsRow_nil _ _ _ _, World.ownsRow_nil _ _ _ _⟩
  case round =>
    obtain ⟨t, cs, ns, ht, rfl, hcl, hnl, hwz, HQ⟩ := hrel
    have hrow := HQ.out.cn
    obtain ⟨A3, k3, rfl, hA3⟩ := own_form hrow
    clear hrow
    have hrow := HQ.out.nd
    obtain ⟨A4, k4, rfl, hA4⟩ := own_form hrow
    clear hrow
    by_cases hlt2 : t < 12 + r
    · have hss := enc97 t (by omega)
      obtain ⟨sk, hsk⟩ : ∃ sk, Utf8.encode (97 + (t : Int)) = sk := ⟨_, rfl⟩
      rw [hsk] at hss
      have hcv : ∀ W : World, (convert 21 9 (.int .i32 (97 + (t : Int)))).run Tryz.prog W = .ok (.string sk) W := fun W => by rw [← hsk]; exact run_convRune _ W
      have hw3 : IntKind.i32.wrap (97 + (t : Int)) = 97 + (t : Int) := by rw [IntKind.wrap_i32]; omega
      have hsz9 : ¬ (9223372036854775807 < 1 + sk.size) := by omega
      have i2 : (t : Int) < 12 + (r : Int) := by omega
      have HA3 := Lib.hid hA3
      have HA4 := Lib.hid hA4
      clear hsk hA3 hA4
      go_upto_region 7 with (fail)
      clear hcv hw3 hsz9
      generalize (({ data := #[97] } : ByteArray) ++ sk) = key at *
      rw [hcl, hnl]
      have hzr := HQ.out.tk.size
      go_wp2_with (at_builtin; refine hold ?_)
      refine loose ?_
      refine wpList_append_own _ rfl _ _ 40 rfl w.heap.size 9 i0 _ 1 16 Tryz.underlying40 HIS.out.1 HIS.out.2.1 HIS.out.2.2.1 HIS.out.2.2.2 rfl (by omega) _ t (cs.map Value.string) rfl (by have h := HQ.out.cn; rw [hcl] at h; exact h.alloc _) ⟨wr.heap.size, 0, none⟩ 1 1 [.string key] rfl rfl (cell_one_new _ _ _) (by intro u hu; simp at hu; subst hu; rfl) (by unfold maxLen; omega) (by omega) (by simp; omega) ?_
      intro v5 w5 hown' hg' _
      have H5 : Hid (QM w sb (b + 1 + t) v5 (.slice A4 t k4) (cs ++ [key]) ns w5) := by
        have hr := own_row HQ.out.cn
        refine ⟨(HQ.out.tk.alloc _).grown hlt hg' (fun j e => hr j (by rw [hcl]; exact e)), ?_, ?_⟩
        · rw [List.length_append, List.map_append, hcl]
          exact hown'
        · rw [hnl]
          have h := HQ.out.cn
          rw [hcl] at h
          have h2 := HQ.out.nd
          rw [hnl] at h2
          exact kept_other (h2.alloc _) (h.alloc _) (by decide) hg'
      have hz5 := H5.out.tk.size
      obtain ⟨A5, k5, e5, _⟩ := own_form hown'
      clear hown' hg' HQ HA3 HA4
      subst e5
      go_wp2_with fail
      refine (range_any sb (b + 1 + t) 1 3 w5 (by omega) (by omega) (by omega) (by omega) H5.out.tk.1).mono ?_
      rintro e w6 ⟨mny, _, _, rfl, t6⟩
      have H6 := Lib.hid (H5.out.took t6 hlt)
      have hz6 := H6.out.tk.size
      clear t6 H5
      go_wp2_with (at_builtin; refine hold ?_)
      refine loose ?_
      refine wpList_append_own _ rfl _ _ 28 rfl w.heap.size 62 i1 _ 2 24 Tryz.underlying28 HIN.out.1 HIN.out.2.1 HIN.out.2.2.1 HIN.out.2.2.2 rfl (by omega) _ t (ns.flatMap encD) rfl (by have h := H6.out.nd; rw [hnl] at h; exact h.alloc _) ⟨w6.heap.size, 0, none⟩ 1 1 (encD ⟨key, mny⟩) rfl rfl ?c1 (by intro u hu; simp [encD] at hu; rcases hu with rfl | rfl <;> rfl) ?c2 ?c3 (by simp; omega) ?_
      case c1 =>
        intro j u hu
        rw [addr_new, cell_of_blk (blk_new (g := w6.heap.size) _ _ rfl)]
        simpa [encD] using hu
      case c2 => unfold maxLen; omega
      case c3 => omega
      intro v7 w7 hown' hg' _
      have H7 : Hid (QM w sb (b + 1 + (t + 1)) (.slice A5 (t + 1) k5) v7 (cs ++ [key]) (ns ++ [⟨key, mny⟩]) w7) := by
        have hr := own_row H6.out.nd
        have h6 := H6.out.nd
        rw [hnl] at h6
        refine ⟨((H6.out.tk.alloc _).grown hlt hg' (fun j e => hr j e)).more (by omega), ?_, ?_⟩
        · have h := H6.out.cn
          rw [List.length_append, hcl] at h
          rw [List.length_append, hcl]
          exact kept_other (h.alloc _) (h6.alloc _) (by decide) hg'
        · have e1 : (ns ++ [(⟨key, mny⟩ : Nd)]).flatMap encD = ns.flatMap encD ++ encD ⟨key, mny⟩ := by simp
          rw [e1, List.length_append, hnl]
          exact hown'
      have hz7 := H7.out.tk.size
      clear hown' hg' H6
      go_wp2_with fail
      go_roundw
      case rel => exact ⟨t + 1, cs ++ [key], ns ++ [⟨key, mny⟩], by omega, by go_num, by rw [List.length_append, hcl]; rfl, by rw [List.length_append, hnl]; rfl, hz7, H7⟩
      case measure => simp [intOf] <;> omega
    · obtain rfl : t = 12 + r := by omega
      obtain ⟨gc, rfl, hgl, hgb⟩ := hA3 (by omega)
      have hk3 : 12 + r ≤ k3 := by
        have h := HQ.out.cn
        rw [hcl] at h
        obtain ⟨_, _, e, _, _, hc, _, _⟩ := own_read h (by omega)
        cases e
        exact hc
      have i2 : ¬ ((12 + r : Nat) : Int) < 12 + (r : Int) := by omega
      rw [hcl, hnl]
      clear hA4 hA3
      have H9 : Hid (Took sb (b + 20) w (wr.alloc (.cells #[.string ⟨#[109, 49]⟩, .int .i64 1, .int .i64 0, .int .i64 20, .slice (some ⟨gc, 0, none⟩) (12 + r) k3, .string ⟨#[109, 50]⟩, .int .i64 2, .int .i64 0, .int .i64 3, .slice (some ⟨gc, 0, none⟩) 4 k3] 57)) ∧ MsF w.heap.size (.slice (some ⟨wr.heap.size, 0, none⟩) 2 2) [⟨⟨#[109, 49]⟩, 1, 0, 20, cs⟩, ⟨⟨#[109, 50]⟩, 2, 0, 3, cs.take 4⟩] (wr.alloc (.cells #[.string ⟨#[109, 49]⟩, .int .i64 1, .int .i64 0, .int .i64 20, .slice (some ⟨gc, 0, none⟩) (12 + r) k3, .string ⟨#[109, 50]⟩, .int .i64 2, .int .i64 0, .int .i64 3, .slice (some ⟨gc, 0, none⟩) 4 k3] 57)) ∧ Reads encD (.slice A4 (12 + r) k4) ns (wr.alloc (.cells #[.string ⟨#[109, 49]⟩, .int .i64 1, .int .i64 0, .int .i64 20, .slice (some ⟨gc, 0, none⟩) (12 + r) k3, .string ⟨#[109, 50]⟩, .int .i64 2, .int .i64 0, .int .i64 3, .slice (some ⟨gc, 0, none⟩) 4 k3] 57))) := by
        have hnb := blk_new wr (.cells #[.string ⟨#[109, 49]⟩, .int .i64 1, .int .i64 0, .int .i64 20, .slice (some ⟨gc, 0, none⟩) (12 + r) k3, .string ⟨#[109, 50]⟩, .int .i64 2, .int .i64 0, .int .i64 3, .slice (some ⟨gc, 0, none⟩) 4 k3] 57) rfl
        have hcn := HQ.out.cn.alloc (.cells #[.string ⟨#[109, 49]⟩, .int .i64 1, .int .i64 0, .int .i64 20, .slice (some ⟨gc, 0, none⟩) (12 + r) k3, .string ⟨#[109, 50]⟩, .int .i64 2, .int .i64 0, .int .i64 3, .slice (some ⟨gc, 0, none⟩) 4 k3] 57)
        have hrd : ReadsF w.heap.size encS (.slice (some ⟨gc, 0, none⟩) cs.length k3) cs _ := readsF_own (T := 9) (size := 1) (by rw [flatS_eq]; rw [hcl] at hcn; rw [hcl]; exact hcn)
        have hrd4 : ∀ W : World, ReadsF w.heap.size encS (.slice (some ⟨gc, 0, none⟩) cs.length k3) cs W → ReadsF w.heap.size encS (.slice (some ⟨gc, 0, none⟩) (cs.take 4).length k3) (cs.take 4) W := fun W hrd => by
          obtain ⟨A, c, e, hc, h⟩ := hrd
          cases e
          have hl4 : (cs.take 4).length = 4 := by rw [List.length_take]; omega
          refine ⟨_, _, rfl, by omega, .inr ?_⟩
          rcases h with h | ⟨g, e, hb', hrow⟩
          · rw [h] at hcl
            simp at hcl
            omega
          · refine ⟨g, e, hb', hrow.1, fun j u hu => hrow.2 j u ?_⟩
            rw [flatS_eq, List.map_take] at hu
            rw [flatS_eq]
            rw [List.getElem?_take] at hu
            split at hu
            · exact hu
            · cases hu
        refine ⟨(HQ.out.tk.more (by omega)).alloc _, ⟨_, _, rfl, by simp, .inr ⟨wr.heap.size, rfl, by simp, fun j hj => ?_⟩⟩, ?_⟩
        · have hj2 : j = 0 ∨ j = 1 := by simp at hj; omega
          rcases hj2 with rfl | rfl
          · refine ⟨by rw [cell_of_blk hnb]; rfl, by rw [cell_of_blk hnb]; rfl, by rw [cell_of_blk hnb]; rfl, by rw [cell_of_blk hnb]; rfl, .slice (some ⟨gc, 0, none⟩) (12 + r) k3, by rw [cell_of_blk hnb]; rfl, ?_⟩
            rw [hcl] at hrd
            exact hrd
          · refine ⟨by rw [cell_of_blk hnb]; rfl, by rw [cell_of_blk hnb]; rfl, by rw [cell_of_blk hnb]; rfl, by rw [cell_of_blk hnb]; rfl, .slice (some ⟨gc, 0, none⟩) 4 k3, by rw [cell_of_blk hnb]; rfl, ?_⟩
            have h4 := hrd4 _ hrd
            rw [show (cs.take 4).length = 4 by rw [List.length_take]; omega] at h4
            exact h4
        · have h := reads_own (HQ.out.nd.alloc (.cells #[.string ⟨#[109, 49]⟩, .int .i64 1, .int .i64 0, .int .i64 20, .slice (some ⟨gc, 0, none⟩) (12 + r) k3, .string ⟨#[109, 50]⟩, .int .i64 2, .int .i64 0, .int .i64 3, .slice (some ⟨gc, 0, none⟩) 4 k3] 57))
          rw [hnl] at h
          exact h
      have HCL : Hid (cs.length ≤ 13 ∧ (cs.take 4).length ≤ 13 ∧ ns.length ≤ 13) := ⟨by omega, by rw [List.length_take]; omega, by omega⟩
      clear HQ hcl hnl
      go_wp2_with fail
      refine bodyPost_ret (v := .tuple #[.slice (some ⟨wr.heap.size, 0, none⟩) 2 2, .slice A4 (12 + r) k4]) (by unfold results; simp only [Tryz.results7]; go_simp) rfl ⟨_, _, _, _, rfl, by simp, fun m hm => ?_, HCL.out.2.2, H9.out.1, H9.out.2.1, H9.out.2.2⟩
      rcases List.mem_cons.mp hm with rfl | hm
      · exact HCL.out.1
      · rw [List.mem_singleton] at hm
        subst hm
        exact HCL.out.2.1
end Go.Proofs.YtopoemfnnnfgdaaGreatDoor
namespace Go.Proofs.YtopoemfnnnfgdaaGreatDoor
open Go.RowKit
set_option linter.unusedSimpArgs false
set_option linter.unusedVariables false

theorem balanceOf_all {base : Nat} (ms : List Mc) (ns : List Nd) (h0 : bothErr ms ns = 0) (hnl : ns.length ≤ 1000000) {v1 v2 : Value} {w : World} (h1 : MsF base v1 ms w) (h2 : Reads encD v2 ns w) :
    Calls Tryz.prog 18 #[v1, v2] w fun e w' => ∃ v, e = .returned (.tuple #[v, .int .i64 (bXV ms ns), .bool (bFV ms ns), .int .i64 (balErr ms ns)]) ∧ Reads encN v (bPV ms ns) w' ∧ Below w.heap.size w w' := by
  have hm := machErr_ok (bothErr_ok h0).1
  have hn := needErr_ok (bothErr_ok h0).2
  by_cases h12 : 12 < ns.length
  · have hE : balErr ms ns = 2 := by unfold balErr; rw [if_pos h0, if_pos h12]
    obtain ⟨e1, e2, e3⟩ := bV_bad (ms := ms) (ns := ns) (by rw [hE]; decide)
    refine (balanceOf_big ms ns h12 hnl h1 h2).mono ?_
    rintro e w' ⟨rfl, b⟩
    rw [e1, e2, e3, hE]
    exact ⟨_, rfl, nil_readsN _, b⟩
  · have hE : balErr ms ns = 0 := by unfold balErr; rw [if_pos h0, if_neg h12]
    obtain ⟨e1, e2, e3⟩ := bV_good (ms := ms) (ns := ns) hE
    rw [e1, e2, e3, hE]
    exact balanceOf_any ms ns hm hn (by omega) h1 h2
theorem bal_no {ms : List Mc} {ns : List Nd} (h : bFV ms ns = false) : bPV ms ns = [] ∧ bXV ms ns = 0 := by
  by_cases hE : balErr ms ns = 0
  · obtain ⟨e1, e2, e3⟩ := bV_good (ms := ms) (ns := ns) hE
    rw [e3] at h
    rw [e1, e2]
    have hr : balR ms ns = none := by
      unfold balF at h
      cases hb : balR ms ns with
      | none => rfl
      | some a => rw [hb] at h; cases h
    exact ⟨(bal_none hr).1, (bal_none hr).2.1⟩
  · exact ⟨(bV_bad hE).1, (bV_bad hE).2.1⟩
theorem MsF.least {B b : Nat} {v : Value} {ms : List Mc} {w : World} (h : MsF B v ms w) (hb : b ≤ B) : MsF b v ms w := by
  obtain ⟨A, c, e, hc, h⟩ := h
  refine ⟨A, c, e, hc, h.imp_right ?_⟩
  rintro ⟨g, e, h1, h⟩
  refine ⟨g, e, h1, fun j hj => ?_⟩
  obtain ⟨q0, q1, q2, q3, u, q4, q5⟩ := h j hj
  exact ⟨q0, q1, q2, q3, u, q4, q5.least hb⟩
theorem tr_len (K : Nat) (ok : List Nat → Nat → Bool) (mx : List Nat → Int) : ∀ (n : Nat) (pre : List Nat) (acc : Acc) (b : List Nat) (x : Int), tr K ok mx n pre acc = some (b, x) → acc = some (b, x) ∨ b.length = pre.length + n
  | 0, pre, acc, b, x, h => by
    rw [tr] at h
    split at h
    · exact .inl h
    · cases h
      exact .inr rfl
  | n + 1, pre, acc, b, x, h => by
    have hk : ∀ (k : Nat) (b : List Nat) (x : Int), trK K ok mx n pre k acc = some (b, x) → acc = some (b, x) ∨ b.length = pre.length + (n + 1) := by
      intro k
      induction k with
      | zero =>
        intro b x h
        rw [trK] at h
        exact .inl h
      | succ k ih =>
        intro b x h
        rw [trK] at h
        split at h
        · rcases tr_len K ok mx n _ _ b x h with h2 | h2
          · exact ih b x h2
          · right
            rw [List.length_append, List.length_singleton] at h2
            omega
        · exact ih b x h
    rw [tr] at h
    split at h
    · exact .inl h
    · exact hk K b x h
theorem bPV_len (ms : List Mc) (ns : List Nd) : (bPV ms ns).length ≤ ns.length := by
  unfold bPV
  split
  · rw [balP_acc, toZ_len]
    cases h : balR ms ns with
    | none => exact Nat.zero_le _
    | some a =>
      obtain ⟨b, x⟩ := a
      unfold balR at h
      rcases tr_len _ _ _ _ _ _ b x h with h2 | h2
      · cases h2
      · show b.length ≤ _
        rw [h2]
        simp
  · simp
theorem fpGo_len (ms : List Mc) (ns : List Nd) : ∀ (o P r : List Int), fpGo ms ns o P = some r → r.length = P.length
  | [], P, r, h => by
    rw [fpGo] at h
    cases h
    rfl
  | i :: o, P, r, h => by
    rw [fpGo] at h
    split at h
    · rw [fpGo_len ms ns o _ r h, List.length_set]
    · cases h
theorem fPV_len (ms : List Mc) (ns : List Nd) : (fPV ms ns).length ≤ ns.length := by
  unfold fPV
  split
  · unfold fpP
    cases h : fpV ms ns with
    | none => exact Nat.zero_le _
    | some r =>
      have := fpGo_len ms ns _ _ r h
      rw [List.length_replicate] at this
      show r.length ≤ _
      omega
  · simp
theorem errs_two (a b : Int) : errsL [a, b] = thenL a b := by
  unfold thenL errsL errsL errsL
  split
  · split
    · rename_i h; exact h.symm
    · rfl
  · rfl
/-- The stream, the machines, the needs; the table of lowest bits. -/
structure T8 (wo : World) (sb : Nat) (v1 : Value) (ms : List Mc) (v2 : Value) (ns : List Nd) (W : World) : Prop where
  tk : Took sb 400 wo W
  ms : MsF wo.heap.size v1 ms W
  ns : Reads encD v2 ns W
  tz : Tz W
theorem T8.then_ {wo : World} {sb : Nat} {v1 v2 : Value} {ms : List Mc} {ns : List Nd} {W W' : World} (h : T8 wo sb v1 ms v2 ns W) (hb : Below W.heap.size W W') : T8 wo sb v1 ms v2 ns W' :=
  ⟨h.tk.below hb, h.ms.below hb, h.ns.below hb, h.tz.below hb⟩
theorem Tz.kept {sb : Nat} {W W' : World} (h : Tz W) (hk : Kept sb W W') (hs : 1 < sb) : Tz W' :=
  ⟨Nat.lt_of_lt_of_le h.1 hk.more, fun j hj => (hk.cell (p := ⟨1, j, none⟩) h.1 (by show 1 ≠ sb; omega)).trans (h.2 j hj)⟩

set_option maxRecDepth 100000 in
set_option maxHeartbeats 16000000 in
theorem lawB_any (A0 : Option Addr) (n c0 : Nat) (w : World) (hc : n ≤ c0) (hm : c0 ≤ 9223372036854775807) (hA : IntsAt w A0 n w.heap.size) (hT : Tz w) :
    Calls Tryz.prog 3 #[.slice A0 n c0] w fun e w' => e = .returned (.bool true) ∧ Below w.heap.size w w' := by
  have hs0 : IsStream (w.alloc (.cells #[.slice A0 n c0, .int .i64 0] 25)) w.heap.size 0 := by
    refine ⟨A0, n, c0, 0, hc, hm, Nat.le_refl _, blk_new w _ rfl, fun hn => ?_⟩
    obtain ⟨ad, e, h1, h2, h3⟩ := hA hn
    refine ⟨ad, e, by simp; omega, h2, fun k hk => ?_⟩
    obtain ⟨x, hx⟩ := h3 k hk
    exact ⟨x, ((((Below.refl w.heap.size w).alloc (Nat.le_refl _) _).cell (by rw [addr_block]; exact h1))).trans hx⟩
  have HTW := Lib.hid hT
  have h1w : 1 < w.heap.size := hT.1
  obtain ⟨wo, hwo⟩ : ∃ wo, wo = w.alloc (.cells #[.slice A0 n c0, .int .i64 0] 25) := ⟨_, rfl⟩
  have HWO : Hid (Below w.heap.size w wo ∧ w.heap.size < wo.heap.size) := ⟨by rw [hwo]; exact (Below.refl _ _).alloc (Nat.le_refl _) _, by rw [hwo]; simp⟩
  have HW := Lib.hid hwo
  rw [← hwo] at hs0
  clear hwo
  have H0 : Hid (Took w.heap.size 0 wo wo ∧ Tz wo) := ⟨Took.refl hs0, hT.below HWO.out.1⟩
  have hwz := HWO.out.2
  have HKB : Hid (∀ W, Kept w.heap.size wo W → Below w.heap.size w W) := fun W h => kept_belowL rfl (by rw [HW.out] at h; exact h)
  clear hT
  go_enter Tryz.func3, Tryz.ntmps3
  go_upto_region 2 with (fail)
  rw [← HW.out]
  go_wp2_with fail
  refine (machines_any w.heap.size 0 wo (by omega) H0.out.1.1).mono ?_
  rintro e w1 ⟨v1, us, rfl, hu1, hu3, t1, o1, k1⟩
  have hz1 := t1.size
  have H1 : Hid (Took w.heap.size 120 wo w1 ∧ MsB wo.heap.size v1 us w1 ∧ Tz w1) := ⟨t1, ⟨o1, k1⟩, H0.out.2.kept t1.2 h1w⟩
  clear t1 o1 k1
  obtain ⟨A1, c1, rfl, _⟩ := own_form H1.out.2.1.row
  go_wp2_with fail
  refine (needList_any w.heap.size 120 w1 (by omega) H1.out.1.1).mono ?_
  rintro e w2 ⟨v2, ns, rfl, hn5, o2, t2⟩
  have H2 : Hid (Took w.heap.size 200 wo w2 ∧ MsB wo.heap.size (.slice A1 us.length c1) us w2 ∧ w2.ownsRow w1.heap.size 62 2 v2 ns.length (ns.flatMap encD) ∧ Tz w2) := ⟨H1.out.1.trans t2, H1.out.2.1.kept t2.2 hwz, o2, H1.out.2.2.kept t2.2 h1w⟩
  have hz2 := t2.size
  clear t2 o2 H1
  obtain ⟨A2, c2, rfl, _⟩ := own_form H2.out.2.2.1
  go_wp2_with fail
  refine (flip_any w.heap.size 200 30 w2 (by omega) (by omega) (by omega) H2.out.1.1).mono ?_
  rintro e w3 ⟨fl, rfl, t3⟩
  have hlen : (us.map Prod.fst).length = us.length := List.length_map _
  have hz3 := t3.size
  have H3 : Hid (Took w.heap.size 201 wo w3 ∧ MsF wo.heap.size (.slice A1 us.length c1) (us.map Prod.fst) w3 ∧ Reads encD (.slice A2 ns.length c2) ns w3 ∧ Tz w3) := ⟨H2.out.1.trans t3, (H2.out.2.1.kept t3.2 hwz).msF, reads_own (kept_own H2.out.2.2.1 t3.2 (by omega)), H2.out.2.2.2.kept t3.2 h1w⟩
  have hl7 : ∀ m ∈ us.map Prod.fst, m.can.length ≤ 13 := fun m hm => by have := H2.out.2.1.len m hm; omega
  generalize us.map Prod.fst = ms0 at *
  rw [← hlen] at hu1 hu3 H3 ⊢
  clear t3 H2 H0 hs0 hA hlen
  have HL7 := Lib.hid hl7
  clear hl7
  go_upto_if 34 with (fail)
  go_cut [4, 5] (fun v4 v5 wc => ∃ (A1 : Option Addr) (c1 : Nat) (ms : List Mc) (A2 : Option Addr) (c2 : Nat) (ns : List Nd), v4 = .slice A1 ms.length c1 ∧ v5 = .slice A2 ns.length c2 ∧ ms.length ≤ 3 ∧ ns.length ≤ 13 ∧ Hid ((∀ m ∈ ms, m.can.length ≤ 13) ∧ T8 wo w.heap.size (.slice A1 ms.length c1) ms (.slice A2 ns.length c2) ns wc))
  case first =>
    cases fl with
    | false =>
      go_wp2_with fail
      go_meet
      exact ⟨A1, c1, ms0, A2, c2, ns, rfl, rfl, hu3, by omega, HL7.out, H3.out.1.more (by omega), H3.out.2.1, H3.out.2.2.1, H3.out.2.2.2⟩
    | true =>
      go_wp2_with fail
      refine (manyNeeds_any w.heap.size 201 w3 (by omega) H3.out.1.1).mono ?_
      rintro e w4 ⟨v3, v4, ms, ms2, rfl, hm3, hc13, hn13, t4, hmF, hrd⟩
      obtain ⟨A5, c5, rfl, hx⟩ := hmF
      obtain ⟨A6, c6, rfl, hy⟩ := hrd
      have H4 : Hid ((∀ m ∈ ms, m.can.length ≤ 13) ∧ T8 wo w.heap.size (.slice A5 ms.length c5) ms (.slice A6 ms2.length c6) ms2 w4) := ⟨hc13, (H3.out.1.trans t4).more (by omega), MsF.least (B := w3.heap.size) ⟨A5, c5, rfl, hx⟩ (by omega), ⟨A6, c6, rfl, hy⟩, H3.out.2.2.2.kept t4.2 h1w⟩
      clear t4 hc13 hx hy H3
      go_wp2_with fail
      go_meet
      exact ⟨A5, c5, ms, A6, c6, ms2, rfl, rfl, hm3, hn13, H4.out⟩
  case rest =>
    clear H3 HL7 hu1 hu3 hn5
    obtain ⟨A1, c1, ms, A2, c2, ns, rfl, rfl, hm3, hn13, HC⟩ := hcut
    have hl7 : ∀ m ∈ ms, m.can.length ≤ 1000000 := fun m hm => by have := HC.out.1 m hm; omega
    have H3 := Lib.hid HC.out.2
    have C1 := Lib.hid (fun (W : World) (h : T8 wo w.heap.size (.slice A1 ms.length c1) ms (.slice A2 ns.length c2) ns W) => balanceL_any ms ns (by omega) hl7 (by omega) h.ms h.ns h.tz)
    have C2 := Lib.hid (fun (W : World) (h : T8 wo w.heap.size (.slice A1 ms.length c1) ms (.slice A2 ns.length c2) ns W) => firstL_any ms ns (by omega) hl7 hn13 h.ms h.ns)
    have C3 := Lib.hid (fun (W : World) (h : T8 wo w.heap.size (.slice A1 ms.length c1) ms (.slice A2 ns.length c2) ns W) => bound_any ms ns (by omega) hl7 (by omega) h.ms h.ns)
    have C4 := Lib.hid (fun (W : World) (h : T8 wo w.heap.size (.slice A1 ms.length c1) ms (.slice A2 ns.length c2) ns W) => nobody_any ms ns (by omega) hl7 (by omega) h.ms h.ns)
    have C5 := Lib.hid (fun (W : World) (h : T8 wo w.heap.size (.slice A1 ms.length c1) ms (.slice A2 ns.length c2) ns W) => machinesFault_any ms (by omega) hl7 h.ms)
    have C6 := Lib.hid (fun (W : World) (h : T8 wo w.heap.size (.slice A1 ms.length c1) ms (.slice A2 ns.length c2) ns W) => needsFault_any ns (by omega) h.ns)
    have C7 := Lib.hid (fun hM hN (W : World) (h : T8 wo w.heap.size (.slice A1 ms.length c1) ms (.slice A2 ns.length c2) ns W) => firstPlan_any ms ns hM hN hn13 h.ms h.ns)
    have C8 := Lib.hid (fun hM hN (W : World) (h : T8 wo w.heap.size (.slice A1 ms.length c1) ms (.slice A2 ns.length c2) ns W) => boundOf_any ms ns hM hN h.ms h.ns)
    have C9 := Lib.hid (fun hM hN (W : World) (h : T8 wo w.heap.size (.slice A1 ms.length c1) ms (.slice A2 ns.length c2) ns W) => nobodyOf_any ms ns hM hN h.ms h.ns)
    have C10 := Lib.hid (fun h0 (W : World) (h : T8 wo w.heap.size (.slice A1 ms.length c1) ms (.slice A2 ns.length c2) ns W) => balanceOf_all ms ns h0 (by omega) h.ms h.ns)
    have EQ := Lib.hid (fun (xs : List Int) (hx : xs.length ≤ 100000) (u v : Value) (W : World) (h1 : Reads encN u xs W) (h2 : Reads encN v xs W) => eqN_any xs hx h1 h2)
    have ES := Lib.hid (fun (xs : List ByteArray) (hx : xs.length ≤ 2000000) (u v : Value) (W : World) (h1 : Reads encS u xs W) (h2 : Reads encS v xs W) => equalStr_any xs hx u v W h1 h2)
    have HBE : Hid (bothErr ms ns = thenL (machErr ms) (needErr ns)) := rfl
    have HOK := Lib.hid (fun (h : bothErr ms ns = 0) => And.intro (machErr_ok (bothErr_ok h).1) (needErr_ok (bothErr_ok h).2))
    have HBN := Lib.hid (fun h => bal_no (ms := ms) (ns := ns) h)
    have HV1 : Hid (bothErr ms ns ≠ 0 → bPV ms ns = [] ∧ bXV ms ns = 0 ∧ bFV ms ns = false ∧ balErr ms ns = bothErr ms ns ∧ fPV ms ns = [] ∧ fFV ms ns = false ∧ bdV ms ns = 0 ∧ nobV ms ns = []) := fun h => by
      have e : balErr ms ns = bothErr ms ns := if_neg h
      obtain ⟨a1, a2, a3⟩ := bV_bad (ms := ms) (ns := ns) (by rw [e]; exact h)
      exact ⟨a1, a2, a3, e, if_neg h, if_neg h, if_neg h, if_neg h⟩
    have HV2 : Hid (bothErr ms ns = 0 → fPV ms ns = fpP ms ns ∧ fFV ms ns = fpF ms ns ∧ bdV ms ns = bdC ms ns ∧ nobV ms ns = nobT ms ns) := fun h => ⟨if_pos h, if_pos h, if_pos h, if_pos h⟩
    have HLN : Hid ((bPV ms ns).length ≤ 100000 ∧ (fPV ms ns).length ≤ 100000 ∧ (nobV ms ns).length ≤ 2000000) := by
      refine ⟨?_, ?_, ?_⟩
      · have := bPV_len ms ns; omega
      · have := fPV_len ms ns; omega
      · unfold nobV
        split
        · have := nobT_len ms ns; omega
        · simp
    have HT1 := Lib.hid (errs_two (machErr ms) (needErr ns))
    have CEE := Lib.hid (fun (W : World) (g : Nat) (hb : W.heap[g]? = some (.cells #[.int .i64 (machErr ms), .int .i64 (needErr ns)] 33 (0, 0))) => errs_any [machErr ms, needErr ns] (by simp) g 2 W ⟨lt_of_blk hb, fun j u hu => by rw [cell_of_blk hb]; simpa using hu⟩)
    rw [HT1.out, ← HBE.out] at CEE
    clear hl7 HT1 HBE HC
    generalize balErr ms ns = E at *
    generalize bothErr ms ns = EB at *
    generalize machErr ms = EM at *
    generalize needErr ns = EN at *
    generalize bPV ms ns = bp at *
    generalize bXV ms ns = bx at *
    generalize bFV ms ns = bf at *
    generalize fPV ms ns = fp at *
    generalize fFV ms ns = ff at *
    generalize bdV ms ns = bd at *
    generalize nobV ms ns = nb at *
    generalize fpP ms ns = fp' at *
    generalize fpF ms ns = ff' at *
    generalize bdC ms ns = bd' at *
    generalize nobT ms ns = nb' at *
    go_wp2_with fail
    refine (C1.out _ H3.out).mono ?_
    rintro e w4 ⟨vb, rfl, r4, b4⟩
    have H4 := Lib.hid (And.intro (H3.out.then_ b4) r4)
    clear b4 r4 H3
    obtain ⟨Ab, cb, rfl, _⟩ := H4.out.2
    go_wp2_with fail
    refine (C2.out _ H4.out.1).mono ?_
    rintro e w5 ⟨vf, rfl, r5, b5⟩
    have H5 := Lib.hid (And.intro (H4.out.1.then_ b5) (And.intro (H4.out.2.below b5) r5))
    clear b5 r5 H4
    obtain ⟨Af, cf, rfl, _⟩ := H5.out.2.2
    go_wp2_with fail
    refine (C3.out _ H5.out.1).mono ?_
    rintro e w6 ⟨rfl, b6⟩
    have H6 := Lib.hid (And.intro (H5.out.1.then_ b6) (And.intro (H5.out.2.1.below b6) (H5.out.2.2.below b6)))
    clear b6 H5
    go_wp2_with fail
    refine (C4.out _ H6.out.1).mono ?_
    rintro e w7 ⟨vn, rfl, r7, b7⟩
    have H7 := Lib.hid (And.intro (H6.out.1.then_ b7) (And.intro (H6.out.2.1.below b7) (And.intro (H6.out.2.2.below b7) r7)))
    clear b7 r7 H6
    obtain ⟨An, cn, rfl, _⟩ := H7.out.2.2.2
    go_wp2_with fail
    refine (C5.out _ H7.out.1).mono ?_
    rintro e w8 ⟨rfl, b8⟩
    have H8 := Lib.hid (And.intro (H7.out.1.then_ b8) (And.intro (H7.out.2.1.below b8) (And.intro (H7.out.2.2.1.below b8) (H7.out.2.2.2.below b8))))
    clear b8 H7
    go_wp2_with fail
    refine (C6.out _ H8.out.1).mono ?_
    rintro e w9 ⟨rfl, b9⟩
    have b10 : Below w9.heap.size w9 (w9.alloc (.cells #[.int .i64 EM, .int .i64 EN] 33)) := (Below.refl _ _).alloc (Nat.le_refl _) _
    have H9 := Lib.hid (And.intro (H8.out.1.then_ b9) (And.intro (H8.out.2.1.below b9) (And.intro (H8.out.2.2.1.below b9) (H8.out.2.2.2.below b9))))
    have H10 := Lib.hid (And.intro (H9.out.1.then_ b10) (And.intro (H9.out.2.1.below b10) (And.intro (H9.out.2.2.1.below b10) (H9.out.2.2.2.below b10))))
    clear b9 b10 H8 H9
    go_wp2_with fail
    refine (CEE.out _ w9.heap.size (blk_new w9 _ rfl)).mono ?_
    rintro e wa ⟨rfl, rfl⟩
    generalize w9.alloc (.cells #[.int .i64 EM, .int .i64 EN] 33) = w10 at *
    by_cases hEB : EB = 0
    case neg =>
      obtain ⟨rfl, rfl, rfl, rfl, rfl, rfl, rfl, rfl⟩ := HV1.out hEB
      have hE2 : (E == 0) = false := beq_eq_false_iff_ne.mpr hEB
      have HN := Lib.hid (And.intro (nil_readsN w10) (nil_readsS w10))
      clear HV1 HV2 hEB HBN
      go_wp2_with fail
      clear hE2
      refine (EQ.out _ (by simp) _ _ _ H10.out.2.1 HN.out.1).mono ?_
      rintro e x5 ⟨rfl, b5⟩
      have Q5 := Lib.hid (And.intro (H10.out.1.then_ b5) (And.intro (H10.out.2.2.1.below b5) (And.intro (H10.out.2.2.2.below b5) (And.intro (HN.out.1.below b5) (HN.out.2.below b5)))))
      clear b5 H10 HN
      go_wp2_with fail
      refine (EQ.out _ (by simp) _ _ _ Q5.out.2.1 Q5.out.2.2.2.1).mono ?_
      rintro e x6 ⟨rfl, b6⟩
      have Q6 := Lib.hid (And.intro (Q5.out.1.then_ b6) (And.intro (Q5.out.2.2.1.below b6) (Q5.out.2.2.2.2.below b6)))
      clear b6 Q5
      go_wp2_with fail
      refine (ES.out _ (by simp) _ _ _ Q6.out.2.1 Q6.out.2.2).mono ?_
      rintro e x7 ⟨rfl, b7⟩
      have Q7 := Lib.hid (Q6.out.1.then_ b7)
      clear b7 Q6
      go_wp2_with fail
      refine (lined_any _).mono ?_
      rintro e x8 ⟨rfl, b8⟩
      have Q8 := Lib.hid (Q7.out.then_ b8)
      clear b8 Q7
      go_wp2_with fail
      go_ret
      exact ⟨rfl, HKB.out _ Q8.out.tk.2⟩
    case pos =>
      subst hEB
      obtain ⟨hM, hN⟩ := HOK.out rfl
      obtain ⟨rfl, rfl, rfl, rfl⟩ := HV2.out rfl
      have C7' := Lib.hid (C7.out hM hN)
      have C8' := Lib.hid (C8.out hM hN)
      have C9' := Lib.hid (C9.out hM hN)
      have C10' := Lib.hid (C10.out rfl)
      clear HV1 HV2 C7 C8 C9 C10
      go_wp2_with fail
      refine (C7'.out _ H10.out.1).mono ?_
      rintro e w11 ⟨vp, rfl, r11, b11⟩
      have H11 := Lib.hid (And.intro (H10.out.1.then_ b11) (And.intro (H10.out.2.1.below b11) (And.intro (H10.out.2.2.1.below b11) (And.intro (H10.out.2.2.2.below b11) r11))))
      clear b11 r11 H10
      obtain ⟨Ap, cp, rfl, _⟩ := H11.out.2.2.2.2
      go_wp2_with fail
      refine (C8'.out _ H11.out.1).mono ?_
      rintro e w12 ⟨rfl, b12⟩
      have H12 := Lib.hid (And.intro (H11.out.1.then_ b12) (And.intro (H11.out.2.1.below b12) (And.intro (H11.out.2.2.1.below b12) (And.intro (H11.out.2.2.2.1.below b12) (H11.out.2.2.2.2.below b12)))))
      clear b12 H11
      go_wp2_with fail
      refine (C9'.out _ H12.out.1).mono ?_
      rintro e w13 ⟨vy, rfl, r13, b13⟩
      have H13 := Lib.hid (And.intro (H12.out.1.then_ b13) (And.intro (H12.out.2.1.below b13) (And.intro (H12.out.2.2.1.below b13) (And.intro (H12.out.2.2.2.1.below b13) (And.intro (H12.out.2.2.2.2.below b13) r13)))))
      clear b13 r13 H12
      obtain ⟨Ay, cy, rfl, _⟩ := H13.out.2.2.2.2.2
      go_wp2_with fail
      refine (C10'.out _ H13.out.1).mono ?_
      rintro e w14 ⟨vz, rfl, r14, b14⟩
      have H14 := Lib.hid (And.intro (H13.out.1.then_ b14) (And.intro (H13.out.2.1.below b14) (And.intro (H13.out.2.2.1.below b14) (And.intro (H13.out.2.2.2.1.below b14) (And.intro (H13.out.2.2.2.2.1.below b14) (And.intro (H13.out.2.2.2.2.2.below b14) r14))))))
      clear b14 r14 H13
      obtain ⟨Az, cz, rfl, _⟩ := H14.out.2.2.2.2.2.2
      cases bf with
      | true =>
        have H15 := H14
        clear H14
        go_wp2_with fail
        refine (EQ.out _ HLN.out.1 _ _ _ H15.out.2.1 H15.out.2.2.2.2.2.2).mono ?_
        rintro e x5 ⟨rfl, b5⟩
        have Q5 := Lib.hid (And.intro (H15.out.1.then_ b5) (And.intro (H15.out.2.2.1.below b5) (And.intro (H15.out.2.2.2.1.below b5) (And.intro (H15.out.2.2.2.2.1.below b5) (H15.out.2.2.2.2.2.1.below b5)))))
        clear b5 H15
        go_wp2_with fail
        refine (EQ.out _ HLN.out.2.1 _ _ _ Q5.out.2.1 Q5.out.2.2.2.1).mono ?_
        rintro e x6 ⟨rfl, b6⟩
        have Q6 := Lib.hid (And.intro (Q5.out.1.then_ b6) (And.intro (Q5.out.2.2.1.below b6) (Q5.out.2.2.2.2.below b6)))
        clear b6 Q5
        go_wp2_with fail
        refine (ES.out _ HLN.out.2.2 _ _ _ Q6.out.2.1 Q6.out.2.2).mono ?_
        rintro e x7 ⟨rfl, b7⟩
        have Q7 := Lib.hid (Q6.out.1.then_ b7)
        clear b7 Q6
        go_wp2_with fail
        refine (lined_any _).mono ?_
        rintro e x8 ⟨rfl, b8⟩
        have Q8 := Lib.hid (Q7.out.then_ b8)
        clear b8 Q7
        go_wp2_with fail
        go_ret
        exact ⟨rfl, HKB.out _ Q8.out.tk.2⟩
      | false =>
        obtain ⟨rfl, rfl⟩ := HBN.out rfl
        have H15 := Lib.hid (And.intro H14.out.1 (And.intro H14.out.2.1 (And.intro H14.out.2.2.1 (And.intro H14.out.2.2.2.1 (And.intro H14.out.2.2.2.2.1 (And.intro H14.out.2.2.2.2.2.1 (nil_readsN w14)))))))
        clear H14
        go_wp2_with fail
        refine (EQ.out _ HLN.out.1 _ _ _ H15.out.2.1 H15.out.2.2.2.2.2.2).mono ?_
        rintro e x5 ⟨rfl, b5⟩
        have Q5 := Lib.hid (And.intro (H15.out.1.then_ b5) (And.intro (H15.out.2.2.1.below b5) (And.intro (H15.out.2.2.2.1.below b5) (And.intro (H15.out.2.2.2.2.1.below b5) (H15.out.2.2.2.2.2.1.below b5)))))
        clear b5 H15
        go_wp2_with fail
        refine (EQ.out _ HLN.out.2.1 _ _ _ Q5.out.2.1 Q5.out.2.2.2.1).mono ?_
        rintro e x6 ⟨rfl, b6⟩
        have Q6 := Lib.hid (And.intro (Q5.out.1.then_ b6) (And.intro (Q5.out.2.2.1.below b6) (Q5.out.2.2.2.2.below b6)))
        clear b6 Q5
        go_wp2_with fail
        refine (ES.out _ HLN.out.2.2 _ _ _ Q6.out.2.1 Q6.out.2.2).mono ?_
        rintro e x7 ⟨rfl, b7⟩
        have Q7 := Lib.hid (Q6.out.1.then_ b7)
        clear b7 Q6
        go_wp2_with fail
        refine (lined_any _).mono ?_
        rintro e x8 ⟨rfl, b8⟩
        have Q8 := Lib.hid (Q7.out.then_ b8)
        clear b8 Q7
        go_wp2_with fail
        go_ret
        exact ⟨rfl, HKB.out _ Q8.out.tk.2⟩
end Go.Proofs.YtopoemfnnnfgdaaGreatDoor
