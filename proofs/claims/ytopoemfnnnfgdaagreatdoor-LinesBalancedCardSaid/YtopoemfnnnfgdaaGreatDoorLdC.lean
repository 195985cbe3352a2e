/-
  The balance of a line: the reference's answer.
-/
import Derived.Test.YtopoemfnnnfgdaaGreatDoorLdB
import Derived.Laws.EntriesVeiled
namespace Go.Proofs.YtopoemfnnnfgdaaGreatDoor
open Go.RowKit
set_option linter.unusedSimpArgs false
set_option linter.unusedVariables false

theorem tryB_any {base : Nat} (ms : List Mc) (ns : List Nd) (hm : MsOk ms) (hn : NsOk ns) (hnl : ns.length ≤ 12) (Am : Option Addr) (cm : Nat) (An : Option Addr) (cn : Nat) (w : World) (h1 : MsF base (.slice Am ms.length cm) ms w) (h2 : Reads encD (.slice An ns.length cn) ns w) (q : Bk) :
    ∀ f, TryS ms ns Am cm An cn w q f
  | 0 => tryB_step ms ns hm hn hnl Am cm An cn w h1 h2 q 0 (fun f' h => by omega)
  | f + 1 => tryB_step ms ns hm hn hnl Am cm An cn w h1 h2 q (f + 1) (fun f' h => by
    obtain rfl : f' = f := by omega
    exact tryB_any ms ns hm hn hnl Am cm An cn w h1 h2 q f')
theorem balP_acc (ms : List Mc) (ns : List Nd) : balP ms ns = toZ (accP (balR ms ns)) := by
  unfold balP
  cases balR ms ns with
  | none => rfl
  | some a => obtain ⟨b, x⟩ := a; rfl
theorem balX_acc (ms : List Mc) (ns : List Nd) : balX ms ns = accX (balR ms ns) := by
  unfold balX
  cases balR ms ns with
  | none => rfl
  | some a => obtain ⟨b, x⟩ := a; rfl

theorem own_of_blk {w : World} {g base n : Nat} {L : List Int} (h : w.heap[g]? = some (.cells (L.map (Value.int .i64)).toArray 3 (0, 0))) (hb : base ≤ g) (hn : L.length = n) (h0 : n ≤ 1000000) : w.ownsRow base 3 1 (.slice (some ⟨g, 0, none⟩) n n) n (L.map (Value.int .i64)) := by
  refine ⟨by simp [hn], .inr ⟨g, n, _, rfl, hb, h, Nat.le_refl _, by unfold maxLen; omega, by simp [hn], ?_⟩⟩
  rw [← hn, Nat.mul_one]
  have e : L.length = (L.map (Value.int .i64)).length := by rw [List.length_map]
  rw [e]
  exact List.take_length
theorem zeros (n : Nat) : Array.replicate n (Value.int .i64 0) = ((List.replicate n (0 : Int)).map (Value.int .i64)).toArray := by
  rw [List.map_replicate, List.toArray_replicate]
theorem cntL_nil (ms : List Mc) : cntL ms [] = List.replicate ms.length 0 := by
  unfold cntL
  apply List.ext_getElem
  · simp
  · intro j h1 h2
    simp

set_option maxRecDepth 100000 in
set_option maxHeartbeats 8000000 in
theorem balanceOf_any {base : Nat} (ms : List Mc) (ns : List Nd) (hm : MsOk ms) (hn : NsOk ns) (hnl : ns.length ≤ 12) {v1 v2 : Value} {w : World} (h1 : MsF base v1 ms w) (h2 : Reads encD v2 ns w) :
    Calls Tryz.prog 18 #[v1, v2] w fun e w' => ∃ v, e = .returned (.tuple #[v, .int .i64 (balX ms ns), .bool (balF ms ns), .int .i64 0]) ∧ Reads encN v (balP ms ns) w' ∧ Below w.heap.size w w' := by
  have HEN := enters_of Tryz.func44 (by kernel_rfl) rfl
  have HR := Lib.hid (And.intro h1 h2)
  have CO := Lib.hid (fun (W : World) (hb : Below w.heap.size w W) => cyclesOf_any ms ns [] hm hn (by simp) (h1.below hb) (h2.below hb) (nil_readsN W))
  have hmf := hm.few
  have hms := hm.some
  have HRN := Lib.hid (right_nil (ns := ns) hm)
  have HBA : Hid (balP ms ns = toZ (accP (balR ms ns)) ∧ balX ms ns = accX (balR ms ns) ∧ balF ms ns = (balR ms ns).isSome ∧ balR ms ns = tr ms.length (okP ms ns) (mxP ms ns) ns.length [] none) := ⟨balP_acc ms ns, balX_acc ms ns, rfl, rfl⟩
  have hmk1 := run_makeI ns.length (by omega)
  have hmk2 := run_makeI ms.length (by omega)
  obtain ⟨A1, c1, rfl, hc1, h1'⟩ := h1
  obtain ⟨A2, c2, rfl, h2'⟩ := h2
  have CT := Lib.hid (fun q => tryB_any ms ns hm hn hnl A1 c1 A2 c2 w ⟨A1, c1, rfl, hc1, h1'⟩ ⟨A2, c2, rfl, h2'⟩ q ns.length)
  clear h1' h2' hm hn
  go_enter Tryz.func18, Tryz.ntmps18
  go_upto_region 7 with (fail)
  have e2 : w.heap.size + 1 + 1 = w.heap.size + 2 := rfl
  have e3 : w.heap.size + 2 + 1 = w.heap.size + 3 := rfl
  have e4 : w.heap.size + 3 + 1 = w.heap.size + 4 := rfl
  have e5 : w.heap.size + 4 + 1 = w.heap.size + 5 := rfl
  have e6 : w.heap.size + 5 + 1 = w.heap.size + 6 := rfl
  have e7 : w.heap.size + 6 + 1 = w.heap.size + 7 := rfl
  have e8 : w.heap.size + 7 + 1 = w.heap.size + 8 := rfl
  simp only [e2, e3, e4, e5, e6, e7, e8]
  have HX : Hid (∃ W : World, W = (((((((((w.alloc (.cells #[.slice A1 ms.length c1] 26)).alloc (.cells #[.slice A2 ns.length c2] 28)).alloc (.cells (Array.replicate ns.length (.int .i64 0)) 3)).alloc (.cells #[.slice (some ⟨w.heap.size + 2, 0, none⟩) ns.length ns.length] 22)).alloc (.cells #[.slice none 0 0] 22)).alloc (.cells #[.int .i64 0] 3)).alloc (.cells #[.bool false] 4)).alloc (.cells (Array.replicate ms.length (.int .i64 0)) 3)).alloc (.cells #[.slice (some ⟨w.heap.size + 7, 0, none⟩) ms.length ms.length] 22)) ∧ Below w.heap.size w W ∧ W.heap.size = w.heap.size + 9 ∧ W.heap[w.heap.size]? = some (.cells #[.slice A1 ms.length c1] 26 (0, 0)) ∧ W.heap[w.heap.size + 1]? = some (.cells #[.slice A2 ns.length c2] 28 (0, 0)) ∧ W.heap[w.heap.size + 2]? = some (.cells (Array.replicate ns.length (.int .i64 0)) 3 (0, 0)) ∧ W.heap[w.heap.size + 3]? = some (.cells #[.slice (some ⟨w.heap.size + 2, 0, none⟩) ns.length ns.length] 22 (0, 0)) ∧ W.heap[w.heap.size + 4]? = some (.cells #[.slice none 0 0] 22 (0, 0)) ∧ W.heap[w.heap.size + 5]? = some (.cells #[.int .i64 0] 3 (0, 0)) ∧ W.heap[w.heap.size + 6]? = some (.cells #[.bool false] 4 (0, 0)) ∧ W.heap[w.heap.size + 7]? = some (.cells (Array.replicate ms.length (.int .i64 0)) 3 (0, 0)) ∧ W.heap[w.heap.size + 8]? = some (.cells #[.slice (some ⟨w.heap.size + 7, 0, none⟩) ms.length ms.length] 22 (0, 0))) := by
    refine ⟨_, rfl, (((((((((Below.refl _ _).alloc (Nat.le_refl _) _).alloc (by simp) _).alloc (by simp; omega) _).alloc (by simp; omega) _).alloc (by simp; omega) _).alloc (by simp; omega) _).alloc (by simp; omega) _).alloc (by simp; omega) _).alloc (by simp; omega) _, by simp, ?_, ?_, ?_, ?_, ?_, ?_, ?_, ?_, blk_new _ _ (by simp)⟩
    · exact blk_alloc (blk_alloc (blk_alloc (blk_alloc (blk_alloc (blk_alloc (blk_alloc (blk_alloc (blk_new _ _ (by simp)) _) _) _) _) _) _) _) _
    · exact blk_alloc (blk_alloc (blk_alloc (blk_alloc (blk_alloc (blk_alloc (blk_alloc (blk_new _ _ (by simp)) _) _) _) _) _) _) _
    · exact blk_alloc (blk_alloc (blk_alloc (blk_alloc (blk_alloc (blk_alloc (blk_new _ _ (by simp)) _) _) _) _) _) _
    · exact blk_alloc (blk_alloc (blk_alloc (blk_alloc (blk_alloc (blk_new _ _ (by simp)) _) _) _) _) _
    · exact blk_alloc (blk_alloc (blk_alloc (blk_alloc (blk_new _ _ (by simp)) _) _) _) _
    · exact blk_alloc (blk_alloc (blk_alloc (blk_new _ _ (by simp)) _) _) _
    · exact blk_alloc (blk_alloc (blk_new _ _ (by simp)) _) _
    · exact blk_alloc (blk_new _ _ (by simp)) _
  obtain ⟨wx, hwx, HX'⟩ := HX.out
  rw [← hwx]
  have HX := Lib.hid HX'
  clear e2 e3 e4 e5 e6 e7 e8 HX' hwx hmk1 hmk2
  have COX := Lib.hid (CO.out wx HX.out.1)
  have c0 := cell_of_blk HX.out.2.2.1 0
  have c1' := cell_of_blk HX.out.2.2.2.1 0
  simp at c0 c1'
  have l0 : w.heap.size + 1 < wx.heap.size := lt_of_blk HX.out.2.2.2.1
  clear CO
  go_wp2_with fail
  refine COX.out.mono ?_
  rintro e w8 ⟨v, rfl, hown, b8⟩
  obtain ⟨g, cg, rfl, hgb, hgl, _, _, _⟩ := own_read hown (by omega)
  have HO := Lib.hid (And.intro hown b8)
  clear hown b8 c0 c1' l0 COX
  have hzx := HX.out.2.1
  rw [hzx] at hgb
  have hz8 := HO.out.2.size
  rw [hzx] at hz8
  go_upto_region 9 with (fail)
  obtain ⟨s, hs⟩ : ∃ s, w8.heap.size = s := ⟨_, rfl⟩
  have HB : Hid (BW w ⟨w.heap.size, w.heap.size + 1, w.heap.size + 2, w.heap.size + 3, w.heap.size + 4, w.heap.size + 5, w.heap.size + 6, w.heap.size + 7, w.heap.size + 8, g, s, s + 1, cg⟩ ns.length ms.length (.slice A1 ms.length c1) (.slice A2 ns.length c2) (List.replicate ns.length 0) (cntL ms []) (cyL ms ns (toZ [])) none (((w8.alloc (.cells #[.slice (some ⟨g, 0, none⟩) ms.length cg] 22)).alloc (.cells #[.nilFunc] 79)).setCell ⟨s + 1, 0, none⟩ (tryB ⟨w.heap.size, w.heap.size + 1, w.heap.size + 2, w.heap.size + 3, w.heap.size + 4, w.heap.size + 5, w.heap.size + 6, w.heap.size + 7, w.heap.size + 8, g, s, s + 1, cg⟩))) := by
    obtain ⟨hb, hsz, k0, k1, k2, k3, k4, k5, k6, k7, k8⟩ := HX.out
    have far : ∀ {j : Nat} {o : Obj}, wx.heap[j]? = some o → (((w8.alloc (.cells #[.slice (some ⟨g, 0, none⟩) ms.length cg] 22)).alloc (.cells #[.nilFunc] 79)).setCell ⟨s + 1, 0, none⟩ (tryB ⟨w.heap.size, w.heap.size + 1, w.heap.size + 2, w.heap.size + 3, w.heap.size + 4, w.heap.size + 5, w.heap.size + 6, w.heap.size + 7, w.heap.size + 8, g, s, s + 1, cg⟩)).heap[j]? = some o := fun {j} {o} h => by
      have hl := lt_of_blk h
      exact blk_far (blk_alloc (blk_alloc (blk_below HO.out.2 h) _) _) (by show j ≠ s + 1; omega) _
    have hbel : Below w.heap.size w (((w8.alloc (.cells #[.slice (some ⟨g, 0, none⟩) ms.length cg] 22)).alloc (.cells #[.nilFunc] 79)).setCell ⟨s + 1, 0, none⟩ (tryB ⟨w.heap.size, w.heap.size + 1, w.heap.size + 2, w.heap.size + 3, w.heap.size + 4, w.heap.size + 5, w.heap.size + 6, w.heap.size + 7, w.heap.size + 8, g, s, s + 1, cg⟩)) := by
      refine (((hb.then_below HO.out.2 hb.size).alloc (by omega) _).alloc (by simp; omega) _).setCell (by show _ ≤ s + 1; omega) _
    refine ⟨?_, Nat.le_refl _, hbel, far k0, far k1, far k3, far k8, ?_, ?_, far k6, far k5, ?_, ?_, ?_, .slice none 0 0, far k4, World.ownsRow_nil _ _ _ _⟩
    · dsimp only [Bk.Ch]
      omega
    · exact blk_far (blk_alloc (blk_new _ _ (by exact hs)) _) (by show s ≠ s + 1; omega) _
    · exact blk_set (blk_new _ _ (by simp [hs])) _
    · exact own_of_blk (far (by rw [← zeros]; exact k2)) (by show _ ≤ w.heap.size + 2; omega) (by simp) (by omega)
    · rw [cntL_nil]
      exact own_of_blk (far (by rw [← zeros]; exact k7)) (by show _ ≤ w.heap.size + 7; omega) (by simp) (by omega)
    · exact own_ne (own_alloc (own_alloc (own_mono (base' := w.heap.size) HO.out.1 (by omega)) _) _) (by show s + 1 ≠ g; omega) _
  have hl9 : s + 1 < ((w8.alloc (.cells #[.slice (some ⟨g, 0, none⟩) ms.length cg] 22)).alloc (.cells #[.nilFunc] 79)).heap.size := by simp [hs]
  have kb9 : ((w8.alloc (.cells #[.slice (some ⟨g, 0, none⟩) ms.length cg] 22)).alloc (.cells #[.nilFunc] 79)).heap[s + 1]? = some (.cells #[.nilFunc] 79 (0, 0)) := blk_new _ _ (by simp [hs])
  rw [hs]
  generalize (w8.alloc (.cells #[.slice (some ⟨g, 0, none⟩) ms.length cg] 22)).alloc (.cells #[.nilFunc] 79) = w9 at *
  have f9 := frozen_of_blk kb9 0
  have c9 := cell_of_blk kb9 0
  simp at c9
  clear kb9 HX HO hgl hs hzx
  go_upto_region 10 with (fail)
  rw [show (Value.func (.func 44) #[] #[.pointer (some ⟨w.heap.size + 6, 0, none⟩), .pointer (some ⟨s, 0, none⟩), .pointer (some ⟨w.heap.size + 5, 0, none⟩), .pointer (some ⟨w.heap.size + 1, 0, none⟩), .pointer (some ⟨w.heap.size + 3, 0, none⟩), .pointer (some ⟨w.heap.size + 4, 0, none⟩), .pointer (some ⟨w.heap.size, 0, none⟩), .pointer (some ⟨w.heap.size + 8, 0, none⟩), .pointer (some ⟨s + 1, 0, none⟩)]) = tryB ⟨w.heap.size, w.heap.size + 1, w.heap.size + 2, w.heap.size + 3, w.heap.size + 4, w.heap.size + 5, w.heap.size + 6, w.heap.size + 7, w.heap.size + 8, g, s, s + 1, cg⟩ from rfl]
  generalize w9.setCell ⟨s + 1, 0, none⟩ (tryB ⟨w.heap.size, w.heap.size + 1, w.heap.size + 2, w.heap.size + 3, w.heap.size + 4, w.heap.size + 5, w.heap.size + 6, w.heap.size + 7, w.heap.size + 8, g, s, s + 1, cg⟩) = w10 at *
  clear f9 c9 hl9
  have CI := CT.out ⟨w.heap.size, w.heap.size + 1, w.heap.size + 2, w.heap.size + 3, w.heap.size + 4, w.heap.size + 5, w.heap.size + 6, w.heap.size + 7, w.heap.size + 8, g, s, s + 1, cg⟩ [] none w10 (by simp) HRN.out ⟨List.replicate ns.length 0, by simp, by simp [toZ], HB.out⟩
  rw [show (((([] : List Nat).length : Nat) : Int)) = 0 from rfl, ← HBA.out.2.2.2] at CI
  dsimp only at CI
  have HCI := Lib.hid CI
  have c9 := cell_of_blk HB.out.kt 0
  simp [tryB] at c9
  have l9 := lt_of_blk HB.out.kt
  dsimp only at c9 l9
  clear CI CT
  go_wp2_with fail
  refine HCI.out.mono ?_
  rintro e w11 ⟨rfl, hV, _⟩
  generalize balR ms ns = acc at *
  obtain ⟨P2, _, _, hp3⟩ := hV
  have H11 := Lib.hid hp3
  obtain ⟨bv, kb, ko⟩ := hp3.kb
  obtain ⟨Ab, cb, rfl, _⟩ := own_form ko
  have HKB := Lib.hid (And.intro kb ko)
  dsimp only at kb
  have lb := lt_of_blk kb
  have HLB := Lib.hid lb
  clear kb ko hp3 HB HCI c9 l9 lb HRN
  go_upto_region 11 with (fail)
  refine Rg.rgL (fun a b => Below a.heap.size a b)
    [(fun vs u => vs 0 = .slice Ab (accP acc).length cb), (fun vs u => vs 1 = .int .i64 (accX acc)), (fun vs u => vs 2 = .bool acc.isSome), (fun vs u => vs 3 = .slice Ab (accP acc).length cb), (fun vs u => vs 4 = .int .i64 (accX acc))]
    [[], [], [], [0], [0, 1, 3]] [some 30, some 31, some 32, some 4, some 5, some 6, some 7] [] (fun _ _ => True) [[], [], [], [0], [0, 1, 3], [0, 1, 2, 3, 4], [0, 1, 2, 3, 4, 5]]
    (by kernel_rfl) (by decide) (by kernel_rfl) (by kernel_rfl) (by kernel_rfl) (by kernel_rfl) (by kernel_rfl) (fun _ => Below.refl _ _) (fun _ _ _ h k => h.ext k) (fun _ _ h => h.size) ?_ trivial ?_ ?_
  · intro t ht vs w w' h hE
    simp only [List.mem_cons, List.not_mem_nil, or_false] at ht
    rcases ht with rfl | rfl | rfl | rfl | rfl
    · exact h
    · exact h
    · exact h
    · exact h
    · exact h
  ·
    refine Rg.cons 0 1 rfl (Rg.plain rfl ?_) ?_
    · intro vs W n hn hI hG hT hF K hK
      simp only [Rg.putsD, List.getD_cons_zero, List.getD_cons_succ, Act.put, List.setIfInBounds_toArray, List.set_cons_zero, List.set_cons_succ] at hK ⊢
      clear hn
      clear hF hI
      have c0 := cell_of_blk (blk_below hG HKB.out.1) 0
      simp at c0
      have H := Lib.hid hK
      clear hK hT
      go_simp
      exact H.out _ _ (Below.refl _ _) rfl (fun h => by cases h) trivial
    refine Rg.cons 1 2 rfl (Rg.plain rfl ?_) ?_
    · intro vs W n hn hI hG hT hF K hK
      simp only [Rg.putsD, List.getD_cons_zero, List.getD_cons_succ, Act.put, List.setIfInBounds_toArray, List.set_cons_zero, List.set_cons_succ] at hK ⊢
      clear hn
      clear hF hI
      have c0 := cell_of_blk (blk_below hG H11.out.kl) 0
      simp at c0
      have H := Lib.hid hK
      clear hK hT
      go_simp
      exact H.out _ _ (Below.refl _ _) rfl (fun h => by cases h) trivial
    refine Rg.cons 2 3 rfl (Rg.plain rfl ?_) ?_
    · intro vs W n hn hI hG hT hF K hK
      simp only [Rg.putsD, List.getD_cons_zero, List.getD_cons_succ, Act.put, List.setIfInBounds_toArray, List.set_cons_zero, List.set_cons_succ] at hK ⊢
      clear hn
      clear hF hI
      have c0 := cell_of_blk (blk_below hG H11.out.kf) 0
      simp at c0
      have H := Lib.hid hK
      clear hK hT
      go_simp
      exact H.out _ _ (Below.refl _ _) rfl (fun h => by cases h) trivial
    refine Rg.cons 3 4 rfl (Rg.plain rfl ?_) ?_
    · intro vs W n hn hI hG hT hF K hK
      simp only [Rg.putsD, List.getD_cons_zero, List.getD_cons_succ, Act.put, List.setIfInBounds_toArray, List.set_cons_zero, List.set_cons_succ] at hK ⊢
      clear hn
      clear hF hI
      have t0 : vs 0 = .slice Ab (accP acc).length cb := hT 0 (by decide)
      simp only [t0] at hK
      have H := Lib.hid hK
      clear hK hT
      go_simp
      exact H.out _ _ (Below.refl _ _) rfl (fun h => by cases h) trivial
    refine Rg.cons 4 5 rfl (Rg.plain rfl ?_) ?_
    · intro vs W n hn hI hG hT hF K hK
      simp only [Rg.putsD, List.getD_cons_zero, List.getD_cons_succ, Act.put, List.setIfInBounds_toArray, List.set_cons_zero, List.set_cons_succ] at hK ⊢
      clear hn
      clear hF hI
      have t0 : vs 0 = .slice Ab (accP acc).length cb := hT 0 (by decide)
      have t1 : vs 1 = .int .i64 (accX acc) := hT 1 (by decide)
      have t3 : vs 3 = .slice Ab (accP acc).length cb := hT 3 (by decide)
      simp only [t0, t1, t3] at hK
      have H := Lib.hid hK
      clear hK hT
      go_simp
      exact H.out _ _ (Below.refl _ _) rfl (fun h => by cases h) trivial
    exact Rg.nil
  · intro vs W hG hI hT hF
    have t0 : vs 0 = .slice Ab (accP acc).length cb := hT 0 (by decide)
    have t1 : vs 1 = .int .i64 (accX acc) := hT 1 (by decide)
    have t2 : vs 2 = .bool acc.isSome := hT 2 (by decide)
    have t3 : vs 3 = .slice Ab (accP acc).length cb := hT 3 (by decide)
    have t4 : vs 4 = .int .i64 (accX acc) := hT 4 (by decide)
    simp only [List.length_cons, List.length_nil, Nat.reduceAdd, List.range, List.range.loop, List.drop_succ_cons, List.drop_zero, Rg.putsD, List.getD_cons_zero, List.getD_cons_succ, Act.put, List.setIfInBounds_toArray, List.set_cons_zero, List.set_cons_succ, t0, t1, t2, t3, t4]
    clear hT t0 t1 t2 t3 t4
    have H12 := Lib.hid (And.intro (H11.out.drew.below hG).bel (own_below (w := w11.drew) HKB.out.2.drew hG))
    clear hF hI hG H11 HKB HLB
    go_wp2_with fail
    refine bodyPost_ret (v := .tuple #[.slice Ab (accP acc).length cb, .int .i64 (accX acc), .bool acc.isSome, .int .i64 0]) (by unfold results; simp only [Tryz.results18]; go_simp) rfl ⟨.slice Ab (accP acc).length cb, by rw [HBA.out.2.1, HBA.out.2.2.1], ?_, H12.out.1⟩
    rw [HBA.out.1]
    exact readsN_own' H12.out.2 (toZ_len _).symm
end Go.Proofs.YtopoemfnnnfgdaaGreatDoor
