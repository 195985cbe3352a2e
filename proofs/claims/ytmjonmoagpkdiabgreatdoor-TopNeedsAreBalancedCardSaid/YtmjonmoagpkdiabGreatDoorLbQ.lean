/-
  The parts that no machine can place: the program's answer, and the reference's.
-/
import Derived.Test.YtmjonmoagpkdiabGreatDoorLcD
import Derived.Test.YtmjonmoagpkdiabGreatDoorLcE
import Derived.Test.YtmjonmoagpkdiabGreatDoorLcF
import Derived.Test.YtmjonmoagpkdiabGreatDoorLmE
import Derived.Test.YtmjonmoagpkdiabGreatDoorLnS
namespace Go.Proofs.YtmjonmoagpkdiabGreatDoor
open Go.RowKit
set_option linter.unusedSimpArgs false
set_option linter.unusedVariables false

set_option maxHeartbeats 4000000 in
theorem indexP_any {F : FuncId} (hF : ∀ args w, (callFunc F args).run Tryz.prog w = .ok (.enter F args) w) (p : Nat) (P : Mc → Bool) (Cap : World → Prop) (hcap : ∀ W W', Cap W → Below W.heap.size W W' → Cap W') {base : Nat} (l : List Mc)
    (hp : ∀ m ∈ l, ∀ (A : Option Addr) (c : Nat) (W : World), Cap W → ReadsF base encS (.slice A m.can.length c) m.can W → Calls Tryz.prog F #[.agg #[.string m.key, .int .i64 m.each, .int .i64 m.fixed, .int .i64 m.feed, .slice A m.can.length c], .pointer (some ⟨p, 0, none⟩)] W fun e w' => e = .returned (.bool (P m)) ∧ Below W.heap.size W w')
    (hl : l.length ≤ 1000000) {v : Value} {w : World} (h : MsF base v l w) (hk : Cap w) :
    Calls Tryz.prog 109 #[v, .func (.func F) #[] #[.pointer (some ⟨p, 0, none⟩)]] w fun e w' => ∃ r : Int, e = .returned (.int .i64 r) ∧ decide (0 ≤ r) = l.any P ∧ Below w.heap.size w w' := by
  have HH := Lib.hid (And.intro h hk)
  have HP := Lib.hid hp
  have HC := Lib.hid hcap
  obtain ⟨A, c, rfl, _, _⟩ := h
  clear hp hk hcap
  go_enter Tryz.func109, Tryz.ntmps109
  go_wp2_with fail
  go_loopw [8] (fun kk wr => ∃ i : Nat, i ≤ l.length ∧ kk = .int .i64 i ∧ Hid (l.any P = (l.drop i).any P) ∧ Hid (Below w.heap.size w wr)) (fun kk _ => l.length - (intOf kk).toNat)
  case atStart => exact ⟨0, by omega, rfl, rfl, Below.refl _ _⟩
  case round =>
    obtain ⟨i, hi, rfl, HI, HB⟩ := hrel
    by_cases hlt : i < l.length
    · obtain ⟨A', c', e, _, hr⟩ := HH.out.1.below HB.out
      cases e
      rcases hr with rfl | ⟨g, rfl, hgl, hrow⟩
      · simp at hlt
      have hI : l.any P = (P l[i] || (l.drop (i + 1)).any P) := HI.out.trans (by rw [drop_at l hlt, List.any_cons])
      have HI2 := Lib.hid hI
      obtain ⟨q0, q1, q2, q3, u, q4, hu⟩ := hrow i hlt
      obtain ⟨A2, c2, rfl, hc2, hr2⟩ := hu
      have CP := Lib.hid (HP.out l[i] (List.getElem_mem hlt) A2 c2 wr (HC.out _ _ HH.out.2 HB.out) ⟨A2, c2, rfl, hc2, hr2⟩)
      clear hI HI hrow hr2
      generalize P l[i] = b at *
      generalize l[i] = m at *
      obtain ⟨key, each, fixed, feed, can⟩ := m
      dsimp only at q0 q1 q2 q3 q4 CP hc2
      have i1 : (0 : Int) ≤ (i : Int) := by omega
      have i2 : (i : Int) < (l.length : Int) := by omega
      go_wp2_with fail
      refine CP.out.mono ?_
      rintro e w2 ⟨rfl, b2⟩
      have HB2 := Lib.hid (HB.out.then_below b2 HB.out.size)
      clear b2 HB q0 q1 q2 q3 q4 CP
      cases b
      · have HF : Hid (l.any P = (l.drop (i + 1)).any P) := HI2.out
        clear HI2
        go_wp2_with fail
        go_roundw
        case rel => exact ⟨i + 1, by omega, by go_num, HF, HB2⟩
        case measure => simp [intOf]; omega
      · have HFF : Hid (l.any P = true) := HI2.out
        clear HI2
        go_wp2_with fail
        go_ret
        exact ⟨_, rfl, by rw [HFF.out]; simp, HB2.out⟩
    · have HFF : Hid (l.any P = false) := HI.out.trans (by rw [List.drop_eq_nil_of_le (by omega)]; rfl)
      go_wp2_with fail
      go_ret
      exact ⟨_, rfl, by rw [HFF.out]; simp, HB.out⟩
theorem containsP_any {F : FuncId} (hF : ∀ args w, (callFunc F args).run Tryz.prog w = .ok (.enter F args) w) (p : Nat) (P : Mc → Bool) (Cap : World → Prop) (hcap : ∀ W W', Cap W → Below W.heap.size W W' → Cap W') {base : Nat} (l : List Mc)
    (hp : ∀ m ∈ l, ∀ (A : Option Addr) (c : Nat) (W : World), Cap W → ReadsF base encS (.slice A m.can.length c) m.can W → Calls Tryz.prog F #[.agg #[.string m.key, .int .i64 m.each, .int .i64 m.fixed, .int .i64 m.feed, .slice A m.can.length c], .pointer (some ⟨p, 0, none⟩)] W fun e w' => e = .returned (.bool (P m)) ∧ Below W.heap.size W w')
    (hl : l.length ≤ 1000000) {v : Value} {w : World} (h : MsF base v l w) (hk : Cap w) :
    Calls Tryz.prog 87 #[v, .func (.func F) #[] #[.pointer (some ⟨p, 0, none⟩)]] w fun e w' => e = .returned (.bool (l.any P)) ∧ Below w.heap.size w w' := by
  have CI := Lib.hid (indexP_any hF p P Cap hcap l hp hl h hk)
  obtain ⟨A, c, rfl, _⟩ := h
  generalize l.any P = r at *
  clear hp hF hcap
  go_enter Tryz.func87, Tryz.ntmps87
  go_wp2_with fail
  refine CI.out.mono ?_
  rintro e w2 ⟨ix, rfl, hx, b2⟩
  have HB2 := Lib.hid b2
  have HX := Lib.hid hx
  clear b2 hx
  go_wp2_with fail
  go_ret
  exact ⟨ret_bool HX.out, HB2.out⟩

def anyB (ms : List Mc) (x : ByteArray) : Bool := ms.any fun m => has m.can x
def nobT (ms : List Mc) : List Nd → List ByteArray
  | [] => []
  | n :: r => if anyB ms n.part = true then nobT ms r else n.part :: nobT ms r
theorem nobT_snoc (ms : List Mc) (n : Nd) : ∀ l : List Nd, nobT ms (l ++ [n]) = nobT ms l ++ (if anyB ms n.part = true then [] else [n.part])
  | [] => by
    rw [List.nil_append, nobT, nobT]
    split <;> rfl
  | a :: l => by
    rw [List.cons_append, nobT, nobT, nobT_snoc ms n l]
    split
    · rfl
    · rfl
theorem nobT_len (ms : List Mc) : ∀ l : List Nd, (nobT ms l).length ≤ l.length
  | [] => by simp [nobT]
  | a :: l => by
    have := nobT_len ms l
    rw [nobT]
    split <;> simp <;> omega
theorem readsS_own {w : World} {base : Nat} {v : Value} {l : List ByteArray} {n : Nat} (h : w.ownsRow base 9 1 v n (l.map Value.string)) (hn : n = l.length) : Reads encS v l w := by
  subst hn
  refine reads_own (base := base) (T := 9) (size := 1) ?_
  rw [show l.flatMap encS = l.map Value.string from flatS_map l]
  exact h
theorem nil_readsS (W : World) : Reads encS (.slice none 0 0) [] W := ⟨none, 0, rfl, .inl rfl⟩
def nobV (ms : List Mc) (ns : List Nd) : List ByteArray := if bothErr ms ns = 0 then nobT ms ns else []

end Go.Proofs.YtmjonmoagpkdiabGreatDoor
