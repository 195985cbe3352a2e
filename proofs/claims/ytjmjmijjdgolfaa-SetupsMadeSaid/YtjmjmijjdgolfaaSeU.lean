/-
  Equality of equal changes; an error if something is so; a string that is repeated.
-/
import Derived.Test.YtjmjmijjdgolfaaSeT
import Derived.Laws.CopyOwn
namespace Go.Proofs.Ytjmjmijjdgolfaa
open Go.RowKit
set_option linter.unusedSimpArgs false
set_option linter.unusedVariables false

set_option maxHeartbeats 2000000 in
theorem equalChg_any (l : List (Nat × ByteArray × ByteArray)) (hl : l.length ≤ 2000000) {b1 b2 : Nat} {v1 v2 : Value} {w : World} (h1 : ReadsF b1 encC v1 l w) (h2 : ReadsF b2 encC v2 l w) :
    Calls Try.prog 40 #[v1, v2] w fun e w' => e = .returned (.bool true) ∧ Below w.heap.size w w' := by
  obtain ⟨A1, c1, rfl, _, h1⟩ := h1
  obtain ⟨A2, c2, rfl, _, h2⟩ := h2
  go_enter Try.func40, Try.ntmps40
  go_wp2_with fail
  go_loopw [13] (fun kk wr => ∃ k : Nat, k ≤ l.length ∧ kk = .int .i64 k ∧ Hid (Below w.heap.size w wr)) (fun kk _ => l.length - (intOf kk).toNat)
  case atStart => exact ⟨0, by omega, rfl, Below.refl _ _⟩
  case round =>
    obtain ⟨k, hk, rfl, HB⟩ := hrel
    by_cases hlt : k < l.length
    · obtain ⟨p, hp⟩ : ∃ p, l[k] = p := ⟨_, rfl⟩
      rcases h1 with rfl | ⟨g1, rfl, _, r1⟩
      · simp at hlt
      rcases h2 with rfl | ⟨g2, rfl, _, r2⟩
      · simp at hlt
      have e := fun j (hj : j < 3) => flatK_at encC 3 (fun _ => rfl) l k hlt j hj
      rw [hp] at e
      obtain ⟨x0, x1, x2⟩ := p
      have a0 : wr.cell? ⟨g1, k * 3, none⟩ = some (.int .i64 x0) := (r1.below HB.out).2 _ _ (e 0 (by omega))
      have a1 : wr.cell? ⟨g1, k * 3 + 1, none⟩ = some (.string x1) := (r1.below HB.out).2 _ _ (e 1 (by omega))
      have a2 : wr.cell? ⟨g1, k * 3 + 2, none⟩ = some (.string x2) := (r1.below HB.out).2 _ _ (e 2 (by omega))
      have b0 : wr.cell? ⟨g2, k * 3, none⟩ = some (.int .i64 x0) := (r2.below HB.out).2 _ _ (e 0 (by omega))
      have b1 : wr.cell? ⟨g2, k * 3 + 1, none⟩ = some (.string x1) := (r2.below HB.out).2 _ _ (e 1 (by omega))
      have b2 : wr.cell? ⟨g2, k * 3 + 2, none⟩ = some (.string x2) := (r2.below HB.out).2 _ _ (e 2 (by omega))
      have R1 := Lib.hid r1
      have R2 := Lib.hid r2
      clear e hp r1 r2
      have i1 : (0 : Int) ≤ (k : Int) := by omega
      have i2 : (k : Int) < (l.length : Int) := by omega
      go_wp2_with fail
      go_quiet (fail)
      go_wp2_with fail
      go_roundw
      case rel => exact ⟨k + 1, by omega, by go_num, HB.out.drawN _⟩
      case measure => simp [intOf]; omega
    · go_wp2_with fail
      go_ret
      exact ⟨rfl, HB.out⟩

def whenE (is : Bool) (e : Int) : Int := if is = true then e else 0
set_option maxHeartbeats 400000 in
theorem lawWhen_any (is : Bool) (e : Int) (w : World) : Calls Try.prog 33 #[.bool is, .int .i64 e] w fun r w' => r = .returned (.int .i64 (whenE is e)) ∧ w = w' := by
  cases is
  all_goals
    go_enter Try.func33, Try.ntmps33
    go_wp2_with fail
    go_ret
    exact ⟨rfl, rfl⟩

/-- Nothing turns where the same is copied over the same. -/
theorem run_copy_same {w : World} (ty : TypeId) (g off dLen dCap gs so sLen sCap cnt m : Nat) (v : Value)
    (hg : w.heap[g]? = some (.cells (Array.replicate cnt v) 9 (0, 0))) (hm : m = Nat.min sLen dLen) (hsrc : ∀ j, j < m → w.cell? ⟨gs, so + j, none⟩ = some v) (hfit : off + m ≤ cnt) (hv : v.oneCell' = true) :
    (Builtin.copy_ #[51, 51] ty #[.slice (some ⟨g, off, none⟩) dLen dCap, .slice (some ⟨gs, so, none⟩) sLen sCap]).run Try.prog w = .ok (.int .i64 (m : Int)) w := by
  have hu := Try.underlying51
  have hsz : (Try.prog.info? 9).map (·.size) = some 1 := by
    obtain ⟨i0, hi, _, hz1, _⟩ := info_parts str_info9
    rw [hi]
    simp [hz1]
  have hrun := run_copy_row (P := Try.prog) w 51 51 ty 9 g off dLen dCap ⟨gs, so, none⟩ sLen sCap (Array.replicate cnt v) 9 (List.replicate m v) hu hsz hg (by simpa using hm) (fun j u hu => by
    rw [List.getElem?_replicate] at hu
    split at hu
    · cases hu
      rename_i hj
      have e : (⟨gs, so, none⟩ : Addr).add j = ⟨gs, so + j, none⟩ := by cases j <;> simp [Addr.add]
      rw [e]
      exact hsrc j hj
    · cases hu) (by simpa using hfit) (fun u hu => by rw [List.eq_of_mem_replicate hu]; exact hv)
  have e2 : ((Array.replicate cnt v).toList.take off ++ List.replicate m v ++ (Array.replicate cnt v).toList.drop (off + (List.replicate m v).length)).toArray = Array.replicate cnt v := by
    apply Array.ext
    · simp; omega
    · intro j h1 h2
      simp only [Array.toList_replicate, List.take_replicate, List.length_replicate, List.drop_replicate, List.replicate_append_replicate, List.getElem_toArray, List.getElem_replicate, Array.getElem_replicate]
  rw [e2, setRow_self w g _ _ _ hg] at hrun
  rw [hrun]
  simp [goInt]
end Go.Proofs.Ytjmjmijjdgolfaa
