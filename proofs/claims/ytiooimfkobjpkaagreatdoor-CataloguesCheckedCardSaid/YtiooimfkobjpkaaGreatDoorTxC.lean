/-
  What the walks over texts want of the world; word.Line, word.Text, strconv.Itoa.
-/
import Derived.Test.YtiooimfkobjpkaaGreatDoorTxB
import Derived.Test.YtiooimfkobjpkaaGreatDoorSeA
namespace Go.Proofs.YtiooimfkobjpkaaGreatDoor
open Go.RowKit
set_option linter.unusedSimpArgs false
set_option linter.unusedVariables false

/-- Above the package-level variables that are read. -/
def gLow : Nat := max 0 1 + 1
def Gl (w : World) : Prop := (∃ m : Int, w.cell? ⟨0, 0, none⟩ = some (.int .i64 m)) ∧ Lib.TabIs Tryz.prog w "internal/strconv.uint64pow10" .u64 Lib.pow10Tab
theorem gPow : Tryz.prog.globalNamed "internal/strconv.uint64pow10" = some 1 := by kernel_rfl
theorem Gl.below {w w' : World} {b : Nat} (h : Gl w) (hb : Below b w w') (hl : gLow ≤ b) : Gl w' := by
  obtain ⟨⟨m, hm⟩, ht⟩ := h
  unfold gLow at hl
  refine ⟨⟨m, (hb.cell (p := ⟨0, 0, none⟩) (by show (0 : Nat) < b; omega)).trans hm⟩, ?_⟩
  unfold Lib.TabIs World.var? at *
  rw [gPow] at ht ⊢
  simp only [Option.bind_some] at ht ⊢
  obtain ⟨_, _, _, _, hold⟩ := hb
  rw [hold 1 (by omega)]
  exact ht
theorem itoa_any (n : Int) (h0 : -9223372036854775808 ≤ n) (h1 : n ≤ 9223372036854775807) (w : World) (hG : Gl w) :
    Calls Tryz.prog 30 #[.int .i64 n] w fun e w' => e = .returned (.string ⟨(Lib.itoa n).toArray⟩) ∧ Below w.heap.size w w' := by
  refine (Tryz.strconv_Itoa n h0 h1 w hG.2).mono ?_
  rintro e w' ⟨rfl, k, os, rfl⟩
  refine ⟨rfl, ?_⟩
  have := (Below.refl w.heap.size w).drawN k
  refine ⟨rfl, rfl, rfl, by simp, fun j hj => ?_⟩
  exact Array.getElem?_append_left hj
def itB (n : Int) : ByteArray := ⟨(Lib.itoa n).toArray⟩
def joinB (ws : List ByteArray) (sep : ByteArray) : ByteArray := ⟨(Lib.join (ws.map bt) (bt sep)).toArray⟩
def lineB (ws : List ByteArray) : ByteArray := joinB ws ⟨#[32]⟩ ++ ⟨#[10]⟩

theorem join_any (ws : List ByteArray) (sep : ByteArray) {v : Value} {w : World} (h : StrsAt v ws w) (hl : ws.length ≤ 1000000) (hlen : (Lib.join (ws.map bt) (bt sep)).length ≤ 140737488355328) :
    Calls Tryz.prog 61 #[v, .string sep] w fun e w' => e = .returned (.string (joinB ws sep)) ∧ Below w.heap.size w w' := by
  obtain ⟨A, c, rfl, hc, h⟩ := h
  rcases h with rfl | ⟨g, o, rfl, hgl, hcs⟩
  · refine (Tryz.strings_Join_none A c sep w).mono ?_
    rintro e w' ⟨rfl, rfl⟩
    exact ⟨rfl, Below.refl _ _⟩
  · refine Tryz.strings_Join g o c ws sep w (fun j x hj => ?_) hgl (by omega) hc hlen
    obtain ⟨hj2, rfl⟩ := List.getElem?_eq_some_iff.mp hj
    exact hcs j hj2
set_option maxHeartbeats 1000000 in
theorem line_any (ws : List ByteArray) {v : Value} {w : World} (h : StrsAt v ws w) (hl : ws.length ≤ 1000000) (hlen : (Lib.join (ws.map bt) [32]).length ≤ 140737488355328) :
    Calls Tryz.prog 29 #[v] w fun e w' => e = .returned (.string (lineB ws)) ∧ Below w.heap.size w w' := by
  have CJ := Lib.hid (join_any ws ⟨#[32]⟩ h hl hlen)
  have HL : Hid (lineB ws = joinB ws ⟨#[32]⟩ ++ ⟨#[10]⟩) := rfl
  have hjs : ¬ 9223372036854775807 < (joinB ws ⟨#[32]⟩).size + 1 := by
    have : (joinB ws ⟨#[32]⟩).size = (Lib.join (ws.map bt) [32]).length := by simp [joinB, size_list]
    omega
  obtain ⟨A, c, rfl, _, _⟩ := h
  generalize lineB ws = r at *
  generalize joinB ws ⟨#[32]⟩ = j at *
  go_enter Tryz.func29, Tryz.ntmps29
  go_wp2_with fail
  refine CJ.out.mono ?_
  rintro e w1 ⟨rfl, b1⟩
  have HB := Lib.hid b1
  clear b1
  go_wp2_with fail
  go_ret
  exact ⟨by rw [HL.out]; rfl, HB.out⟩
set_option maxHeartbeats 1000000 in
theorem text_any (ws : List ByteArray) {v : Value} {w : World} (h : StrsAt v ws w) (hl : ws.length ≤ 1000000) (hlen : (Lib.join (ws.map bt) []).length ≤ 140737488355328) :
    Calls Tryz.prog 31 #[v] w fun e w' => e = .returned (.tuple #[.string (if 200000 < (joinB ws dS).size then dS else joinB ws dS), .int .i64 (if 200000 < (joinB ws dS).size then 2 else 0)]) ∧ Below w.heap.size w w' := by
  have CJ := Lib.hid (join_any ws dS h hl hlen)
  obtain ⟨A, c, rfl, _, _⟩ := h
  generalize joinB ws dS = j at *
  by_cases hj : 200000 < j.size
  · rw [if_pos hj, if_pos hj]
    go_enter Tryz.func31, Tryz.ntmps31
    go_wp2_with fail
    refine CJ.out.mono ?_
    rintro e w1 ⟨rfl, b1⟩
    have HB := Lib.hid b1
    clear b1
    go_wp2_with fail
    refine bodyPost_ret (v := .tuple #[.string ⟨#[]⟩, .int .i64 2]) (by unfold results; simp only [Tryz.results31]; go_simp) rfl ⟨rfl, HB.out⟩
  · rw [if_neg hj, if_neg hj]
    go_enter Tryz.func31, Tryz.ntmps31
    go_wp2_with fail
    refine CJ.out.mono ?_
    rintro e w1 ⟨rfl, b1⟩
    have HB := Lib.hid b1
    clear b1
    go_wp2_with fail
    refine bodyPost_ret (v := .tuple #[.string j, .int .i64 0]) (by unfold results; simp only [Tryz.results31]; go_simp) rfl ⟨rfl, HB.out⟩
end Go.Proofs.YtiooimfkobjpkaaGreatDoor
