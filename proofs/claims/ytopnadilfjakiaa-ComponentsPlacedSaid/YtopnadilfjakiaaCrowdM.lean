/-
  Plain words: pairs by their places.
-/
import Derived.Test.YtopnadilfjakiaaNear2
namespace Go.Proofs.Ytopnadilfjakiaa
open Go.RowKit

theorem range_getD {α : Type} (M : List α) (z : α) : (List.range M.length).map (fun k => M.getD k z) = M := by
  refine List.ext_getElem (by simp) fun i h1 h2 => ?_
  simp [h2]
theorem prs_idx {α : Type} (M : List α) (z : α) : prs M = (List.range M.length).flatMap fun i => (List.range' (i + 1) (M.length - (i + 1))).map fun k => (M.getD i z, M.getD k z) := by
  induction M with
  | nil => rfl
  | cons x M ih =>
    rw [prs, ih, List.length_cons, List.range_succ_eq_map, List.flatMap_cons, List.flatMap_map]
    have e1 : M.map (fun y => (x, y)) = (List.range' (0 + 1) (M.length + 1 - (0 + 1))).map fun k => ((x :: M).getD 0 z, (x :: M).getD k z) := by
      rw [show M.length + 1 - (0 + 1) = M.length by omega, List.range'_eq_map_range, List.map_map]
      conv => lhs; rw [← range_getD M z, List.map_map]
      refine List.map_congr_left fun k _ => ?_
      simp only [Function.comp]
      rw [show 0 + 1 + k = k + 1 by omega]
      rfl
    rw [e1]
    refine congrArg _ ?_
    refine congrArg (fun f => List.flatMap f (List.range M.length)) (funext fun a => ?_)
    rw [show M.length + 1 - (a.succ + 1) = M.length - (a + 1) by omega, show a.succ + 1 = 1 + (a + 1) by omega,
      show List.range' (1 + (a + 1)) (M.length - (a + 1)) = (List.range' (a + 1) (M.length - (a + 1))).map (1 + ·) by rw [List.map_add_range'], List.map_map]
    refine List.map_congr_left fun k _ => ?_
    simp only [Function.comp]
    rw [show 1 + k = k + 1 by omega]
    rfl

def nameAt (names : List ByteArray) (z : ByteArray) (p : Nat × Nat) : ByteArray × ByteArray := (names.getD p.1 z, names.getD p.2 z)
theorem getD_map {α β : Type} (f : α → β) (M : List α) (z : α) (k : Nat) : (M.map f).getD k (f z) = f (M.getD k z) := by
  simp only [List.getD_eq_getElem?_getD, List.getElem?_map]
  cases M[k]? <;> rfl
theorem crowd_idx (g : Int) (M : List (ByteArray × Ar)) (zs : ByteArray) : ((prs M).filter fun p => nearA g p.1.2 p.2.2).map (fun p => (p.1.1, p.2.1)) = (nearIdx g (M.map Prod.snd) (M.map Prod.snd).length).map (nameAt (M.map Prod.fst) zs) := by
  rw [prs_idx M (zs, dA)]
  unfold nearIdx
  rw [List.length_map, List.filter_flatMap, List.map_flatMap, List.map_flatMap]
  refine congrArg (fun f => List.flatMap f (List.range M.length)) (funext fun i => ?_)
  unfold rowIdx
  rw [List.filter_map, List.map_map, List.map_map]
  have e1 : ∀ k, (M.map Prod.snd).getD k dA = (M.getD k (zs, dA)).2 := fun k => getD_map Prod.snd M (zs, dA) k
  have e2 : ∀ k, (M.map Prod.fst).getD k zs = (M.getD k (zs, dA)).1 := fun k => getD_map Prod.fst M (zs, dA) k
  have e3 : ∀ k, (nearA g ((M.map Prod.snd).getD i dA) ((M.map Prod.snd).getD k dA)) = ((fun p : (ByteArray × Ar) × (ByteArray × Ar) => nearA g p.1.2 p.2.2) ∘ fun k => (M.getD i (zs, dA), M.getD k (zs, dA))) k := fun k => by simp only [Function.comp, e1]
  rw [List.filter_congr (fun k _ => e3 k)]
  refine List.map_congr_left fun k _ => ?_
  simp only [Function.comp, nameAt, e2]
def pairOf (p : ByteArray × ByteArray) : List Value := [.string p.1, .string p.2]
theorem crowdP_idx (b : List Bo) (g : Int) (l : List Pl) (zs : ByteArray) :
    crowdP b g l = (nearIdx g (areasOf b l) (areasOf b l).length).map (nameAt (namesOf b l) zs) := crowd_idx g (l.filterMap (nameBox b)) zs
end Go.Proofs.Ytopnadilfjakiaa
