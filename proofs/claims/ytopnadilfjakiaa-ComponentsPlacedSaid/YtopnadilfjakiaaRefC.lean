/-
  The walks of the reference's Crowded and Beyond.
-/
import Derived.Test.YtopnadilfjakiaaRefB
import Derived.Test.YtopnadilfjakiaaBey
namespace Go.Proofs.Ytopnadilfjakiaa
open Go.RowKit

theorem crowdR_cons (b : List Bo) (g : Int) (p : Pl) (l : List Pl) : crowdR b g (p :: l) = l.filterMap (crowd2 b g p) ++ crowdR b g l := by
  unfold crowdR
  rw [prs, List.filterMap_append, List.filterMap_map]
  rfl
theorem box_mem {b : List Bo} {l : List Pl} {p : Pl} {a : Ar} (hp : p ∈ l) (h : boxOf b p = some a) : a ∈ areasOf b l := by
  unfold areasOf
  rw [List.mem_map]
  exact ⟨(p.name, a), List.mem_filterMap.mpr ⟨p, hp, by simp [nameBox, h]⟩, rfl⟩
theorem blkA {w : World} {g : Nat} {a : Ar} {t : TypeId} (h : w.heap[g]? = some (.cells (boxC a) t (0, 0))) :
    w.cell? ⟨g, 0, none⟩ = some (.int .i64 a.xf) ∧ w.cell? ⟨g, 1, none⟩ = some (.int .i64 a.yf) ∧ w.cell? ⟨g, 2, none⟩ = some (.int .i64 a.xt) ∧ w.cell? ⟨g, 3, none⟩ = some (.int .i64 a.yt) := blk4 h
theorem crowd2_none {b : List Bo} {g : Int} {p q : Pl} (h : boxOf b p = none ∨ boxOf b q = none) : crowd2 b g p q = none := by
  unfold crowd2
  rcases h with h | h <;> rw [h]
  cases boxOf b p <;> rfl
theorem crowd2_some {b : List Bo} {g : Int} {p q : Pl} {x y : Ar} (h : boxOf b p = some x) (k : boxOf b q = some y) : crowd2 b g p q = if nearA g x y then some (p.name, q.name) else none := by
  unfold crowd2
  rw [h, k]

end Go.Proofs.Ytopnadilfjakiaa
