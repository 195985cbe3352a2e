/-
  The walks of Crowded with errors, and of Beyond.
-/
import Derived.Test.YtopnadilfjakiaaCrowd2
namespace Go.Proofs.Ytopnadilfjakiaa
open Go.RowKit

def bey (W H e : Int) (M : List (ByteArray × Ar)) (k : Nat) : List ByteArray := ((M.take k).filter fun p => beyOf W H e p.2).map fun p => p.1
theorem bey_len (W H e : Int) (M : List (ByteArray × Ar)) (k : Nat) : (bey W H e M k).length ≤ k := by
  unfold bey
  rw [List.length_map]
  exact Nat.le_trans (List.length_filter_le _ _) (by rw [List.length_take]; omega)
theorem bey_next (W H e : Int) (M : List (ByteArray × Ar)) {k : Nat} (h : k < M.length) : bey W H e M (k + 1) = bey W H e M k ++ (if beyOf W H e M[k].2 then [M[k].1] else []) := by
  unfold bey
  rw [List.take_succ_eq_append_getElem h, List.filter_append, List.map_append]
  cases h2 : beyOf W H e M[k].2 <;> simp [List.filter_cons, h2]

attribute [local go_sem] run_min_int4

end Go.Proofs.Ytopnadilfjakiaa
