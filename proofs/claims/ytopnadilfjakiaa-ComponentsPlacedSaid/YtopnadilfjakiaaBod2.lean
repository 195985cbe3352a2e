/-
  The walks of the checks of bodies and distances.
-/
import Derived.Test.YtopnadilfjakiaaBodM
namespace Go.Proofs.Ytopnadilfjakiaa
open Go.RowKit

theorem vdist_any (a : Int) (w : World) : Calls Try.prog 43 #[.int .i64 a] w fun e w' => e = .returned (.bool (inR a 0 500000)) ∧ w = w' := by
  go_enter Try.func43, Try.ntmps43
  go_wp2_with fail
  refine (withinR _ _ _ _).mono ?_
  rintro e w' ⟨rfl, rfl⟩
  go_wp2_with fail
  go_ret
  exact ⟨rfl, rfl⟩


end Go.Proofs.Ytopnadilfjakiaa
