/-
  Nothing is appended.
-/
import Derived.Test.YtalconjnjaffkaaGreatDoorTxX
namespace Go.Proofs.YtalconjnjaffkaaGreatDoor
open Go.RowKit
set_option linter.unusedSimpArgs false
set_option linter.unusedVariables false

theorem run_append_nil (w : World) (i : TypeInfo) (hi : Tryz.prog.info? 9 = some i) (hsz : i.size = 1) (ty : TypeId) (A : Option Addr) (n c : Nat) (hnc : n ≤ c) :
    (Builtin.append_ #[46, 46] ty #[.slice A n c, .slice none 0 0]).run Tryz.prog w = .ok (.slice A n c) w := by
  have hu := Tryz.underlying46
  cases A with
  | none => simp [Builtin.append_, go_sem, hu, hi, hsz, hnc, Sem.run_bind, Sem.run_pure, Result.andThen_ok]
  | some a => simp [Builtin.append_, go_sem, hu, hi, hsz, hnc, Sem.run_bind, Sem.run_pure, Result.andThen_ok]
theorem wpList_append_nil (w : World) {ops : Array Oper} {rest : List Oper} {o : Oper} {a : Act} {Q : Exit → Act → World → Prop} (hgd : o.guard = none) (s x : Operand)
    (ho : o.op = .call { callee := .builtin .append, args := #[s, x], argTypes := #[46, 46] }) (i : TypeInfo) (hi : Tryz.prog.info? 9 = some i) (hsz : i.size = 1)
    (A : Option Addr) (n c : Nat) (hnc : n ≤ c) (hs : a.eval s = .slice A n c) (hx : a.eval x = .slice none 0 0) (h : wpList Tryz.prog ops Q rest (a.put o.dst (.slice A n c)) w) :
    wpList Tryz.prog ops Q (o :: rest) a w := by
  refine wpList_plain hgd fun K hK => ?_
  have hr := run_append_nil w i hi hsz o.type A n c hnc
  unfold Oper.wp execOp
  simp only [ho, resolve, invoke, builtin, Sem.run_bind, Sem.run_pure, Result.andThen_ok, List.map_toArray, List.map_cons, List.map_nil, hs, hx, hr]
  exact hK _ _ h
end Go.Proofs.YtalconjnjaffkaaGreatDoor
