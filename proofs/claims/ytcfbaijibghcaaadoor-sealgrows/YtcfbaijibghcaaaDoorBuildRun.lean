import Derived.Test.YtcfbaijibghcaaaDoorMem
namespace Go.Proofs.YtcfbaijibghcaaaDoor
open Go.RowKit Go.Deep

section
variable {P : Program}
theorem wp_build_run {o : Oper} {a : Act} {w w' : World} {K : Act → World → Prop} {Q : Exit → Act → World → Prop} {v r : Value} (t : TypeId) (n i : Nat) (x : Operand)
    (ho : o.op = .buildSlice t n #[(i, x)]) (hx : a.eval x = v) (hr : (Instr.buildSlice t n #[(i, v)]).run P w = .ok r w') (h : K (a.put o.dst r) w') : o.wp P a w K Q := by
  unfold Oper.wp execOp
  simp only [ho, List.map_toArray, List.map_cons, List.map_nil, hx, Sem.run_bind, hr, Result.andThen_ok, Sem.run_pure]
  exact h
theorem wpList_build_run {ops : Array Oper} {rest : List Oper} {o : Oper} {a : Act} {w w' : World} {Q : Exit → Act → World → Prop} {v r : Value} (hgd : o.guard = none) (t : TypeId) (n i : Nat) (x : Operand)
    (ho : o.op = .buildSlice t n #[(i, x)]) (hx : a.eval x = v) (hr : (Instr.buildSlice t n #[(i, v)]).run P w = .ok r w') (h : wpList P ops Q rest (a.put o.dst r) w') : wpList P ops Q (o :: rest) a w :=
  wpList_plain hgd fun _ hK => wp_build_run t n i x ho hx hr (hK _ _ h)
end
end Go.Proofs.YtcfbaijibghcaaaDoor
