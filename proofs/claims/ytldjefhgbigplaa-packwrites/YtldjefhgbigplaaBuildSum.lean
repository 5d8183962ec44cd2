import Derived.Test.YtldjefhgbigplaaPackSums
namespace Go.Proofs.Ytldjefhgbigplaa
open Go.RowKit Go.Deep

/-- a slice of one sum, built. -/
theorem run_build_sum (g : Nat → Value) (w : World) : (Instr.buildSlice 25 1 #[(0, .agg (rowV 32 g))]).run Try.prog w = .ok (.slice (some ⟨w.heap.size, 0, none⟩) 1 1) (w.alloc (.cells (rowV 32 g) 51)) := by
  show (_ : Result Value) = _
  kernel_rfl
section
variable {P : Program}
theorem wp_build_run {o : Oper} {a : Act} {w w' : World} {K : Act → World → Prop} {Q : Exit → Act → World → Prop} {v r : Value} (t : TypeId) (n i : Nat) (x : Operand)
    (ho : o.op = .buildSlice t n #[(i, x)]) (hx : a.eval x = v) (hr : (Instr.buildSlice t n #[(i, v)]).run P w = .ok r w') (h : K (a.put o.dst r) w') : o.wp P a w K Q := by
  unfold Oper.wp execOp
  simp only [ho, List.map_toArray, List.map_cons, List.map_nil, hx, Sem.run_bind, hr, Result.andThen_ok, Sem.run_pure]
  exact h
theorem wpList_build_run {ops : Array Oper} {rest : List Oper} {o : Oper} {a : Act} {w w' : World} {Q : Exit → Act → World → Prop} {v r : Value} (hgd : o.guard = none) (t : TypeId) (n i : Nat) (x : Operand)
    (ho : o.op = .buildSlice t n #[(i, x)]) (hx : a.eval x = v) (hr : (Instr.buildSlice t n #[(i, v)]).run P w = .ok r w') (h : wpList P ops Q rest (a.put o.dst r) w') : wpList P ops Q (o :: rest) a w :=
  wpList_plain hgd fun _ hK => wp_build_run t n i x ho hx hr (hK _ _ h)
end
end Go.Proofs.Ytldjefhgbigplaa
