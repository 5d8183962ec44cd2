import Derived.Test.YtcfbaijibghcaaaDoorDrawn
/- A region that draws its order: two reads that may come in either order. -/
namespace Go.Proofs.YtcfbaijibghcaaaDoor
open Go.RowKit Go.Deep

section
variable {P : Program} {md : Region.Mode} {l : List Oper} {Q : Exit → Act → World → Prop} {S : World → Prop}
/-- an operation, by what its run comes to. -/
theorem wp_of_run {o : Oper} {a : Act} {w w' : World} {K : Act → World → Prop} {v : Value} (hr : (execOp a.eval o).run P w = .ok (.value v) w') (h : K (a.put o.dst v) w') : Oper.wp P o a w K Q := by
  unfold Oper.wp
  rw [hr]; exact h
/-- the one operation that is left to come up, by what its run comes to. -/
theorem take_run {i : Nat} {oi : Oper} {v : Value} {fuel : Nat} {listed : Array Bool} {a : Act} {w w' : World} (hi : l[i]? = some oi) (hr : Region.ready md l.toArray listed = [i]) (hw : Region.wanted oi (yielded l.toArray a.tmps) = true)
    (hy : (execOp a.eval oi).run P w = .ok (.value v) w') (hS : S w') (h : wpAnyH P md l.toArray Q S fuel (listed.setIfInBounds i true) (a.put oi.dst v) w') : wpAnyH P md l.toArray Q S (fuel + 1) listed a w :=
  take_one hi hr hw fun _ hK => wp_of_run hy (hK.out _ _ hS fun _ => h)
/-- two operations that may come up in either order. -/
theorem take_two {i j : Nat} {oi oj : Oper} {u v : Value} {fuel : Nat} {listed : Array Bool} {a : Act} {w : World} (hi : l[i]? = some oi) (hj : l[j]? = some oj) (hr : Region.ready md l.toArray listed = [i, j]) (hw : Region.wanted oi (yielded l.toArray a.tmps) = true) (hv : Region.wanted oj (yielded l.toArray a.tmps) = true) (hS : S w)
    (hy : (execOp a.eval oi).run P w = .ok (.value u) w) (hz : (execOp a.eval oj).run P w = .ok (.value v) w)
    (h1 : wpAnyH P md l.toArray Q S fuel (listed.setIfInBounds i true) (a.put oi.dst u) w) (h2 : wpAnyH P md l.toArray Q S fuel (listed.setIfInBounds j true) (a.put oj.dst v) w) : wpAnyH P md l.toArray Q S (fuel + 1) listed a w :=
  wpAnyH_ready hr (by simp) (AllReadyH.cons ((list_toArray_get l i).trans hi) (fun K' hK => by rw [if_pos hw]; exact wp_of_run hy (hK.out _ _ hS fun _ => h1))
    (AllReadyH.cons ((list_toArray_get l j).trans hj) (fun K' hK => by rw [if_pos hv]; exact wp_of_run hz (hK.out _ _ hS fun _ => h2)) AllReadyH.nil))
end
end Go.Proofs.YtcfbaijibghcaaaDoor
