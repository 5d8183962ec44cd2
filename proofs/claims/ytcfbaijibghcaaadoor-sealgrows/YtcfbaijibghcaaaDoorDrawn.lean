import Derived.Test.YtcfbaijibghcaaaDoorMem
import Derived.Deep.RegionHeld3
/- A region that draws its order, walked by hand: operations that are fixed under S are taken first; a whole row is loaded by its fact; a call is met by its contract. -/
namespace Go.Proofs.YtcfbaijibghcaaaDoor
open Go.RowKit Go.Deep

section
variable {P : Program}
/-- A LOAD OF A WHOLE ARRAY OR STRUCT, in a region that has guards. -/
theorem wpList_load_w {ops : Array Oper} {rest : List Oper} {op : Oper} {a : Act} {w : World} {Q : Exit → Act → World → Prop} (ty : TypeId) (x : Operand) (ho : op.op = .load ty x) (hw : Region.wanted op (yielded ops a.tmps) = true)
    (b o m : Nat) (g : Nat → Value) (hx : a.eval x = .pointer (some ⟨b, o, none⟩)) (d : TypeDesc) (hu : P.underlying ty = some d) (hd : d.isRow = true) (hi : (P.info? ty).map (·.size) = some m)
    (hc : ∀ i, i < m → w.cell? ⟨b, o + i, none⟩ = some (g i))
    (h : wpList P ops Q rest (a.put op.dst (.agg (rowV m g))) w) : wpList P ops Q (op :: rest) a w := by
  unfold wpList
  rw [if_pos hw]
  refine Or.inl (wp_load_mid ty x ho b o hx (rowV m g).toList d (range_of_cells hc) hu hd ?_ ?_)
  · rw [hi, Array.length_toList, rowV_size]
  · rw [Array.toArray_toList]; exact h
end
section
variable {P : Program} {md : Region.Mode} {l : List Oper} {Q : Exit → Act → World → Prop} {S : World → Prop}
theorem list_toArray_get (l : List Oper) (i : Nat) : l.toArray[i]? = l[i]? := by simp
theorem take_op {i : Nat} {oi : Oper} {v : Value} {fuel : Nat} {listed : Array Bool} {a : Act} {w : World} (hi : l[i]? = some oi)
    (hs : Region.noSelect l.toArray = true) (hf : Region.free md l.toArray listed i = true) (hr : (Region.ready md l.toArray listed).contains i = true)
    (hQ : ∀ c a w, Q (.panic c) (a.put oi.dst v) w → Q (.panic c) a w) (hw : Region.wanted oi (yielded l.toArray a.tmps) = true) (hS : S w) (hy : ∀ w, S w → (execOp a.eval oi).run P w = .ok (.value v) w)
    (h : wpAnyH P md l.toArray Q S fuel (listed.setIfInBounds i true) (a.put oi.dst v) w) : wpAnyH P md l.toArray Q S (fuel + 1) listed a w :=
  wpAnyH_take ((list_toArray_get l i).trans hi) hs hf hr hQ (Or.inl ⟨hw, hy⟩) hS h
/-- an operation whose guard says no. -/
theorem take_not {i : Nat} {oi : Oper} {fuel : Nat} {listed : Array Bool} {a : Act} {w : World} (hi : l[i]? = some oi)
    (hs : Region.noSelect l.toArray = true) (hf : Region.free md l.toArray listed i = true) (hr : (Region.ready md l.toArray listed).contains i = true)
    (hQ : ∀ c a w, Q (.panic c) (a.put oi.dst undef) w → Q (.panic c) a w) (hw : Region.wanted oi (yielded l.toArray a.tmps) = false) (hS : S w)
    (h : wpAnyH P md l.toArray Q S fuel (listed.setIfInBounds i true) (a.put oi.dst undef) w) : wpAnyH P md l.toArray Q S (fuel + 1) listed a w :=
  wpAnyH_take ((list_toArray_get l i).trans hi) hs hf hr hQ (Or.inr ⟨hw, rfl⟩) hS h
theorem take_load {i : Nat} {oi : Oper} {fuel : Nat} {listed : Array Bool} {a : Act} {w : World} (hi : l[i]? = some oi)
    (hs : Region.noSelect l.toArray = true) (hf : Region.free md l.toArray listed i = true) (hr : (Region.ready md l.toArray listed).contains i = true)
    (ty : TypeId) (x : Operand) (ho : oi.op = .load ty x) (b o m : Nat) (g : Nat → Value) (hx : a.eval x = .pointer (some ⟨b, o, none⟩)) (d : TypeDesc) (hu : P.underlying ty = some d) (hd : d.isRow = true) (hn : (P.info? ty).map (·.size) = some m)
    (hQ : ∀ c a w, Q (.panic c) (a.put oi.dst (.agg (rowV m g))) w → Q (.panic c) a w) (hw : Region.wanted oi (yielded l.toArray a.tmps) = true) (hS : S w)
    (hrow : ∀ w, S w → ∀ i, i < m → w.cell? ⟨b, o + i, none⟩ = some (g i))
    (h : wpAnyH P md l.toArray Q S fuel (listed.setIfInBounds i true) (a.put oi.dst (.agg (rowV m g))) w) : wpAnyH P md l.toArray Q S (fuel + 1) listed a w := by
  refine wpAnyH_take ((list_toArray_get l i).trans hi) hs hf hr hQ ?_ hS h
  have e : (rowV m g) = (rowV m g).toList.toArray := by rw [Array.toArray_toList]
  rw [e]
  exact yieldsIf_load_mid hw ty x ho b o hx (rowV m g).toList d (fun w hw => range_of_cells (hrow w hw)) hu hd (by rw [hn, Array.length_toList, rowV_size])
/-- the one operation that is left to come up. -/
theorem take_one {i : Nat} {oi : Oper} {fuel : Nat} {listed : Array Bool} {a : Act} {w : World} (hi : l[i]? = some oi) (hr : Region.ready md l.toArray listed = [i]) (hw : Region.wanted oi (yielded l.toArray a.tmps) = true)
    (h : ∀ K' : Act → World → Prop, Shut (∀ a w, S w → (S w → wpAnyH P md l.toArray Q S fuel (listed.setIfInBounds i true) a w) → K' a w) → Oper.wp P oi a w K' Q) : wpAnyH P md l.toArray Q S (fuel + 1) listed a w :=
  wpAnyH_ready hr (by simp) (AllReadyH.cons ((list_toArray_get l i).trans hi) (fun K' hK => by rw [if_pos hw]; exact h K' hK) AllReadyH.nil)
end
end Go.Proofs.YtcfbaijibghcaaaDoor
