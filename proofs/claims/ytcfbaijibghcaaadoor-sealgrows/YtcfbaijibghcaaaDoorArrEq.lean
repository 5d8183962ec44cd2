import Derived.Test.YtcfbaijibghcaaaDoorMem
import Derived.ChangeKeysEq
import Derived.Laws.StructEq
namespace Go.Proofs.YtcfbaijibghcaaaDoor
open Go.RowKit Go.Deep

/-- bytes as an array. -/
def arrV (l : List Int) (i : Nat) : Value := .int .u8 (l.getD i 0)
/-- two rows of n numbers are alike. -/
def arrEq (n : Nat) (f g : Nat → Int) : Bool := (List.range n).all fun i => f i == g i
theorem arrEq_iff (n : Nat) (f g : Nat → Int) : arrEq n f g = true ↔ ∀ i, i < n → f i = g i := by simp [arrEq]
section
variable {P : Program}
theorem run_part_row (w : World) (e : TypeId) (n : Nat) (f : Nat → Value) (k : IntKind) (he : P.underlying e = some (.int k)) (i : Nat) (hi : i < n) : (part e (rowV n f) i).run P w = .ok (f i) w := by
  have hagg : (isAgg e).run P w = .ok false w := by
    unfold isAgg
    rw [Sem.run_bind, run_underlying he w]
    simp
  simp [part, Sem.run_bind, hagg, rowV_get n f i hi]
theorem run_eqItems_ints (w : World) (d : Nat) (e : TypeId) (k : IntKind) (he : P.underlying e = some (.int k)) (n : Nat) (f g : Nat → Int) : ∀ is : List Nat, (∀ i ∈ is, i < n) →
    (Op.eqItems (d + 1) e 1 (rowV n fun i => .int k (f i)) (rowV n fun i => .int k (g i)) is).run P w = .ok (is.all fun i => f i == g i) w
  | [], _ => by simp [Op.eqItems]
  | i :: is, h => by
    have ih := run_eqItems_ints w d e k he n f g is (fun j hj => h j (List.mem_cons_of_mem _ hj))
    have hi := h i List.mem_cons_self
    simp only [Op.eqItems, Sem.run_bind, Nat.mul_one, run_part_row w e n _ k he i hi, Result.andThen_ok, run_equalIn_int w d e k k (f i) (g i) he]
    by_cases hfg : f i = g i
    · simp [hfg, ih]
    · simp [hfg]
/-- '==' of two arrays of numbers. -/
theorem run_eql_arr (w : World) (t e : TypeId) (k : IntKind) (n : Nat) (f g : Nat → Int) (hu : P.underlying t = some (.array n e)) (he : P.underlying e = some (.int k)) (hi : (P.info? e).isSome = true) (hc : P.cellsOf e = 1) :
    (binOp .eql t (.agg (rowV n fun i => .int k (f i))) (.agg (rowV n fun i => .int k (g i)))).run P w = .ok (.bool (arrEq n f g)) w := by
  obtain ⟨i, hi'⟩ := Option.isSome_iff_exists.1 hi
  rw [run_eql_struct, run_equalIn_array w 9999 _ _ hu hi', hc, run_eqItems_ints w 9998 e k he n f g _ (fun i hi => by simpa using hi)]
  rfl
theorem run_neq_arr (w : World) (t e : TypeId) (k : IntKind) (n : Nat) (f g : Nat → Int) (hu : P.underlying t = some (.array n e)) (he : P.underlying e = some (.int k)) (hi : (P.info? e).isSome = true) (hc : P.cellsOf e = 1) :
    (binOp .neq t (.agg (rowV n fun i => .int k (f i))) (.agg (rowV n fun i => .int k (g i)))).run P w = .ok (.bool (!arrEq n f g)) w := by
  obtain ⟨i, hi'⟩ := Option.isSome_iff_exists.1 hi
  rw [run_neq_struct, run_equalIn_array w 9999 _ _ hu hi', hc, run_eqItems_ints w 9998 e k he n f g _ (fun i hi => by simpa using hi)]
  rfl
end
end Go.Proofs.YtcfbaijibghcaaaDoor
