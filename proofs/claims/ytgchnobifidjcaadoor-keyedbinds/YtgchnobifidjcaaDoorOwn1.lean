import Derived.WalkKit
import Derived.WalkSpells
import Derived.Deep.OwnRows
import Derived.Deep.MidRow
import Derived.Deep.Draws
import Derived.ChangeKeysEq
import Derived.Laws.StructEq
import Derived.Deep.AppendLies
import Derived.Test.YtgchnobifidjcaaDoorRows
import Derived.Laws.BytesString
import Derived.Lib.SliceRun
import Derived.WideKeyArr
import Derived.Maps.OwnSet
import Derived.Deep.RegionHeld3
import Derived.Deep.Cut
import Derived.Deep.CutRange
import Derived.Deep.Light
import Derived.Deep.DeepCutAuto
set_option linter.unusedVariables false
set_option linter.unusedSimpArgs false
/- Rows of memory, said by the index: what a load of a whole array or struct gives, what a store of one leaves. -/
namespace Go.Proofs.YtgchnobifidjcaaDoor
open Go.RowKit Go.Deep

/-- n values as an array, by the index. -/
def rowV (n : Nat) (f : Nat → Value) : Array Value := Array.ofFn (n := n) (fun i => f i.val)
theorem rowV_size (n : Nat) (f : Nat → Value) : (rowV n f).size = n := by simp [rowV]
theorem rowV_get (n : Nat) (f : Nat → Value) (i : Nat) (h : i < n) : (rowV n f)[i]? = some (f i) := by simp [rowV, h]
theorem rowV_eq {n : Nat} {f : Nat → Value} {c : Array Value} (hs : c.size = n) (hc : ∀ i, i < n → c[i]? = some (f i)) : c = rowV n f := by
  apply Array.ext_getElem?
  intro i
  by_cases h : i < n
  · rw [hc i h, rowV_get n f i h]
  · rw [Array.getElem?_eq_none (by omega), Array.getElem?_eq_none (by rw [rowV_size]; omega)]
theorem rowV_congr {n : Nat} {f g : Nat → Value} (h : ∀ i, i < n → f i = g i) : rowV n f = rowV n g :=
  rowV_eq (rowV_size _ _) fun i hi => by rw [rowV_get _ _ _ hi, h i hi]
theorem rowV_inj {n : Nat} {f g : Nat → Value} (h : rowV n f = rowV n g) (i : Nat) (hi : i < n) : f i = g i := by
  have := rowV_get n f i hi
  rw [h, rowV_get n g i hi] at this
  exact (Option.some.inj this).symm

theorem rowIs_block {w : World} {b : Nat} {t : TypeId} {n : Nat} {f : Nat → Value} (h : w.rowIs b t n f) : w.heap[b]? = some (.cells (rowV n f) t (0, 0)) := by
  obtain ⟨c, hb, hs, hc⟩ := h
  rw [hb, rowV_eq hs hc]
theorem rowIs_of_block {w : World} {b : Nat} {t : TypeId} {n : Nat} {f : Nat → Value} (h : w.heap[b]? = some (.cells (rowV n f) t (0, 0))) : w.rowIs b t n f :=
  ⟨_, h, rowV_size _ _, fun i hi => rowV_get n f i hi⟩
/-- A new block whose cells are written out. -/
theorem rowIs_new (w : World) (c : Array Value) (t : TypeId) (n : Nat) (f : Nat → Value) (hs : c.size = n) (hc : ∀ i, i < n → c[i]? = some (f i)) : (w.alloc (.cells c t)).rowIs w.heap.size t n f := by
  subst hs; exact World.rowIs_alloc w c t f hc

/-- A new block of n like cells. -/
theorem rowIs_zero (w : World) (c : Array Value) (t : TypeId) (n : Nat) (z : Value) (hc : c = Array.replicate n z) : (w.alloc (.cells c t)).rowIs w.heap.size t n (fun _ => z) := by
  subst hc
  exact rowIs_new w _ t n _ (by simp) fun i hi => by simp [hi]
/-- A new block that is a row by the index. -/
theorem rowIs_box (w : World) (t : TypeId) (n : Nat) (f : Nat → Value) : (w.alloc (.cells (rowV n f) t)).rowIs w.heap.size t n f := rowIs_new w _ t n f (rowV_size _ _) fun i hi => rowV_get n f i hi

theorem size_setCells (b : Nat) : ∀ (vs : List Value) (o : Nat) (w : World), (w.setCells b o vs).heap.size = w.heap.size
  | [], _, _ => rfl
  | v :: r, o, w => by rw [World.setCells, size_setCells b r (o + 1)]; exact nblk_setCell _ _ _
theorem below_setCells {B : Nat} (b : Nat) (hb : B ≤ b) : ∀ (vs : List Value) (o : Nat) {a w : World}, Below B a w → Below B a (w.setCells b o vs)
  | [], _, _, _, h => h
  | v :: r, o, _, _, h => by rw [World.setCells]; exact below_setCells b hb r (o + 1) (h.setCell hb v)
theorem rowIs_setCells_other {b b' : Nat} {t : TypeId} {n : Nat} {f : Nat → Value} (hne : b' ≠ b) : ∀ (vs : List Value) (o : Nat) {w : World}, w.rowIs b' t n f → (w.setCells b o vs).rowIs b' t n f
  | [], _, _, h => h
  | v :: r, o, _, h => by rw [World.setCells]; exact rowIs_setCells_other hne r (o + 1) (h.setOther hne v)
theorem rowIs_setCells {b : Nat} {t : TypeId} {n : Nat} : ∀ (vs : List Value) (o : Nat) {w : World} {f : Nat → Value}, w.rowIs b t n f → (w.setCells b o vs).rowIs b t n (fun j => if o ≤ j ∧ j < o + vs.length then vs.getD (j - o) undef else f j)
  | [], o, w, f, h => h.congr fun i _ => by rw [if_neg (by simp)]
  | v :: r, o, w, f, h => by
    rw [World.setCells]
    refine (rowIs_setCells r (o + 1) (h.set o v)).congr fun i _ => ?_
    simp only [List.length_cons]
    by_cases h1 : o + 1 ≤ i ∧ i < o + 1 + r.length
    · rw [if_pos h1, if_pos (by omega)]
      obtain ⟨m, rfl⟩ : ∃ m, i = o + 1 + m := ⟨i - (o + 1), by omega⟩
      rw [show o + 1 + m - (o + 1) = m by omega, show o + 1 + m - o = m + 1 by omega, List.getD_cons_succ]
    · rw [if_neg h1]
      by_cases h2 : i = o
      · subst h2; rw [if_pos rfl, if_pos (by omega)]; simp
      · rw [if_neg h2, if_neg (by omega)]
/-- A row stored into a row. -/
theorem rowIs_splice {b o m : Nat} {t : TypeId} {n : Nat} {f g : Nat → Value} {w : World} (h : w.rowIs b t n f) : (w.setCells b o (rowV m g).toList).rowIs b t n (fun j => if o ≤ j ∧ j < o + m then g (j - o) else f j) := by
  refine (rowIs_setCells (rowV m g).toList o h).congr fun i _ => ?_
  simp only [Array.length_toList, rowV_size]
  by_cases h1 : o ≤ i ∧ i < o + m
  · rw [if_pos h1, if_pos h1, List.getD_eq_getElem?_getD, Array.getElem?_toList, rowV_get _ _ _ (by omega)]; rfl
  · rw [if_neg h1, if_neg h1]

theorem there_of_row {w : World} {b o m : Nat} {t : TypeId} {n : Nat} {f : Nat → Value} (h : w.rowIs b t n f) (hm : o + m ≤ n) : w.there b o m := fun j hj => ⟨by rw [h.cell (by omega)]; rfl, h.frozen _⟩
theorem range_of_cells {w : World} {b o m : Nat} {g : Nat → Value} (hc : ∀ i, i < m → w.cell? ⟨b, o + i, none⟩ = some (g i)) : w.rangeAt b o (rowV m g).toList := fun j v hv => by
  rw [Array.getElem?_toList] at hv
  by_cases h : j < m
  · rw [rowV_get _ _ _ h] at hv; rw [hc j h, ← hv]
  · rw [Array.getElem?_eq_none (by rw [rowV_size]; omega)] at hv; cases hv

end Go.Proofs.YtgchnobifidjcaaDoor
namespace Go.RowKit
theorem Below.drewN {B : Nat} {a w : World} (h : Below B a w) (n : Nat) : Below B a (w.drewN n) := ⟨h.os, h.tape, h.output, h.size, h.block⟩
theorem Below.row {B : Nat} {w w' : World} (h : Below B w w') {k : Nat} {t : TypeId} {n : Nat} {f : Nat → Value} (hr : w.rowIs k t n f) (hk : k < B) : w'.rowIs k t n f := hr.of_block (h.block k hk)
end Go.RowKit
namespace Go
theorem World.rowIs.drewN {w : World} {b : Nat} {t : TypeId} {n : Nat} {f : Nat → Value} (h : w.rowIs b t n f) (k : Nat) : (w.drewN k).rowIs b t n f := h
end Go
namespace Go.Proofs.YtgchnobifidjcaaDoor
open Go.RowKit Go.Deep
/-- NOTHING BELOW B HAS TURNED BUT BLOCK b. -/
structure But (B b : Nat) (w w' : World) : Prop where
  os : w'.os = w.os
  tape : w'.tape = w.tape
  output : w'.output = w.output
  size : w.heap.size ≤ w'.heap.size
  block : ∀ k, k < B → k ≠ b → w'.heap[k]? = w.heap[k]?
namespace But
variable {B b : Nat} {w w' w'' : World}
theorem refl (B b : Nat) (w : World) : But B b w w := ⟨rfl, rfl, rfl, Nat.le_refl _, fun _ _ _ => rfl⟩
theorem trans (h : But B b w w') (k : But B b w' w'') : But B b w w'' :=
  ⟨k.os.trans h.os, k.tape.trans h.tape, k.output.trans h.output, Nat.le_trans h.size k.size, fun i hi hb => (k.block i hi hb).trans (h.block i hi hb)⟩
theorem mono {B' : Nat} (h : But B b w w') (hB : B' ≤ B) : But B' b w w' := ⟨h.os, h.tape, h.output, h.size, fun i hi hb => h.block i (Nat.lt_of_lt_of_le hi hB) hb⟩
theorem of_below (h : Below B w w') (b : Nat) : But B b w w' := ⟨h.os, h.tape, h.output, h.size, fun i hi _ => h.block i hi⟩
theorem below (h : But B b w w') (hb : B ≤ b) : Below B w w' := ⟨h.os, h.tape, h.output, h.size, fun i hi => h.block i hi (by omega)⟩
theorem drew (h : But B b w w') : But B b w w'.drew := ⟨h.os, h.tape, h.output, h.size, h.block⟩
theorem drewN (h : But B b w w') (n : Nat) : But B b w (w'.drewN n) := ⟨h.os, h.tape, h.output, h.size, h.block⟩
theorem alloc (h : But B b w w') (hB : B ≤ w'.heap.size) (o : Obj) : But B b w (w'.alloc o) := h.trans (of_below ((Below.refl B w').alloc hB o) b)
theorem set (h : But B b w w') (i : Nat) (v : Value) : But B b w (w'.setCell ⟨b, i, none⟩ v) :=
  ⟨h.os, h.tape, h.output, by rw [nblk_setCell]; exact h.size, fun k hk hb => (blk_setCell_other _ _ _ _ hb).trans (h.block k hk hb)⟩
theorem setNew (h : But B b w w') {p : Addr} (hp : B ≤ p.block) (v : Value) : But B b w (w'.setCell p v) := h.trans (of_below ((Below.refl B w').setCell hp v) b)
theorem cell (h : But B b w w') {k i : Nat} (hk : k < B) (hb : k ≠ b) : w'.cell? ⟨k, i, none⟩ = w.cell? ⟨k, i, none⟩ := World.cell?_of_block (w := w) (h.block k hk hb)
theorem frozen (h : But B b w w') {k i : Nat} (hk : k < B) (hb : k ≠ b) : w'.frozen? ⟨k, i, none⟩ = w.frozen? ⟨k, i, none⟩ := World.frozen?_of_block (w := w) (h.block k hk hb)
theorem row (h : But B b w w') {k : Nat} {t : TypeId} {n : Nat} {f : Nat → Value} (hr : w.rowIs k t n f) (hk : k < B) (hb : k ≠ b) : w'.rowIs k t n f := hr.of_block (h.block k hk hb)
end But
theorem but_setCells {B b : Nat} : ∀ (vs : List Value) (o : Nat) {a w : World}, But B b a w → But B b a (w.setCells b o vs)
  | [], _, _, _, h => h
  | v :: r, o, _, _, h => by rw [World.setCells]; exact but_setCells r (o + 1) (h.set o v)

/-- A cell beside the one that was stored into. -/
theorem cell_keep {w : World} {n b i j : Nat} {v u : Value} (h : i ≠ j) (hc : w.cell? ⟨b, j, none⟩ = some u) : ((w.drewN n).setCell ⟨b, i, none⟩ v).cell? ⟨b, j, none⟩ = some u := by
  rw [World.cell?_setCell_other]
  · exact hc
  · intro e; injection e; contradiction

section
variable {P : Program}
/-- A LOAD OF A WHOLE ARRAY OR STRUCT, out of wherever its cells lie. -/
theorem wpList_load_seg {ops : Array Oper} {rest : List Oper} {op : Oper} {a : Act} {w : World} {Q : Exit → Act → World → Prop} (hgd : op.guard = none) (ty : TypeId) (x : Operand) (ho : op.op = .load ty x)
    (b o m : Nat) (g : Nat → Value) (hx : a.eval x = .pointer (some ⟨b, o, none⟩)) (d : TypeDesc) (hu : P.underlying ty = some d) (hd : d.isRow = true) (hi : (P.info? ty).map (·.size) = some m)
    (hc : ∀ i, i < m → w.cell? ⟨b, o + i, none⟩ = some (g i))
    (h : wpList P ops Q rest (a.put op.dst (.agg (rowV m g))) w) : wpList P ops Q (op :: rest) a w := by
  refine wpList_load_mid hgd ty x ho b o hx (rowV m g).toList d (range_of_cells hc) hu hd ?_ ?_
  · rw [hi, Array.length_toList, rowV_size]
  · rw [Array.toArray_toList]; exact h
/-- A STORE OF A WHOLE ARRAY OR STRUCT INTO A ROW. -/
theorem wpList_store_seg {ops : Array Oper} {rest : List Oper} {op : Oper} {a : Act} {w : World} {Q : Exit → Act → World → Prop} (hgd : op.guard = none) (ty : TypeId) (x y : Operand) (ho : op.op = .store ty x y)
    (b o m : Nat) (g : Nat → Value) (hx : a.eval x = .pointer (some ⟨b, o, none⟩)) (hy : a.eval y = .agg (rowV m g)) (hi : (P.info? ty).map (·.size) = some m) (h1 : ∀ i, i < m → (g i).oneCell' = true)
    (ht : w.there b o m)
    (h : wpList P ops Q rest (a.put op.dst undef) (w.setCells b o (rowV m g).toList)) : wpList P ops Q (op :: rest) a w := by
  refine wpList_store_mid hgd ty x y ho b o (rowV m g) hx hy (by rw [rowV_size]; exact ht) (by rw [hi, rowV_size]) ?_ h
  rw [Array.all_eq_true_iff_forall_mem]
  intro v hv
  obtain ⟨i, hi', rfl⟩ := Array.mem_iff_getElem.1 hv
  have hlt : i < m := by rw [rowV_size] at hi'; exact hi'
  have := rowV_get m g i hlt
  rw [Array.getElem?_eq_getElem hi'] at this
  rw [Option.some.inj this]; exact h1 i hlt
/-- THE SAME, the world behind it under a name. -/
theorem wpList_store_row {ops : Array Oper} {rest : List Oper} {op : Oper} {a : Act} {w : World} {Q : Exit → Act → World → Prop} (hgd : op.guard = none) (ty : TypeId) (x y : Operand) (ho : op.op = .store ty x y) (hdst : op.dst = none)
    (b o m : Nat) (g : Nat → Value) (hx : a.eval x = .pointer (some ⟨b, o, none⟩)) (hy : a.eval y = .agg (rowV m g)) (hi : (P.info? ty).map (·.size) = some m) (h1 : ∀ i, i < m → (g i).oneCell' = true)
    (t n : Nat) (f : Nat → Value) (hr : w.rowIs b t n f) (hm : o + m ≤ n)
    (h : ∀ w', w'.rowIs b t n (fun j => if o ≤ j ∧ j < o + m then g (j - o) else f j) → w'.heap.size = w.heap.size → But w.heap.size b w w' → wpList P ops Q rest a w') : wpList P ops Q (op :: rest) a w := by
  refine wpList_store_seg hgd ty x y ho b o m g hx hy hi h1 (there_of_row hr hm) ?_
  rw [hdst]
  exact h _ (rowIs_splice hr) (size_setCells _ _ _ _) (but_setCells _ _ (But.refl _ _ _))
/-- An array's element by an index that is a letter. -/
theorem run_index_agg (w : World) (t e : TypeId) (n : Nat) (cs : Array Value) (k : Nat) (v : Value) (h : P.underlying t = some (.array n e)) (he : (match P.underlying e with | some (.struct _) => false | some (.array _ _) => false | some _ => true | none => false) = true) (hi : (P.info? e).map (·.size) = some 1) (hk : k < n) (hv : cs[k]? = some v) :
    (Instr.index t (.agg cs) (.int .i64 k)).run P w = .ok v w := by
  cases hq : P.info? e with
  | none => simp [hq] at hi
  | some i =>
    have hs : i.size = 1 := by simpa [hq] using hi
    have hagg : (isAgg e).run P w = .ok false w := by
      unfold isAgg
      cases hd : P.underlying e with
      | none => simp [hd] at he
      | some d =>
        rw [Sem.run_bind, run_underlying hd w]
        rw [hd] at he
        cases d <;> simp_all
    have h1 : (0 : Int) ≤ (k : Int) ∧ (k : Int) < n := by omega
    simp [Instr.index, Sem.run_bind, asIntOf, run_underlying h w, h1, sizeOf, typeInfo, hq, hs, part, hagg, hv]
    intro hk2; omega
/-- A RESULT THAT LIES IN MEMORY. -/
theorem results_cell_seg {fn : Func} {p : Tmp} {ty : TypeId} (h : fn.results = #[.cell p ty]) (tmps : Array Value) (w : World) (g : Nat) (t : TypeId) (n : Nat) (f : Nat → Value) (d : TypeDesc)
    (hp : tmps.getD p undef = .pointer (some ⟨g, 0, none⟩)) (hu : P.underlying ty = some d) (hd : (match d with | .struct _ | .array _ _ => true | _ => false) = true) (hi : (P.info? ty).map (·.size) = some n)
    (hg : w.rowIs g t n f) : (results fn tmps).run P w = .ok (.agg (rowV n f)) w :=
  results_cell_row h tmps w g t (rowV n f) (0, 0) d hp (rowIs_block hg) hu hd (by rw [hi, rowV_size])
end
end Go.Proofs.YtgchnobifidjcaaDoor

namespace Go.Proofs.YtgchnobifidjcaaDoor
open Go.RowKit Go.Deep

/-- bytes as an array. -/
def arrV (l : List Int) (i : Nat) : Value := .int .u8 (l.getD i 0)
/-- two rows of n numbers are alike. -/
def arrEq (n : Nat) (f g : Nat → Int) : Bool := (List.range n).all fun i => f i == g i
theorem arrEq_iff (n : Nat) (f g : Nat → Int) : arrEq n f g = true ↔ ∀ i, i < n → f i = g i := by simp [arrEq]
section
variable {P : Program}
theorem run_part_row (w : World) (e : TypeId) (n : Nat) (f : Nat → Value) (k : IntKind) (he : P.underlying e = some (.int k)) (i : Nat) (hi : i < n) : (part e (rowV n f) i).run P w = .ok (f i) w := by
  have hagg : (isAgg e).run P w = .ok false w := by
    unfold isAgg
    rw [Sem.run_bind, run_underlying he w]
    simp
  simp [part, Sem.run_bind, hagg, rowV_get n f i hi]
theorem run_eqItems_ints (w : World) (d : Nat) (e : TypeId) (k : IntKind) (he : P.underlying e = some (.int k)) (n : Nat) (f g : Nat → Int) : ∀ is : List Nat, (∀ i ∈ is, i < n) →
    (Op.eqItems (d + 1) e 1 (rowV n fun i => .int k (f i)) (rowV n fun i => .int k (g i)) is).run P w = .ok (is.all fun i => f i == g i) w
  | [], _ => by simp [Op.eqItems]
  | i :: is, h => by
    have ih := run_eqItems_ints w d e k he n f g is (fun j hj => h j (List.mem_cons_of_mem _ hj))
    have hi := h i List.mem_cons_self
    simp only [Op.eqItems, Sem.run_bind, Nat.mul_one, run_part_row w e n _ k he i hi, Result.andThen_ok, run_equalIn_int w d e k k (f i) (g i) he]
    by_cases hfg : f i = g i
    · simp [hfg, ih]
    · simp [hfg]
/-- '==' of two arrays of numbers. -/
theorem run_eql_arr (w : World) (t e : TypeId) (k : IntKind) (n : Nat) (f g : Nat → Int) (hu : P.underlying t = some (.array n e)) (he : P.underlying e = some (.int k)) (hi : (P.info? e).isSome = true) (hc : P.cellsOf e = 1) :
    (binOp .eql t (.agg (rowV n fun i => .int k (f i))) (.agg (rowV n fun i => .int k (g i)))).run P w = .ok (.bool (arrEq n f g)) w := by
  obtain ⟨i, hi'⟩ := Option.isSome_iff_exists.1 hi
  rw [run_eql_struct, run_equalIn_array w 9999 _ _ hu hi', hc, run_eqItems_ints w 9998 e k he n f g _ (fun i hi => by simpa using hi)]
  rfl
theorem run_neq_arr (w : World) (t e : TypeId) (k : IntKind) (n : Nat) (f g : Nat → Int) (hu : P.underlying t = some (.array n e)) (he : P.underlying e = some (.int k)) (hi : (P.info? e).isSome = true) (hc : P.cellsOf e = 1) :
    (binOp .neq t (.agg (rowV n fun i => .int k (f i))) (.agg (rowV n fun i => .int k (g i)))).run P w = .ok (.bool (!arrEq n f g)) w := by
  obtain ⟨i, hi'⟩ := Option.isSome_iff_exists.1 hi
  rw [run_neq_struct, run_equalIn_array w 9999 _ _ hu hi', hc, run_eqItems_ints w 9998 e k he n f g _ (fun i hi => by simpa using hi)]
  rfl
end
end Go.Proofs.YtgchnobifidjcaaDoor

/- Slices that the call itself makes: what append leaves. -/
namespace Go.Proofs.YtgchnobifidjcaaDoor
open Go.RowKit Go.Deep

/-- v is a slice of the elements xs, of one cell each, in a block of its own from B on. -/
def owns (w : World) (B : Nat) (e : TypeId) (v : Value) (xs : List Value) : Prop := w.ownsRow B e 1 v xs.length xs
theorem owns_nil (w : World) (B : Nat) (e : TypeId) : owns w B e (.slice none 0 0) [] := ⟨rfl, Or.inl ⟨rfl, rfl⟩⟩
theorem owns.block {w : World} {B : Nat} {e : TypeId} {v : Value} {xs : List Value} (h : owns w B e v xs) (k : Nat) (hk : v.ownBlock = some k) : B ≤ k ∧ k < w.heap.size := by
  obtain ⟨_, h | ⟨g, cap, cur, rfl, hB, hb, _⟩⟩ := h
  · rw [h.1] at hk; cases hk
  · obtain rfl : g = k := by simpa [Value.ownBlock] using hk
    exact ⟨hB, (Array.getElem?_eq_some_iff.1 hb).1⟩
/-- a slice that is not the one that grew is as it was. -/
theorem owns.far {w w' : World} {B : Nat} {e : TypeId} {v : Value} {xs : List Value} (h : owns w B e v xs) (hk : ∀ k, v.ownBlock = some k → w'.heap[k]? = w.heap[k]?) : owns w' B e v xs := by
  obtain ⟨hl, h | ⟨g, cap, cur, rfl, hB, hb, hr⟩⟩ := h
  · exact ⟨hl, Or.inl h⟩
  · exact ⟨hl, Or.inr ⟨g, cap, cur, rfl, hB, by rw [hk g rfl]; exact hb, hr⟩⟩
theorem owns.below {w w' : World} {B C : Nat} {e : TypeId} {v : Value} {xs : List Value} (h : owns w B e v xs) (hb : Below C w w') (hC : w.heap.size ≤ C) : owns w' B e v xs :=
  h.far fun k hk => hb.block k (Nat.lt_of_lt_of_le (h.block k hk).2 hC)
theorem owns.grown {w w' : World} {B : Nat} {e : TypeId} {v : Value} {xs : List Value} {row : Option Nat} (h : owns w B e v xs) (hg : w.grownBy w' row) (hne : ∀ k, v.ownBlock = some k → row ≠ some k) : owns w' B e v xs :=
  h.far fun k hk => hg.block k (h.block k hk).2 (fun e => hne k hk e.symm)
theorem owns.alloc {w : World} {B : Nat} {e : TypeId} {v : Value} {xs : List Value} (h : owns w B e v xs) (o : Obj) : owns (w.alloc o) B e v xs :=
  h.far fun k hk => blk_alloc_lt _ _ _ (h.block k hk).2
theorem owns.drew {w : World} {B : Nat} {e : TypeId} {v : Value} {xs : List Value} (h : owns w B e v xs) : owns w.drew B e v xs := h
theorem owns.drewN {w : World} {B : Nat} {e : TypeId} {v : Value} {xs : List Value} (h : owns w B e v xs) (n : Nat) : owns (w.drewN n) B e v xs := h
/-- its shape, and its cells. -/
theorem owns.shape {w : World} {B : Nat} {e : TypeId} {v : Value} {xs : List Value} (h : owns w B e v xs) (hn : 0 < xs.length) :
    ∃ g cap, v = .slice (some ⟨g, 0, none⟩) xs.length cap ∧ B ≤ g ∧ g < w.heap.size ∧ xs.length ≤ cap ∧ cap ≤ maxLen ∧ (∀ i u, xs[i]? = some u → w.cell? ⟨g, i, none⟩ = some u) ∧ ∀ i, w.frozen? ⟨g, i, none⟩ = false := by
  obtain ⟨hl, h | ⟨g, cap, cur, rfl, hB, hb, hc, hm, hs, ht⟩⟩ := h
  · omega
  · refine ⟨g, cap, rfl, hB, (Array.getElem?_eq_some_iff.1 hb).1, hc, hm, fun i u hu => ?_, fun i => by simp [World.frozen?, hb]⟩
    rw [cell_of_row _ _ _ _ _ _ hb]
    rw [Nat.mul_one] at ht
    have hi : i < xs.length := by rw [List.getElem?_eq_some_iff] at hu; exact hu.1
    rw [← ht, List.getElem?_take, if_pos hi, Array.getElem?_toList] at hu
    exact hu

section
variable {P : Program}
/-- WHAT append LEAVES: the elements behind one another; nothing old but the slice's own block has turned. -/
theorem run_append (w : World) (t ty : TypeId) (B : Nat) (e : TypeId) (z : Value) (bytes : Nat) (ht : P.underlying t = some (.slice e)) (hi : (P.info? e).map (fun i => (i.zero, i.size, i.bytes)) = some (some z, 1, bytes)) (hz1 : z.cells.size = 1)
    (v : Value) (xs : List Value) (hown : owns w B e v xs) (sb so m c : Nat) (news : List Value) (hl : news.length = m) (hnews : ∀ j u, news[j]? = some u → w.cell? ⟨sb, so + j, none⟩ = some u) (h1 : ∀ u ∈ news, u.oneCell' = true)
    (hm : 0 < m) (h63 : xs.length + m ≤ maxLen) (hbytes : (xs.length + m) * bytes ≤ 140737488355328) (hB : B ≤ w.heap.size) :
    ∃ g cap w', (Builtin.append_ #[t, t] ty #[v, .slice (some ⟨sb, so, none⟩) m c]).run P w = .ok (.slice (some ⟨g, 0, none⟩) (xs.length + m) cap) w' ∧
      owns w' B e (.slice (some ⟨g, 0, none⟩) (xs.length + m) cap) (xs ++ news) ∧ w.grownBy w' v.ownBlock ∧ (v.ownBlock = some g ∨ g = w.heap.size) ∧ g < w'.heap.size := by
  cases hq : P.info? e with
  | none => simp [hq] at hi
  | some i =>
    simp only [hq, Option.map_some, Option.some.injEq, Prod.mk.injEq] at hi
    obtain ⟨hz, hs, hb⟩ := hi
    obtain ⟨g, cap, w', hr, ho, hg, hw, hlt⟩ := run_append_lies (P := P) w t ty B e i z 1 bytes ht hq hz hs hb hz1 (by omega) v xs.length xs hown ⟨sb, so, none⟩ m c news (by omega) (fun j u hu => by rw [Addr.add_mid]; exact hnews j u hu) h1 hm h63 hbytes hB w.heap.size rfl
    refine ⟨g, cap, w', hr, ?_, hg, hw, hlt⟩
    unfold owns
    rw [List.length_append, hl]; exact ho
/-- append, by what its run comes to. -/
theorem wp_append_run {o : Oper} {a : Act} {w w' : World} {K : Act → World → Prop} {Q : Exit → Act → World → Prop} {v y r : Value} (s x : Operand) (t : TypeId)
    (ho : o.op = .call { callee := .builtin .append, args := #[s, x], argTypes := #[t, t] }) (hs : a.eval s = v) (hx : a.eval x = y)
    (hr : (Builtin.append_ #[t, t] o.type #[v, y]).run P w = .ok r w') (h : K (a.put o.dst r) w') : o.wp P a w K Q := by
  unfold Oper.wp execOp
  simp only [ho, resolve, invoke, builtin, Sem.run_bind, Sem.run_pure, Result.andThen_ok, List.map_toArray, List.map_cons, List.map_nil, hs, hx, hr]
  exact h
theorem wpList_append_run {ops : Array Oper} {rest : List Oper} {o : Oper} {a : Act} {w w' : World} {Q : Exit → Act → World → Prop} {v y r : Value} (hgd : o.guard = none) (s x : Operand) (t : TypeId)
    (ho : o.op = .call { callee := .builtin .append, args := #[s, x], argTypes := #[t, t] }) (hs : a.eval s = v) (hx : a.eval x = y)
    (hr : (Builtin.append_ #[t, t] o.type #[v, y]).run P w = .ok r w') (h : wpList P ops Q rest (a.put o.dst r) w') : wpList P ops Q (o :: rest) a w :=
  wpList_plain hgd fun _ hK => wp_append_run s x t ho hs hx hr (hK _ _ h)
end
end Go.Proofs.YtgchnobifidjcaaDoor

/- Slices of bytes, and of others, wherever they lie. -/
namespace Go.Proofs.YtgchnobifidjcaaDoor
set_option linter.unusedSimpArgs false
open Go.RowKit Go.Deep

/-- the bytes of the parts ahead of place k. -/
def flatTo (ps : Nat → List Int) : Nat → List Int
  | 0 => []
  | k + 1 => flatTo ps k ++ ps k
theorem flatTo_mono (ps : Nat → List Int) : ∀ n i, i ≤ n → (flatTo ps i).length ≤ (flatTo ps n).length
  | 0, i, h => by obtain rfl : i = 0 := by omega
                  exact Nat.le_refl _
  | n + 1, i, h => by
    by_cases e : i = n + 1
    · subst e; exact Nat.le_refl _
    · rw [flatTo, List.length_append]
      have := flatTo_mono ps n i (by omega)
      omega
/-- THE VALUE v IS A SLICE OF THESE BYTES. -/
def isBytes (w : World) (v : Value) (l : List Int) : Prop :=
  (v = .slice none 0 0 ∧ l = []) ∨ ∃ pb po cap : Nat, v = .slice (some ⟨pb, po, none⟩) l.length cap ∧ l.length ≤ cap ∧ cap ≤ maxLen ∧ pb < w.heap.size ∧
    (∀ i, i < l.length → w.cell? ⟨pb, po + i, none⟩ = some (.int .u8 (l.getD i 0))) ∧ ∀ i, 0 ≤ l.getD i 0 ∧ l.getD i 0 ≤ 255
theorem isBytes.below {w w' : World} {B : Nat} {v : Value} {l : List Int} (h : isBytes w v l) (hb : Below B w w') (hB : w.heap.size ≤ B) : isBytes w' v l := by
  rcases h with h | ⟨pb, po, cap, h1, h2, h3, h4, h6, h7⟩
  · exact Or.inl h
  · exact Or.inr ⟨pb, po, cap, h1, h2, h3, Nat.lt_of_lt_of_le h4 hb.size, fun i hi => by rw [hb.cell (p := ⟨pb, po + i, none⟩) (Nat.lt_of_lt_of_le h4 hB)]; exact h6 i hi, h7⟩
/-- .. OR ONE OF NONE, wherever it says that it lies. -/
def anyBytes (w : World) (v : Value) (l : List Int) : Prop := isBytes w v l ∨ ((∃ a, v = .slice a 0 0) ∧ l = [])
theorem anyBytes.below {w w' : World} {B : Nat} {v : Value} {l : List Int} (h : anyBytes w v l) (hb : Below B w w') (hB : w.heap.size ≤ B) : anyBytes w' v l := by
  rcases h with h | h
  · exact Or.inl (h.below hb hB)
  · exact Or.inr h
/-- THE VALUE v IS A SLICE OF n SLICES OF BYTES. -/
def isParts (w : World) (v : Value) (n : Nat) (ps : Nat → List Int) : Prop :=
  (v = .slice none 0 0 ∧ n = 0) ∨ ∃ (qb qo cap : Nat) (sv : Nat → Value), v = .slice (some ⟨qb, qo, none⟩) n cap ∧ qb < w.heap.size ∧ n ≤ maxLen ∧ ∀ i, i < n → w.cell? ⟨qb, qo + i, none⟩ = some (sv i) ∧ anyBytes w (sv i) (ps i)
theorem isParts.below {w w' : World} {B : Nat} {v : Value} {n : Nat} {ps : Nat → List Int} (h : isParts w v n ps) (hb : Below B w w') (hB : w.heap.size ≤ B) : isParts w' v n ps := by
  rcases h with h | ⟨qb, qo, cap, sv, h1, h2, h3, h4⟩
  · exact Or.inl h
  · exact Or.inr ⟨qb, qo, cap, sv, h1, Nat.lt_of_lt_of_le h2 hb.size, h3, fun i hi => ⟨by rw [hb.cell (p := ⟨qb, qo + i, none⟩) (Nat.lt_of_lt_of_le h2 hB)]; exact (h4 i hi).1, (h4 i hi).2.below hb hB⟩⟩
theorem isBytes.slice {w : World} {v : Value} {l : List Int} (h : isBytes w v l) : ∃ a c, v = .slice a l.length c ∧ l.length ≤ maxLen := by
  rcases h with ⟨rfl, rfl⟩ | ⟨pb, po, cap, rfl, h2, h3, _⟩
  · exact ⟨_, _, rfl, Nat.zero_le _⟩
  · exact ⟨_, _, rfl, by omega⟩
theorem anyBytes.slice {w : World} {v : Value} {l : List Int} (h : anyBytes w v l) : ∃ a c, v = .slice a l.length c ∧ l.length ≤ maxLen := by
  rcases h with h | ⟨⟨a, rfl⟩, rfl⟩
  · exact h.slice
  · exact ⟨a, 0, rfl, Nat.zero_le _⟩
theorem isBytes.byte {w : World} {v : Value} {l : List Int} (h : isBytes w v l) (i : Nat) : 0 ≤ l.getD i 0 ∧ l.getD i 0 ≤ 255 := by
  rcases h with ⟨_, rfl⟩ | ⟨pb, po, cap, _, _, _, _, _, h7⟩
  · exact ⟨by simp, by simp⟩
  · exact h7 i
theorem isBytes.under {w : World} {pb o n cap : Nat} {l : List Int} (h : isBytes w (.slice (some ⟨pb, o, none⟩) n cap) l) : pb < w.heap.size := by
  rcases h with ⟨h, _⟩ | ⟨pb', po, cap', h1, _, _, h4, _⟩
  · cases h
  · have e : pb = pb' := by injection h1 with h1 _ _; injection h1 with h1; injection h1
    omega
theorem isBytes.of_block {w w' : World} {pb o n cap : Nat} {l : List Int} (h : isBytes w (.slice (some ⟨pb, o, none⟩) n cap) l) (hb : w'.heap[pb]? = w.heap[pb]?) (hs : w.heap.size ≤ w'.heap.size) : isBytes w' (.slice (some ⟨pb, o, none⟩) n cap) l := by
  rcases h with ⟨h, _⟩ | ⟨pb', po, cap', h1, h2, h3, h4, h6, h7⟩
  · cases h
  · have e : pb = pb' := by injection h1 with h1 _ _; injection h1 with h1; injection h1
    subst e
    exact Or.inr ⟨pb, po, cap', h1, h2, h3, by omega, fun i hi => by rw [World.cell?_of_block (w := w) hb]; exact h6 i hi, h7⟩
/-- a slice of bytes of which nothing was written is as it was. -/
theorem isBytes.far {w w' : World} {v : Value} {l : List Int} (h : isBytes w v l) (hb : ∀ k, v.ownBlock = some k → w'.heap[k]? = w.heap[k]?) (hs : w.heap.size ≤ w'.heap.size) : isBytes w' v l := by
  rcases h with h | ⟨pb, po, cap, rfl, h2, h3, h4, h6, h7⟩
  · exact Or.inl h
  · exact Or.inr ⟨pb, po, cap, rfl, h2, h3, by omega, fun i hi => by rw [World.cell?_of_block (w := w) (hb pb rfl)]; exact h6 i hi, h7⟩
theorem isBytes.block {w : World} {v : Value} {l : List Int} (h : isBytes w v l) (k : Nat) (hk : v.ownBlock = some k) : k < w.heap.size := by
  rcases h with ⟨rfl, _⟩ | ⟨pb, po, cap, rfl, h2, h3, h4, h6, h7⟩
  · cases hk
  · simp [Value.ownBlock] at hk; omega
theorem hi8 : (Tryd.prog.info? 5).map (fun i => (i.zero, i.size, i.bytes)) = some (some (.int .u8 0), 1, 1) := by kernel_rfl
/-- bytes of the call's own. -/
def newBytes (w : World) (B : Nat) (v : Value) (l : List Int) : Prop := owns w B 5 v (l.map (Value.int .u8)) ∧ ∀ i, 0 ≤ l.getD i 0 ∧ l.getD i 0 ≤ 255
theorem getElem?_u8 {l : List Int} {i : Nat} (hi : i < l.length) : (l.map (Value.int .u8))[i]? = some (Value.int .u8 (l.getD i 0)) := by
  rw [List.getElem?_map, List.getElem?_eq_getElem hi, List.getD_eq_getElem?_getD, List.getElem?_eq_getElem hi]; rfl
theorem newBytes.is {w : World} {B : Nat} {v : Value} {l : List Int} (h : newBytes w B v l) : isBytes w v l := by
  obtain ⟨ho, hb⟩ := h
  obtain ⟨_, h | ⟨g, cap, cur, rfl, hB, hg, hc, hm, hs, ht⟩⟩ := ho
  · obtain ⟨rfl, hl⟩ := h
    rw [List.length_map] at hl
    exact Or.inl ⟨rfl, List.length_eq_zero_iff.1 hl⟩
  · rw [List.length_map] at hc ⊢
    refine Or.inr ⟨g, 0, cap, rfl, hc, hm, (Array.getElem?_eq_some_iff.1 hg).1, fun i hi => ?_, hb⟩
    rw [Nat.zero_add, cell_of_row _ _ _ _ _ _ hg, ← Array.getElem?_toList]
    have h2 := getElem?_u8 hi
    rw [← ht, List.getElem?_take, List.length_map] at h2
    by_cases hh : i < l.length * 1
    · rw [if_pos hh] at h2; exact h2
    · omega
theorem newBytes.block {w : World} {B : Nat} {v : Value} {l : List Int} (h : newBytes w B v l) (k : Nat) (hk : v.ownBlock = some k) : B ≤ k ∧ k < w.heap.size := h.1.block k hk
theorem newBytes.nil (w : World) (B : Nat) : newBytes w B (.slice none 0 0) [] := ⟨owns_nil _ _ _, fun i => by simp⟩
theorem newBytes.below {w w' : World} {B C : Nat} {v : Value} {l : List Int} (h : newBytes w B v l) (hb : Below C w w') (hC : w.heap.size ≤ C) : newBytes w' B v l := ⟨h.1.below hb hC, h.2⟩
theorem newBytes.mono {w : World} {B C : Nat} {v : Value} {l : List Int} (h : newBytes w B v l) (hC : C ≤ B) : newBytes w C v l := by
  obtain ⟨⟨hl, h1⟩, hb⟩ := h
  refine ⟨⟨hl, ?_⟩, hb⟩
  rcases h1 with h1 | ⟨g, cap, cur, h1, h2, h3⟩
  · exact Or.inl h1
  · exact Or.inr ⟨g, cap, cur, h1, by omega, h3⟩
section
variable {P : Program}
theorem run_append_nil (w : World) (t ty e : TypeId) (ht : P.underlying t = some (.slice e)) (hi : (P.info? e).isSome = true) (b : Option Addr) (n c : Nat) (hn : n ≤ c) (sa : Option Addr) (d : Nat) :
    (Builtin.append_ #[t, t] ty #[.slice b n c, .slice sa 0 d]).run P w = .ok (.slice b n c) w := by
  cases hq : P.info? e with
  | none => rw [hq] at hi; cases hi
  | some i => cases b <;> cases sa <;> simp [Builtin.append_, run_underlying ht, sizeOf, typeInfo, hq, hn, storeCells, loadCells, Builtin.lenOf, Builtin.firstCells, loadCellsFrom]
end
section
variable {P : Program}
/-- x[m:], x a slice of elements of one cell. -/
theorem run_slice_from (t e : TypeId) (b o len cap m : Nat) (hu : P.underlying t = some (.slice e)) (hs : (P.info? e).map (·.size) = some 1) (hm : m ≤ len) :
    ∃ o', (m < cap → o' = o + m) ∧ ∀ w : World, (Instr.slice t (.slice (some ⟨b, o, none⟩) len cap) (some (.int .i64 m)) none none).run P w = .ok (.slice (some ⟨b, o', none⟩) (len - m) (cap - m)) w := by
  cases hq : P.info? e with
  | none => simp [hq] at hs
  | some i =>
    have hi : i.size = 1 := by simpa [hq] using hs
    have h0 : (0 : Int) ≤ (m : Int) ∧ (m : Int) ≤ (len : Int) := by omega
    by_cases hc : cap = m
    · refine ⟨o, fun h => by omega, fun w => ?_⟩
      simp [Instr.slice, Instr.sliceBounds, Instr.sliceBound, asIntOf, run_underlying hu, sizeOf, typeInfo, hq, h0, hc, hm]
    · refine ⟨o + m, fun _ => rfl, fun w => ?_⟩
      simp [Instr.slice, Instr.sliceBounds, Instr.sliceBound, asIntOf, run_underlying hu, sizeOf, typeInfo, hq, hi, h0, hc, hm, Addr.add_mid]
/-- x[:n:n]. -/
theorem run_slice_front (t e : TypeId) (b o len cap n : Nat) (hu : P.underlying t = some (.slice e)) (hs : (P.info? e).map (·.size) = some 1) (hm : n ≤ cap) (w : World) :
    (Instr.slice t (.slice (some ⟨b, o, none⟩) len cap) none (some (.int .i64 n)) (some (.int .i64 n))).run P w = .ok (.slice (some ⟨b, o, none⟩) n n) w := by
  cases hq : P.info? e with
  | none => simp [hq] at hs
  | some i =>
    have hi : i.size = 1 := by simpa [hq] using hs
    have h0 : (0 : Int) ≤ (n : Int) ∧ (n : Int) ≤ (cap : Int) := by omega
    simp [Instr.slice, Instr.sliceBounds, Instr.sliceBound, asIntOf, run_underlying hu, sizeOf, typeInfo, hq, hi, h0, hm, Addr.add_mid]
/-- x[m:n:n]. -/
theorem run_slice_mid (t e : TypeId) (b o len cap m n : Nat) (hu : P.underlying t = some (.slice e)) (hs : (P.info? e).map (·.size) = some 1) (hmn : m ≤ n) (hm : n ≤ cap) :
    ∃ o', (m < n → o' = o + m) ∧ ∀ w : World, (Instr.slice t (.slice (some ⟨b, o, none⟩) len cap) (some (.int .i64 m)) (some (.int .i64 n)) (some (.int .i64 n))).run P w = .ok (.slice (some ⟨b, o', none⟩) (n - m) (n - m)) w := by
  cases hq : P.info? e with
  | none => simp [hq] at hs
  | some i =>
    have hi : i.size = 1 := by simpa [hq] using hs
    have h0 : (0 : Int) ≤ (n : Int) ∧ (n : Int) ≤ (cap : Int) := by omega
    have h1 : (0 : Int) ≤ (m : Int) ∧ (m : Int) ≤ (n : Int) := by omega
    by_cases hc : n = m
    · refine ⟨o, fun h => by omega, fun w => ?_⟩
      simp [Instr.slice, Instr.sliceBounds, Instr.sliceBound, asIntOf, run_underlying hu, sizeOf, typeInfo, hq, h0, h1, hc, hm, hmn]
      omega
    · refine ⟨o + m, fun _ => rfl, fun w => ?_⟩
      simp [Instr.slice, Instr.sliceBounds, Instr.sliceBound, asIntOf, run_underlying hu, sizeOf, typeInfo, hq, hi, h0, h1, hc, hm, hmn, Addr.add_mid]
      try omega
end
theorem getD_append_byte {l m : List Int} (hl : ∀ i, 0 ≤ l.getD i 0 ∧ l.getD i 0 ≤ 255) (hm : ∀ i, 0 ≤ m.getD i 0 ∧ m.getD i 0 ≤ 255) (i : Nat) : 0 ≤ (l ++ m).getD i 0 ∧ (l ++ m).getD i 0 ≤ 255 := by
  rw [List.getD_eq_getElem?_getD, List.getElem?_append]
  split
  · rw [← List.getD_eq_getElem?_getD]; exact hl i
  · rw [← List.getD_eq_getElem?_getD]; exact hm _
/-- append(v, u...), v of the call's own, u any bytes. -/
theorem bytes_append_run (w : World) (B : Nat) (v u : Value) (l m : List Int) (hv : newBytes w B v l) (hu : isBytes w u m) (hs : l.length + m.length ≤ 1099511627776) (hB : B ≤ w.heap.size) :
    ∃ v' w', (Builtin.append_ #[23, 23] 23 #[v, u]).run Tryd.prog w = .ok v' w' ∧ newBytes w' B v' (l ++ m) ∧ w.grownBy w' v.ownBlock ∧ (v'.ownBlock = v.ownBlock ∨ v'.ownBlock = some w.heap.size) := by
  have hgrow : w.grownBy w v.ownBlock := ⟨rfl, rfl, rfl, Nat.le_refl _, fun _ _ _ => rfl⟩
  by_cases h0 : m.length = 0
  · obtain rfl : m = [] := List.length_eq_zero_iff.1 h0
    obtain ⟨a, c, rfl, _⟩ := hu.slice
    have hsh : ∃ a n c, v = .slice a n c ∧ n ≤ c := by
      obtain ⟨⟨_, h | ⟨g, cap, cur, rfl, _, _, hc, _⟩⟩, _⟩ := hv
      · exact ⟨_, _, _, h.1, Nat.le_refl _⟩
      · exact ⟨_, _, _, rfl, hc⟩
    obtain ⟨a', n', c', rfl, hc⟩ := hsh
    exact ⟨_, w, run_append_nil w _ _ _ Tryd.underlying23 (by kernel_rfl) a' n' c' hc a c, by rw [List.append_nil]; exact hv, hgrow, Or.inl rfl⟩
  · rcases hu with ⟨_, rfl⟩ | ⟨pb, po, cap, rfl, h2, h3, h4, h6, h7⟩
    · exact absurd rfl h0
    · obtain ⟨g, cp, w2, hr, ho, hg, hat, hlt⟩ := run_append (P := Tryd.prog) w 23 23 B 5 (.int .u8 0) 1 Tryd.underlying23 hi8 rfl v _ hv.1 pb po m.length cap (m.map (Value.int .u8)) (by simp)
        (fun j u hu => by
          have hj : j < m.length := by
            by_cases hj : j < m.length
            · exact hj
            · rw [List.getElem?_eq_none (by simp; omega)] at hu; cases hu
          rw [getElem?_u8 hj] at hu
          rw [h6 j hj, ← hu])
        (fun v hv => by obtain ⟨x, _, rfl⟩ := List.mem_map.1 hv; rfl) (by omega) (by simp; unfold maxLen; omega) (by simp; omega) hB
      rw [List.length_map] at hr ho
      refine ⟨_, w2, hr, ⟨?_, getD_append_byte hv.2 h7⟩, hg, ?_⟩
      · rw [List.map_append]; exact ho
      · rcases hat with h | h
        · exact Or.inl h.symm
        · exact Or.inr (by rw [h]; rfl)
/-- .. u any bytes, or none. -/
theorem any_append_run (w : World) (B : Nat) (v u : Value) (l m : List Int) (hv : newBytes w B v l) (hu : anyBytes w u m) (hs : l.length + m.length ≤ 1099511627776) (hB : B ≤ w.heap.size) :
    ∃ v' w', (Builtin.append_ #[23, 23] 23 #[v, u]).run Tryd.prog w = .ok v' w' ∧ newBytes w' B v' (l ++ m) ∧ w.grownBy w' v.ownBlock ∧ (v'.ownBlock = v.ownBlock ∨ v'.ownBlock = some w.heap.size) := by
  rcases hu with hu | ⟨⟨a, rfl⟩, rfl⟩
  · exact bytes_append_run w B v u l m hv hu hs hB
  · have hsh : ∃ a n c, v = .slice a n c ∧ n ≤ c := by
      obtain ⟨⟨_, h | ⟨g, cap, cur, rfl, _, _, hc, _⟩⟩, _⟩ := hv
      · exact ⟨_, _, _, h.1, Nat.le_refl _⟩
      · exact ⟨_, _, _, rfl, hc⟩
    obtain ⟨a', n', c', rfl, hc⟩ := hsh
    exact ⟨_, w, run_append_nil w _ _ _ Tryd.underlying23 (by kernel_rfl) a' n' c' hc a 0, by rw [List.append_nil]; exact hv, ⟨rfl, rfl, rfl, Nat.le_refl _, fun _ _ _ => rfl⟩, Or.inl rfl⟩
theorem below_grown {w w' : World} {B : Nat} {v : Value} (hg : w.grownBy w' v.ownBlock) (hv : ∀ k, v.ownBlock = some k → B ≤ k) (hB : B ≤ w.heap.size) : Below B w w' :=
  ⟨hg.os, hg.tape, hg.output, hg.size, fun k hk => hg.block k (by omega) (fun e => by have := hv k e.symm; omega)⟩
/-- append([]byte{}, u...): new bytes, the same. -/
theorem bytes_copy_run (w : World) (u : Value) (l : List Int) (hu : isBytes w u l) (hl : l.length ≤ 1099511627776) :
    ∃ v' w', (Builtin.append_ #[23, 23] 23 #[.slice (some ⟨w.heap.size, 0, none⟩) 0 0, u]).run Tryd.prog (w.alloc (.cells #[] 5)) = .ok v' w' ∧ newBytes w' w.heap.size v' l ∧ Below w.heap.size w w' := by
  have hb1 : Below w.heap.size w (w.alloc (.cells #[] 5)) := (Below.refl _ _).alloc (Nat.le_refl _) _
  have hO : newBytes (w.alloc (.cells #[] 5)) w.heap.size (.slice (some ⟨w.heap.size, 0, none⟩) 0 0) [] :=
    ⟨⟨rfl, Or.inr ⟨w.heap.size, 0, #[], rfl, Nat.le_refl _, blk_alloc_new _ _, Nat.le_refl _, by unfold maxLen; omega, rfl, rfl⟩⟩, fun i => by simp⟩
  obtain ⟨v', w', hr, hn, hg, _⟩ := bytes_append_run _ w.heap.size _ u [] l hO (hu.below hb1 (Nat.le_refl _)) (by simp; omega) (by simp)
  exact ⟨v', w', hr, hn, hb1.trans (below_grown hg (fun k hk => (hO.block k hk).1) (by simp))⟩

/-- bytes as a string. -/
def strOf (l : List Int) : ByteArray := ⟨(l.map fun n => UInt8.ofNat n.toNat).toArray⟩
theorem strOf_fold (l : List Int) : ∀ s : ByteArray, l.foldl (fun r n => r.push (UInt8.ofNat n.toNat)) s = ⟨(s.data.toList ++ l.map fun n => UInt8.ofNat n.toNat).toArray⟩ := by
  induction l with
  | nil => intro s; simp
  | cons n l ih => intro s; rw [List.foldl_cons, ih]; simp [ByteArray.push]
theorem strOf_size (l : List Int) : (strOf l).size = l.length := by simp [strOf, ByteArray.size]
theorem rowV_map (n : Nat) (f : Nat → Int) : rowV n (fun i => .int .u8 (f i)) = (((List.range n).map f).map (Value.int .u8)).toArray := by
  symm
  apply rowV_eq
  · simp
  · intro i hi; simp [hi]
section
variable {P : Program}
/-- string(b), b a slice over a row of bytes. -/
theorem run_convert_row_string (w : World) (src dst e : TypeId) (b o n c : Nat) (f : Nat → Int) (hs : P.underlying src = some (.slice e)) (he : P.underlying e = some (.int .u8)) (hd : P.underlying dst = some .string)
    (hc : ∀ i, i < n → w.cell? ⟨b, o + i, none⟩ = some (.int .u8 (f i))) :
    (convert src dst (.slice (some ⟨b, o, none⟩) n c)).run P w = .ok (.string (strOf ((List.range n).map f))) w := by
  rw [run_convert_bytes_string w src dst e _ _ _ hs he hd]
  have hl := run_loadCells_list (P := P) w ⟨b, o, none⟩ (rowV n fun i => .int .u8 (f i)).toList (fun j v hv => by rw [Addr.add_mid]; exact range_of_cells hc j v hv)
  rw [Array.length_toList, rowV_size, Array.toArray_toList, rowV_map] at hl
  rw [run_bytesToString w ⟨b, o, none⟩ n c _ hl, strOf_fold]
  simp [strOf]
theorem range_getD (l : List Int) : (List.range l.length).map (fun i => l.getD i 0) = l := by
  apply List.ext_getElem?
  intro i
  rw [List.getElem?_map]
  by_cases h : i < l.length
  · rw [List.getElem?_range h, List.getElem?_eq_getElem h, Option.map_some, List.getD_eq_getElem?_getD, List.getElem?_eq_getElem h]; rfl
  · rw [List.getElem?_eq_none (by simp; omega), List.getElem?_eq_none (by omega)]; rfl
/-- string(b), b any bytes. -/
theorem run_convert_bytes (w : World) (src dst e : TypeId) (v : Value) (l : List Int) (hs : P.underlying src = some (.slice e)) (he : P.underlying e = some (.int .u8)) (hd : P.underlying dst = some .string)
    (h : isBytes w v l) : (convert src dst v).run P w = .ok (.string (strOf l)) w := by
  rcases h with ⟨rfl, rfl⟩ | ⟨pb, po, cap, rfl, h2, h3, h4, h6, h7⟩
  · rw [run_convert_bytes_string w src dst e _ _ _ hs he hd]
    simp [Conv.bytesToString, strOf]
    rfl
  · rw [run_convert_row_string w src dst e pb po l.length cap (fun i => l.getD i 0) hs he hd h6, range_getD]
theorem run_convert_any (w : World) (src dst e : TypeId) (v : Value) (l : List Int) (hs : P.underlying src = some (.slice e)) (he : P.underlying e = some (.int .u8)) (hd : P.underlying dst = some .string)
    (h : anyBytes w v l) : (convert src dst v).run P w = .ok (.string (strOf l)) w := by
  rcases h with h | ⟨⟨a, rfl⟩, rfl⟩
  · exact run_convert_bytes w src dst e v l hs he hd h
  · rw [run_convert_bytes_string w src dst e _ _ _ hs he hd]
    cases a with
    | none => simp [Conv.bytesToString, strOf]; rfl
    | some a => rw [run_bytesToString w a 0 0 [] (by simp [loadCells, loadCellsFrom]), strOf_fold]; simp [strOf]
theorem wp_convert_run {o : Oper} {a : Act} {w w' : World} {K : Act → World → Prop} {Q : Exit → Act → World → Prop} {v r : Value} (s t : TypeId) (x : Operand)
    (ho : o.op = .convert s t x) (hx : a.eval x = v) (hr : (convert s t v).run P w = .ok r w') (h : K (a.put o.dst r) w') : o.wp P a w K Q := by
  unfold Oper.wp execOp
  simp only [ho, hx, Sem.run_bind, hr, Result.andThen_ok, Sem.run_pure]
  exact h
theorem wpList_convert_run {ops : Array Oper} {rest : List Oper} {o : Oper} {a : Act} {w w' : World} {Q : Exit → Act → World → Prop} {v r : Value} (hgd : o.guard = none) (s t : TypeId) (x : Operand)
    (ho : o.op = .convert s t x) (hx : a.eval x = v) (hr : (convert s t v).run P w = .ok r w') (h : wpList P ops Q rest (a.put o.dst r) w') : wpList P ops Q (o :: rest) a w :=
  wpList_plain hgd fun _ hK => wp_convert_run s t x ho hx hr (hK _ _ h)
end
theorem strOf_inj {l m : List Int} (hl : ∀ i, 0 ≤ l.getD i 0 ∧ l.getD i 0 ≤ 255) (hm : ∀ i, 0 ≤ m.getD i 0 ∧ m.getD i 0 ≤ 255) (h : strOf l = strOf m) : l = m := by
  have hlen : l.length = m.length := by rw [← strOf_size l, ← strOf_size m, h]
  have h' : l.map (fun n => UInt8.ofNat n.toNat) = m.map (fun n => UInt8.ofNat n.toNat) := by
    have := congrArg (fun s : ByteArray => s.data.toList) h
    simpa [strOf] using this
  apply List.ext_getElem hlen
  intro i h1 h2
  have e := congrArg (fun q => q[i]?) h'
  simp only [List.getElem?_map, List.getElem?_eq_getElem h1, List.getElem?_eq_getElem h2, Option.map_some, Option.some.injEq] at e
  have a1 := hl i
  have a2 := hm i
  rw [List.getD_eq_getElem?_getD, List.getElem?_eq_getElem h1] at a1
  rw [List.getD_eq_getElem?_getD, List.getElem?_eq_getElem h2] at a2
  simp only [Option.getD_some] at a1 a2
  have e2 := congrArg UInt8.toNat e
  rw [UInt8.toNat_ofNat', UInt8.toNat_ofNat'] at e2
  omega
end Go.Proofs.YtgchnobifidjcaaDoor

/- The map of seal: sums, and where they stand first. -/
namespace Go.Proofs.YtgchnobifidjcaaDoor
set_option linter.unusedSimpArgs false
set_option linter.unusedVariables false
open Go.RowKit Go.Deep

/-- 32 bytes. -/
def isSum (q : List Int) : Prop := q.length = 32 ∧ ∀ i, 0 ≤ q.getD i 0 ∧ q.getD i 0 ≤ 255
def sumV (q : List Int) : Value := .agg (rowV 32 (arrV q))
theorem sumV_inj {p q : List Int} (hp : isSum p) (hq : isSum q) (e : sumV p = sumV q) : p = q := by
  have h : rowV 32 (arrV p) = rowV 32 (arrV q) := Value.agg.inj e
  apply List.ext_getElem?
  intro i
  by_cases hi : i < 32
  · have := rowV_inj h i hi
    simp only [arrV, Value.int.injEq, true_and] at this
    rw [List.getElem?_eq_getElem (by rw [hp.1]; exact hi), List.getElem?_eq_getElem (by rw [hq.1]; exact hi)]
    rw [List.getD_eq_getElem?_getD, List.getD_eq_getElem?_getD, List.getElem?_eq_getElem (by rw [hp.1]; exact hi), List.getElem?_eq_getElem (by rw [hq.1]; exact hi)] at this
    simpa using this
  · rw [List.getElem?_eq_none (by rw [hp.1]; omega), List.getElem?_eq_none (by rw [hq.1]; omega)]
theorem mapM_all {α β : Type} (f : α → Option β) (g : α → β) : ∀ L : List α, (∀ x ∈ L, f x = some (g x)) → L.mapM f = some (L.map g)
  | [], _ => rfl
  | x :: L, h => by
    rw [List.mapM_cons, h x (by simp), mapM_all f g L (fun y hy => h y (by simp [hy]))]; rfl
theorem arrKey : Go.WideMaps.ArrKey Tryd.prog 32 5 32 := ⟨Tryd.underlying32, by kernel_rfl, by kernel_rfl, by kernel_rfl⟩
theorem types_some : ∃ m, Tryd.prog.types.size = m + 1 := ⟨Tryd.prog.types.size - 1, by
  have : 0 < Tryd.prog.types.size := of_decide_eq_true (by kernel_rfl)
  omega⟩
theorem sumKey {q : List Int} (hq : isSum q) : ∃ l, keyOf Tryd.prog 32 (sumV q) = some l := by
  have hc : Tryd.prog.cellsOf 32 = 32 := by kernel_rfl
  have hc8 : Tryd.prog.cellsOf 5 = 1 := by kernel_rfl
  have hk := arrKey.keyType types_some
  obtain ⟨m, hm⟩ := types_some
  have hform : (sumV q).formed Tryd.prog 32 = true := by simp [sumV, Value.formed, Tryd.underlying32, hc, rowV_size]
  have hl : (rowV 32 (arrV q)).toList.length = 32 := by rw [Array.length_toList, rowV_size]
  have hel : ∀ i ∈ List.range 32, Tryd.prog.keyLits (m + 1) 5 (((rowV 32 (arrV q)).toList.drop (i * 1)).take 1) = some [Lit.int .u8 (q.getD i 0)] := fun i hi => by
    have hi' : i < 32 := List.mem_range.1 hi
    have e1 : ((rowV 32 (arrV q)).toList.drop (i * 1)).take 1 = [arrV q i] := by
      rw [Nat.mul_one, List.drop_eq_getElem_cons (by omega)]
      have : (rowV 32 (arrV q)).toList[i]? = some (arrV q i) := by rw [Array.getElem?_toList]; exact rowV_get _ _ _ hi'
      rw [List.getElem?_eq_getElem (by omega)] at this
      rw [Option.some.inj this]; rfl
    have hb := hq.2 i
    rw [e1]
    have hw : (Lit.int .u8 (q.getD i 0)).wf = true := by
      simp [Lit.wf, IntKind.min, IntKind.max, IntKind.signed, IntKind.bits]; simp at hb; omega
    simp only [Program.keyLits, arrV, Tryd.underlying5]
    rw [if_pos ⟨trivial, hw⟩]
  refine ⟨.string (keyBytes ((List.range 32).map fun i => [Lit.int .u8 (q.getD i 0)]).flatten), ?_⟩
  unfold keyOf
  simp only [Tryd.underlying32, hk, hform, Bool.and_self, if_true]
  rw [hm]
  generalize m + 1 = d at hel ⊢
  simp only [sumV, Value.cells, Program.keyLits, Tryd.underlying32, hl, hc, hc8, if_true]
  rw [mapM_all _ _ _ hel]
  rfl
theorem keyLaw : Go.WideMaps.KeyLaw Tryd.prog 32 := arrKey.law
theorem check_run (w : World) (em : Bool) {q : List Int} (hq : isSum q) : (Instr.checkKey em 10000 32 (sumV q)).run Tryd.prog w = .ok () w := by
  obtain ⟨l, hl⟩ := sumKey hq
  exact keyLaw.check w em hl

/-- a note: a sum, a text. -/
abbrev Nt := List Int × ByteArray
/-- where a sum stands first. -/
def firstAt (N : List Nt) (q : List Int) : Option Nat := N.findIdx? fun x => decide (x.1 = q)
theorem firstAt_lt {N : List Nt} {q : List Int} {i : Nat} (h : firstAt N q = some i) : i < N.length := by
  unfold firstAt at h
  exact (List.findIdx?_eq_some_iff_getElem.1 h).1
theorem firstAt_get {N : List Nt} {q : List Int} {i : Nat} (h : firstAt N q = some i) : ∃ s, N[i]? = some (q, s) := by
  unfold firstAt at h
  obtain ⟨hi, h1, _⟩ := List.findIdx?_eq_some_iff_getElem.1 h
  have : N[i].1 = q := by simpa using h1
  exact ⟨N[i].2, by rw [List.getElem?_eq_getElem hi, ← this]⟩
theorem firstAt_append {N : List Nt} {x : Nt} {q : List Int} : firstAt (N ++ [x]) q = (firstAt N q).or (if x.1 = q then some N.length else none) := by
  unfold firstAt
  rw [List.findIdx?_append]
  simp only [List.findIdx?_cons, List.findIdx?_nil]
  by_cases h : x.1 = q <;> simp [h]
/-- the map of some notes, its memory in F. -/
def mapAt (w : World) (F : Nat → Prop) (mv : Value) (N : List Nt) : Prop :=
  (mv = .map none ∧ N = []) ∨ ∃ (mb : Nat) (es : Array MapEntry) (clock : Nat), mv = .map (some mb) ∧ F mb ∧ w.heap[mb]? = some (.map es clock) ∧
    (∀ e ∈ es.toList, ∃ (q : List Int) (i : Nat), isSum q ∧ e.key = sumV q ∧ firstAt N q = some i ∧ e.val = .int .i64 (i : Int)) ∧ ∀ (q : List Int) (i : Nat), isSum q → firstAt N q = some i → ∃ e ∈ es.toList, e.key = sumV q
theorem zero3 (w : World) : (zeroValue 3).run Tryd.prog w = .ok (.int .i64 0) w := by kernel_rfl
theorem look_run {w : World} {F : Nat → Prop} {mv : Value} {N : List Nt} (h : mapAt w F mv N) {q : List Int} (hq : isSum q) :
    (Instr.lookup 103 mv (sumV q) true).run Tryd.prog w = .ok (.tuple #[.int .i64 (((firstAt N q).getD 0 : Nat) : Int), .bool (firstAt N q).isSome]) w := by
  obtain ⟨l, hl⟩ := sumKey hq
  rcases h with ⟨rfl, rfl⟩ | ⟨mb, es, clock, rfl, _, hb, h1, h2⟩
  · have e0 : firstAt [] q = none := rfl
    have hck := check_run w true hq
    have hf : (Instr.findKey 32 (sumV q) []).run Tryd.prog w = .ok none w := by
      simp [Instr.findKey, run_underlying Tryd.underlying32, Instr.findNow]
    simp [Instr.lookup, run_underlying Tryd.underlying103, hck, hf, zero3, e0]
  · have hck := check_run w es.isEmpty hq
    have hall : ∀ e ∈ es.toList, ∃ l, keyOf Tryd.prog 32 e.key = some l := fun e he => by
      obtain ⟨q', i, hq', hk, _⟩ := h1 e he
      rw [hk]; exact sumKey hq'
    rcases keyLaw.find w hl es.toList hall with ⟨hf, hne⟩ | ⟨j, e, hf, hj, hk⟩
    · have e0 : firstAt N q = none := by
        cases hfa : firstAt N q with
        | none => rfl
        | some i =>
          obtain ⟨e, he, hk⟩ := h2 q i hq hfa
          exact absurd hk (hne e he)
      simp [Instr.lookup, run_underlying Tryd.underlying103, MapKept.run_getObj_map hb, hck, hf, zero3, e0]
    · obtain ⟨q', i, hq', hk', hfa, hv⟩ := h1 e (List.mem_of_getElem? hj)
      obtain rfl : q' = q := sumV_inj hq' hq (hk'.symm.trans hk)
      simp [Instr.lookup, run_underlying Tryd.underlying103, MapKept.run_getObj_map hb, hck, hf, hfa, hv]
end Go.Proofs.YtgchnobifidjcaaDoor

/- Notes, and slices of them; frames. -/
namespace Go.Proofs.YtgchnobifidjcaaDoor
set_option linter.unusedSimpArgs false
set_option linter.unusedVariables false
open Go.RowKit Go.Deep

/-- NOTHING OUTSIDE F HAS TURNED. -/
structure Fr (F : Nat → Prop) (w w' : World) : Prop where
  os : w'.os = w.os
  tape : w'.tape = w.tape
  output : w'.output = w.output
  size : w.heap.size ≤ w'.heap.size
  block : ∀ k, k < w.heap.size → ¬ F k → w'.heap[k]? = w.heap[k]?
namespace Fr
variable {F G : Nat → Prop} {w w' w'' : World}
theorem refl (F : Nat → Prop) (w : World) : Fr F w w := ⟨rfl, rfl, rfl, Nat.le_refl _, fun _ _ _ => rfl⟩
theorem trans (h : Fr F w w') (k : Fr G w' w'') (hG : ∀ i, i < w.heap.size → G i → F i) : Fr F w w'' :=
  ⟨k.os.trans h.os, k.tape.trans h.tape, k.output.trans h.output, Nat.le_trans h.size k.size, fun i hi hn => (k.block i (Nat.lt_of_lt_of_le hi h.size) (fun g => hn (hG i hi g))).trans (h.block i hi hn)⟩
theorem of_below (F : Nat → Prop) (h : Below w.heap.size w w') : Fr F w w' := ⟨h.os, h.tape, h.output, h.size, fun i hi _ => h.block i hi⟩
theorem below (h : Fr F w w') {B : Nat} (hF : ∀ k, F k → B ≤ k) (hB : B ≤ w.heap.size) : Below B w w' :=
  ⟨h.os, h.tape, h.output, h.size, fun i hi => h.block i (Nat.lt_of_lt_of_le hi hB) (fun f => by have := hF i f; omega)⟩
theorem drew (h : Fr F w w') : Fr F w w'.drew := ⟨h.os, h.tape, h.output, h.size, h.block⟩
theorem mono (h : Fr F w w') (hG : ∀ k, F k → G k) : Fr G w w' := ⟨h.os, h.tape, h.output, h.size, fun i hi hn => h.block i hi (fun f => hn (hG i f))⟩
theorem grown {row : Option Nat} (h : w.grownBy w' row) (hr : ∀ k, row = some k → F k) : Fr F w w' :=
  ⟨h.os, h.tape, h.output, h.size, fun i hi hn => h.block i hi (fun e => hn (hr i e.symm))⟩
theorem setCell (h : Fr F w w') {p : Addr} (hp : F p.block ∨ w.heap.size ≤ p.block) (v : Value) : Fr F w (w'.setCell p v) :=
  ⟨h.os, h.tape, h.output, by rw [nblk_setCell]; exact h.size, fun k hk hn => (blk_setCell_other _ _ _ _ (by rintro rfl; rcases hp with hp | hp; exact hn hp; omega)).trans (h.block k hk hn)⟩
theorem alloc (h : Fr F w w') (o : Obj) : Fr F w (w'.alloc o) :=
  ⟨h.os, h.tape, h.output, by have := h.size; simp; omega, fun k hk hn => (blk_alloc_lt _ _ _ (Nat.lt_of_lt_of_le hk h.size)).trans (h.block k hk hn)⟩
end Fr

/-- a note's cells. -/
def noteV (x : Nt) (j : Nat) : Value := if j < 32 then arrV x.1 j else .string x.2
def noteA (x : Nt) : Value := .agg (rowV 33 (noteV x))
def noteL (x : Nt) : List Value := (rowV 33 (noteV x)).toList
theorem noteL_length (x : Nt) : (noteL x).length = 33 := by simp [noteL, rowV_size]
theorem noteL_get (x : Nt) (j : Nat) (h : j < 33) : (noteL x)[j]? = some (noteV x j) := by rw [noteL, Array.getElem?_toList]; exact rowV_get _ _ _ h
theorem noteV_one (x : Nt) (j : Nat) : (noteV x j).oneCell' = true := by unfold noteV arrV; split <;> rfl
theorem notes_length : ∀ N : List Nt, (N.flatMap noteL).length = N.length * 33
  | [] => rfl
  | x :: N => by rw [List.flatMap_cons, List.length_append, noteL_length, notes_length N, List.length_cons]; omega
theorem notes_get : ∀ (N : List Nt) (i j : Nat) (x : Nt), N[i]? = some x → j < 33 → (N.flatMap noteL)[i * 33 + j]? = some (noteV x j)
  | [], i, j, x, h, _ => by simp at h
  | y :: N, 0, j, x, h, hj => by
    have e : y = x := by simpa using h
    subst e
    rw [List.flatMap_cons, Nat.zero_mul, Nat.zero_add, List.getElem?_append_left (by rw [noteL_length]; exact hj)]
    exact noteL_get _ _ hj
  | y :: N, i + 1, j, x, h, hj => by
    rw [List.flatMap_cons, List.getElem?_append_right (by rw [noteL_length]; omega), noteL_length, show (i + 1) * 33 + j - 33 = i * 33 + j by omega]
    exact notes_get N i j x (by simpa using h) hj
/-- a slice of notes of the book's own. -/
def listAt (w : World) (F : Nat → Prop) (v : Value) (N : List Nt) : Prop := w.ownsRow 0 107 33 v N.length (N.flatMap noteL) ∧ ∀ k, v.ownBlock = some k → F k
theorem listAt_nil (w : World) (F : Nat → Prop) : listAt w F (.slice none 0 0) [] := ⟨⟨rfl, Or.inl ⟨rfl, rfl⟩⟩, fun k hk => by cases hk⟩
theorem listAt.shape {w : World} {F : Nat → Prop} {v : Value} {N : List Nt} (h : listAt w F v N) : ∃ a cap, v = .slice a N.length cap ∧ N.length ≤ cap ∧ cap ≤ maxLen ∧ ∀ i x, N[i]? = some x → ∃ g, a = some ⟨g, 0, none⟩ ∧ F g ∧ g < w.heap.size ∧ ∀ j, j < 33 → w.cell? ⟨g, i * 33 + j, none⟩ = some (noteV x j) := by
  obtain ⟨⟨hl, h | ⟨g, cap, cur, rfl, _, hb, hc, hm, hs, ht⟩⟩, hF⟩ := h
  · have e : N = [] := List.length_eq_zero_iff.1 h.2
    subst e
    exact ⟨none, 0, h.1, by simp, by unfold maxLen; omega, fun i x hx => by simp at hx⟩
  · refine ⟨_, cap, rfl, hc, hm, fun i x hx => ⟨g, rfl, hF g rfl, (Array.getElem?_eq_some_iff.1 hb).1, fun j hj => ?_⟩⟩
    rw [cell_of_row _ _ _ _ _ _ hb]
    have hi : i < N.length := (List.getElem?_eq_some_iff.1 hx).1
    have := notes_get N i j x hx hj
    rw [← ht, List.getElem?_take, if_pos (by have := Nat.mul_le_mul_right 33 (show i + 1 ≤ N.length from hi); omega), Array.getElem?_toList] at this
    exact this
theorem listAt.far {w w' : World} {F G : Nat → Prop} {v : Value} {N : List Nt} (h : listAt w F v N) (hb : ∀ k, F k → k < w.heap.size → w'.heap[k]? = w.heap[k]?) (hG : ∀ k, F k → G k) : listAt w' G v N := by
  obtain ⟨⟨hl, h | ⟨g, cap, cur, rfl, hz, hg, hr⟩⟩, hF⟩ := h
  · exact ⟨⟨hl, Or.inl h⟩, fun k hk => hG k (hF k hk)⟩
  · exact ⟨⟨hl, Or.inr ⟨g, cap, cur, rfl, hz, by rw [hb g (hF g rfl) (Array.getElem?_eq_some_iff.1 hg).1]; exact hg, hr⟩⟩, fun k hk => hG k (hF k hk)⟩
theorem mapAt.far {w w' : World} {F G : Nat → Prop} {v : Value} {N : List Nt} (h : mapAt w F v N) (hb : ∀ k, F k → k < w.heap.size → w'.heap[k]? = w.heap[k]?) (hG : ∀ k, F k → G k) : mapAt w' G v N := by
  rcases h with h | ⟨mb, es, clock, rfl, hF, hg, h1, h2⟩
  · exact Or.inl h
  · exact Or.inr ⟨mb, es, clock, rfl, hG _ hF, by rw [hb mb hF (Array.getElem?_eq_some_iff.1 hg).1]; exact hg, h1, h2⟩
theorem infoNote : (Tryd.prog.info? 107).map (fun i => (i.zero, i.size, i.bytes)) = some (some (.agg (rowV 33 (noteV (List.replicate 32 0, ByteArray.empty)))), 33, 48) := by kernel_rfl
theorem run_build_note (g : Nat → Value) (w : World) : (Instr.buildSlice 102 1 #[(0, .agg (rowV 33 g))]).run Tryd.prog w = .ok (.slice (some ⟨w.heap.size, 0, none⟩) 1 1) (w.alloc (.cells (rowV 33 g) 107)) := by
  show (_ : Result Value) = _
  kernel_rfl
/-- append(n.list, fresh). -/
theorem note_append_run (w : World) (F : Nat → Prop) (v : Value) (N : List Nt) (x : Nt) (h : listAt w F v N) (hs : N.length < 1000000) (hF : ∀ k, F k → k < w.heap.size) :
    ∃ v' w', (Builtin.append_ #[102, 102] 102 #[v, .slice (some ⟨w.heap.size, 0, none⟩) 1 1]).run Tryd.prog (w.alloc (.cells (rowV 33 (noteV x)) 107)) = .ok v' w' ∧
      listAt w' (fun k => F k ∨ (w.heap.size ≤ k ∧ k < w'.heap.size)) v' (N ++ [x]) ∧ (w.alloc (.cells (rowV 33 (noteV x)) 107)).grownBy w' v.ownBlock := by
  have hbk : ∀ k, F k → k < w.heap.size → (w.alloc (.cells (rowV 33 (noteV x)) 107)).heap[k]? = w.heap[k]? := fun k _ hk => blk_alloc_lt _ _ _ hk
  have h1 := h.far hbk (fun k hk => hk)
  cases hq : Tryd.prog.info? 107 with
  | none => have := infoNote; simp [hq] at this
  | some i =>
    have hi := infoNote
    simp only [hq, Option.map_some, Option.some.injEq, Prod.mk.injEq] at hi
    obtain ⟨hz, hsz, hby⟩ := hi
    obtain ⟨g, cap, w', hr, ho, hg, hat, hlt⟩ := run_append_lies (P := Tryd.prog) (w.alloc (.cells (rowV 33 (noteV x)) 107)) 102 102 0 107 i _ 33 48 Tryd.underlying102 hq hz hsz hby (by simp [Value.cells, rowV_size]) (by omega)
      v N.length _ h1.1 ⟨w.heap.size, 0, none⟩ 1 1 (noteL x) (by rw [noteL_length]) (fun j u hu => by
        rw [Addr.add_mid, Nat.zero_add]
        have hj : j < 33 := by
          by_cases hj : j < 33
          · exact hj
          · rw [List.getElem?_eq_none (by rw [noteL_length]; omega)] at hu; cases hu
        rw [noteL_get x j hj] at hu
        rw [(rowIs_box w 107 33 (noteV x)).cell hj]; exact hu)
      (fun u hu => by
        rw [noteL, Array.mem_toList_iff] at hu
        obtain ⟨k, hk, rfl⟩ := Array.mem_iff_getElem.1 hu
        have hk' : k < 33 := by rw [rowV_size] at hk; exact hk
        have := rowV_get 33 (noteV x) k hk'
        rw [Array.getElem?_eq_getElem hk] at this
        rw [Option.some.inj this]; exact noteV_one _ _) (by omega) (by unfold maxLen; omega) (by omega) (Nat.zero_le _) (w.heap.size + 1) (by simp)
    refine ⟨_, w', hr, ⟨?_, fun k hk => ?_⟩, hg⟩
    · rw [List.flatMap_append, List.length_append, List.length_singleton]
      simpa using ho
    · have hk' : g = k := by simpa [Value.ownBlock] using hk
      subst hk'
      rcases hat with h2 | h2
      · exact Or.inl (h.2 g h2)
      · exact Or.inr ⟨by omega, hlt⟩
/-- a struct's field of 32 cells. -/
theorem run_part_sum (w : World) (x : Nt) : (part 32 (rowV 33 (noteV x)) 0).run Tryd.prog w = .ok (sumV x.1) w := by
  have e : (rowV 33 (noteV x)).extract 0 (0 + 32) = rowV 32 (arrV x.1) := rowV_eq (by simp [rowV_size]) fun i hi => by
    rw [Array.getElem?_extract, if_pos (by rw [rowV_size]; omega), Nat.zero_add, rowV_get _ _ _ (by omega), noteV, if_pos hi]
  have hagg : (isAgg 32).run Tryd.prog w = .ok true w := by
    unfold isAgg
    rw [Sem.run_bind, run_underlying Tryd.underlying32 w]
    simp
  have hsz : (sizeOf 32).run Tryd.prog w = .ok 32 w := by kernel_rfl
  simp [part, Sem.run_bind, hagg, hsz, sumV, e]
theorem run_part_text (w : World) (x : Nt) : (part 9 (rowV 33 (noteV x)) 32).run Tryd.prog w = .ok (.string x.2) w := by
  have hagg : (isAgg 9).run Tryd.prog w = .ok false w := by
    unfold isAgg
    rw [Sem.run_bind, run_underlying Tryd.underlying9 w]
    simp
  simp [part, Sem.run_bind, hagg, rowV_get 33 (noteV x) 32 (by omega), noteV]
theorem arrEq_list {p q : List Int} (hp : isSum p) (hq : isSum q) : arrEq 32 (fun i => p.getD i 0) (fun i => q.getD i 0) = decide (p = q) := by
  rw [Bool.eq_iff_iff, arrEq_iff, decide_eq_true_iff]
  constructor
  · intro h
    exact sumV_inj hp hq (congrArg Value.agg (rowV_congr fun i hi => by simp only [arrV]; rw [h i hi]))
  · rintro rfl i _; rfl
theorem run_eq_sums (w : World) (d : Nat) {p q : List Int} (hp : isSum p) (hq : isSum q) : (Op.equalIn (d + 2) 32 (sumV p) (sumV q)).run Tryd.prog w = .ok (decide (p = q)) w := by
  have hc : Tryd.prog.cellsOf 5 = 1 := by kernel_rfl
  have hi : (Tryd.prog.info? 5).isSome = true := by kernel_rfl
  obtain ⟨i, hi'⟩ := Option.isSome_iff_exists.1 hi
  have h2 := run_eqItems_ints (P := Tryd.prog) w d 5 .u8 Tryd.underlying5 32 (fun i => p.getD i 0) (fun i => q.getD i 0) (List.range 32) (fun i hi => List.mem_range.1 hi)
  unfold sumV
  rw [run_equalIn_array w (d + 1) _ _ Tryd.underlying32 hi', hc, ← arrEq_list hp hq]
  exact h2
/-- '==' of two notes. -/
theorem run_eq_notes (w : World) {x y : Nt} (hx : isSum x.1) (hy : isSum y.1) : (Op.equalIn 10000 107 (noteA x) (noteA y)).run Tryd.prog w = .ok (decide (x = y)) w := by
  have hu : Tryd.prog.underlying 107 = some (.struct (Tryd.prog.fieldsOf 107)) := by kernel_rfl
  have hs : Tryd.prog.stoodInHeld 107 = false := by kernel_rfl
  have hf : ∃ f1 f2 : Field, (Tryd.prog.fieldsOf 107).toList = [f1, f2] ∧ f1.name ≠ "_" ∧ f1.type = 32 ∧ f1.offset = 0 ∧ f2.name ≠ "_" ∧ f2.type = 9 ∧ f2.offset = 32 := by
    have hm : (Tryd.prog.fieldsOf 107).toList.map (fun f => (f.name, f.type, f.offset)) = [("sum", 32, 0), ("text", 9, 32)] := by kernel_rfl
    match hl : (Tryd.prog.fieldsOf 107).toList with
    | [] => rw [hl] at hm; simp at hm
    | [_] => rw [hl] at hm; simp at hm
    | [f1, f2] =>
      rw [hl] at hm
      simp only [List.map_cons, List.map_nil, List.cons.injEq, Prod.mk.injEq, and_true] at hm
      obtain ⟨⟨n1, t1, o1⟩, n2, t2, o2⟩ := hm
      exact ⟨f1, f2, rfl, by rw [n1]; decide, t1, o1, by rw [n2]; decide, t2, o2⟩
    | _ :: _ :: _ :: _ => rw [hl] at hm; simp at hm
  obtain ⟨f1, f2, he, a1, a2, a3, b1, b2, b3⟩ := hf
  unfold noteA
  rw [run_equalIn_struct w 9999 _ _ _ hu hs, he]
  simp only [Op.eqFields, a1, b1, a2, a3, b2, b3, ne_eq, not_false_eq_true, if_true, Sem.run_bind, run_part_sum, run_part_text, Result.andThen_ok]
  rw [run_eq_sums w 9997 hx hy]
  simp only [Result.andThen_ok]
  obtain ⟨p, s⟩ := x
  obtain ⟨q, t⟩ := y
  by_cases h : p = q
  · subst h
    have ht := run_part_text w (p, s)
    have ht2 := run_part_text w (p, t)
    have he : (Op.equalIn 9999 9 (.string s) (.string t)).run Tryd.prog w = .ok (s.toList == t.toList) w := run_equalIn_string w 9998 9 s t Tryd.underlying9
    have hd : (s.toList == t.toList) = decide (s = t) := by
      rw [Bool.eq_iff_iff, beq_iff_eq, decide_eq_true_iff, ByteArray.toList_eq, ByteArray.toList_eq]
      exact ⟨fun h => ByteArray.ext (Array.toList_inj.1 h), fun h => by rw [h]⟩
    rw [hd] at he
    simp only [decide_true, Bool.not_true, Bool.false_eq_true, if_false, Sem.run_bind, ht, ht2, he, Result.andThen_ok]
    by_cases h2 : s = t
    · subst h2; simp
    · simp [h2]
  · simp [h]
end Go.Proofs.YtgchnobifidjcaaDoor

/- A region that draws its order, walked by hand: operations that are fixed under S are taken first; a whole row is loaded by its fact; a call is met by its contract. -/
namespace Go.Proofs.YtgchnobifidjcaaDoor
open Go.RowKit Go.Deep

section
variable {P : Program}
/-- A LOAD OF A WHOLE ARRAY OR STRUCT, in a region that has guards. -/
theorem wpList_load_w {ops : Array Oper} {rest : List Oper} {op : Oper} {a : Act} {w : World} {Q : Exit → Act → World → Prop} (ty : TypeId) (x : Operand) (ho : op.op = .load ty x) (hw : Region.wanted op (yielded ops a.tmps) = true)
    (b o m : Nat) (g : Nat → Value) (hx : a.eval x = .pointer (some ⟨b, o, none⟩)) (d : TypeDesc) (hu : P.underlying ty = some d) (hd : d.isRow = true) (hi : (P.info? ty).map (·.size) = some m)
    (hc : ∀ i, i < m → w.cell? ⟨b, o + i, none⟩ = some (g i))
    (h : wpList P ops Q rest (a.put op.dst (.agg (rowV m g))) w) : wpList P ops Q (op :: rest) a w := by
  unfold wpList
  rw [if_pos hw]
  refine Or.inl (wp_load_mid ty x ho b o hx (rowV m g).toList d (range_of_cells hc) hu hd ?_ ?_)
  · rw [hi, Array.length_toList, rowV_size]
  · rw [Array.toArray_toList]; exact h
end
section
variable {P : Program} {md : Region.Mode} {l : List Oper} {Q : Exit → Act → World → Prop} {S : World → Prop}
theorem list_toArray_get (l : List Oper) (i : Nat) : l.toArray[i]? = l[i]? := by simp
theorem take_op {i : Nat} {oi : Oper} {v : Value} {fuel : Nat} {listed : Array Bool} {a : Act} {w : World} (hi : l[i]? = some oi)
    (hs : Region.noSelect l.toArray = true) (hf : Region.free md l.toArray listed i = true) (hr : (Region.ready md l.toArray listed).contains i = true)
    (hQ : ∀ c a w, Q (.panic c) (a.put oi.dst v) w → Q (.panic c) a w) (hw : Region.wanted oi (yielded l.toArray a.tmps) = true) (hS : S w) (hy : ∀ w, S w → (execOp a.eval oi).run P w = .ok (.value v) w)
    (h : wpAnyH P md l.toArray Q S fuel (listed.setIfInBounds i true) (a.put oi.dst v) w) : wpAnyH P md l.toArray Q S (fuel + 1) listed a w :=
  wpAnyH_take ((list_toArray_get l i).trans hi) hs hf hr hQ (Or.inl ⟨hw, hy⟩) hS h
/-- an operation whose guard says no. -/
theorem take_not {i : Nat} {oi : Oper} {fuel : Nat} {listed : Array Bool} {a : Act} {w : World} (hi : l[i]? = some oi)
    (hs : Region.noSelect l.toArray = true) (hf : Region.free md l.toArray listed i = true) (hr : (Region.ready md l.toArray listed).contains i = true)
    (hQ : ∀ c a w, Q (.panic c) (a.put oi.dst undef) w → Q (.panic c) a w) (hw : Region.wanted oi (yielded l.toArray a.tmps) = false) (hS : S w)
    (h : wpAnyH P md l.toArray Q S fuel (listed.setIfInBounds i true) (a.put oi.dst undef) w) : wpAnyH P md l.toArray Q S (fuel + 1) listed a w :=
  wpAnyH_take ((list_toArray_get l i).trans hi) hs hf hr hQ (Or.inr ⟨hw, rfl⟩) hS h
theorem take_load {i : Nat} {oi : Oper} {fuel : Nat} {listed : Array Bool} {a : Act} {w : World} (hi : l[i]? = some oi)
    (hs : Region.noSelect l.toArray = true) (hf : Region.free md l.toArray listed i = true) (hr : (Region.ready md l.toArray listed).contains i = true)
    (ty : TypeId) (x : Operand) (ho : oi.op = .load ty x) (b o m : Nat) (g : Nat → Value) (hx : a.eval x = .pointer (some ⟨b, o, none⟩)) (d : TypeDesc) (hu : P.underlying ty = some d) (hd : d.isRow = true) (hn : (P.info? ty).map (·.size) = some m)
    (hQ : ∀ c a w, Q (.panic c) (a.put oi.dst (.agg (rowV m g))) w → Q (.panic c) a w) (hw : Region.wanted oi (yielded l.toArray a.tmps) = true) (hS : S w)
    (hrow : ∀ w, S w → ∀ i, i < m → w.cell? ⟨b, o + i, none⟩ = some (g i))
    (h : wpAnyH P md l.toArray Q S fuel (listed.setIfInBounds i true) (a.put oi.dst (.agg (rowV m g))) w) : wpAnyH P md l.toArray Q S (fuel + 1) listed a w := by
  refine wpAnyH_take ((list_toArray_get l i).trans hi) hs hf hr hQ ?_ hS h
  have e : (rowV m g) = (rowV m g).toList.toArray := by rw [Array.toArray_toList]
  rw [e]
  exact yieldsIf_load_mid hw ty x ho b o hx (rowV m g).toList d (fun w hw => range_of_cells (hrow w hw)) hu hd (by rw [hn, Array.length_toList, rowV_size])
/-- the one operation that is left to come up. -/
theorem take_one {i : Nat} {oi : Oper} {fuel : Nat} {listed : Array Bool} {a : Act} {w : World} (hi : l[i]? = some oi) (hr : Region.ready md l.toArray listed = [i]) (hw : Region.wanted oi (yielded l.toArray a.tmps) = true)
    (h : ∀ K' : Act → World → Prop, Shut (∀ a w, S w → (S w → wpAnyH P md l.toArray Q S fuel (listed.setIfInBounds i true) a w) → K' a w) → Oper.wp P oi a w K' Q) : wpAnyH P md l.toArray Q S (fuel + 1) listed a w :=
  wpAnyH_ready hr (by simp) (AllReadyH.cons ((list_toArray_get l i).trans hi) (fun K' hK => by rw [if_pos hw]; exact h K' hK) AllReadyH.nil)
end
end Go.Proofs.YtgchnobifidjcaaDoor

/- A region that draws its order: two reads that may come in either order. -/
namespace Go.Proofs.YtgchnobifidjcaaDoor
open Go.RowKit Go.Deep

section
variable {P : Program} {md : Region.Mode} {l : List Oper} {Q : Exit → Act → World → Prop} {S : World → Prop}
/-- an operation, by what its run comes to. -/
theorem wp_of_run {o : Oper} {a : Act} {w w' : World} {K : Act → World → Prop} {v : Value} (hr : (execOp a.eval o).run P w = .ok (.value v) w') (h : K (a.put o.dst v) w') : Oper.wp P o a w K Q := by
  unfold Oper.wp
  rw [hr]; exact h
/-- the one operation that is left to come up, by what its run comes to. -/
theorem take_run {i : Nat} {oi : Oper} {v : Value} {fuel : Nat} {listed : Array Bool} {a : Act} {w w' : World} (hi : l[i]? = some oi) (hr : Region.ready md l.toArray listed = [i]) (hw : Region.wanted oi (yielded l.toArray a.tmps) = true)
    (hy : (execOp a.eval oi).run P w = .ok (.value v) w') (hS : S w') (h : wpAnyH P md l.toArray Q S fuel (listed.setIfInBounds i true) (a.put oi.dst v) w') : wpAnyH P md l.toArray Q S (fuel + 1) listed a w :=
  take_one hi hr hw fun _ hK => wp_of_run hy (hK.out _ _ hS fun _ => h)
/-- two operations that may come up in either order. -/
theorem take_two {i j : Nat} {oi oj : Oper} {u v : Value} {fuel : Nat} {listed : Array Bool} {a : Act} {w : World} (hi : l[i]? = some oi) (hj : l[j]? = some oj) (hr : Region.ready md l.toArray listed = [i, j]) (hw : Region.wanted oi (yielded l.toArray a.tmps) = true) (hv : Region.wanted oj (yielded l.toArray a.tmps) = true) (hS : S w)
    (hy : (execOp a.eval oi).run P w = .ok (.value u) w) (hz : (execOp a.eval oj).run P w = .ok (.value v) w)
    (h1 : wpAnyH P md l.toArray Q S fuel (listed.setIfInBounds i true) (a.put oi.dst u) w) (h2 : wpAnyH P md l.toArray Q S fuel (listed.setIfInBounds j true) (a.put oj.dst v) w) : wpAnyH P md l.toArray Q S (fuel + 1) listed a w :=
  wpAnyH_ready hr (by simp) (AllReadyH.cons ((list_toArray_get l i).trans hi) (fun K' hK => by rw [if_pos hw]; exact wp_of_run hy (hK.out _ _ hS fun _ => h1))
    (AllReadyH.cons ((list_toArray_get l j).trans hj) (fun K' hK => by rw [if_pos hv]; exact wp_of_run hz (hK.out _ _ hS fun _ => h2)) AllReadyH.nil))
end
end Go.Proofs.YtgchnobifidjcaaDoor

/- A region that draws its order: what holds from some operation on may be held from there on. -/
namespace Go.Proofs.YtgchnobifidjcaaDoor
open Go.RowKit Go.Deep

section
variable {P : Program} {md : Region.Mode} {l : List Oper} {Q : Exit → Act → World → Prop}
theorem wpAnyH_stronger {ops : Array Oper} {S S' : World → Prop} (hS : ∀ w, S' w → S w) : ∀ (fuel : Nat) (listed : Array Bool) (a : Act) (w : World), wpAnyH P md ops Q S' fuel listed a w → wpAnyH P md ops Q S fuel listed a w
  | 0, _, _, _, h => h
  | fuel + 1, _, _, _, h => ⟨h.1, fun i hi => wpOp_mono (fun a' w' h' => ⟨hS w' h'.1, wpAnyH_stronger hS fuel _ a' w' h'.2⟩) (h.2 i hi)⟩
variable {S : World → Prop}
/-- two operations of which either may come up. -/
theorem take_pair {i j : Nat} {oi oj : Oper} {fuel : Nat} {listed : Array Bool} {a : Act} {w : World} (hi : l[i]? = some oi) (hj : l[j]? = some oj) (hr : Region.ready md l.toArray listed = [i, j])
    (hw : Region.wanted oi (yielded l.toArray a.tmps) = true) (hv : Region.wanted oj (yielded l.toArray a.tmps) = true)
    (h1 : ∀ K' : Act → World → Prop, Shut (∀ a w, S w → (S w → wpAnyH P md l.toArray Q S fuel (listed.setIfInBounds i true) a w) → K' a w) → Oper.wp P oi a w K' Q)
    (h2 : ∀ K' : Act → World → Prop, Shut (∀ a w, S w → (S w → wpAnyH P md l.toArray Q S fuel (listed.setIfInBounds j true) a w) → K' a w) → Oper.wp P oj a w K' Q) : wpAnyH P md l.toArray Q S (fuel + 1) listed a w :=
  wpAnyH_ready hr (by simp) (AllReadyH.cons ((list_toArray_get l i).trans hi) (fun K' hK => by rw [if_pos hw]; exact h1 K' hK)
    (AllReadyH.cons ((list_toArray_get l j).trans hj) (fun K' hK => by rw [if_pos hv]; exact h2 K' hK) AllReadyH.nil))
end
end Go.Proofs.YtgchnobifidjcaaDoor

namespace Go.Proofs.YtgchnobifidjcaaDoor
open Go.RowKit Go.Deep

section
variable {P : Program}
theorem wp_build_run {o : Oper} {a : Act} {w w' : World} {K : Act → World → Prop} {Q : Exit → Act → World → Prop} {v r : Value} (t : TypeId) (n i : Nat) (x : Operand)
    (ho : o.op = .buildSlice t n #[(i, x)]) (hx : a.eval x = v) (hr : (Instr.buildSlice t n #[(i, v)]).run P w = .ok r w') (h : K (a.put o.dst r) w') : o.wp P a w K Q := by
  unfold Oper.wp execOp
  simp only [ho, List.map_toArray, List.map_cons, List.map_nil, hx, Sem.run_bind, hr, Result.andThen_ok, Sem.run_pure]
  exact h
theorem wpList_build_run {ops : Array Oper} {rest : List Oper} {o : Oper} {a : Act} {w w' : World} {Q : Exit → Act → World → Prop} {v r : Value} (hgd : o.guard = none) (t : TypeId) (n i : Nat) (x : Operand)
    (ho : o.op = .buildSlice t n #[(i, x)]) (hx : a.eval x = v) (hr : (Instr.buildSlice t n #[(i, v)]).run P w = .ok r w') (h : wpList P ops Q rest (a.put o.dst r) w') : wpList P ops Q (o :: rest) a w :=
  wpList_plain hgd fun _ hK => wp_build_run t n i x ho hx hr (hK _ _ h)
end
end Go.Proofs.YtgchnobifidjcaaDoor

/- slices.Index, slices.Contains of notes. -/
namespace Go.Proofs.YtgchnobifidjcaaDoor
set_option linter.unusedSimpArgs false
set_option linter.unusedVariables false
open Go.RowKit Go.Deep

set_option maxHeartbeats 1000000 in
set_option maxRecDepth 100000 in
theorem index_any (a : Option Addr) (m cap : Nat) (X : Nat → Nt) (x : Nt) (w : World) (hX : ∀ i, i < m → isSum (X i).1) (hx : isSum x.1) (hm : m ≤ maxLen)
    (hc : ∀ i, i < m → ∃ g o, a = some ⟨g, o, none⟩ ∧ g < w.heap.size ∧ ∀ j, j < 33 → w.cell? ⟨g, o + i * 33 + j, none⟩ = some (noteV (X i) j)) :
    Calls Tryd.prog 102 #[.slice a m cap, noteA x] w fun e w' => ∃ r : Int, e = .returned (.int .i64 r) ∧ ((0 ≤ r ∧ ∃ i, i < m ∧ X i = x) ∨ (r = -1 ∧ ∀ i, i < m → X i ≠ x)) ∧ Below w.heap.size w w' := by
  unfold maxLen at hm
  have q0 : (m : Int) ≤ 9223372036854775807 := by omega
  unfold noteA
  go_enter Tryd.func102, Tryd.ntmps102
  go_wp2
  have r0 := rowIs_box w 107 33 (noteV x)
  have hb0 : Below w.heap.size w (w.alloc (.cells (rowV 33 (noteV x)) 107)) := (Below.refl _ _).alloc (Nat.le_refl _) _
  go_loopw [8] (fun i wr => ∃ k : Nat, k ≤ m ∧ i = .int .i64 k ∧ (∀ j, j < k → X j ≠ x) ∧ Below (w.heap.size + 1) (w.alloc (.cells (rowV 33 (noteV x)) 107)) wr) (fun i _ => m - (intOf i).toNat)
  case atStart => exact ⟨0, by omega, rfl, fun j hj => by omega, Below.refl _ _⟩
  case round =>
    obtain ⟨k, hk, rfl, hne, hb⟩ := hrel
    have B0 : Hid _ := hb0
    have R0 : Hid _ := r0
    clear hb0 r0
    by_cases hlt : k < m
    · obtain ⟨g, o, rfl, hg, hcell⟩ := hc k hlt
      have b0 : (0 : Int) ≤ (k : Int) := by omega
      have b1 : (k : Int) < (m : Int) := by omega
      have XC : Hid (∀ wz, Below (w.heap.size + 1) (w.alloc (.cells (rowV 33 (noteV x)) 107)) wz → ∀ i, i < 33 → wz.cell? ⟨w.heap.size, 0 + i, none⟩ = some (noteV x i)) := (show ∀ wz, Below (w.heap.size + 1) (w.alloc (.cells (rowV 33 (noteV x)) 107)) wz → ∀ i, i < 33 → wz.cell? ⟨w.heap.size, 0 + i, none⟩ = some (noteV x i) from fun wz hz i hi => by
        rw [Nat.zero_add, hz.cell (p := ⟨w.heap.size, i, none⟩) (Nat.lt_succ_self _)]; exact World.rowIs.cell R0.out hi)
      have YC : Hid (∀ wz, Below (w.heap.size + 1) (w.alloc (.cells (rowV 33 (noteV x)) 107)) wz → ∀ i, i < 33 → wz.cell? ⟨g, o + k * 33 + i, none⟩ = some (noteV (X k) i)) := (show ∀ wz, Below (w.heap.size + 1) (w.alloc (.cells (rowV 33 (noteV x)) 107)) wz → ∀ i, i < 33 → wz.cell? ⟨g, o + k * 33 + i, none⟩ = some (noteV (X k) i) from fun wz hz i hi => by
        rw [hz.cell (p := ⟨g, o + k * 33 + i, none⟩) (show g < w.heap.size + 1 by omega), B0.out.cell (p := ⟨g, o + k * 33 + i, none⟩) hg]; exact hcell i hi)
      have heq : ∀ wz : World, (Op.equalIn 10000 107 (.agg (rowV 33 (noteV x))) (.agg (rowV 33 (noteV (X k))))).run Tryd.prog wz = .ok (decide (x = X k)) wz := fun wz => run_eq_notes wz hx (hX k hlt)
      have HB : Hid _ := hb
      have hne' : Hid _ := hne
      clear hcell hb hne
      go_upto_region 4 with fail
      go_cut [8, 16] from 8 to 18 (fun i c wx => i = .int .i64 (k : Int) ∧ c = .bool (decide (x = X k)) ∧ Below (w.heap.size + 1) (w.alloc (.cells (rowV 33 (noteV x)) 107)) wx)
      case first =>
        refine wp_region_noPanic ?_
        refine wp_region_held_drew (S := fun w' => Below (w.heap.size + 1) (w.alloc (.cells (rowV 33 (noteV x)) 107)) w') (by kernel_rfl) (HB.out.drew) (fun hHeld => ?_)
        refine take_load (i := 0) rfl (by kernel_rfl) (by kernel_rfl) (by kernel_rfl) 107 _ rfl w.heap.size 0 33 (noteV x) rfl _ Tryd.underlying107 rfl (by kernel_rfl) (fun _ _ _ h => h) rfl hHeld (fun wz hz => XC.out wz hz) ?_
        try simp only [Act.put, List.setIfInBounds_toArray, List.set_cons_zero, List.set_cons_succ]
        refine take_op (i := 1) (v := ?vi1) rfl (by kernel_rfl) (by kernel_rfl) (by kernel_rfl) (fun _ _ _ h => h) rfl hHeld ?yi1 ?ri1
        case yi1 => (intro wz hz; go_simp; first | done | with_reducible rfl)
        try simp only [Act.put, List.setIfInBounds_toArray, List.set_cons_zero, List.set_cons_succ]
        refine take_op (i := 2) (v := ?vi2) rfl (by kernel_rfl) (by kernel_rfl) (by kernel_rfl) (fun _ _ _ h => h) rfl hHeld ?yi2 ?ri2
        case yi2 => (intro wz hz; go_simp; first | done | with_reducible rfl)
        try simp only [Act.put, List.setIfInBounds_toArray, List.set_cons_zero, List.set_cons_succ]
        refine take_op (i := 3) (v := ?vi3) rfl (by kernel_rfl) (by kernel_rfl) (by kernel_rfl) (fun _ _ _ h => h) rfl hHeld ?yi3 ?ri3
        case yi3 => (intro wz hz; go_simp; first | done | with_reducible rfl)
        try simp only [Act.put, List.setIfInBounds_toArray, List.set_cons_zero, List.set_cons_succ]
        refine take_load (i := 4) rfl (by kernel_rfl) (by kernel_rfl) (by kernel_rfl) 107 _ rfl g (o + k * 33) 33 (noteV (X k)) rfl _ Tryd.underlying107 rfl (by kernel_rfl) (fun _ _ _ h => h) rfl hHeld (fun wz hz => YC.out wz hz) ?_
        try simp only [Act.put, List.setIfInBounds_toArray, List.set_cons_zero, List.set_cons_succ]
        refine take_op (i := 5) (v := ?vi5) rfl (by kernel_rfl) (by kernel_rfl) (by kernel_rfl) (fun _ _ _ h => h) rfl hHeld ?yi5 ?ri5
        case yi5 => (intro wz hz; have hez := heq wz; go_simp; first | done | with_reducible rfl)
        try simp only [Act.put, List.setIfInBounds_toArray, List.set_cons_zero, List.set_cons_succ]
        refine wpAnyH_done (by kernel_rfl) ?_ _
        refine NoPanic.normal ?_
        have HB2 : Hid _ := hHeld
        clear hHeld
        go_wp2_with fail
        go_meet
        case rel => exact ⟨rfl, rfl, HB2.out⟩
      case rest =>
        obtain ⟨rfl, rfl, hb2⟩ := hcut
        have HB2 : Hid _ := hb2
        clear hb2 HB XC YC heq
        by_cases hxe : x = X k
        · have hd : decide (x = X k) = true := decide_eq_true hxe
          rw [hd]
          go_wp2
          go_ret
          exact ⟨_, rfl, Or.inl ⟨by omega, k, hlt, hxe.symm⟩, B0.out.trans (HB2.out.mono (by omega))⟩
        · have hd : decide (x = X k) = false := decide_eq_false hxe
          rw [hd]
          go_wp2
          go_light
          refine ⟨⟨k + 1, by omega, by go_num, fun j hj => ?_, HB2.out⟩, by simp [intOf]; omega⟩
          by_cases e : j < k
          · exact hne'.out j e
          · obtain rfl : j = k := by omega
            exact fun h => hxe h.symm
    · obtain rfl : k = m := by omega
      have HB : Hid _ := hb
      have hne' : Hid _ := hne
      clear hb hne
      go_wp2
      go_ret
      exact ⟨_, rfl, Or.inr ⟨rfl, hne'.out⟩, B0.out.trans (HB.out.mono (by omega))⟩
set_option maxHeartbeats 1000000 in
set_option maxRecDepth 100000 in
theorem contains_any (a : Option Addr) (m cap : Nat) (X : Nat → Nt) (x : Nt) (w : World) (hX : ∀ i, i < m → isSum (X i).1) (hx : isSum x.1) (hm : m ≤ maxLen)
    (hc : ∀ i, i < m → ∃ g o, a = some ⟨g, o, none⟩ ∧ g < w.heap.size ∧ ∀ j, j < 33 → w.cell? ⟨g, o + i * 33 + j, none⟩ = some (noteV (X i) j)) :
    Calls Tryd.prog 85 #[.slice a m cap, noteA x] w fun e w' => ∃ r : Bool, e = .returned (.bool r) ∧ (r = true ↔ ∃ i, i < m ∧ X i = x) ∧ Below w.heap.size w w' := by
  have r0 := rowIs_box w 107 33 (noteV x)
  have hb0 : Below w.heap.size w (w.alloc (.cells (rowV 33 (noteV x)) 107)) := (Below.refl _ _).alloc (Nat.le_refl _) _
  have XX := index_any a m cap X x (w.alloc (.cells (rowV 33 (noteV x)) 107)) hX hx hm (fun i hi => by
    obtain ⟨g, o, h1, h2, h3⟩ := hc i hi
    exact ⟨g, o, h1, by simp; omega, fun j hj => (hb0.cell (p := ⟨g, o + i * 33 + j, none⟩) h2).trans (h3 j hj)⟩)
  unfold noteA at XX ⊢
  go_enter Tryd.func85, Tryd.ntmps85
  go_wp2_with (first | (refine wpList_load_seg rfl 107 _ rfl w.heap.size 0 33 (noteV x) rfl _ Tryd.underlying107 rfl (by kernel_rfl) (fun i hi => by rw [Nat.zero_add]; exact r0.cell hi) ?_))
  refine XX.mono ?_
  rintro e w1 ⟨r, rfl, hr, hb1⟩
  have HB : Hid _ := hb0.trans (hb1.mono (by simp))
  clear hb1 XX
  rcases hr with ⟨h0, hex⟩ | ⟨rfl, hall⟩
  · go_wp2
    go_ret
    exact ⟨_, rfl, ⟨fun _ => hex, fun _ => by simp⟩, HB.out⟩
  · go_wp2
    go_ret
    refine ⟨_, rfl, ⟨fun h => ?_, fun ⟨i, hi, he⟩ => absurd he (hall i hi)⟩, HB.out⟩
    simp at h
end Go.Proofs.YtgchnobifidjcaaDoor

/- A book's notes: find, add. -/
namespace Go.Proofs.YtgchnobifidjcaaDoor
set_option linter.unusedSimpArgs false
set_option linter.unusedVariables false
open Go.RowKit Go.Deep

section
variable {P : Program}
theorem results_cell_seg2 {fn : Func} {p u : Tmp} {ty : TypeId} (h : fn.results = #[.cell p ty, .tmp u]) (tmps : Array Value) (w : World) (g : Nat) (t : TypeId) (n : Nat) (f : Nat → Value) (d : TypeDesc)
    (hp : tmps.getD p undef = .pointer (some ⟨g, 0, none⟩)) (hu : P.underlying ty = some d) (hd : (match d with | .struct _ | .array _ _ => true | _ => false) = true) (hi : (P.info? ty).map (·.size) = some n)
    (hg : w.rowIs g t n f) : (results fn tmps).run P w = .ok (.tuple #[.agg (rowV n f), tmps.getD u undef]) w := by
  have hp' : tmps[p]?.getD undef = .pointer (some ⟨g, 0, none⟩) := by simpa using hp
  simp [results, h, hp', asAddr, run_loadVar_row w g t ty (rowV n f) (0, 0) d (rowIs_block hg) hu hd (by rw [hi, rowV_size])]
end

def zeroN : Nt := (List.replicate 32 0, ByteArray.empty)
theorem zeroN_sum : isSum zeroN.1 := ⟨by simp [zeroN], fun i => by
  have : (List.replicate 32 (0 : Int)).getD i 0 = 0 := by rw [List.getD_eq_getElem?_getD, List.getElem?_replicate]; split <;> rfl
  simp only [zeroN]; omega⟩
/-- the first note of a sum. -/
def foundN (N : List Nt) (q : List Int) : Nt := match firstAt N q with
  | some i => N.getD i zeroN
  | none => zeroN
def notesV (lv mv : Value) (c : Int) (j : Nat) : Value := if j = 0 then lv else if j = 1 then mv else .int .i64 c
/-- A BOOK's NOTES, in block nb; all their memory in F. -/
def notesAt (w : World) (F : Nat → Prop) (nb : Nat) (N : List Nt) (c : Int) : Prop :=
  ∃ lv mv, w.rowIs nb 105 3 (notesV lv mv c) ∧ F nb ∧ listAt w F lv N ∧ mapAt w F mv N ∧ (∀ x ∈ N, isSum x.1) ∧ ∀ k, F k → k < w.heap.size
theorem notesAt.far {w w' : World} {F : Nat → Prop} {nb : Nat} {N : List Nt} {c : Int} (h : notesAt w F nb N c) (hb : ∀ k, F k → k < w.heap.size → w'.heap[k]? = w.heap[k]?) (hs : w.heap.size ≤ w'.heap.size) : notesAt w' F nb N c := by
  obtain ⟨lv, mv, h1, h2, h3, h4, h5, h6⟩ := h
  exact ⟨lv, mv, h1.of_block (hb nb h2 (h6 nb h2)), h2, h3.far hb (fun _ h => h), h4.far hb (fun _ h => h), h5, fun k hk => Nat.lt_of_lt_of_le (h6 k hk) hs⟩
theorem notesAt.below {w w' : World} {F : Nat → Prop} {nb B : Nat} {N : List Nt} {c : Int} (h : notesAt w F nb N c) (hb : Below B w w') (hB : w.heap.size ≤ B) : notesAt w' F nb N c :=
  h.far (fun k _ hk => hb.block k (Nat.lt_of_lt_of_le hk hB)) hb.size
theorem notesAt.drew {w : World} {F : Nat → Prop} {nb : Nat} {N : List Nt} {c : Int} (h : notesAt w F nb N c) : notesAt w.drew F nb N c := h
theorem zero_note : ∀ w : World, (zeroValue 107).run Tryd.prog w = .ok (.agg (rowV 33 (noteV zeroN))) w := fun w => by kernel_rfl
theorem build_note : ∀ w : World, (Instr.build 107 #[]).run Tryd.prog w = .ok (.agg (rowV 33 (noteV zeroN))) w := fun w => by kernel_rfl

set_option maxHeartbeats 1000000 in
set_option maxRecDepth 100000 in
theorem find_any (F : Nat → Prop) (nb : Nat) (N : List Nt) (c : Int) (q : List Int) (w : World) (h : notesAt w F nb N c) (hq : isSum q) :
    Calls Tryd.prog 61 #[.pointer (some ⟨nb, 0, none⟩), sumV q] w fun e w' => e = .returned (.tuple #[noteA (foundN N q), .bool (firstAt N q).isSome]) ∧ Below w.heap.size w w' := by
  obtain ⟨lv, mv, h1, h2, h3, h4, h5, h6⟩ := h
  have hn := h6 nb h2
  have z33 : (Tryd.prog.info? 107).map (·.size) = some 33 := by kernel_rfl
  have hz := zero_note
  have hbn := build_note
  obtain ⟨w1, hw1⟩ : ∃ w1, w1 = w.alloc (.cells (rowV 32 (arrV q)) 32) := ⟨_, rfl⟩
  obtain ⟨w2, hw2⟩ : ∃ w2, w2 = w1.alloc (.cells (rowV 33 (noteV zeroN)) 107) := ⟨_, rfl⟩
  have s1 : w1.heap.size = w.heap.size + 1 := by rw [hw1]; simp
  have s2 : w2.heap.size = w.heap.size + 2 := by rw [hw2]; simp; omega
  have b1 : Below w.heap.size w w1 := by rw [hw1]; exact (Below.refl _ _).alloc (Nat.le_refl _) _
  have b2' : Below w1.heap.size w1 w2 := by rw [hw2]; exact (Below.refl _ _).alloc (Nat.le_refl _) _
  have b2 : Below w.heap.size w w2 := b1.trans (b2'.mono (by omega))
  have rq : w2.rowIs w.heap.size 32 32 (arrV q) := b2'.row (by rw [hw1]; exact rowIs_box w _ _ _) (by omega)
  have rn : w2.rowIs (w.heap.size + 1) 107 33 (noteV zeroN) := by rw [← s1, hw2]; exact rowIs_box w1 _ _ _
  have N2 : notesAt w2 F nb N c := notesAt.below ⟨lv, mv, h1, h2, h3, h4, h5, h6⟩ b2 (Nat.le_refl _)
  have c0 : ∀ wz, Below w2.heap.size w2 wz → wz.cell? ⟨nb, 0, none⟩ = some lv := fun wz hz => (hz.cell (p := ⟨nb, 0, none⟩) (show nb < w2.heap.size by omega)).trans ((b2.cell (p := ⟨nb, 0, none⟩) hn).trans (h1.cell (i := 0) (by omega)))
  have c1 : ∀ wz, Below w2.heap.size w2 wz → wz.cell? ⟨nb, 1, none⟩ = some mv := fun wz hz => (hz.cell (p := ⟨nb, 1, none⟩) (show nb < w2.heap.size by omega)).trans ((b2.cell (p := ⟨nb, 1, none⟩) hn).trans (h1.cell (i := 1) (by omega)))
  have lk : ∀ wz, Below w2.heap.size w2 wz → (Instr.lookup 103 mv (.agg (rowV 32 (arrV q))) true).run Tryd.prog wz = .ok (.tuple #[.int .i64 (((firstAt N q).getD 0 : Nat) : Int), .bool (firstAt N q).isSome]) wz := fun wz hz => by
    have h4' : mapAt wz F mv N := h4.far (fun k hk hl => ((hz.mono (show w.heap.size ≤ w2.heap.size by omega)).block k hl).trans (b2.block k hl)) (fun _ h => h)
    exact look_run h4' hq
  have qc : ∀ wz, Below w2.heap.size w2 wz → ∀ i, i < 32 → wz.cell? ⟨w.heap.size, 0 + i, none⟩ = some (arrV q i) := fun wz hz i hi => by
    rw [Nat.zero_add, hz.cell (p := ⟨w.heap.size, i, none⟩) (show w.heap.size < w2.heap.size by omega)]; exact rq.cell hi
  have C0 : Hid _ := c0
  have C1 : Hid _ := c1
  have LK : Hid _ := lk
  have QC : Hid _ := qc
  have B2 : Hid _ := b2
  have RN : Hid _ := rn
  have hls := h3.shape
  obtain ⟨la, lc, rfl, hlc, hlm, hcell⟩ := hls
  unfold maxLen at hlm
  clear c0 c1 lk qc b2 rn rq N2 b1 b2' h1 h3 h4
  unfold sumV noteA
  go_enter Tryd.func61, Tryd.ntmps61
  go_upto_region 1 with fail
  rw [← hw1, ← hw2]
  clear hw1 hw2
  go_cut [6, 7] (fun i t wx => i = .int .i64 (((firstAt N q).getD 0 : Nat) : Int) ∧ t = .bool (firstAt N q).isSome ∧ Below w2.heap.size w2 wx)
  case first =>
    refine wp_region_noPanic ?_
    refine wp_region_held_drew (S := fun w' => Below w2.heap.size w2 w') (by kernel_rfl) ((Below.refl _ _).drew) (fun hHeld => ?_)
    refine take_op (i := 0) (v := ?vf0) rfl (by kernel_rfl) (by kernel_rfl) (by kernel_rfl) (fun _ _ _ h => h) rfl hHeld ?yf0 ?rf0
    case yf0 => (intro wz hz; go_simp; first | done | with_reducible rfl)
    try simp only [Act.put, List.setIfInBounds_toArray, List.set_cons_zero, List.set_cons_succ]
    refine take_op (i := 1) (v := ?vf1) rfl (by kernel_rfl) (by kernel_rfl) (by kernel_rfl) (fun _ _ _ h => h) rfl hHeld ?yf1 ?rf1
    case yf1 => (intro wz hz; go_simp; first | done | with_reducible rfl)
    try simp only [Act.put, List.setIfInBounds_toArray, List.set_cons_zero, List.set_cons_succ]
    refine take_op (i := 2) (v := ?vf2) rfl (by kernel_rfl) (by kernel_rfl) (by kernel_rfl) (fun _ _ _ h => h) rfl hHeld ?yf2 ?rf2
    case yf2 => (intro wz hz; go_simp; first | done | with_reducible rfl)
    try simp only [Act.put, List.setIfInBounds_toArray, List.set_cons_zero, List.set_cons_succ]
    refine take_op (i := 3) (v := ?vf3) rfl (by kernel_rfl) (by kernel_rfl) (by kernel_rfl) (fun _ _ _ h => h) rfl hHeld ?yf3 ?rf3
    case yf3 => (intro wz hz; have hcz := C1.out wz hz; go_simp; first | done | with_reducible rfl)
    try simp only [Act.put, List.setIfInBounds_toArray, List.set_cons_zero, List.set_cons_succ]
    refine take_load (i := 4) rfl (by kernel_rfl) (by kernel_rfl) (by kernel_rfl) 32 _ rfl w.heap.size 0 32 (arrV q) rfl _ Tryd.underlying32 rfl (by kernel_rfl) (fun _ _ _ h => h) rfl hHeld (fun wz hz => QC.out wz hz) ?_
    try simp only [Act.put, List.setIfInBounds_toArray, List.set_cons_zero, List.set_cons_succ]
    refine take_op (i := 5) (v := ?vf5) rfl (by kernel_rfl) (by kernel_rfl) (by kernel_rfl) (fun _ _ _ h => h) rfl hHeld ?yf5 ?rf5
    case yf5 => (intro wz hz; have hlz := LK.out wz hz; go_simp; first | done | with_reducible rfl)
    try simp only [Act.put, List.setIfInBounds_toArray, List.set_cons_zero, List.set_cons_succ]
    refine take_op (i := 6) (v := ?vf6) rfl (by kernel_rfl) (by kernel_rfl) (by kernel_rfl) (fun _ _ _ h => h) rfl hHeld ?yf6 ?rf6
    case yf6 => (intro wz hz; go_simp; first | done | with_reducible rfl)
    try simp only [Act.put, List.setIfInBounds_toArray, List.set_cons_zero, List.set_cons_succ]
    refine take_op (i := 7) (v := ?vf7) rfl (by kernel_rfl) (by kernel_rfl) (by kernel_rfl) (fun _ _ _ h => h) rfl hHeld ?yf7 ?rf7
    case yf7 => (intro wz hz; go_simp; first | done | with_reducible rfl)
    try simp only [Act.put, List.setIfInBounds_toArray, List.set_cons_zero, List.set_cons_succ]
    refine take_op (i := 8) (v := ?vf8) rfl (by kernel_rfl) (by kernel_rfl) (by kernel_rfl) (fun _ _ _ h => h) rfl hHeld ?yf8 ?rf8
    case yf8 => (intro wz hz; go_simp; first | done | with_reducible rfl)
    try simp only [Act.put, List.setIfInBounds_toArray, List.set_cons_zero, List.set_cons_succ]
    refine take_op (i := 9) (v := ?vf9) rfl (by kernel_rfl) (by kernel_rfl) (by kernel_rfl) (fun _ _ _ h => h) rfl hHeld ?yf9 ?rf9
    case yf9 => (intro wz hz; go_simp; first | done | with_reducible rfl)
    try simp only [Act.put, List.setIfInBounds_toArray, List.set_cons_zero, List.set_cons_succ]
    refine take_op (i := 10) (v := ?vf10) rfl (by kernel_rfl) (by kernel_rfl) (by kernel_rfl) (fun _ _ _ h => h) rfl hHeld ?yf10 ?rf10
    case yf10 => (intro wz hz; go_simp; first | done | with_reducible rfl)
    try simp only [Act.put, List.setIfInBounds_toArray, List.set_cons_zero, List.set_cons_succ]
    refine wpAnyH_done (by kernel_rfl) ?_ _
    refine NoPanic.normal ?_
    have HB : Hid _ := hHeld
    clear hHeld
    go_wp2_with fail
    go_meet
    case rel => exact ⟨rfl, rfl, HB.out⟩
  case rest =>
    obtain ⟨rfl, rfl, hb⟩ := hcut
    have HB : Hid _ := hb
    have hsc := hb.size
    clear hb
    have rn3 : wc.rowIs (w.heap.size + 1) 107 33 (noteV zeroN) := HB.out.row RN.out (by omega)
    cases hf : firstAt N q with
    | none =>
      have e1 : foundN N q = zeroN := by unfold foundN; rw [hf]
      simp only [Option.getD_none, Option.isSome_none]
      go_wp2_with (first | (refine wpList_store_row rfl 107 _ _ rfl rfl (w.heap.size + 1) 0 33 _ rfl rfl z33 (fun i _ => noteV_one zeroN i) _ _ _ rn3 (by omega) ?_; intro W4 r4 hz4 hb4))
      refine bodyPost_ret (results_cell_seg2 rfl _ _ (w.heap.size + 1) 107 33 (noteV zeroN) _ rfl Tryd.underlying107 rfl z33 (r4.congr fun i hi => ?_)) rfl ⟨by rw [e1, hf]; rfl, B2.out.trans ((HB.out.mono (by omega)).trans ((hb4.mono (by omega)).below (by omega)))⟩
      rw [if_pos (by omega), Nat.sub_zero]
    | some i =>
      obtain ⟨t, ht⟩ := firstAt_get hf
      have hil := firstAt_lt hf
      have e1 : foundN N q = (q, t) := by unfold foundN; rw [hf]; simp [List.getD_eq_getElem?_getD, ht]
      obtain ⟨g, rfl, hFg, hgl, hcl⟩ := hcell i _ ht
      have c0' := C0.out wc HB.out
      have cl : ∀ j, j < 33 → wc.cell? ⟨g, i * 33 + j, none⟩ = some (noteV (q, t) j) := fun j hj => (HB.out.cell (p := ⟨g, i * 33 + j, none⟩) (show g < w2.heap.size by omega)).trans ((B2.out.cell (p := ⟨g, i * 33 + j, none⟩) hgl).trans (hcl j hj))
      have CL : Hid _ := cl
      have i0 : (0 : Int) ≤ (i : Int) := by omega
      have i1 : (i : Int) < (N.length : Int) := by omega
      simp only [Option.getD_some, Option.isSome_some]
      clear cl
      go_wp2_with (first | (refine wpList_load_seg rfl 107 (.tmp 25) rfl g (i * 33) 33 (noteV (q, t)) rfl _ Tryd.underlying107 rfl z33 CL.out ?_) | (refine wpList_store_row rfl 107 (.tmp 4) (.tmp 26) rfl rfl (w.heap.size + 1) 0 33 (noteV (q, t)) rfl rfl z33 (fun i _ => noteV_one _ i) _ _ _ rn3 (by omega) ?_; intro W4 r4 hz4 hb4))
      refine bodyPost_ret (results_cell_seg2 rfl _ _ (w.heap.size + 1) 107 33 (noteV (q, t)) _ rfl Tryd.underlying107 rfl z33 (r4.congr fun i hi => ?_)) rfl ⟨by rw [e1, hf]; rfl, B2.out.trans ((HB.out.mono (by omega)).trans ((hb4.mono (by omega)).below (by omega)))⟩
      rw [if_pos (by omega), Nat.sub_zero]
end Go.Proofs.YtgchnobifidjcaaDoor
