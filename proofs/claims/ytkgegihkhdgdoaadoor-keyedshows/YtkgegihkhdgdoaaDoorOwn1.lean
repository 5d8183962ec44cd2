import Derived.WalkKit
import Derived.WalkSpells
import Derived.Deep.OwnRows
import Derived.Deep.MidRow
import Derived.Deep.Draws
import Derived.ChangeKeysEq
import Derived.Laws.StructEq
import Derived.Deep.AppendLies
import Derived.Test.YtkgegihkhdgdoaaDoorRows
import Derived.Laws.BytesString
import Derived.Lib.SliceRun
import Derived.WideKeyArr
import Derived.Maps.OwnSet
import Derived.Deep.RegionHeld3
import Derived.Deep.Cut
import Derived.Deep.CutRange
import Derived.Deep.Light
import Derived.Deep.DeepCutAuto
import Derived.Carry
import Derived.WalkLawsBesides
set_option linter.unusedVariables false
set_option linter.unusedSimpArgs false
/- Rows of memory, said by the index: what a load of a whole array or struct gives, what a store of one leaves. -/
namespace Go.Proofs.YtkgegihkhdgdoaaDoor
open Go.RowKit Go.Deep

/-- n values as an array, by the index. -/
def rowV (n : Nat) (f : Nat → Value) : Array Value := Array.ofFn (n := n) (fun i => f i.val)
theorem rowV_size (n : Nat) (f : Nat → Value) : (rowV n f).size = n := by simp [rowV]
theorem rowV_get (n : Nat) (f : Nat → Value) (i : Nat) (h : i < n) : (rowV n f)[i]? = some (f i) := by simp [rowV, h]
theorem rowV_eq {n : Nat} {f : Nat → Value} {c : Array Value} (hs : c.size = n) (hc : ∀ i, i < n → c[i]? = some (f i)) : c = rowV n f := by
  apply Array.ext_getElem?
  intro i
  by_cases h : i < n
  · rw [hc i h, rowV_get n f i h]
  · rw [Array.getElem?_eq_none (by omega), Array.getElem?_eq_none (by rw [rowV_size]; omega)]
theorem rowV_congr {n : Nat} {f g : Nat → Value} (h : ∀ i, i < n → f i = g i) : rowV n f = rowV n g :=
  rowV_eq (rowV_size _ _) fun i hi => by rw [rowV_get _ _ _ hi, h i hi]
theorem rowV_inj {n : Nat} {f g : Nat → Value} (h : rowV n f = rowV n g) (i : Nat) (hi : i < n) : f i = g i := by
  have := rowV_get n f i hi
  rw [h, rowV_get n g i hi] at this
  exact (Option.some.inj this).symm

theorem rowIs_block {w : World} {b : Nat} {t : TypeId} {n : Nat} {f : Nat → Value} (h : w.rowIs b t n f) : w.heap[b]? = some (.cells (rowV n f) t (0, 0)) := by
  obtain ⟨c, hb, hs, hc⟩ := h
  rw [hb, rowV_eq hs hc]
/-- A new block whose cells are written out. -/
theorem rowIs_new (w : World) (c : Array Value) (t : TypeId) (n : Nat) (f : Nat → Value) (hs : c.size = n) (hc : ∀ i, i < n → c[i]? = some (f i)) : (w.alloc (.cells c t)).rowIs w.heap.size t n f := by
  subst hs; exact World.rowIs_alloc w c t f hc

/-- A new block of n like cells. -/
theorem rowIs_zero (w : World) (c : Array Value) (t : TypeId) (n : Nat) (z : Value) (hc : c = Array.replicate n z) : (w.alloc (.cells c t)).rowIs w.heap.size t n (fun _ => z) := by
  subst hc
  exact rowIs_new w _ t n _ (by simp) fun i hi => by simp [hi]
/-- A new block that is a row by the index. -/
theorem rowIs_box (w : World) (t : TypeId) (n : Nat) (f : Nat → Value) : (w.alloc (.cells (rowV n f) t)).rowIs w.heap.size t n f := rowIs_new w _ t n f (rowV_size _ _) fun i hi => rowV_get n f i hi

theorem size_setCells (b : Nat) : ∀ (vs : List Value) (o : Nat) (w : World), (w.setCells b o vs).heap.size = w.heap.size
  | [], _, _ => rfl
  | v :: r, o, w => by rw [World.setCells, size_setCells b r (o + 1)]; exact nblk_setCell _ _ _
theorem below_setCells {B : Nat} (b : Nat) (hb : B ≤ b) : ∀ (vs : List Value) (o : Nat) {a w : World}, Below B a w → Below B a (w.setCells b o vs)
  | [], _, _, _, h => h
  | v :: r, o, _, _, h => by rw [World.setCells]; exact below_setCells b hb r (o + 1) (h.setCell hb v)
theorem rowIs_setCells {b : Nat} {t : TypeId} {n : Nat} : ∀ (vs : List Value) (o : Nat) {w : World} {f : Nat → Value}, w.rowIs b t n f → (w.setCells b o vs).rowIs b t n (fun j => if o ≤ j ∧ j < o + vs.length then vs.getD (j - o) undef else f j)
  | [], o, w, f, h => h.congr fun i _ => by rw [if_neg (by simp)]
  | v :: r, o, w, f, h => by
    rw [World.setCells]
    refine (rowIs_setCells r (o + 1) (h.set o v)).congr fun i _ => ?_
    simp only [List.length_cons]
    by_cases h1 : o + 1 ≤ i ∧ i < o + 1 + r.length
    · rw [if_pos h1, if_pos (by omega)]
      obtain ⟨m, rfl⟩ : ∃ m, i = o + 1 + m := ⟨i - (o + 1), by omega⟩
      rw [show o + 1 + m - (o + 1) = m by omega, show o + 1 + m - o = m + 1 by omega, List.getD_cons_succ]
    · rw [if_neg h1]
      by_cases h2 : i = o
      · subst h2; rw [if_pos rfl, if_pos (by omega)]; simp
      · rw [if_neg h2, if_neg (by omega)]
/-- A row stored into a row. -/
theorem rowIs_splice {b o m : Nat} {t : TypeId} {n : Nat} {f g : Nat → Value} {w : World} (h : w.rowIs b t n f) : (w.setCells b o (rowV m g).toList).rowIs b t n (fun j => if o ≤ j ∧ j < o + m then g (j - o) else f j) := by
  refine (rowIs_setCells (rowV m g).toList o h).congr fun i _ => ?_
  simp only [Array.length_toList, rowV_size]
  by_cases h1 : o ≤ i ∧ i < o + m
  · rw [if_pos h1, if_pos h1, List.getD_eq_getElem?_getD, Array.getElem?_toList, rowV_get _ _ _ (by omega)]; rfl
  · rw [if_neg h1, if_neg h1]

theorem there_of_row {w : World} {b o m : Nat} {t : TypeId} {n : Nat} {f : Nat → Value} (h : w.rowIs b t n f) (hm : o + m ≤ n) : w.there b o m := fun j hj => ⟨by rw [h.cell (by omega)]; rfl, h.frozen _⟩
theorem range_of_cells {w : World} {b o m : Nat} {g : Nat → Value} (hc : ∀ i, i < m → w.cell? ⟨b, o + i, none⟩ = some (g i)) : w.rangeAt b o (rowV m g).toList := fun j v hv => by
  rw [Array.getElem?_toList] at hv
  by_cases h : j < m
  · rw [rowV_get _ _ _ h] at hv; rw [hc j h, ← hv]
  · rw [Array.getElem?_eq_none (by rw [rowV_size]; omega)] at hv; cases hv

end Go.Proofs.YtkgegihkhdgdoaaDoor
namespace Go.RowKit
theorem Below.drewN {B : Nat} {a w : World} (h : Below B a w) (n : Nat) : Below B a (w.drewN n) := ⟨h.os, h.tape, h.output, h.size, h.block⟩
theorem Below.row {B : Nat} {w w' : World} (h : Below B w w') {k : Nat} {t : TypeId} {n : Nat} {f : Nat → Value} (hr : w.rowIs k t n f) (hk : k < B) : w'.rowIs k t n f := hr.of_block (h.block k hk)
end Go.RowKit
namespace Go
theorem World.rowIs.drewN {w : World} {b : Nat} {t : TypeId} {n : Nat} {f : Nat → Value} (h : w.rowIs b t n f) (k : Nat) : (w.drewN k).rowIs b t n f := h
end Go
namespace Go.Proofs.YtkgegihkhdgdoaaDoor
open Go.RowKit Go.Deep
/-- NOTHING BELOW B HAS TURNED BUT BLOCK b. -/
structure But (B b : Nat) (w w' : World) : Prop where
  os : w'.os = w.os
  tape : w'.tape = w.tape
  output : w'.output = w.output
  size : w.heap.size ≤ w'.heap.size
  block : ∀ k, k < B → k ≠ b → w'.heap[k]? = w.heap[k]?
namespace But
variable {B b : Nat} {w w' w'' : World}
theorem refl (B b : Nat) (w : World) : But B b w w := ⟨rfl, rfl, rfl, Nat.le_refl _, fun _ _ _ => rfl⟩
theorem trans (h : But B b w w') (k : But B b w' w'') : But B b w w'' :=
  ⟨k.os.trans h.os, k.tape.trans h.tape, k.output.trans h.output, Nat.le_trans h.size k.size, fun i hi hb => (k.block i hi hb).trans (h.block i hi hb)⟩
theorem mono {B' : Nat} (h : But B b w w') (hB : B' ≤ B) : But B' b w w' := ⟨h.os, h.tape, h.output, h.size, fun i hi hb => h.block i (Nat.lt_of_lt_of_le hi hB) hb⟩
theorem of_below (h : Below B w w') (b : Nat) : But B b w w' := ⟨h.os, h.tape, h.output, h.size, fun i hi _ => h.block i hi⟩
theorem below (h : But B b w w') (hb : B ≤ b) : Below B w w' := ⟨h.os, h.tape, h.output, h.size, fun i hi => h.block i hi (by omega)⟩
theorem drew (h : But B b w w') : But B b w w'.drew := ⟨h.os, h.tape, h.output, h.size, h.block⟩
theorem drewN (h : But B b w w') (n : Nat) : But B b w (w'.drewN n) := ⟨h.os, h.tape, h.output, h.size, h.block⟩
theorem alloc (h : But B b w w') (hB : B ≤ w'.heap.size) (o : Obj) : But B b w (w'.alloc o) := h.trans (of_below ((Below.refl B w').alloc hB o) b)
theorem set (h : But B b w w') (i : Nat) (v : Value) : But B b w (w'.setCell ⟨b, i, none⟩ v) :=
  ⟨h.os, h.tape, h.output, by rw [nblk_setCell]; exact h.size, fun k hk hb => (blk_setCell_other _ _ _ _ hb).trans (h.block k hk hb)⟩
theorem cell (h : But B b w w') {k i : Nat} (hk : k < B) (hb : k ≠ b) : w'.cell? ⟨k, i, none⟩ = w.cell? ⟨k, i, none⟩ := World.cell?_of_block (w := w) (h.block k hk hb)
theorem frozen (h : But B b w w') {k i : Nat} (hk : k < B) (hb : k ≠ b) : w'.frozen? ⟨k, i, none⟩ = w.frozen? ⟨k, i, none⟩ := World.frozen?_of_block (w := w) (h.block k hk hb)
theorem row (h : But B b w w') {k : Nat} {t : TypeId} {n : Nat} {f : Nat → Value} (hr : w.rowIs k t n f) (hk : k < B) (hb : k ≠ b) : w'.rowIs k t n f := hr.of_block (h.block k hk hb)
end But
theorem but_setCells {B b : Nat} : ∀ (vs : List Value) (o : Nat) {a w : World}, But B b a w → But B b a (w.setCells b o vs)
  | [], _, _, _, h => h
  | v :: r, o, _, _, h => by rw [World.setCells]; exact but_setCells r (o + 1) (h.set o v)

/-- A cell beside the one that was stored into. -/
theorem cell_keep {w : World} {n b i j : Nat} {v u : Value} (h : i ≠ j) (hc : w.cell? ⟨b, j, none⟩ = some u) : ((w.drewN n).setCell ⟨b, i, none⟩ v).cell? ⟨b, j, none⟩ = some u := by
  rw [World.cell?_setCell_other]
  · exact hc
  · intro e; injection e; contradiction

section
variable {P : Program}
/-- A LOAD OF A WHOLE ARRAY OR STRUCT, out of wherever its cells lie. -/
theorem wpList_load_seg {ops : Array Oper} {rest : List Oper} {op : Oper} {a : Act} {w : World} {Q : Exit → Act → World → Prop} (hgd : op.guard = none) (ty : TypeId) (x : Operand) (ho : op.op = .load ty x)
    (b o m : Nat) (g : Nat → Value) (hx : a.eval x = .pointer (some ⟨b, o, none⟩)) (d : TypeDesc) (hu : P.underlying ty = some d) (hd : d.isRow = true) (hi : (P.info? ty).map (·.size) = some m)
    (hc : ∀ i, i < m → w.cell? ⟨b, o + i, none⟩ = some (g i))
    (h : wpList P ops Q rest (a.put op.dst (.agg (rowV m g))) w) : wpList P ops Q (op :: rest) a w := by
  refine wpList_load_mid hgd ty x ho b o hx (rowV m g).toList d (range_of_cells hc) hu hd ?_ ?_
  · rw [hi, Array.length_toList, rowV_size]
  · rw [Array.toArray_toList]; exact h
/-- A STORE OF A WHOLE ARRAY OR STRUCT INTO A ROW. -/
theorem wpList_store_seg {ops : Array Oper} {rest : List Oper} {op : Oper} {a : Act} {w : World} {Q : Exit → Act → World → Prop} (hgd : op.guard = none) (ty : TypeId) (x y : Operand) (ho : op.op = .store ty x y)
    (b o m : Nat) (g : Nat → Value) (hx : a.eval x = .pointer (some ⟨b, o, none⟩)) (hy : a.eval y = .agg (rowV m g)) (hi : (P.info? ty).map (·.size) = some m) (h1 : ∀ i, i < m → (g i).oneCell' = true)
    (ht : w.there b o m)
    (h : wpList P ops Q rest (a.put op.dst undef) (w.setCells b o (rowV m g).toList)) : wpList P ops Q (op :: rest) a w := by
  refine wpList_store_mid hgd ty x y ho b o (rowV m g) hx hy (by rw [rowV_size]; exact ht) (by rw [hi, rowV_size]) ?_ h
  rw [Array.all_eq_true_iff_forall_mem]
  intro v hv
  obtain ⟨i, hi', rfl⟩ := Array.mem_iff_getElem.1 hv
  have hlt : i < m := by rw [rowV_size] at hi'; exact hi'
  have := rowV_get m g i hlt
  rw [Array.getElem?_eq_getElem hi'] at this
  rw [Option.some.inj this]; exact h1 i hlt
/-- THE SAME, the world behind it under a name. -/
theorem wpList_store_row {ops : Array Oper} {rest : List Oper} {op : Oper} {a : Act} {w : World} {Q : Exit → Act → World → Prop} (hgd : op.guard = none) (ty : TypeId) (x y : Operand) (ho : op.op = .store ty x y) (hdst : op.dst = none)
    (b o m : Nat) (g : Nat → Value) (hx : a.eval x = .pointer (some ⟨b, o, none⟩)) (hy : a.eval y = .agg (rowV m g)) (hi : (P.info? ty).map (·.size) = some m) (h1 : ∀ i, i < m → (g i).oneCell' = true)
    (t n : Nat) (f : Nat → Value) (hr : w.rowIs b t n f) (hm : o + m ≤ n)
    (h : ∀ w', w'.rowIs b t n (fun j => if o ≤ j ∧ j < o + m then g (j - o) else f j) → w'.heap.size = w.heap.size → But w.heap.size b w w' → wpList P ops Q rest a w') : wpList P ops Q (op :: rest) a w := by
  refine wpList_store_seg hgd ty x y ho b o m g hx hy hi h1 (there_of_row hr hm) ?_
  rw [hdst]
  exact h _ (rowIs_splice hr) (size_setCells _ _ _ _) (but_setCells _ _ (But.refl _ _ _))
/-- An array's element by an index that is a letter. -/
theorem run_index_agg (w : World) (t e : TypeId) (n : Nat) (cs : Array Value) (k : Nat) (v : Value) (h : P.underlying t = some (.array n e)) (he : (match P.underlying e with | some (.struct _) => false | some (.array _ _) => false | some _ => true | none => false) = true) (hi : (P.info? e).map (·.size) = some 1) (hk : k < n) (hv : cs[k]? = some v) :
    (Instr.index t (.agg cs) (.int .i64 k)).run P w = .ok v w := by
  cases hq : P.info? e with
  | none => simp [hq] at hi
  | some i =>
    have hs : i.size = 1 := by simpa [hq] using hi
    have hagg : (isAgg e).run P w = .ok false w := by
      unfold isAgg
      cases hd : P.underlying e with
      | none => simp [hd] at he
      | some d =>
        rw [Sem.run_bind, run_underlying hd w]
        rw [hd] at he
        cases d <;> simp_all
    have h1 : (0 : Int) ≤ (k : Int) ∧ (k : Int) < n := by omega
    simp [Instr.index, Sem.run_bind, asIntOf, run_underlying h w, h1, sizeOf, typeInfo, hq, hs, part, hagg, hv]
    intro hk2; omega
/-- A RESULT THAT LIES IN MEMORY. -/
theorem results_cell_seg {fn : Func} {p : Tmp} {ty : TypeId} (h : fn.results = #[.cell p ty]) (tmps : Array Value) (w : World) (g : Nat) (t : TypeId) (n : Nat) (f : Nat → Value) (d : TypeDesc)
    (hp : tmps.getD p undef = .pointer (some ⟨g, 0, none⟩)) (hu : P.underlying ty = some d) (hd : (match d with | .struct _ | .array _ _ => true | _ => false) = true) (hi : (P.info? ty).map (·.size) = some n)
    (hg : w.rowIs g t n f) : (results fn tmps).run P w = .ok (.agg (rowV n f)) w :=
  results_cell_row h tmps w g t (rowV n f) (0, 0) d hp (rowIs_block hg) hu hd (by rw [hi, rowV_size])
end
end Go.Proofs.YtkgegihkhdgdoaaDoor

namespace Go.Proofs.YtkgegihkhdgdoaaDoor
open Go.RowKit Go.Deep

/-- bytes as an array. -/
def arrV (l : List Int) (i : Nat) : Value := .int .u8 (l.getD i 0)
/-- two rows of n numbers are alike. -/
def arrEq (n : Nat) (f g : Nat → Int) : Bool := (List.range n).all fun i => f i == g i
theorem arrEq_iff (n : Nat) (f g : Nat → Int) : arrEq n f g = true ↔ ∀ i, i < n → f i = g i := by simp [arrEq]
section
variable {P : Program}
theorem run_part_row (w : World) (e : TypeId) (n : Nat) (f : Nat → Value) (k : IntKind) (he : P.underlying e = some (.int k)) (i : Nat) (hi : i < n) : (part e (rowV n f) i).run P w = .ok (f i) w := by
  have hagg : (isAgg e).run P w = .ok false w := by
    unfold isAgg
    rw [Sem.run_bind, run_underlying he w]
    simp
  simp [part, Sem.run_bind, hagg, rowV_get n f i hi]
theorem run_eqItems_ints (w : World) (d : Nat) (e : TypeId) (k : IntKind) (he : P.underlying e = some (.int k)) (n : Nat) (f g : Nat → Int) : ∀ is : List Nat, (∀ i ∈ is, i < n) →
    (Op.eqItems (d + 1) e 1 (rowV n fun i => .int k (f i)) (rowV n fun i => .int k (g i)) is).run P w = .ok (is.all fun i => f i == g i) w
  | [], _ => by simp [Op.eqItems]
  | i :: is, h => by
    have ih := run_eqItems_ints w d e k he n f g is (fun j hj => h j (List.mem_cons_of_mem _ hj))
    have hi := h i List.mem_cons_self
    simp only [Op.eqItems, Sem.run_bind, Nat.mul_one, run_part_row w e n _ k he i hi, Result.andThen_ok, run_equalIn_int w d e k k (f i) (g i) he]
    by_cases hfg : f i = g i
    · simp [hfg, ih]
    · simp [hfg]
theorem run_neq_arr (w : World) (t e : TypeId) (k : IntKind) (n : Nat) (f g : Nat → Int) (hu : P.underlying t = some (.array n e)) (he : P.underlying e = some (.int k)) (hi : (P.info? e).isSome = true) (hc : P.cellsOf e = 1) :
    (binOp .neq t (.agg (rowV n fun i => .int k (f i))) (.agg (rowV n fun i => .int k (g i)))).run P w = .ok (.bool (!arrEq n f g)) w := by
  obtain ⟨i, hi'⟩ := Option.isSome_iff_exists.1 hi
  rw [run_neq_struct, run_equalIn_array w 9999 _ _ hu hi', hc, run_eqItems_ints w 9998 e k he n f g _ (fun i hi => by simpa using hi)]
  rfl
end
end Go.Proofs.YtkgegihkhdgdoaaDoor

/- Slices that the call itself makes: what append leaves. -/
namespace Go.Proofs.YtkgegihkhdgdoaaDoor
open Go.RowKit Go.Deep

/-- v is a slice of the elements xs, of one cell each, in a block of its own from B on. -/
def owns (w : World) (B : Nat) (e : TypeId) (v : Value) (xs : List Value) : Prop := w.ownsRow B e 1 v xs.length xs
theorem owns_nil (w : World) (B : Nat) (e : TypeId) : owns w B e (.slice none 0 0) [] := ⟨rfl, Or.inl ⟨rfl, rfl⟩⟩
theorem owns.block {w : World} {B : Nat} {e : TypeId} {v : Value} {xs : List Value} (h : owns w B e v xs) (k : Nat) (hk : v.ownBlock = some k) : B ≤ k ∧ k < w.heap.size := by
  obtain ⟨_, h | ⟨g, cap, cur, rfl, hB, hb, _⟩⟩ := h
  · rw [h.1] at hk; cases hk
  · obtain rfl : g = k := by simpa [Value.ownBlock] using hk
    exact ⟨hB, (Array.getElem?_eq_some_iff.1 hb).1⟩
/-- a slice that is not the one that grew is as it was. -/
theorem owns.far {w w' : World} {B : Nat} {e : TypeId} {v : Value} {xs : List Value} (h : owns w B e v xs) (hk : ∀ k, v.ownBlock = some k → w'.heap[k]? = w.heap[k]?) : owns w' B e v xs := by
  obtain ⟨hl, h | ⟨g, cap, cur, rfl, hB, hb, hr⟩⟩ := h
  · exact ⟨hl, Or.inl h⟩
  · exact ⟨hl, Or.inr ⟨g, cap, cur, rfl, hB, by rw [hk g rfl]; exact hb, hr⟩⟩
theorem owns.below {w w' : World} {B C : Nat} {e : TypeId} {v : Value} {xs : List Value} (h : owns w B e v xs) (hb : Below C w w') (hC : w.heap.size ≤ C) : owns w' B e v xs :=
  h.far fun k hk => hb.block k (Nat.lt_of_lt_of_le (h.block k hk).2 hC)
theorem owns.grown {w w' : World} {B : Nat} {e : TypeId} {v : Value} {xs : List Value} {row : Option Nat} (h : owns w B e v xs) (hg : w.grownBy w' row) (hne : ∀ k, v.ownBlock = some k → row ≠ some k) : owns w' B e v xs :=
  h.far fun k hk => hg.block k (h.block k hk).2 (fun e => hne k hk e.symm)
theorem owns.alloc {w : World} {B : Nat} {e : TypeId} {v : Value} {xs : List Value} (h : owns w B e v xs) (o : Obj) : owns (w.alloc o) B e v xs :=
  h.far fun k hk => blk_alloc_lt _ _ _ (h.block k hk).2
theorem owns.drew {w : World} {B : Nat} {e : TypeId} {v : Value} {xs : List Value} (h : owns w B e v xs) : owns w.drew B e v xs := h
theorem owns.drewN {w : World} {B : Nat} {e : TypeId} {v : Value} {xs : List Value} (h : owns w B e v xs) (n : Nat) : owns (w.drewN n) B e v xs := h
/-- its shape, and its cells. -/
theorem owns.shape {w : World} {B : Nat} {e : TypeId} {v : Value} {xs : List Value} (h : owns w B e v xs) (hn : 0 < xs.length) :
    ∃ g cap, v = .slice (some ⟨g, 0, none⟩) xs.length cap ∧ B ≤ g ∧ g < w.heap.size ∧ xs.length ≤ cap ∧ cap ≤ maxLen ∧ (∀ i u, xs[i]? = some u → w.cell? ⟨g, i, none⟩ = some u) ∧ ∀ i, w.frozen? ⟨g, i, none⟩ = false := by
  obtain ⟨hl, h | ⟨g, cap, cur, rfl, hB, hb, hc, hm, hs, ht⟩⟩ := h
  · omega
  · refine ⟨g, cap, rfl, hB, (Array.getElem?_eq_some_iff.1 hb).1, hc, hm, fun i u hu => ?_, fun i => by simp [World.frozen?, hb]⟩
    rw [cell_of_row _ _ _ _ _ _ hb]
    rw [Nat.mul_one] at ht
    have hi : i < xs.length := by rw [List.getElem?_eq_some_iff] at hu; exact hu.1
    rw [← ht, List.getElem?_take, if_pos hi, Array.getElem?_toList] at hu
    exact hu

section
variable {P : Program}
/-- WHAT append LEAVES: the elements behind one another; nothing old but the slice's own block has turned. -/
theorem run_append (w : World) (t ty : TypeId) (B : Nat) (e : TypeId) (z : Value) (bytes : Nat) (ht : P.underlying t = some (.slice e)) (hi : (P.info? e).map (fun i => (i.zero, i.size, i.bytes)) = some (some z, 1, bytes)) (hz1 : z.cells.size = 1)
    (v : Value) (xs : List Value) (hown : owns w B e v xs) (sb so m c : Nat) (news : List Value) (hl : news.length = m) (hnews : ∀ j u, news[j]? = some u → w.cell? ⟨sb, so + j, none⟩ = some u) (h1 : ∀ u ∈ news, u.oneCell' = true)
    (hm : 0 < m) (h63 : xs.length + m ≤ maxLen) (hbytes : (xs.length + m) * bytes ≤ 140737488355328) (hB : B ≤ w.heap.size) :
    ∃ g cap w', (Builtin.append_ #[t, t] ty #[v, .slice (some ⟨sb, so, none⟩) m c]).run P w = .ok (.slice (some ⟨g, 0, none⟩) (xs.length + m) cap) w' ∧
      owns w' B e (.slice (some ⟨g, 0, none⟩) (xs.length + m) cap) (xs ++ news) ∧ w.grownBy w' v.ownBlock ∧ (v.ownBlock = some g ∨ g = w.heap.size) ∧ g < w'.heap.size := by
  cases hq : P.info? e with
  | none => simp [hq] at hi
  | some i =>
    simp only [hq, Option.map_some, Option.some.injEq, Prod.mk.injEq] at hi
    obtain ⟨hz, hs, hb⟩ := hi
    obtain ⟨g, cap, w', hr, ho, hg, hw, hlt⟩ := run_append_lies (P := P) w t ty B e i z 1 bytes ht hq hz hs hb hz1 (by omega) v xs.length xs hown ⟨sb, so, none⟩ m c news (by omega) (fun j u hu => by rw [Addr.add_mid]; exact hnews j u hu) h1 hm h63 hbytes hB w.heap.size rfl
    refine ⟨g, cap, w', hr, ?_, hg, hw, hlt⟩
    unfold owns
    rw [List.length_append, hl]; exact ho
/-- append, by what its run comes to. -/
theorem wp_append_run {o : Oper} {a : Act} {w w' : World} {K : Act → World → Prop} {Q : Exit → Act → World → Prop} {v y r : Value} (s x : Operand) (t : TypeId)
    (ho : o.op = .call { callee := .builtin .append, args := #[s, x], argTypes := #[t, t] }) (hs : a.eval s = v) (hx : a.eval x = y)
    (hr : (Builtin.append_ #[t, t] o.type #[v, y]).run P w = .ok r w') (h : K (a.put o.dst r) w') : o.wp P a w K Q := by
  unfold Oper.wp execOp
  simp only [ho, resolve, invoke, builtin, Sem.run_bind, Sem.run_pure, Result.andThen_ok, List.map_toArray, List.map_cons, List.map_nil, hs, hx, hr]
  exact h
theorem wpList_append_run {ops : Array Oper} {rest : List Oper} {o : Oper} {a : Act} {w w' : World} {Q : Exit → Act → World → Prop} {v y r : Value} (hgd : o.guard = none) (s x : Operand) (t : TypeId)
    (ho : o.op = .call { callee := .builtin .append, args := #[s, x], argTypes := #[t, t] }) (hs : a.eval s = v) (hx : a.eval x = y)
    (hr : (Builtin.append_ #[t, t] o.type #[v, y]).run P w = .ok r w') (h : wpList P ops Q rest (a.put o.dst r) w') : wpList P ops Q (o :: rest) a w :=
  wpList_plain hgd fun _ hK => wp_append_run s x t ho hs hx hr (hK _ _ h)
end
end Go.Proofs.YtkgegihkhdgdoaaDoor

/- Slices of bytes, and of others, wherever they lie. -/
namespace Go.Proofs.YtkgegihkhdgdoaaDoor
set_option linter.unusedSimpArgs false
open Go.RowKit Go.Deep

/-- the bytes of the parts ahead of place k. -/
def flatTo (ps : Nat → List Int) : Nat → List Int
  | 0 => []
  | k + 1 => flatTo ps k ++ ps k
theorem flatTo_mono (ps : Nat → List Int) : ∀ n i, i ≤ n → (flatTo ps i).length ≤ (flatTo ps n).length
  | 0, i, h => by obtain rfl : i = 0 := by omega
                  exact Nat.le_refl _
  | n + 1, i, h => by
    by_cases e : i = n + 1
    · subst e; exact Nat.le_refl _
    · rw [flatTo, List.length_append]
      have := flatTo_mono ps n i (by omega)
      omega
/-- THE VALUE v IS A SLICE OF THESE BYTES. -/
def isBytes (w : World) (v : Value) (l : List Int) : Prop :=
  (v = .slice none 0 0 ∧ l = []) ∨ ∃ pb po cap : Nat, v = .slice (some ⟨pb, po, none⟩) l.length cap ∧ l.length ≤ cap ∧ cap ≤ maxLen ∧ pb < w.heap.size ∧
    (∀ i, i < l.length → w.cell? ⟨pb, po + i, none⟩ = some (.int .u8 (l.getD i 0))) ∧ ∀ i, 0 ≤ l.getD i 0 ∧ l.getD i 0 ≤ 255
theorem isBytes.below {w w' : World} {B : Nat} {v : Value} {l : List Int} (h : isBytes w v l) (hb : Below B w w') (hB : w.heap.size ≤ B) : isBytes w' v l := by
  rcases h with h | ⟨pb, po, cap, h1, h2, h3, h4, h6, h7⟩
  · exact Or.inl h
  · exact Or.inr ⟨pb, po, cap, h1, h2, h3, Nat.lt_of_lt_of_le h4 hb.size, fun i hi => by rw [hb.cell (p := ⟨pb, po + i, none⟩) (Nat.lt_of_lt_of_le h4 hB)]; exact h6 i hi, h7⟩
/-- .. OR ONE OF NONE, wherever it says that it lies. -/
def anyBytes (w : World) (v : Value) (l : List Int) : Prop := isBytes w v l ∨ ((∃ a, v = .slice a 0 0) ∧ l = [])
theorem anyBytes.below {w w' : World} {B : Nat} {v : Value} {l : List Int} (h : anyBytes w v l) (hb : Below B w w') (hB : w.heap.size ≤ B) : anyBytes w' v l := by
  rcases h with h | h
  · exact Or.inl (h.below hb hB)
  · exact Or.inr h
/-- THE VALUE v IS A SLICE OF n SLICES OF BYTES. -/
def isParts (w : World) (v : Value) (n : Nat) (ps : Nat → List Int) : Prop :=
  (v = .slice none 0 0 ∧ n = 0) ∨ ∃ (qb qo cap : Nat) (sv : Nat → Value), v = .slice (some ⟨qb, qo, none⟩) n cap ∧ qb < w.heap.size ∧ n ≤ maxLen ∧ ∀ i, i < n → w.cell? ⟨qb, qo + i, none⟩ = some (sv i) ∧ anyBytes w (sv i) (ps i)
theorem isParts.below {w w' : World} {B : Nat} {v : Value} {n : Nat} {ps : Nat → List Int} (h : isParts w v n ps) (hb : Below B w w') (hB : w.heap.size ≤ B) : isParts w' v n ps := by
  rcases h with h | ⟨qb, qo, cap, sv, h1, h2, h3, h4⟩
  · exact Or.inl h
  · exact Or.inr ⟨qb, qo, cap, sv, h1, Nat.lt_of_lt_of_le h2 hb.size, h3, fun i hi => ⟨by rw [hb.cell (p := ⟨qb, qo + i, none⟩) (Nat.lt_of_lt_of_le h2 hB)]; exact (h4 i hi).1, (h4 i hi).2.below hb hB⟩⟩
theorem isBytes.slice {w : World} {v : Value} {l : List Int} (h : isBytes w v l) : ∃ a c, v = .slice a l.length c ∧ l.length ≤ maxLen := by
  rcases h with ⟨rfl, rfl⟩ | ⟨pb, po, cap, rfl, h2, h3, _⟩
  · exact ⟨_, _, rfl, Nat.zero_le _⟩
  · exact ⟨_, _, rfl, by omega⟩
theorem anyBytes.slice {w : World} {v : Value} {l : List Int} (h : anyBytes w v l) : ∃ a c, v = .slice a l.length c ∧ l.length ≤ maxLen := by
  rcases h with h | ⟨⟨a, rfl⟩, rfl⟩
  · exact h.slice
  · exact ⟨a, 0, rfl, Nat.zero_le _⟩
theorem isBytes.byte {w : World} {v : Value} {l : List Int} (h : isBytes w v l) (i : Nat) : 0 ≤ l.getD i 0 ∧ l.getD i 0 ≤ 255 := by
  rcases h with ⟨_, rfl⟩ | ⟨pb, po, cap, _, _, _, _, _, h7⟩
  · exact ⟨by simp, by simp⟩
  · exact h7 i
theorem isBytes.under {w : World} {pb o n cap : Nat} {l : List Int} (h : isBytes w (.slice (some ⟨pb, o, none⟩) n cap) l) : pb < w.heap.size := by
  rcases h with ⟨h, _⟩ | ⟨pb', po, cap', h1, _, _, h4, _⟩
  · cases h
  · have e : pb = pb' := by injection h1 with h1 _ _; injection h1 with h1; injection h1
    omega
theorem isBytes.of_block {w w' : World} {pb o n cap : Nat} {l : List Int} (h : isBytes w (.slice (some ⟨pb, o, none⟩) n cap) l) (hb : w'.heap[pb]? = w.heap[pb]?) (hs : w.heap.size ≤ w'.heap.size) : isBytes w' (.slice (some ⟨pb, o, none⟩) n cap) l := by
  rcases h with ⟨h, _⟩ | ⟨pb', po, cap', h1, h2, h3, h4, h6, h7⟩
  · cases h
  · have e : pb = pb' := by injection h1 with h1 _ _; injection h1 with h1; injection h1
    subst e
    exact Or.inr ⟨pb, po, cap', h1, h2, h3, by omega, fun i hi => by rw [World.cell?_of_block (w := w) hb]; exact h6 i hi, h7⟩
/-- a slice of bytes of which nothing was written is as it was. -/
theorem isBytes.far {w w' : World} {v : Value} {l : List Int} (h : isBytes w v l) (hb : ∀ k, v.ownBlock = some k → w'.heap[k]? = w.heap[k]?) (hs : w.heap.size ≤ w'.heap.size) : isBytes w' v l := by
  rcases h with h | ⟨pb, po, cap, rfl, h2, h3, h4, h6, h7⟩
  · exact Or.inl h
  · exact Or.inr ⟨pb, po, cap, rfl, h2, h3, by omega, fun i hi => by rw [World.cell?_of_block (w := w) (hb pb rfl)]; exact h6 i hi, h7⟩
theorem isBytes.block {w : World} {v : Value} {l : List Int} (h : isBytes w v l) (k : Nat) (hk : v.ownBlock = some k) : k < w.heap.size := by
  rcases h with ⟨rfl, _⟩ | ⟨pb, po, cap, rfl, h2, h3, h4, h6, h7⟩
  · cases hk
  · simp [Value.ownBlock] at hk; omega
theorem hi8 : (Tryd.prog.info? 5).map (fun i => (i.zero, i.size, i.bytes)) = some (some (.int .u8 0), 1, 1) := by kernel_rfl
/-- bytes of the call's own. -/
def newBytes (w : World) (B : Nat) (v : Value) (l : List Int) : Prop := owns w B 5 v (l.map (Value.int .u8)) ∧ ∀ i, 0 ≤ l.getD i 0 ∧ l.getD i 0 ≤ 255
theorem getElem?_u8 {l : List Int} {i : Nat} (hi : i < l.length) : (l.map (Value.int .u8))[i]? = some (Value.int .u8 (l.getD i 0)) := by
  rw [List.getElem?_map, List.getElem?_eq_getElem hi, List.getD_eq_getElem?_getD, List.getElem?_eq_getElem hi]; rfl
theorem newBytes.is {w : World} {B : Nat} {v : Value} {l : List Int} (h : newBytes w B v l) : isBytes w v l := by
  obtain ⟨ho, hb⟩ := h
  obtain ⟨_, h | ⟨g, cap, cur, rfl, hB, hg, hc, hm, hs, ht⟩⟩ := ho
  · obtain ⟨rfl, hl⟩ := h
    rw [List.length_map] at hl
    exact Or.inl ⟨rfl, List.length_eq_zero_iff.1 hl⟩
  · rw [List.length_map] at hc ⊢
    refine Or.inr ⟨g, 0, cap, rfl, hc, hm, (Array.getElem?_eq_some_iff.1 hg).1, fun i hi => ?_, hb⟩
    rw [Nat.zero_add, cell_of_row _ _ _ _ _ _ hg, ← Array.getElem?_toList]
    have h2 := getElem?_u8 hi
    rw [← ht, List.getElem?_take, List.length_map] at h2
    by_cases hh : i < l.length * 1
    · rw [if_pos hh] at h2; exact h2
    · omega
theorem newBytes.block {w : World} {B : Nat} {v : Value} {l : List Int} (h : newBytes w B v l) (k : Nat) (hk : v.ownBlock = some k) : B ≤ k ∧ k < w.heap.size := h.1.block k hk
theorem newBytes.nil (w : World) (B : Nat) : newBytes w B (.slice none 0 0) [] := ⟨owns_nil _ _ _, fun i => by simp⟩
theorem newBytes.below {w w' : World} {B C : Nat} {v : Value} {l : List Int} (h : newBytes w B v l) (hb : Below C w w') (hC : w.heap.size ≤ C) : newBytes w' B v l := ⟨h.1.below hb hC, h.2⟩
theorem newBytes.mono {w : World} {B C : Nat} {v : Value} {l : List Int} (h : newBytes w B v l) (hC : C ≤ B) : newBytes w C v l := by
  obtain ⟨⟨hl, h1⟩, hb⟩ := h
  refine ⟨⟨hl, ?_⟩, hb⟩
  rcases h1 with h1 | ⟨g, cap, cur, h1, h2, h3⟩
  · exact Or.inl h1
  · exact Or.inr ⟨g, cap, cur, h1, by omega, h3⟩
section
variable {P : Program}
theorem run_append_nil (w : World) (t ty e : TypeId) (ht : P.underlying t = some (.slice e)) (hi : (P.info? e).isSome = true) (b : Option Addr) (n c : Nat) (hn : n ≤ c) (sa : Option Addr) (d : Nat) :
    (Builtin.append_ #[t, t] ty #[.slice b n c, .slice sa 0 d]).run P w = .ok (.slice b n c) w := by
  cases hq : P.info? e with
  | none => rw [hq] at hi; cases hi
  | some i => cases b <;> cases sa <;> simp [Builtin.append_, run_underlying ht, sizeOf, typeInfo, hq, hn, storeCells, loadCells, Builtin.lenOf, Builtin.firstCells, loadCellsFrom]
end
section
variable {P : Program}
/-- x[m:], x a slice of elements of one cell. -/
theorem run_slice_from (t e : TypeId) (b o len cap m : Nat) (hu : P.underlying t = some (.slice e)) (hs : (P.info? e).map (·.size) = some 1) (hm : m ≤ len) :
    ∃ o', (m < cap → o' = o + m) ∧ ∀ w : World, (Instr.slice t (.slice (some ⟨b, o, none⟩) len cap) (some (.int .i64 m)) none none).run P w = .ok (.slice (some ⟨b, o', none⟩) (len - m) (cap - m)) w := by
  cases hq : P.info? e with
  | none => simp [hq] at hs
  | some i =>
    have hi : i.size = 1 := by simpa [hq] using hs
    have h0 : (0 : Int) ≤ (m : Int) ∧ (m : Int) ≤ (len : Int) := by omega
    by_cases hc : cap = m
    · refine ⟨o, fun h => by omega, fun w => ?_⟩
      simp [Instr.slice, Instr.sliceBounds, Instr.sliceBound, asIntOf, run_underlying hu, sizeOf, typeInfo, hq, h0, hc, hm]
    · refine ⟨o + m, fun _ => rfl, fun w => ?_⟩
      simp [Instr.slice, Instr.sliceBounds, Instr.sliceBound, asIntOf, run_underlying hu, sizeOf, typeInfo, hq, hi, h0, hc, hm, Addr.add_mid]
end
theorem getD_append_byte {l m : List Int} (hl : ∀ i, 0 ≤ l.getD i 0 ∧ l.getD i 0 ≤ 255) (hm : ∀ i, 0 ≤ m.getD i 0 ∧ m.getD i 0 ≤ 255) (i : Nat) : 0 ≤ (l ++ m).getD i 0 ∧ (l ++ m).getD i 0 ≤ 255 := by
  rw [List.getD_eq_getElem?_getD, List.getElem?_append]
  split
  · rw [← List.getD_eq_getElem?_getD]; exact hl i
  · rw [← List.getD_eq_getElem?_getD]; exact hm _
/-- append(v, u...), v of the call's own, u any bytes. -/
theorem bytes_append_run (w : World) (B : Nat) (v u : Value) (l m : List Int) (hv : newBytes w B v l) (hu : isBytes w u m) (hs : l.length + m.length ≤ 1099511627776) (hB : B ≤ w.heap.size) :
    ∃ v' w', (Builtin.append_ #[23, 23] 23 #[v, u]).run Tryd.prog w = .ok v' w' ∧ newBytes w' B v' (l ++ m) ∧ w.grownBy w' v.ownBlock ∧ (v'.ownBlock = v.ownBlock ∨ v'.ownBlock = some w.heap.size) := by
  have hgrow : w.grownBy w v.ownBlock := ⟨rfl, rfl, rfl, Nat.le_refl _, fun _ _ _ => rfl⟩
  by_cases h0 : m.length = 0
  · obtain rfl : m = [] := List.length_eq_zero_iff.1 h0
    obtain ⟨a, c, rfl, _⟩ := hu.slice
    have hsh : ∃ a n c, v = .slice a n c ∧ n ≤ c := by
      obtain ⟨⟨_, h | ⟨g, cap, cur, rfl, _, _, hc, _⟩⟩, _⟩ := hv
      · exact ⟨_, _, _, h.1, Nat.le_refl _⟩
      · exact ⟨_, _, _, rfl, hc⟩
    obtain ⟨a', n', c', rfl, hc⟩ := hsh
    exact ⟨_, w, run_append_nil w _ _ _ Tryd.underlying23 (by kernel_rfl) a' n' c' hc a c, by rw [List.append_nil]; exact hv, hgrow, Or.inl rfl⟩
  · rcases hu with ⟨_, rfl⟩ | ⟨pb, po, cap, rfl, h2, h3, h4, h6, h7⟩
    · exact absurd rfl h0
    · obtain ⟨g, cp, w2, hr, ho, hg, hat, hlt⟩ := run_append (P := Tryd.prog) w 23 23 B 5 (.int .u8 0) 1 Tryd.underlying23 hi8 rfl v _ hv.1 pb po m.length cap (m.map (Value.int .u8)) (by simp)
        (fun j u hu => by
          have hj : j < m.length := by
            by_cases hj : j < m.length
            · exact hj
            · rw [List.getElem?_eq_none (by simp; omega)] at hu; cases hu
          rw [getElem?_u8 hj] at hu
          rw [h6 j hj, ← hu])
        (fun v hv => by obtain ⟨x, _, rfl⟩ := List.mem_map.1 hv; rfl) (by omega) (by simp; unfold maxLen; omega) (by simp; omega) hB
      rw [List.length_map] at hr ho
      refine ⟨_, w2, hr, ⟨?_, getD_append_byte hv.2 h7⟩, hg, ?_⟩
      · rw [List.map_append]; exact ho
      · rcases hat with h | h
        · exact Or.inl h.symm
        · exact Or.inr (by rw [h]; rfl)
/-- .. u any bytes, or none. -/
theorem any_append_run (w : World) (B : Nat) (v u : Value) (l m : List Int) (hv : newBytes w B v l) (hu : anyBytes w u m) (hs : l.length + m.length ≤ 1099511627776) (hB : B ≤ w.heap.size) :
    ∃ v' w', (Builtin.append_ #[23, 23] 23 #[v, u]).run Tryd.prog w = .ok v' w' ∧ newBytes w' B v' (l ++ m) ∧ w.grownBy w' v.ownBlock ∧ (v'.ownBlock = v.ownBlock ∨ v'.ownBlock = some w.heap.size) := by
  rcases hu with hu | ⟨⟨a, rfl⟩, rfl⟩
  · exact bytes_append_run w B v u l m hv hu hs hB
  · have hsh : ∃ a n c, v = .slice a n c ∧ n ≤ c := by
      obtain ⟨⟨_, h | ⟨g, cap, cur, rfl, _, _, hc, _⟩⟩, _⟩ := hv
      · exact ⟨_, _, _, h.1, Nat.le_refl _⟩
      · exact ⟨_, _, _, rfl, hc⟩
    obtain ⟨a', n', c', rfl, hc⟩ := hsh
    exact ⟨_, w, run_append_nil w _ _ _ Tryd.underlying23 (by kernel_rfl) a' n' c' hc a 0, by rw [List.append_nil]; exact hv, ⟨rfl, rfl, rfl, Nat.le_refl _, fun _ _ _ => rfl⟩, Or.inl rfl⟩
theorem below_grown {w w' : World} {B : Nat} {v : Value} (hg : w.grownBy w' v.ownBlock) (hv : ∀ k, v.ownBlock = some k → B ≤ k) (hB : B ≤ w.heap.size) : Below B w w' :=
  ⟨hg.os, hg.tape, hg.output, hg.size, fun k hk => hg.block k (by omega) (fun e => by have := hv k e.symm; omega)⟩
/-- append([]byte{}, u...): new bytes, the same. -/
theorem bytes_copy_run (w : World) (u : Value) (l : List Int) (hu : isBytes w u l) (hl : l.length ≤ 1099511627776) :
    ∃ v' w', (Builtin.append_ #[23, 23] 23 #[.slice (some ⟨w.heap.size, 0, none⟩) 0 0, u]).run Tryd.prog (w.alloc (.cells #[] 5)) = .ok v' w' ∧ newBytes w' w.heap.size v' l ∧ Below w.heap.size w w' := by
  have hb1 : Below w.heap.size w (w.alloc (.cells #[] 5)) := (Below.refl _ _).alloc (Nat.le_refl _) _
  have hO : newBytes (w.alloc (.cells #[] 5)) w.heap.size (.slice (some ⟨w.heap.size, 0, none⟩) 0 0) [] :=
    ⟨⟨rfl, Or.inr ⟨w.heap.size, 0, #[], rfl, Nat.le_refl _, blk_alloc_new _ _, Nat.le_refl _, by unfold maxLen; omega, rfl, rfl⟩⟩, fun i => by simp⟩
  obtain ⟨v', w', hr, hn, hg, _⟩ := bytes_append_run _ w.heap.size _ u [] l hO (hu.below hb1 (Nat.le_refl _)) (by simp; omega) (by simp)
  exact ⟨v', w', hr, hn, hb1.trans (below_grown hg (fun k hk => (hO.block k hk).1) (by simp))⟩

/-- bytes as a string. -/
def strOf (l : List Int) : ByteArray := ⟨(l.map fun n => UInt8.ofNat n.toNat).toArray⟩
theorem strOf_fold (l : List Int) : ∀ s : ByteArray, l.foldl (fun r n => r.push (UInt8.ofNat n.toNat)) s = ⟨(s.data.toList ++ l.map fun n => UInt8.ofNat n.toNat).toArray⟩ := by
  induction l with
  | nil => intro s; simp
  | cons n l ih => intro s; rw [List.foldl_cons, ih]; simp [ByteArray.push]
theorem strOf_size (l : List Int) : (strOf l).size = l.length := by simp [strOf, ByteArray.size]
theorem rowV_map (n : Nat) (f : Nat → Int) : rowV n (fun i => .int .u8 (f i)) = (((List.range n).map f).map (Value.int .u8)).toArray := by
  symm
  apply rowV_eq
  · simp
  · intro i hi; simp [hi]
section
variable {P : Program}
/-- string(b), b a slice over a row of bytes. -/
theorem run_convert_row_string (w : World) (src dst e : TypeId) (b o n c : Nat) (f : Nat → Int) (hs : P.underlying src = some (.slice e)) (he : P.underlying e = some (.int .u8)) (hd : P.underlying dst = some .string)
    (hc : ∀ i, i < n → w.cell? ⟨b, o + i, none⟩ = some (.int .u8 (f i))) :
    (convert src dst (.slice (some ⟨b, o, none⟩) n c)).run P w = .ok (.string (strOf ((List.range n).map f))) w := by
  rw [run_convert_bytes_string w src dst e _ _ _ hs he hd]
  have hl := run_loadCells_list (P := P) w ⟨b, o, none⟩ (rowV n fun i => .int .u8 (f i)).toList (fun j v hv => by rw [Addr.add_mid]; exact range_of_cells hc j v hv)
  rw [Array.length_toList, rowV_size, Array.toArray_toList, rowV_map] at hl
  rw [run_bytesToString w ⟨b, o, none⟩ n c _ hl, strOf_fold]
  simp [strOf]
theorem range_getD (l : List Int) : (List.range l.length).map (fun i => l.getD i 0) = l := by
  apply List.ext_getElem?
  intro i
  rw [List.getElem?_map]
  by_cases h : i < l.length
  · rw [List.getElem?_range h, List.getElem?_eq_getElem h, Option.map_some, List.getD_eq_getElem?_getD, List.getElem?_eq_getElem h]; rfl
  · rw [List.getElem?_eq_none (by simp; omega), List.getElem?_eq_none (by omega)]; rfl
/-- string(b), b any bytes. -/
theorem run_convert_bytes (w : World) (src dst e : TypeId) (v : Value) (l : List Int) (hs : P.underlying src = some (.slice e)) (he : P.underlying e = some (.int .u8)) (hd : P.underlying dst = some .string)
    (h : isBytes w v l) : (convert src dst v).run P w = .ok (.string (strOf l)) w := by
  rcases h with ⟨rfl, rfl⟩ | ⟨pb, po, cap, rfl, h2, h3, h4, h6, h7⟩
  · rw [run_convert_bytes_string w src dst e _ _ _ hs he hd]
    simp [Conv.bytesToString, strOf]
    rfl
  · rw [run_convert_row_string w src dst e pb po l.length cap (fun i => l.getD i 0) hs he hd h6, range_getD]
theorem run_convert_any (w : World) (src dst e : TypeId) (v : Value) (l : List Int) (hs : P.underlying src = some (.slice e)) (he : P.underlying e = some (.int .u8)) (hd : P.underlying dst = some .string)
    (h : anyBytes w v l) : (convert src dst v).run P w = .ok (.string (strOf l)) w := by
  rcases h with h | ⟨⟨a, rfl⟩, rfl⟩
  · exact run_convert_bytes w src dst e v l hs he hd h
  · rw [run_convert_bytes_string w src dst e _ _ _ hs he hd]
    cases a with
    | none => simp [Conv.bytesToString, strOf]; rfl
    | some a => rw [run_bytesToString w a 0 0 [] (by simp [loadCells, loadCellsFrom]), strOf_fold]; simp [strOf]
theorem wp_convert_run {o : Oper} {a : Act} {w w' : World} {K : Act → World → Prop} {Q : Exit → Act → World → Prop} {v r : Value} (s t : TypeId) (x : Operand)
    (ho : o.op = .convert s t x) (hx : a.eval x = v) (hr : (convert s t v).run P w = .ok r w') (h : K (a.put o.dst r) w') : o.wp P a w K Q := by
  unfold Oper.wp execOp
  simp only [ho, hx, Sem.run_bind, hr, Result.andThen_ok, Sem.run_pure]
  exact h
theorem wpList_convert_run {ops : Array Oper} {rest : List Oper} {o : Oper} {a : Act} {w w' : World} {Q : Exit → Act → World → Prop} {v r : Value} (hgd : o.guard = none) (s t : TypeId) (x : Operand)
    (ho : o.op = .convert s t x) (hx : a.eval x = v) (hr : (convert s t v).run P w = .ok r w') (h : wpList P ops Q rest (a.put o.dst r) w') : wpList P ops Q (o :: rest) a w :=
  wpList_plain hgd fun _ hK => wp_convert_run s t x ho hx hr (hK _ _ h)
end
theorem strOf_inj {l m : List Int} (hl : ∀ i, 0 ≤ l.getD i 0 ∧ l.getD i 0 ≤ 255) (hm : ∀ i, 0 ≤ m.getD i 0 ∧ m.getD i 0 ≤ 255) (h : strOf l = strOf m) : l = m := by
  have hlen : l.length = m.length := by rw [← strOf_size l, ← strOf_size m, h]
  have h' : l.map (fun n => UInt8.ofNat n.toNat) = m.map (fun n => UInt8.ofNat n.toNat) := by
    have := congrArg (fun s : ByteArray => s.data.toList) h
    simpa [strOf] using this
  apply List.ext_getElem hlen
  intro i h1 h2
  have e := congrArg (fun q => q[i]?) h'
  simp only [List.getElem?_map, List.getElem?_eq_getElem h1, List.getElem?_eq_getElem h2, Option.map_some, Option.some.injEq] at e
  have a1 := hl i
  have a2 := hm i
  rw [List.getD_eq_getElem?_getD, List.getElem?_eq_getElem h1] at a1
  rw [List.getD_eq_getElem?_getD, List.getElem?_eq_getElem h2] at a2
  simp only [Option.getD_some] at a1 a2
  have e2 := congrArg UInt8.toNat e
  rw [UInt8.toNat_ofNat', UInt8.toNat_ofNat'] at e2
  omega
end Go.Proofs.YtkgegihkhdgdoaaDoor

/- The map of seal: sums, and where they stand first. -/
namespace Go.Proofs.YtkgegihkhdgdoaaDoor
set_option linter.unusedSimpArgs false
set_option linter.unusedVariables false
open Go.RowKit Go.Deep

/-- 32 bytes. -/
def isSum (q : List Int) : Prop := q.length = 32 ∧ ∀ i, 0 ≤ q.getD i 0 ∧ q.getD i 0 ≤ 255
def sumV (q : List Int) : Value := .agg (rowV 32 (arrV q))
theorem sumV_inj {p q : List Int} (hp : isSum p) (hq : isSum q) (e : sumV p = sumV q) : p = q := by
  have h : rowV 32 (arrV p) = rowV 32 (arrV q) := Value.agg.inj e
  apply List.ext_getElem?
  intro i
  by_cases hi : i < 32
  · have := rowV_inj h i hi
    simp only [arrV, Value.int.injEq, true_and] at this
    rw [List.getElem?_eq_getElem (by rw [hp.1]; exact hi), List.getElem?_eq_getElem (by rw [hq.1]; exact hi)]
    rw [List.getD_eq_getElem?_getD, List.getD_eq_getElem?_getD, List.getElem?_eq_getElem (by rw [hp.1]; exact hi), List.getElem?_eq_getElem (by rw [hq.1]; exact hi)] at this
    simpa using this
  · rw [List.getElem?_eq_none (by rw [hp.1]; omega), List.getElem?_eq_none (by rw [hq.1]; omega)]
theorem mapM_all {α β : Type} (f : α → Option β) (g : α → β) : ∀ L : List α, (∀ x ∈ L, f x = some (g x)) → L.mapM f = some (L.map g)
  | [], _ => rfl
  | x :: L, h => by
    rw [List.mapM_cons, h x (by simp), mapM_all f g L (fun y hy => h y (by simp [hy]))]; rfl
theorem arrKey : Go.WideMaps.ArrKey Tryd.prog 32 5 32 := ⟨Tryd.underlying32, by kernel_rfl, by kernel_rfl, by kernel_rfl⟩
theorem types_some : ∃ m, Tryd.prog.types.size = m + 1 := ⟨Tryd.prog.types.size - 1, by
  have : 0 < Tryd.prog.types.size := of_decide_eq_true (by kernel_rfl)
  omega⟩
theorem sumKey {q : List Int} (hq : isSum q) : ∃ l, keyOf Tryd.prog 32 (sumV q) = some l := by
  have hc : Tryd.prog.cellsOf 32 = 32 := by kernel_rfl
  have hc8 : Tryd.prog.cellsOf 5 = 1 := by kernel_rfl
  have hk := arrKey.keyType types_some
  obtain ⟨m, hm⟩ := types_some
  have hform : (sumV q).formed Tryd.prog 32 = true := by simp [sumV, Value.formed, Tryd.underlying32, hc, rowV_size]
  have hl : (rowV 32 (arrV q)).toList.length = 32 := by rw [Array.length_toList, rowV_size]
  have hel : ∀ i ∈ List.range 32, Tryd.prog.keyLits (m + 1) 5 (((rowV 32 (arrV q)).toList.drop (i * 1)).take 1) = some [Lit.int .u8 (q.getD i 0)] := fun i hi => by
    have hi' : i < 32 := List.mem_range.1 hi
    have e1 : ((rowV 32 (arrV q)).toList.drop (i * 1)).take 1 = [arrV q i] := by
      rw [Nat.mul_one, List.drop_eq_getElem_cons (by omega)]
      have : (rowV 32 (arrV q)).toList[i]? = some (arrV q i) := by rw [Array.getElem?_toList]; exact rowV_get _ _ _ hi'
      rw [List.getElem?_eq_getElem (by omega)] at this
      rw [Option.some.inj this]; rfl
    have hb := hq.2 i
    rw [e1]
    have hw : (Lit.int .u8 (q.getD i 0)).wf = true := by
      simp [Lit.wf, IntKind.min, IntKind.max, IntKind.signed, IntKind.bits]; simp at hb; omega
    simp only [Program.keyLits, arrV, Tryd.underlying5]
    rw [if_pos ⟨trivial, hw⟩]
  refine ⟨.string (keyBytes ((List.range 32).map fun i => [Lit.int .u8 (q.getD i 0)]).flatten), ?_⟩
  unfold keyOf
  simp only [Tryd.underlying32, hk, hform, Bool.and_self, if_true]
  rw [hm]
  generalize m + 1 = d at hel ⊢
  simp only [sumV, Value.cells, Program.keyLits, Tryd.underlying32, hl, hc, hc8, if_true]
  rw [mapM_all _ _ _ hel]
  rfl
theorem keyLaw : Go.WideMaps.KeyLaw Tryd.prog 32 := arrKey.law
theorem check_run (w : World) (em : Bool) {q : List Int} (hq : isSum q) : (Instr.checkKey em 10000 32 (sumV q)).run Tryd.prog w = .ok () w := by
  obtain ⟨l, hl⟩ := sumKey hq
  exact keyLaw.check w em hl

/-- a note: a sum, a text. -/
abbrev Nt := List Int × ByteArray
/-- where a sum stands first. -/
def firstAt (N : List Nt) (q : List Int) : Option Nat := N.findIdx? fun x => decide (x.1 = q)
theorem firstAt_lt {N : List Nt} {q : List Int} {i : Nat} (h : firstAt N q = some i) : i < N.length := by
  unfold firstAt at h
  exact (List.findIdx?_eq_some_iff_getElem.1 h).1
theorem firstAt_get {N : List Nt} {q : List Int} {i : Nat} (h : firstAt N q = some i) : ∃ s, N[i]? = some (q, s) := by
  unfold firstAt at h
  obtain ⟨hi, h1, _⟩ := List.findIdx?_eq_some_iff_getElem.1 h
  have : N[i].1 = q := by simpa using h1
  exact ⟨N[i].2, by rw [List.getElem?_eq_getElem hi, ← this]⟩
theorem firstAt_append {N : List Nt} {x : Nt} {q : List Int} : firstAt (N ++ [x]) q = (firstAt N q).or (if x.1 = q then some N.length else none) := by
  unfold firstAt
  rw [List.findIdx?_append]
  simp only [List.findIdx?_cons, List.findIdx?_nil]
  by_cases h : x.1 = q <;> simp [h]
/-- the map of some notes, its memory in F. -/
def mapAt (w : World) (F : Nat → Prop) (mv : Value) (N : List Nt) : Prop :=
  (mv = .map none ∧ N = []) ∨ ∃ (mb : Nat) (es : Array MapEntry) (clock : Nat), mv = .map (some mb) ∧ F mb ∧ w.heap[mb]? = some (.map es clock) ∧
    (∀ e ∈ es.toList, ∃ (q : List Int) (i : Nat), isSum q ∧ e.key = sumV q ∧ firstAt N q = some i ∧ e.val = .int .i64 (i : Int)) ∧ ∀ (q : List Int) (i : Nat), isSum q → firstAt N q = some i → ∃ e ∈ es.toList, e.key = sumV q
theorem zero3 (w : World) : (zeroValue 3).run Tryd.prog w = .ok (.int .i64 0) w := by kernel_rfl
theorem look_run {w : World} {F : Nat → Prop} {mv : Value} {N : List Nt} (h : mapAt w F mv N) {q : List Int} (hq : isSum q) :
    (Instr.lookup 103 mv (sumV q) true).run Tryd.prog w = .ok (.tuple #[.int .i64 (((firstAt N q).getD 0 : Nat) : Int), .bool (firstAt N q).isSome]) w := by
  obtain ⟨l, hl⟩ := sumKey hq
  rcases h with ⟨rfl, rfl⟩ | ⟨mb, es, clock, rfl, _, hb, h1, h2⟩
  · have e0 : firstAt [] q = none := rfl
    have hck := check_run w true hq
    have hf : (Instr.findKey 32 (sumV q) []).run Tryd.prog w = .ok none w := by
      simp [Instr.findKey, run_underlying Tryd.underlying32, Instr.findNow]
    simp [Instr.lookup, run_underlying Tryd.underlying103, hck, hf, zero3, e0]
  · have hck := check_run w es.isEmpty hq
    have hall : ∀ e ∈ es.toList, ∃ l, keyOf Tryd.prog 32 e.key = some l := fun e he => by
      obtain ⟨q', i, hq', hk, _⟩ := h1 e he
      rw [hk]; exact sumKey hq'
    rcases keyLaw.find w hl es.toList hall with ⟨hf, hne⟩ | ⟨j, e, hf, hj, hk⟩
    · have e0 : firstAt N q = none := by
        cases hfa : firstAt N q with
        | none => rfl
        | some i =>
          obtain ⟨e, he, hk⟩ := h2 q i hq hfa
          exact absurd hk (hne e he)
      simp [Instr.lookup, run_underlying Tryd.underlying103, MapKept.run_getObj_map hb, hck, hf, zero3, e0]
    · obtain ⟨q', i, hq', hk', hfa, hv⟩ := h1 e (List.mem_of_getElem? hj)
      obtain rfl : q' = q := sumV_inj hq' hq (hk'.symm.trans hk)
      simp [Instr.lookup, run_underlying Tryd.underlying103, MapKept.run_getObj_map hb, hck, hf, hfa, hv]
end Go.Proofs.YtkgegihkhdgdoaaDoor

/- Notes, and slices of them; frames. -/
namespace Go.Proofs.YtkgegihkhdgdoaaDoor
set_option linter.unusedSimpArgs false
set_option linter.unusedVariables false
open Go.RowKit Go.Deep

/-- NOTHING OUTSIDE F HAS TURNED. -/
structure Fr (F : Nat → Prop) (w w' : World) : Prop where
  os : w'.os = w.os
  tape : w'.tape = w.tape
  output : w'.output = w.output
  size : w.heap.size ≤ w'.heap.size
  block : ∀ k, k < w.heap.size → ¬ F k → w'.heap[k]? = w.heap[k]?
namespace Fr
variable {F G : Nat → Prop} {w w' w'' : World}
theorem refl (F : Nat → Prop) (w : World) : Fr F w w := ⟨rfl, rfl, rfl, Nat.le_refl _, fun _ _ _ => rfl⟩
theorem trans (h : Fr F w w') (k : Fr G w' w'') (hG : ∀ i, i < w.heap.size → G i → F i) : Fr F w w'' :=
  ⟨k.os.trans h.os, k.tape.trans h.tape, k.output.trans h.output, Nat.le_trans h.size k.size, fun i hi hn => (k.block i (Nat.lt_of_lt_of_le hi h.size) (fun g => hn (hG i hi g))).trans (h.block i hi hn)⟩
theorem of_below (F : Nat → Prop) (h : Below w.heap.size w w') : Fr F w w' := ⟨h.os, h.tape, h.output, h.size, fun i hi _ => h.block i hi⟩
theorem below (h : Fr F w w') {B : Nat} (hF : ∀ k, F k → B ≤ k) (hB : B ≤ w.heap.size) : Below B w w' :=
  ⟨h.os, h.tape, h.output, h.size, fun i hi => h.block i (Nat.lt_of_lt_of_le hi hB) (fun f => by have := hF i f; omega)⟩
theorem drew (h : Fr F w w') : Fr F w w'.drew := ⟨h.os, h.tape, h.output, h.size, h.block⟩
theorem mono (h : Fr F w w') (hG : ∀ k, F k → G k) : Fr G w w' := ⟨h.os, h.tape, h.output, h.size, fun i hi hn => h.block i hi (fun f => hn (hG i f))⟩
theorem grown {row : Option Nat} (h : w.grownBy w' row) (hr : ∀ k, row = some k → F k) : Fr F w w' :=
  ⟨h.os, h.tape, h.output, h.size, fun i hi hn => h.block i hi (fun e => hn (hr i e.symm))⟩
theorem setCell (h : Fr F w w') {p : Addr} (hp : F p.block ∨ w.heap.size ≤ p.block) (v : Value) : Fr F w (w'.setCell p v) :=
  ⟨h.os, h.tape, h.output, by rw [nblk_setCell]; exact h.size, fun k hk hn => (blk_setCell_other _ _ _ _ (by rintro rfl; rcases hp with hp | hp; exact hn hp; omega)).trans (h.block k hk hn)⟩
theorem alloc (h : Fr F w w') (o : Obj) : Fr F w (w'.alloc o) :=
  ⟨h.os, h.tape, h.output, by have := h.size; simp; omega, fun k hk hn => (blk_alloc_lt _ _ _ (Nat.lt_of_lt_of_le hk h.size)).trans (h.block k hk hn)⟩
end Fr

/-- a note's cells. -/
def noteV (x : Nt) (j : Nat) : Value := if j < 32 then arrV x.1 j else .string x.2
def noteA (x : Nt) : Value := .agg (rowV 33 (noteV x))
def noteL (x : Nt) : List Value := (rowV 33 (noteV x)).toList
theorem noteL_length (x : Nt) : (noteL x).length = 33 := by simp [noteL, rowV_size]
theorem noteL_get (x : Nt) (j : Nat) (h : j < 33) : (noteL x)[j]? = some (noteV x j) := by rw [noteL, Array.getElem?_toList]; exact rowV_get _ _ _ h
theorem noteV_one (x : Nt) (j : Nat) : (noteV x j).oneCell' = true := by unfold noteV arrV; split <;> rfl
theorem notes_get : ∀ (N : List Nt) (i j : Nat) (x : Nt), N[i]? = some x → j < 33 → (N.flatMap noteL)[i * 33 + j]? = some (noteV x j)
  | [], i, j, x, h, _ => by simp at h
  | y :: N, 0, j, x, h, hj => by
    have e : y = x := by simpa using h
    subst e
    rw [List.flatMap_cons, Nat.zero_mul, Nat.zero_add, List.getElem?_append_left (by rw [noteL_length]; exact hj)]
    exact noteL_get _ _ hj
  | y :: N, i + 1, j, x, h, hj => by
    rw [List.flatMap_cons, List.getElem?_append_right (by rw [noteL_length]; omega), noteL_length, show (i + 1) * 33 + j - 33 = i * 33 + j by omega]
    exact notes_get N i j x (by simpa using h) hj
/-- a slice of notes of the book's own. -/
def listAt (w : World) (F : Nat → Prop) (v : Value) (N : List Nt) : Prop := w.ownsRow 0 107 33 v N.length (N.flatMap noteL) ∧ ∀ k, v.ownBlock = some k → F k
theorem listAt_nil (w : World) (F : Nat → Prop) : listAt w F (.slice none 0 0) [] := ⟨⟨rfl, Or.inl ⟨rfl, rfl⟩⟩, fun k hk => by cases hk⟩
theorem listAt.shape {w : World} {F : Nat → Prop} {v : Value} {N : List Nt} (h : listAt w F v N) : ∃ a cap, v = .slice a N.length cap ∧ N.length ≤ cap ∧ cap ≤ maxLen ∧ ∀ i x, N[i]? = some x → ∃ g, a = some ⟨g, 0, none⟩ ∧ F g ∧ g < w.heap.size ∧ ∀ j, j < 33 → w.cell? ⟨g, i * 33 + j, none⟩ = some (noteV x j) := by
  obtain ⟨⟨hl, h | ⟨g, cap, cur, rfl, _, hb, hc, hm, hs, ht⟩⟩, hF⟩ := h
  · have e : N = [] := List.length_eq_zero_iff.1 h.2
    subst e
    exact ⟨none, 0, h.1, by simp, by unfold maxLen; omega, fun i x hx => by simp at hx⟩
  · refine ⟨_, cap, rfl, hc, hm, fun i x hx => ⟨g, rfl, hF g rfl, (Array.getElem?_eq_some_iff.1 hb).1, fun j hj => ?_⟩⟩
    rw [cell_of_row _ _ _ _ _ _ hb]
    have hi : i < N.length := (List.getElem?_eq_some_iff.1 hx).1
    have := notes_get N i j x hx hj
    rw [← ht, List.getElem?_take, if_pos (by have := Nat.mul_le_mul_right 33 (show i + 1 ≤ N.length from hi); omega), Array.getElem?_toList] at this
    exact this
theorem listAt.far {w w' : World} {F G : Nat → Prop} {v : Value} {N : List Nt} (h : listAt w F v N) (hb : ∀ k, F k → k < w.heap.size → w'.heap[k]? = w.heap[k]?) (hG : ∀ k, F k → G k) : listAt w' G v N := by
  obtain ⟨⟨hl, h | ⟨g, cap, cur, rfl, hz, hg, hr⟩⟩, hF⟩ := h
  · exact ⟨⟨hl, Or.inl h⟩, fun k hk => hG k (hF k hk)⟩
  · exact ⟨⟨hl, Or.inr ⟨g, cap, cur, rfl, hz, by rw [hb g (hF g rfl) (Array.getElem?_eq_some_iff.1 hg).1]; exact hg, hr⟩⟩, fun k hk => hG k (hF k hk)⟩
theorem mapAt.far {w w' : World} {F G : Nat → Prop} {v : Value} {N : List Nt} (h : mapAt w F v N) (hb : ∀ k, F k → k < w.heap.size → w'.heap[k]? = w.heap[k]?) (hG : ∀ k, F k → G k) : mapAt w' G v N := by
  rcases h with h | ⟨mb, es, clock, rfl, hF, hg, h1, h2⟩
  · exact Or.inl h
  · exact Or.inr ⟨mb, es, clock, rfl, hG _ hF, by rw [hb mb hF (Array.getElem?_eq_some_iff.1 hg).1]; exact hg, h1, h2⟩
theorem infoNote : (Tryd.prog.info? 107).map (fun i => (i.zero, i.size, i.bytes)) = some (some (.agg (rowV 33 (noteV (List.replicate 32 0, ByteArray.empty)))), 33, 48) := by kernel_rfl
theorem run_build_note (g : Nat → Value) (w : World) : (Instr.buildSlice 102 1 #[(0, .agg (rowV 33 g))]).run Tryd.prog w = .ok (.slice (some ⟨w.heap.size, 0, none⟩) 1 1) (w.alloc (.cells (rowV 33 g) 107)) := by
  show (_ : Result Value) = _
  kernel_rfl
/-- append(n.list, fresh). -/
theorem note_append_run (w : World) (F : Nat → Prop) (v : Value) (N : List Nt) (x : Nt) (h : listAt w F v N) (hs : N.length < 1000000) (hF : ∀ k, F k → k < w.heap.size) :
    ∃ v' w', (Builtin.append_ #[102, 102] 102 #[v, .slice (some ⟨w.heap.size, 0, none⟩) 1 1]).run Tryd.prog (w.alloc (.cells (rowV 33 (noteV x)) 107)) = .ok v' w' ∧
      listAt w' (fun k => F k ∨ (w.heap.size ≤ k ∧ k < w'.heap.size)) v' (N ++ [x]) ∧ (w.alloc (.cells (rowV 33 (noteV x)) 107)).grownBy w' v.ownBlock := by
  have hbk : ∀ k, F k → k < w.heap.size → (w.alloc (.cells (rowV 33 (noteV x)) 107)).heap[k]? = w.heap[k]? := fun k _ hk => blk_alloc_lt _ _ _ hk
  have h1 := h.far hbk (fun k hk => hk)
  cases hq : Tryd.prog.info? 107 with
  | none => have := infoNote; simp [hq] at this
  | some i =>
    have hi := infoNote
    simp only [hq, Option.map_some, Option.some.injEq, Prod.mk.injEq] at hi
    obtain ⟨hz, hsz, hby⟩ := hi
    obtain ⟨g, cap, w', hr, ho, hg, hat, hlt⟩ := run_append_lies (P := Tryd.prog) (w.alloc (.cells (rowV 33 (noteV x)) 107)) 102 102 0 107 i _ 33 48 Tryd.underlying102 hq hz hsz hby (by simp [Value.cells, rowV_size]) (by omega)
      v N.length _ h1.1 ⟨w.heap.size, 0, none⟩ 1 1 (noteL x) (by rw [noteL_length]) (fun j u hu => by
        rw [Addr.add_mid, Nat.zero_add]
        have hj : j < 33 := by
          by_cases hj : j < 33
          · exact hj
          · rw [List.getElem?_eq_none (by rw [noteL_length]; omega)] at hu; cases hu
        rw [noteL_get x j hj] at hu
        rw [(rowIs_box w 107 33 (noteV x)).cell hj]; exact hu)
      (fun u hu => by
        rw [noteL, Array.mem_toList_iff] at hu
        obtain ⟨k, hk, rfl⟩ := Array.mem_iff_getElem.1 hu
        have hk' : k < 33 := by rw [rowV_size] at hk; exact hk
        have := rowV_get 33 (noteV x) k hk'
        rw [Array.getElem?_eq_getElem hk] at this
        rw [Option.some.inj this]; exact noteV_one _ _) (by omega) (by unfold maxLen; omega) (by omega) (Nat.zero_le _) (w.heap.size + 1) (by simp)
    refine ⟨_, w', hr, ⟨?_, fun k hk => ?_⟩, hg⟩
    · rw [List.flatMap_append, List.length_append, List.length_singleton]
      simpa using ho
    · have hk' : g = k := by simpa [Value.ownBlock] using hk
      subst hk'
      rcases hat with h2 | h2
      · exact Or.inl (h.2 g h2)
      · exact Or.inr ⟨by omega, hlt⟩
/-- a struct's field of 32 cells. -/
theorem run_part_sum (w : World) (x : Nt) : (part 32 (rowV 33 (noteV x)) 0).run Tryd.prog w = .ok (sumV x.1) w := by
  have e : (rowV 33 (noteV x)).extract 0 (0 + 32) = rowV 32 (arrV x.1) := rowV_eq (by simp [rowV_size]) fun i hi => by
    rw [Array.getElem?_extract, if_pos (by rw [rowV_size]; omega), Nat.zero_add, rowV_get _ _ _ (by omega), noteV, if_pos hi]
  have hagg : (isAgg 32).run Tryd.prog w = .ok true w := by
    unfold isAgg
    rw [Sem.run_bind, run_underlying Tryd.underlying32 w]
    simp
  have hsz : (sizeOf 32).run Tryd.prog w = .ok 32 w := by kernel_rfl
  simp [part, Sem.run_bind, hagg, hsz, sumV, e]
theorem run_part_text (w : World) (x : Nt) : (part 9 (rowV 33 (noteV x)) 32).run Tryd.prog w = .ok (.string x.2) w := by
  have hagg : (isAgg 9).run Tryd.prog w = .ok false w := by
    unfold isAgg
    rw [Sem.run_bind, run_underlying Tryd.underlying9 w]
    simp
  simp [part, Sem.run_bind, hagg, rowV_get 33 (noteV x) 32 (by omega), noteV]
theorem arrEq_list {p q : List Int} (hp : isSum p) (hq : isSum q) : arrEq 32 (fun i => p.getD i 0) (fun i => q.getD i 0) = decide (p = q) := by
  rw [Bool.eq_iff_iff, arrEq_iff, decide_eq_true_iff]
  constructor
  · intro h
    exact sumV_inj hp hq (congrArg Value.agg (rowV_congr fun i hi => by simp only [arrV]; rw [h i hi]))
  · rintro rfl i _; rfl
theorem run_eq_sums (w : World) (d : Nat) {p q : List Int} (hp : isSum p) (hq : isSum q) : (Op.equalIn (d + 2) 32 (sumV p) (sumV q)).run Tryd.prog w = .ok (decide (p = q)) w := by
  have hc : Tryd.prog.cellsOf 5 = 1 := by kernel_rfl
  have hi : (Tryd.prog.info? 5).isSome = true := by kernel_rfl
  obtain ⟨i, hi'⟩ := Option.isSome_iff_exists.1 hi
  have h2 := run_eqItems_ints (P := Tryd.prog) w d 5 .u8 Tryd.underlying5 32 (fun i => p.getD i 0) (fun i => q.getD i 0) (List.range 32) (fun i hi => List.mem_range.1 hi)
  unfold sumV
  rw [run_equalIn_array w (d + 1) _ _ Tryd.underlying32 hi', hc, ← arrEq_list hp hq]
  exact h2
/-- '==' of two notes. -/
theorem run_eq_notes (w : World) {x y : Nt} (hx : isSum x.1) (hy : isSum y.1) : (Op.equalIn 10000 107 (noteA x) (noteA y)).run Tryd.prog w = .ok (decide (x = y)) w := by
  have hu : Tryd.prog.underlying 107 = some (.struct (Tryd.prog.fieldsOf 107)) := by kernel_rfl
  have hs : Tryd.prog.stoodInHeld 107 = false := by kernel_rfl
  have hf : ∃ f1 f2 : Field, (Tryd.prog.fieldsOf 107).toList = [f1, f2] ∧ f1.name ≠ "_" ∧ f1.type = 32 ∧ f1.offset = 0 ∧ f2.name ≠ "_" ∧ f2.type = 9 ∧ f2.offset = 32 := by
    have hm : (Tryd.prog.fieldsOf 107).toList.map (fun f => (f.name, f.type, f.offset)) = [("sum", 32, 0), ("text", 9, 32)] := by kernel_rfl
    match hl : (Tryd.prog.fieldsOf 107).toList with
    | [] => rw [hl] at hm; simp at hm
    | [_] => rw [hl] at hm; simp at hm
    | [f1, f2] =>
      rw [hl] at hm
      simp only [List.map_cons, List.map_nil, List.cons.injEq, Prod.mk.injEq, and_true] at hm
      obtain ⟨⟨n1, t1, o1⟩, n2, t2, o2⟩ := hm
      exact ⟨f1, f2, rfl, by rw [n1]; decide, t1, o1, by rw [n2]; decide, t2, o2⟩
    | _ :: _ :: _ :: _ => rw [hl] at hm; simp at hm
  obtain ⟨f1, f2, he, a1, a2, a3, b1, b2, b3⟩ := hf
  unfold noteA
  rw [run_equalIn_struct w 9999 _ _ _ hu hs, he]
  simp only [Op.eqFields, a1, b1, a2, a3, b2, b3, ne_eq, not_false_eq_true, if_true, Sem.run_bind, run_part_sum, run_part_text, Result.andThen_ok]
  rw [run_eq_sums w 9997 hx hy]
  simp only [Result.andThen_ok]
  obtain ⟨p, s⟩ := x
  obtain ⟨q, t⟩ := y
  by_cases h : p = q
  · subst h
    have ht := run_part_text w (p, s)
    have ht2 := run_part_text w (p, t)
    have he : (Op.equalIn 9999 9 (.string s) (.string t)).run Tryd.prog w = .ok (s.toList == t.toList) w := run_equalIn_string w 9998 9 s t Tryd.underlying9
    have hd : (s.toList == t.toList) = decide (s = t) := by
      rw [Bool.eq_iff_iff, beq_iff_eq, decide_eq_true_iff, ByteArray.toList_eq, ByteArray.toList_eq]
      exact ⟨fun h => ByteArray.ext (Array.toList_inj.1 h), fun h => by rw [h]⟩
    rw [hd] at he
    simp only [decide_true, Bool.not_true, Bool.false_eq_true, if_false, Sem.run_bind, ht, ht2, he, Result.andThen_ok]
    by_cases h2 : s = t
    · subst h2; simp
    · simp [h2]
  · simp [h]
end Go.Proofs.YtkgegihkhdgdoaaDoor

/- A region that draws its order, walked by hand: operations that are fixed under S are taken first; a whole row is loaded by its fact; a call is met by its contract. -/
namespace Go.Proofs.YtkgegihkhdgdoaaDoor
open Go.RowKit Go.Deep

section
variable {P : Program}
/-- A LOAD OF A WHOLE ARRAY OR STRUCT, in a region that has guards. -/
theorem wpList_load_w {ops : Array Oper} {rest : List Oper} {op : Oper} {a : Act} {w : World} {Q : Exit → Act → World → Prop} (ty : TypeId) (x : Operand) (ho : op.op = .load ty x) (hw : Region.wanted op (yielded ops a.tmps) = true)
    (b o m : Nat) (g : Nat → Value) (hx : a.eval x = .pointer (some ⟨b, o, none⟩)) (d : TypeDesc) (hu : P.underlying ty = some d) (hd : d.isRow = true) (hi : (P.info? ty).map (·.size) = some m)
    (hc : ∀ i, i < m → w.cell? ⟨b, o + i, none⟩ = some (g i))
    (h : wpList P ops Q rest (a.put op.dst (.agg (rowV m g))) w) : wpList P ops Q (op :: rest) a w := by
  unfold wpList
  rw [if_pos hw]
  refine Or.inl (wp_load_mid ty x ho b o hx (rowV m g).toList d (range_of_cells hc) hu hd ?_ ?_)
  · rw [hi, Array.length_toList, rowV_size]
  · rw [Array.toArray_toList]; exact h
end
section
variable {P : Program} {md : Region.Mode} {l : List Oper} {Q : Exit → Act → World → Prop} {S : World → Prop}
theorem list_toArray_get (l : List Oper) (i : Nat) : l.toArray[i]? = l[i]? := by simp
theorem take_op {i : Nat} {oi : Oper} {v : Value} {fuel : Nat} {listed : Array Bool} {a : Act} {w : World} (hi : l[i]? = some oi)
    (hs : Region.noSelect l.toArray = true) (hf : Region.free md l.toArray listed i = true) (hr : (Region.ready md l.toArray listed).contains i = true)
    (hQ : ∀ c a w, Q (.panic c) (a.put oi.dst v) w → Q (.panic c) a w) (hw : Region.wanted oi (yielded l.toArray a.tmps) = true) (hS : S w) (hy : ∀ w, S w → (execOp a.eval oi).run P w = .ok (.value v) w)
    (h : wpAnyH P md l.toArray Q S fuel (listed.setIfInBounds i true) (a.put oi.dst v) w) : wpAnyH P md l.toArray Q S (fuel + 1) listed a w :=
  wpAnyH_take ((list_toArray_get l i).trans hi) hs hf hr hQ (Or.inl ⟨hw, hy⟩) hS h
/-- an operation whose guard says no. -/
theorem take_not {i : Nat} {oi : Oper} {fuel : Nat} {listed : Array Bool} {a : Act} {w : World} (hi : l[i]? = some oi)
    (hs : Region.noSelect l.toArray = true) (hf : Region.free md l.toArray listed i = true) (hr : (Region.ready md l.toArray listed).contains i = true)
    (hQ : ∀ c a w, Q (.panic c) (a.put oi.dst undef) w → Q (.panic c) a w) (hw : Region.wanted oi (yielded l.toArray a.tmps) = false) (hS : S w)
    (h : wpAnyH P md l.toArray Q S fuel (listed.setIfInBounds i true) (a.put oi.dst undef) w) : wpAnyH P md l.toArray Q S (fuel + 1) listed a w :=
  wpAnyH_take ((list_toArray_get l i).trans hi) hs hf hr hQ (Or.inr ⟨hw, rfl⟩) hS h
theorem take_load {i : Nat} {oi : Oper} {fuel : Nat} {listed : Array Bool} {a : Act} {w : World} (hi : l[i]? = some oi)
    (hs : Region.noSelect l.toArray = true) (hf : Region.free md l.toArray listed i = true) (hr : (Region.ready md l.toArray listed).contains i = true)
    (ty : TypeId) (x : Operand) (ho : oi.op = .load ty x) (b o m : Nat) (g : Nat → Value) (hx : a.eval x = .pointer (some ⟨b, o, none⟩)) (d : TypeDesc) (hu : P.underlying ty = some d) (hd : d.isRow = true) (hn : (P.info? ty).map (·.size) = some m)
    (hQ : ∀ c a w, Q (.panic c) (a.put oi.dst (.agg (rowV m g))) w → Q (.panic c) a w) (hw : Region.wanted oi (yielded l.toArray a.tmps) = true) (hS : S w)
    (hrow : ∀ w, S w → ∀ i, i < m → w.cell? ⟨b, o + i, none⟩ = some (g i))
    (h : wpAnyH P md l.toArray Q S fuel (listed.setIfInBounds i true) (a.put oi.dst (.agg (rowV m g))) w) : wpAnyH P md l.toArray Q S (fuel + 1) listed a w := by
  refine wpAnyH_take ((list_toArray_get l i).trans hi) hs hf hr hQ ?_ hS h
  have e : (rowV m g) = (rowV m g).toList.toArray := by rw [Array.toArray_toList]
  rw [e]
  exact yieldsIf_load_mid hw ty x ho b o hx (rowV m g).toList d (fun w hw => range_of_cells (hrow w hw)) hu hd (by rw [hn, Array.length_toList, rowV_size])
/-- the one operation that is left to come up. -/
theorem take_one {i : Nat} {oi : Oper} {fuel : Nat} {listed : Array Bool} {a : Act} {w : World} (hi : l[i]? = some oi) (hr : Region.ready md l.toArray listed = [i]) (hw : Region.wanted oi (yielded l.toArray a.tmps) = true)
    (h : ∀ K' : Act → World → Prop, Shut (∀ a w, S w → (S w → wpAnyH P md l.toArray Q S fuel (listed.setIfInBounds i true) a w) → K' a w) → Oper.wp P oi a w K' Q) : wpAnyH P md l.toArray Q S (fuel + 1) listed a w :=
  wpAnyH_ready hr (by simp) (AllReadyH.cons ((list_toArray_get l i).trans hi) (fun K' hK => by rw [if_pos hw]; exact h K' hK) AllReadyH.nil)
end
end Go.Proofs.YtkgegihkhdgdoaaDoor

/- A region that draws its order: two reads that may come in either order. -/
namespace Go.Proofs.YtkgegihkhdgdoaaDoor
open Go.RowKit Go.Deep

section
variable {P : Program} {md : Region.Mode} {l : List Oper} {Q : Exit → Act → World → Prop} {S : World → Prop}
/-- an operation, by what its run comes to. -/
theorem wp_of_run {o : Oper} {a : Act} {w w' : World} {K : Act → World → Prop} {v : Value} (hr : (execOp a.eval o).run P w = .ok (.value v) w') (h : K (a.put o.dst v) w') : Oper.wp P o a w K Q := by
  unfold Oper.wp
  rw [hr]; exact h
/-- the one operation that is left to come up, by what its run comes to. -/
theorem take_run {i : Nat} {oi : Oper} {v : Value} {fuel : Nat} {listed : Array Bool} {a : Act} {w w' : World} (hi : l[i]? = some oi) (hr : Region.ready md l.toArray listed = [i]) (hw : Region.wanted oi (yielded l.toArray a.tmps) = true)
    (hy : (execOp a.eval oi).run P w = .ok (.value v) w') (hS : S w') (h : wpAnyH P md l.toArray Q S fuel (listed.setIfInBounds i true) (a.put oi.dst v) w') : wpAnyH P md l.toArray Q S (fuel + 1) listed a w :=
  take_one hi hr hw fun _ hK => wp_of_run hy (hK.out _ _ hS fun _ => h)
/-- two operations that may come up in either order. -/
theorem take_two {i j : Nat} {oi oj : Oper} {u v : Value} {fuel : Nat} {listed : Array Bool} {a : Act} {w : World} (hi : l[i]? = some oi) (hj : l[j]? = some oj) (hr : Region.ready md l.toArray listed = [i, j]) (hw : Region.wanted oi (yielded l.toArray a.tmps) = true) (hv : Region.wanted oj (yielded l.toArray a.tmps) = true) (hS : S w)
    (hy : (execOp a.eval oi).run P w = .ok (.value u) w) (hz : (execOp a.eval oj).run P w = .ok (.value v) w)
    (h1 : wpAnyH P md l.toArray Q S fuel (listed.setIfInBounds i true) (a.put oi.dst u) w) (h2 : wpAnyH P md l.toArray Q S fuel (listed.setIfInBounds j true) (a.put oj.dst v) w) : wpAnyH P md l.toArray Q S (fuel + 1) listed a w :=
  wpAnyH_ready hr (by simp) (AllReadyH.cons ((list_toArray_get l i).trans hi) (fun K' hK => by rw [if_pos hw]; exact wp_of_run hy (hK.out _ _ hS fun _ => h1))
    (AllReadyH.cons ((list_toArray_get l j).trans hj) (fun K' hK => by rw [if_pos hv]; exact wp_of_run hz (hK.out _ _ hS fun _ => h2)) AllReadyH.nil))
end
end Go.Proofs.YtkgegihkhdgdoaaDoor

/- A region that draws its order: what holds from some operation on may be held from there on. -/
namespace Go.Proofs.YtkgegihkhdgdoaaDoor
open Go.RowKit Go.Deep

section
variable {P : Program} {md : Region.Mode} {l : List Oper} {Q : Exit → Act → World → Prop}
variable {S : World → Prop}
/-- two operations of which either may come up. -/
theorem take_pair {i j : Nat} {oi oj : Oper} {fuel : Nat} {listed : Array Bool} {a : Act} {w : World} (hi : l[i]? = some oi) (hj : l[j]? = some oj) (hr : Region.ready md l.toArray listed = [i, j])
    (hw : Region.wanted oi (yielded l.toArray a.tmps) = true) (hv : Region.wanted oj (yielded l.toArray a.tmps) = true)
    (h1 : ∀ K' : Act → World → Prop, Shut (∀ a w, S w → (S w → wpAnyH P md l.toArray Q S fuel (listed.setIfInBounds i true) a w) → K' a w) → Oper.wp P oi a w K' Q)
    (h2 : ∀ K' : Act → World → Prop, Shut (∀ a w, S w → (S w → wpAnyH P md l.toArray Q S fuel (listed.setIfInBounds j true) a w) → K' a w) → Oper.wp P oj a w K' Q) : wpAnyH P md l.toArray Q S (fuel + 1) listed a w :=
  wpAnyH_ready hr (by simp) (AllReadyH.cons ((list_toArray_get l i).trans hi) (fun K' hK => by rw [if_pos hw]; exact h1 K' hK)
    (AllReadyH.cons ((list_toArray_get l j).trans hj) (fun K' hK => by rw [if_pos hv]; exact h2 K' hK) AllReadyH.nil))
end
end Go.Proofs.YtkgegihkhdgdoaaDoor

namespace Go.Proofs.YtkgegihkhdgdoaaDoor
open Go.RowKit Go.Deep

section
variable {P : Program}
theorem wp_build_run {o : Oper} {a : Act} {w w' : World} {K : Act → World → Prop} {Q : Exit → Act → World → Prop} {v r : Value} (t : TypeId) (n i : Nat) (x : Operand)
    (ho : o.op = .buildSlice t n #[(i, x)]) (hx : a.eval x = v) (hr : (Instr.buildSlice t n #[(i, v)]).run P w = .ok r w') (h : K (a.put o.dst r) w') : o.wp P a w K Q := by
  unfold Oper.wp execOp
  simp only [ho, List.map_toArray, List.map_cons, List.map_nil, hx, Sem.run_bind, hr, Result.andThen_ok, Sem.run_pure]
  exact h
theorem wpList_build_run {ops : Array Oper} {rest : List Oper} {o : Oper} {a : Act} {w w' : World} {Q : Exit → Act → World → Prop} {v r : Value} (hgd : o.guard = none) (t : TypeId) (n i : Nat) (x : Operand)
    (ho : o.op = .buildSlice t n #[(i, x)]) (hx : a.eval x = v) (hr : (Instr.buildSlice t n #[(i, v)]).run P w = .ok r w') (h : wpList P ops Q rest (a.put o.dst r) w') : wpList P ops Q (o :: rest) a w :=
  wpList_plain hgd fun _ hK => wp_build_run t n i x ho hx hr (hK _ _ h)
end
end Go.Proofs.YtkgegihkhdgdoaaDoor

/- slices.Index, slices.Contains of notes. -/
namespace Go.Proofs.YtkgegihkhdgdoaaDoor
set_option linter.unusedSimpArgs false
set_option linter.unusedVariables false
open Go.RowKit Go.Deep

set_option maxHeartbeats 1000000 in
set_option maxRecDepth 100000 in
theorem index_any (a : Option Addr) (m cap : Nat) (X : Nat → Nt) (x : Nt) (w : World) (hX : ∀ i, i < m → isSum (X i).1) (hx : isSum x.1) (hm : m ≤ maxLen)
    (hc : ∀ i, i < m → ∃ g o, a = some ⟨g, o, none⟩ ∧ g < w.heap.size ∧ ∀ j, j < 33 → w.cell? ⟨g, o + i * 33 + j, none⟩ = some (noteV (X i) j)) :
    Calls Tryd.prog 102 #[.slice a m cap, noteA x] w fun e w' => ∃ r : Int, e = .returned (.int .i64 r) ∧ ((0 ≤ r ∧ ∃ i, i < m ∧ X i = x) ∨ (r = -1 ∧ ∀ i, i < m → X i ≠ x)) ∧ Below w.heap.size w w' := by
  unfold maxLen at hm
  have q0 : (m : Int) ≤ 9223372036854775807 := by omega
  unfold noteA
  go_enter Tryd.func102, Tryd.ntmps102
  go_wp2
  have r0 := rowIs_box w 107 33 (noteV x)
  have hb0 : Below w.heap.size w (w.alloc (.cells (rowV 33 (noteV x)) 107)) := (Below.refl _ _).alloc (Nat.le_refl _) _
  go_loopw [8] (fun i wr => ∃ k : Nat, k ≤ m ∧ i = .int .i64 k ∧ (∀ j, j < k → X j ≠ x) ∧ Below (w.heap.size + 1) (w.alloc (.cells (rowV 33 (noteV x)) 107)) wr) (fun i _ => m - (intOf i).toNat)
  case atStart => exact ⟨0, by omega, rfl, fun j hj => by omega, Below.refl _ _⟩
  case round =>
    obtain ⟨k, hk, rfl, hne, hb⟩ := hrel
    have B0 : Hid _ := hb0
    have R0 : Hid _ := r0
    clear hb0 r0
    by_cases hlt : k < m
    · obtain ⟨g, o, rfl, hg, hcell⟩ := hc k hlt
      have b0 : (0 : Int) ≤ (k : Int) := by omega
      have b1 : (k : Int) < (m : Int) := by omega
      have XC : Hid (∀ wz, Below (w.heap.size + 1) (w.alloc (.cells (rowV 33 (noteV x)) 107)) wz → ∀ i, i < 33 → wz.cell? ⟨w.heap.size, 0 + i, none⟩ = some (noteV x i)) := (show ∀ wz, Below (w.heap.size + 1) (w.alloc (.cells (rowV 33 (noteV x)) 107)) wz → ∀ i, i < 33 → wz.cell? ⟨w.heap.size, 0 + i, none⟩ = some (noteV x i) from fun wz hz i hi => by
        rw [Nat.zero_add, hz.cell (p := ⟨w.heap.size, i, none⟩) (Nat.lt_succ_self _)]; exact World.rowIs.cell R0.out hi)
      have YC : Hid (∀ wz, Below (w.heap.size + 1) (w.alloc (.cells (rowV 33 (noteV x)) 107)) wz → ∀ i, i < 33 → wz.cell? ⟨g, o + k * 33 + i, none⟩ = some (noteV (X k) i)) := (show ∀ wz, Below (w.heap.size + 1) (w.alloc (.cells (rowV 33 (noteV x)) 107)) wz → ∀ i, i < 33 → wz.cell? ⟨g, o + k * 33 + i, none⟩ = some (noteV (X k) i) from fun wz hz i hi => by
        rw [hz.cell (p := ⟨g, o + k * 33 + i, none⟩) (show g < w.heap.size + 1 by omega), B0.out.cell (p := ⟨g, o + k * 33 + i, none⟩) hg]; exact hcell i hi)
      have heq : ∀ wz : World, (Op.equalIn 10000 107 (.agg (rowV 33 (noteV x))) (.agg (rowV 33 (noteV (X k))))).run Tryd.prog wz = .ok (decide (x = X k)) wz := fun wz => run_eq_notes wz hx (hX k hlt)
      have HB : Hid _ := hb
      have hne' : Hid _ := hne
      clear hcell hb hne
      go_upto_region 4 with fail
      go_cut [8, 16] from 8 to 18 (fun i c wx => i = .int .i64 (k : Int) ∧ c = .bool (decide (x = X k)) ∧ Below (w.heap.size + 1) (w.alloc (.cells (rowV 33 (noteV x)) 107)) wx)
      case first =>
        refine wp_region_noPanic ?_
        refine wp_region_held_drew (S := fun w' => Below (w.heap.size + 1) (w.alloc (.cells (rowV 33 (noteV x)) 107)) w') (by kernel_rfl) (HB.out.drew) (fun hHeld => ?_)
        refine take_load (i := 0) rfl (by kernel_rfl) (by kernel_rfl) (by kernel_rfl) 107 _ rfl w.heap.size 0 33 (noteV x) rfl _ Tryd.underlying107 rfl (by kernel_rfl) (fun _ _ _ h => h) rfl hHeld (fun wz hz => XC.out wz hz) ?_
        try simp only [Act.put, List.setIfInBounds_toArray, List.set_cons_zero, List.set_cons_succ]
        refine take_op (i := 1) (v := ?vi1) rfl (by kernel_rfl) (by kernel_rfl) (by kernel_rfl) (fun _ _ _ h => h) rfl hHeld ?yi1 ?ri1
        case yi1 => (intro wz hz; go_simp; first | done | with_reducible rfl)
        try simp only [Act.put, List.setIfInBounds_toArray, List.set_cons_zero, List.set_cons_succ]
        refine take_op (i := 2) (v := ?vi2) rfl (by kernel_rfl) (by kernel_rfl) (by kernel_rfl) (fun _ _ _ h => h) rfl hHeld ?yi2 ?ri2
        case yi2 => (intro wz hz; go_simp; first | done | with_reducible rfl)
        try simp only [Act.put, List.setIfInBounds_toArray, List.set_cons_zero, List.set_cons_succ]
        refine take_op (i := 3) (v := ?vi3) rfl (by kernel_rfl) (by kernel_rfl) (by kernel_rfl) (fun _ _ _ h => h) rfl hHeld ?yi3 ?ri3
        case yi3 => (intro wz hz; go_simp; first | done | with_reducible rfl)
        try simp only [Act.put, List.setIfInBounds_toArray, List.set_cons_zero, List.set_cons_succ]
        refine take_load (i := 4) rfl (by kernel_rfl) (by kernel_rfl) (by kernel_rfl) 107 _ rfl g (o + k * 33) 33 (noteV (X k)) rfl _ Tryd.underlying107 rfl (by kernel_rfl) (fun _ _ _ h => h) rfl hHeld (fun wz hz => YC.out wz hz) ?_
        try simp only [Act.put, List.setIfInBounds_toArray, List.set_cons_zero, List.set_cons_succ]
        refine take_op (i := 5) (v := ?vi5) rfl (by kernel_rfl) (by kernel_rfl) (by kernel_rfl) (fun _ _ _ h => h) rfl hHeld ?yi5 ?ri5
        case yi5 => (intro wz hz; have hez := heq wz; go_simp; first | done | with_reducible rfl)
        try simp only [Act.put, List.setIfInBounds_toArray, List.set_cons_zero, List.set_cons_succ]
        refine wpAnyH_done (by kernel_rfl) ?_ _
        refine NoPanic.normal ?_
        have HB2 : Hid _ := hHeld
        clear hHeld
        go_wp2_with fail
        go_meet
        case rel => exact ⟨rfl, rfl, HB2.out⟩
      case rest =>
        obtain ⟨rfl, rfl, hb2⟩ := hcut
        have HB2 : Hid _ := hb2
        clear hb2 HB XC YC heq
        by_cases hxe : x = X k
        · have hd : decide (x = X k) = true := decide_eq_true hxe
          rw [hd]
          go_wp2
          go_ret
          exact ⟨_, rfl, Or.inl ⟨by omega, k, hlt, hxe.symm⟩, B0.out.trans (HB2.out.mono (by omega))⟩
        · have hd : decide (x = X k) = false := decide_eq_false hxe
          rw [hd]
          go_wp2
          go_light
          refine ⟨⟨k + 1, by omega, by go_num, fun j hj => ?_, HB2.out⟩, by simp [intOf]; omega⟩
          by_cases e : j < k
          · exact hne'.out j e
          · obtain rfl : j = k := by omega
            exact fun h => hxe h.symm
    · obtain rfl : k = m := by omega
      have HB : Hid _ := hb
      have hne' : Hid _ := hne
      clear hb hne
      go_wp2
      go_ret
      exact ⟨_, rfl, Or.inr ⟨rfl, hne'.out⟩, B0.out.trans (HB.out.mono (by omega))⟩
set_option maxHeartbeats 1000000 in
set_option maxRecDepth 100000 in
theorem contains_any (a : Option Addr) (m cap : Nat) (X : Nat → Nt) (x : Nt) (w : World) (hX : ∀ i, i < m → isSum (X i).1) (hx : isSum x.1) (hm : m ≤ maxLen)
    (hc : ∀ i, i < m → ∃ g o, a = some ⟨g, o, none⟩ ∧ g < w.heap.size ∧ ∀ j, j < 33 → w.cell? ⟨g, o + i * 33 + j, none⟩ = some (noteV (X i) j)) :
    Calls Tryd.prog 85 #[.slice a m cap, noteA x] w fun e w' => ∃ r : Bool, e = .returned (.bool r) ∧ (r = true ↔ ∃ i, i < m ∧ X i = x) ∧ Below w.heap.size w w' := by
  have r0 := rowIs_box w 107 33 (noteV x)
  have hb0 : Below w.heap.size w (w.alloc (.cells (rowV 33 (noteV x)) 107)) := (Below.refl _ _).alloc (Nat.le_refl _) _
  have XX := index_any a m cap X x (w.alloc (.cells (rowV 33 (noteV x)) 107)) hX hx hm (fun i hi => by
    obtain ⟨g, o, h1, h2, h3⟩ := hc i hi
    exact ⟨g, o, h1, by simp; omega, fun j hj => (hb0.cell (p := ⟨g, o + i * 33 + j, none⟩) h2).trans (h3 j hj)⟩)
  unfold noteA at XX ⊢
  go_enter Tryd.func85, Tryd.ntmps85
  go_wp2_with (first | (refine wpList_load_seg rfl 107 _ rfl w.heap.size 0 33 (noteV x) rfl _ Tryd.underlying107 rfl (by kernel_rfl) (fun i hi => by rw [Nat.zero_add]; exact r0.cell hi) ?_))
  refine XX.mono ?_
  rintro e w1 ⟨r, rfl, hr, hb1⟩
  have HB : Hid _ := hb0.trans (hb1.mono (by simp))
  clear hb1 XX
  rcases hr with ⟨h0, hex⟩ | ⟨rfl, hall⟩
  · go_wp2
    go_ret
    exact ⟨_, rfl, ⟨fun _ => hex, fun _ => by simp⟩, HB.out⟩
  · go_wp2
    go_ret
    refine ⟨_, rfl, ⟨fun h => ?_, fun ⟨i, hi, he⟩ => absurd he (hall i hi)⟩, HB.out⟩
    simp at h
end Go.Proofs.YtkgegihkhdgdoaaDoor

/- A book's notes. -/
namespace Go.Proofs.YtkgegihkhdgdoaaDoor
set_option linter.unusedSimpArgs false
set_option linter.unusedVariables false
open Go.RowKit Go.Deep

section
variable {P : Program}
theorem results_cell_seg2 {fn : Func} {p u : Tmp} {ty : TypeId} (h : fn.results = #[.cell p ty, .tmp u]) (tmps : Array Value) (w : World) (g : Nat) (t : TypeId) (n : Nat) (f : Nat → Value) (d : TypeDesc)
    (hp : tmps.getD p undef = .pointer (some ⟨g, 0, none⟩)) (hu : P.underlying ty = some d) (hd : (match d with | .struct _ | .array _ _ => true | _ => false) = true) (hi : (P.info? ty).map (·.size) = some n)
    (hg : w.rowIs g t n f) : (results fn tmps).run P w = .ok (.tuple #[.agg (rowV n f), tmps.getD u undef]) w := by
  have hp' : tmps[p]?.getD undef = .pointer (some ⟨g, 0, none⟩) := by simpa using hp
  simp [results, h, hp', asAddr, run_loadVar_row w g t ty (rowV n f) (0, 0) d (rowIs_block hg) hu hd (by rw [hi, rowV_size])]
end

def zeroN : Nt := (List.replicate 32 0, ByteArray.empty)
/-- the first note of a sum. -/
def foundN (N : List Nt) (q : List Int) : Nt := match firstAt N q with
  | some i => N.getD i zeroN
  | none => zeroN
def notesV (lv mv : Value) (c : Int) (j : Nat) : Value := if j = 0 then lv else if j = 1 then mv else .int .i64 c
/-- A BOOK's NOTES, in block nb; all their memory in F. -/
def notesAt (w : World) (F : Nat → Prop) (nb : Nat) (N : List Nt) (c : Int) : Prop :=
  ∃ lv mv, w.rowIs nb 105 3 (notesV lv mv c) ∧ F nb ∧ listAt w F lv N ∧ mapAt w F mv N ∧ (∀ x ∈ N, isSum x.1) ∧ ∀ k, F k → k < w.heap.size
theorem notesAt.far {w w' : World} {F : Nat → Prop} {nb : Nat} {N : List Nt} {c : Int} (h : notesAt w F nb N c) (hb : ∀ k, F k → k < w.heap.size → w'.heap[k]? = w.heap[k]?) (hs : w.heap.size ≤ w'.heap.size) : notesAt w' F nb N c := by
  obtain ⟨lv, mv, h1, h2, h3, h4, h5, h6⟩ := h
  exact ⟨lv, mv, h1.of_block (hb nb h2 (h6 nb h2)), h2, h3.far hb (fun _ h => h), h4.far hb (fun _ h => h), h5, fun k hk => Nat.lt_of_lt_of_le (h6 k hk) hs⟩
theorem notesAt.below {w w' : World} {F : Nat → Prop} {nb B : Nat} {N : List Nt} {c : Int} (h : notesAt w F nb N c) (hb : Below B w w') (hB : w.heap.size ≤ B) : notesAt w' F nb N c :=
  h.far (fun k _ hk => hb.block k (Nat.lt_of_lt_of_le hk hB)) hb.size
theorem notesAt.drew {w : World} {F : Nat → Prop} {nb : Nat} {N : List Nt} {c : Int} (h : notesAt w F nb N c) : notesAt w.drew F nb N c := h
end Go.Proofs.YtkgegihkhdgdoaaDoor

/- A book's notes: add. -/
namespace Go.Proofs.YtkgegihkhdgdoaaDoor
set_option linter.unusedSimpArgs false
set_option linter.unusedVariables false
open Go.RowKit Go.Deep

/-- memory that was the book's, or is new. -/
def Gr (F : Nat → Prop) (w w' : World) (k : Nat) : Prop := F k ∨ (w.heap.size ≤ k ∧ k < w'.heap.size)
theorem Gr.old {F : Nat → Prop} {w w' : World} {k : Nat} (h : F k) : Gr F w w' k := Or.inl h
def hasN (N : List Nt) (x : Nt) : Bool := N.any fun y => decide (y = x)
theorem hasN_iff {N : List Nt} {x : Nt} : hasN N x = true ↔ x ∈ N := by
  simp only [hasN, List.any_eq_true, decide_eq_true_iff]
  exact ⟨fun ⟨y, h1, h2⟩ => h2 ▸ h1, fun h => ⟨x, h, rfl⟩⟩
theorem hasN_not {N : List Nt} {x : Nt} (h : ¬ x ∈ N) : hasN N x = false := by
  cases hh : hasN N x with
  | false => rfl
  | true => exact absurd (hasN_iff.1 hh) h
def addN (N : List Nt) (x : Nt) : List Nt := if hasN N x then N else N ++ [x]
theorem addN_in {N : List Nt} {x : Nt} (h : x ∈ N) : addN N x = N := by unfold addN; rw [hasN_iff.2 h]; rfl
theorem addN_out {N : List Nt} {x : Nt} (h : ¬ x ∈ N) : addN N x = N ++ [x] := by unfold addN; rw [hasN_not h]; rfl
theorem firstAt_append_some {N : List Nt} {q : List Int} {i : Nat} (s : ByteArray) (h : firstAt N q = some i) (q' : List Int) : firstAt (N ++ [(q, s)]) q' = firstAt N q' := by
  rw [firstAt_append]
  by_cases e : q = q'
  · subst e; rw [h]; rfl
  · rw [if_neg e]; cases firstAt N q' <;> rfl
theorem mapAt.append {w : World} {F : Nat → Prop} {mv : Value} {N : List Nt} {q : List Int} {i : Nat} (s : ByteArray) (hf : firstAt N q = some i) (h : mapAt w F mv N) : mapAt w F mv (N ++ [(q, s)]) := by
  have e := firstAt_append_some s hf
  rcases h with ⟨rfl, rfl⟩ | ⟨mb, es, clock, rfl, hF, hb, h1, h2⟩
  · cases hf
  · exact Or.inr ⟨mb, es, clock, rfl, hF, hb, fun x hx => by
      obtain ⟨q', i', a1, a2, a3, a4⟩ := h1 x hx
      exact ⟨q', i', a1, a2, by rw [e]; exact a3, a4⟩, fun q' i' hq' h => h2 q' i' hq' (by rw [← e]; exact h)⟩
/-- n.first[sum] = len(n.list). -/
theorem put_run {w : World} {F : Nat → Prop} {mb : Nat} {es : Array MapEntry} {clock : Nat} {N : List Nt} {q : List Int} (s : ByteArray) (hF : F mb) (hb : w.heap[mb]? = some (.map es clock))
    (h1 : ∀ e ∈ es.toList, ∃ (q : List Int) (i : Nat), isSum q ∧ e.key = sumV q ∧ firstAt N q = some i ∧ e.val = .int .i64 (i : Int)) (h2 : ∀ (q : List Int) (i : Nat), isSum q → firstAt N q = some i → ∃ e ∈ es.toList, e.key = sumV q)
    (hq : isSum q) (hf : firstAt N q = none) :
    ∃ w', (Instr.mapUpdate 103 (.map (some mb)) (sumV q) (.int .i64 (N.length : Int))).run Tryd.prog w = .ok () w' ∧ mapAt w' F (.map (some mb)) (N ++ [(q, s)]) ∧ But w.heap.size mb w w' ∧ w'.heap.size = w.heap.size := by
  obtain ⟨l, hl⟩ := sumKey hq
  have hck := check_run w false hq
  have hall : ∀ e ∈ es.toList, ∃ l, keyOf Tryd.prog 32 e.key = some l := fun e he => by
    obtain ⟨q', i, hq', hk, _⟩ := h1 e he
    rw [hk]; exact sumKey hq'
  rcases keyLaw.find w hl es.toList hall with ⟨hfk, hne⟩ | ⟨j, e, hfk, hj, hk⟩
  · refine ⟨Go.ChangeMaps.setBlock w mb (.map (es.push ⟨sumV q, .int .i64 (N.length : Int), clock⟩) (clock + 1)), ?_, Or.inr ⟨mb, _, _, rfl, hF, Go.ChangeMaps.heap_setBlock_same hb _, ?_, ?_⟩, ⟨rfl, rfl, rfl, by simp [Go.ChangeMaps.setBlock], fun k _ hk => ?_⟩, by simp [Go.ChangeMaps.setBlock]⟩
    · simp [Instr.mapUpdate, run_underlying Tryd.underlying103, MapKept.run_getObj_map hb, hck, hfk, MapKept.run_setObj_map _ hb, Result.andThen, Go.ChangeMaps.setBlock]
    · intro e he
      simp only [Array.toList_push, List.mem_append, List.mem_singleton] at he
      rcases he with he | rfl
      · obtain ⟨q', i, a1, a2, a3, a4⟩ := h1 e he
        exact ⟨q', i, a1, a2, by rw [firstAt_append, a3]; rfl, a4⟩
      · exact ⟨q, N.length, hq, rfl, by rw [firstAt_append, hf, if_pos rfl]; rfl, rfl⟩
    · intro q' i hq' h
      rw [firstAt_append] at h
      simp only [Array.toList_push, List.mem_append, List.mem_singleton]
      cases hf' : firstAt N q' with
      | some i' =>
        obtain ⟨e, he, hk⟩ := h2 q' i' hq' hf'
        exact ⟨e, Or.inl he, hk⟩
      | none =>
        rw [hf'] at h
        by_cases e : q = q'
        · subst e; exact ⟨_, Or.inr rfl, rfl⟩
        · rw [if_neg e] at h; cases h
    · simp [Go.ChangeMaps.setBlock, Array.getElem?_setIfInBounds, Ne.symm hk]
  · obtain ⟨q', i, hq', hk', hfa, hv⟩ := h1 e (List.mem_of_getElem? hj)
    obtain rfl : q' = q := sumV_inj hq' hq (hk'.symm.trans hk)
    rw [hf] at hfa; cases hfa
/-- a note stands there, from the first of its sum on. -/
theorem found_from {N : List Nt} {x : Nt} {i : Nat} (hf : firstAt N x.1 = some i) : (∃ j, j < N.length - i ∧ N.getD (i + j) zeroN = x) ↔ x ∈ N := by
  constructor
  · rintro ⟨j, hj, h⟩
    rw [List.getD_eq_getElem?_getD, List.getElem?_eq_getElem (by omega)] at h
    rw [← h]; exact List.getElem_mem _
  · intro h
    obtain ⟨k, hk, he⟩ := List.mem_iff_getElem.1 h
    unfold firstAt at hf
    obtain ⟨hi, h1, h2⟩ := List.findIdx?_eq_some_iff_getElem.1 hf
    have : i ≤ k := by
      apply Classical.byContradiction
      intro hlt
      have := h2 k (by omega)
      rw [he] at this
      simp at this
    exact ⟨k - i, by omega, by rw [List.getD_eq_getElem?_getD, show i + (k - i) = k by omega, List.getElem?_eq_getElem hk, he]; rfl⟩
section
variable {P : Program}
theorem run_slice_from33 (t e : TypeId) (b o len cap m : Nat) (hu : P.underlying t = some (.slice e)) (hs : (P.info? e).map (·.size) = some 33) (hm : m < len) (hc : len ≤ cap) (w : World) :
    (Instr.slice t (.slice (some ⟨b, o, none⟩) len cap) (some (.int .i64 m)) none none).run P w = .ok (.slice (some ⟨b, o + m * 33, none⟩) (len - m) (cap - m)) w := by
  cases hq : P.info? e with
  | none => simp [hq] at hs
  | some i =>
    have hi : i.size = 33 := by simpa [hq] using hs
    have h0 : (0 : Int) ≤ (m : Int) ∧ (m : Int) ≤ (len : Int) := by omega
    have hc' : ¬ cap = m := by omega
    have hm' : m ≤ len := by omega
    simp [Instr.slice, Instr.sliceBounds, Instr.sliceBound, asIntOf, run_underlying hu, sizeOf, typeInfo, hq, hi, h0, hc', hm', Addr.add_mid]
end

theorem listAt.own {w w' : World} {F : Nat → Prop} {v : Value} {N : List Nt} (h : listAt w F v N) (hb : ∀ k cur, F k → w.heap[k]? = some (.cells cur 107 (0, 0)) → w'.heap[k]? = w.heap[k]?) : listAt w' F v N := by
  obtain ⟨⟨hl, h | ⟨g, cap, cur, rfl, hz, hg, hr⟩⟩, hF⟩ := h
  · exact ⟨⟨hl, Or.inl h⟩, hF⟩
  · exact ⟨⟨hl, Or.inr ⟨g, cap, cur, rfl, hz, by rw [hb g cur (hF g rfl) hg]; exact hg, hr⟩⟩, hF⟩
theorem mapAt.own {w w' : World} {F : Nat → Prop} {v : Value} {N : List Nt} (h : mapAt w F v N) (hb : ∀ k es cl, F k → w.heap[k]? = some (.map es cl) → w'.heap[k]? = w.heap[k]?) : mapAt w' F v N := by
  rcases h with h | ⟨mb, es, clock, rfl, hF, hg, h1, h2⟩
  · exact Or.inl h
  · exact Or.inr ⟨mb, es, clock, rfl, hF, by rw [hb mb es clock hF hg]; exact hg, h1, h2⟩
/-- behind the test of the map. -/
def midA (w : World) (F : Nat → Prop) (nb : Nat) (N : List Nt) (c : Int) (x : Nt) (lv : Value) (wx : World) : Prop :=
  ∃ (mb : Nat) (es : Array MapEntry) (clock : Nat), wx.rowIs nb 105 3 (notesV lv (.map (some mb)) c) ∧ Gr F w wx mb ∧ wx.heap[mb]? = some (.map es clock) ∧
    (∀ e ∈ es.toList, ∃ (q : List Int) (i : Nat), isSum q ∧ e.key = sumV q ∧ firstAt N q = some i ∧ e.val = .int .i64 (i : Int)) ∧ (∀ (q : List Int) (i : Nat), isSum q → firstAt N q = some i → ∃ e ∈ es.toList, e.key = sumV q) ∧
    Fr F w wx ∧ wx.rowIs w.heap.size 107 33 (noteV x) ∧ listAt wx F lv N
/-- behind the store into the map. -/
def midB (w : World) (F : Nat → Prop) (nb : Nat) (N : List Nt) (c : Int) (x : Nt) (lv : Value) (wx : World) : Prop :=
  ∃ mv, wx.rowIs nb 105 3 (notesV lv mv c) ∧ mapAt wx (Gr F w wx) mv (N ++ [x]) ∧ Fr F w wx ∧ wx.rowIs w.heap.size 107 33 (noteV x) ∧ listAt wx F lv N

set_option maxHeartbeats 2000000 in
set_option maxRecDepth 100000 in
theorem add_note (F : Nat → Prop) (nb : Nat) (N : List Nt) (c : Int) (x : Nt) (w : World) (h : notesAt w F nb N c) (hx : isSum x.1) (hN : N.length < 1000000) :
    Calls Tryd.prog 62 #[.pointer (some ⟨nb, 0, none⟩), noteA x] w fun e w' => e = .returned (.tuple #[]) ∧ notesAt w' (Gr F w w') nb (addN N x) c ∧ Fr F w w' := by
  have H0 : Hid _ := h
  obtain ⟨lv, mv, h1, h2, h3, h4, h5, h6⟩ := h
  have hn := h6 nb h2
  have z33 : (Tryd.prog.info? 107).map (·.size) = some 33 := by kernel_rfl
  obtain ⟨w1, hw1⟩ : ∃ w1, w1 = w.alloc (.cells (rowV 33 (noteV x)) 107) := ⟨_, rfl⟩
  have s1 : w1.heap.size = w.heap.size + 1 := by rw [hw1]; simp
  have b1 : Below w.heap.size w w1 := by rw [hw1]; exact (Below.refl _ _).alloc (Nat.le_refl _) _
  have rx : w1.rowIs w.heap.size 107 33 (noteV x) := by rw [hw1]; exact rowIs_box w _ _ _
  -- what is read, in every world in which w1 stands
  have xc : ∀ wz, Below w1.heap.size w1 wz → ∀ i, i < 33 → wz.cell? ⟨w.heap.size, 0 + i, none⟩ = some (noteV x i) := fun wz hz i hi => by
    rw [Nat.zero_add, hz.cell (p := ⟨w.heap.size, i, none⟩) (show w.heap.size < w1.heap.size by omega)]; exact rx.cell hi
  have qc : ∀ wz, Below w1.heap.size w1 wz → ∀ i, i < 32 → wz.cell? ⟨w.heap.size, 0 + i, none⟩ = some (arrV x.1 i) := fun wz hz i hi => by
    rw [xc wz hz i (by omega), noteV, if_pos hi]
  have c0 : ∀ wz, Below w1.heap.size w1 wz → wz.cell? ⟨nb, 0, none⟩ = some lv := fun wz hz => (hz.cell (p := ⟨nb, 0, none⟩) (show nb < w1.heap.size by omega)).trans ((b1.cell (p := ⟨nb, 0, none⟩) hn).trans (h1.cell (i := 0) (by omega)))
  have c1 : ∀ wz, Below w1.heap.size w1 wz → wz.cell? ⟨nb, 1, none⟩ = some mv := fun wz hz => (hz.cell (p := ⟨nb, 1, none⟩) (show nb < w1.heap.size by omega)).trans ((b1.cell (p := ⟨nb, 1, none⟩) hn).trans (h1.cell (i := 1) (by omega)))
  have lk : ∀ wz, Below w1.heap.size w1 wz → (Instr.lookup 103 mv (.agg (rowV 32 (arrV x.1))) true).run Tryd.prog wz = .ok (.tuple #[.int .i64 (((firstAt N x.1).getD 0 : Nat) : Int), .bool (firstAt N x.1).isSome]) wz := fun wz hz => by
    have h4' : mapAt wz F mv N := h4.far (fun k hk hl => ((hz.mono (show w.heap.size ≤ w1.heap.size by omega)).block k hl).trans (b1.block k hl)) (fun _ h => h)
    exact look_run h4' hx
  have XC : Hid _ := xc
  have QC : Hid _ := qc
  have C0 : Hid _ := c0
  have C1 : Hid _ := c1
  have LK : Hid _ := lk
  have B1 : Hid _ := b1
  have RX : Hid _ := rx
  have H1 : Hid _ := h1
  have H3 : Hid _ := h3
  have H4 : Hid _ := h4
  have H6 : Hid _ := h6
  have H5 : Hid _ := h5
  clear xc qc c0 c1 lk b1 h1 h3 h4 rx h5 h6
  unfold noteA
  go_enter Tryd.func62, Tryd.ntmps62
  go_upto_region 1 with fail
  rw [← hw1]
  clear hw1
  go_cut [4, 5] (fun i t wx => i = .int .i64 (((firstAt N x.1).getD 0 : Nat) : Int) ∧ t = .bool (firstAt N x.1).isSome ∧ Below w1.heap.size w1 wx)
  case first =>
    refine wp_region_noPanic ?_
    refine wp_region_held_drew (S := fun w' => Below w1.heap.size w1 w') (by kernel_rfl) ((Below.refl _ _).drew) (fun hHeld => ?_)
    refine take_op (i := 0) (v := ?vf0) rfl (by kernel_rfl) (by kernel_rfl) (by kernel_rfl) (fun _ _ _ h => h) rfl hHeld ?yf0 ?rf0
    case yf0 => (intro wz hz; go_simp; first | done | with_reducible rfl)
    try simp only [Act.put, List.setIfInBounds_toArray, List.set_cons_zero, List.set_cons_succ]
    refine take_op (i := 1) (v := ?vf1) rfl (by kernel_rfl) (by kernel_rfl) (by kernel_rfl) (fun _ _ _ h => h) rfl hHeld ?yf1 ?rf1
    case yf1 => (intro wz hz; go_simp; first | done | with_reducible rfl)
    try simp only [Act.put, List.setIfInBounds_toArray, List.set_cons_zero, List.set_cons_succ]
    refine take_op (i := 2) (v := ?vf2) rfl (by kernel_rfl) (by kernel_rfl) (by kernel_rfl) (fun _ _ _ h => h) rfl hHeld ?yf2 ?rf2
    case yf2 => (intro wz hz; go_simp; first | done | with_reducible rfl)
    try simp only [Act.put, List.setIfInBounds_toArray, List.set_cons_zero, List.set_cons_succ]
    refine take_op (i := 3) (v := ?vf3) rfl (by kernel_rfl) (by kernel_rfl) (by kernel_rfl) (fun _ _ _ h => h) rfl hHeld ?yf3 ?rf3
    case yf3 => (intro wz hz; have hcz := C1.out wz hz; go_simp; first | done | with_reducible rfl)
    try simp only [Act.put, List.setIfInBounds_toArray, List.set_cons_zero, List.set_cons_succ]
    refine take_op (i := 4) (v := ?vf4) rfl (by kernel_rfl) (by kernel_rfl) (by kernel_rfl) (fun _ _ _ h => h) rfl hHeld ?yf4 ?rf4
    case yf4 => (intro wz hz; go_simp; first | done | with_reducible rfl)
    try simp only [Act.put, List.setIfInBounds_toArray, List.set_cons_zero, List.set_cons_succ]
    refine take_load (i := 5) rfl (by kernel_rfl) (by kernel_rfl) (by kernel_rfl) 32 _ rfl w.heap.size 0 32 (arrV x.1) rfl _ Tryd.underlying32 rfl (by kernel_rfl) (fun _ _ _ h => h) rfl hHeld (fun wz hz => QC.out wz hz) ?_
    try simp only [Act.put, List.setIfInBounds_toArray, List.set_cons_zero, List.set_cons_succ]
    refine take_op (i := 6) (v := ?vf6) rfl (by kernel_rfl) (by kernel_rfl) (by kernel_rfl) (fun _ _ _ h => h) rfl hHeld ?yf6 ?rf6
    case yf6 => (intro wz hz; have hlz := LK.out wz hz; go_simp; first | done | with_reducible rfl)
    try simp only [Act.put, List.setIfInBounds_toArray, List.set_cons_zero, List.set_cons_succ]
    refine take_op (i := 7) (v := ?vf7) rfl (by kernel_rfl) (by kernel_rfl) (by kernel_rfl) (fun _ _ _ h => h) rfl hHeld ?yf7 ?rf7
    case yf7 => (intro wz hz; go_simp; first | done | with_reducible rfl)
    try simp only [Act.put, List.setIfInBounds_toArray, List.set_cons_zero, List.set_cons_succ]
    refine take_op (i := 8) (v := ?vf8) rfl (by kernel_rfl) (by kernel_rfl) (by kernel_rfl) (fun _ _ _ h => h) rfl hHeld ?yf8 ?rf8
    case yf8 => (intro wz hz; go_simp; first | done | with_reducible rfl)
    try simp only [Act.put, List.setIfInBounds_toArray, List.set_cons_zero, List.set_cons_succ]
    refine take_op (i := 9) (v := ?vf9) rfl (by kernel_rfl) (by kernel_rfl) (by kernel_rfl) (fun _ _ _ h => h) rfl hHeld ?yf9 ?rf9
    case yf9 => (intro wz hz; go_simp; first | done | with_reducible rfl)
    try simp only [Act.put, List.setIfInBounds_toArray, List.set_cons_zero, List.set_cons_succ]
    refine take_op (i := 10) (v := ?vf10) rfl (by kernel_rfl) (by kernel_rfl) (by kernel_rfl) (fun _ _ _ h => h) rfl hHeld ?yf10 ?rf10
    case yf10 => (intro wz hz; go_simp; first | done | with_reducible rfl)
    try simp only [Act.put, List.setIfInBounds_toArray, List.set_cons_zero, List.set_cons_succ]
    refine take_op (i := 11) (v := ?vf11) rfl (by kernel_rfl) (by kernel_rfl) (by kernel_rfl) (fun _ _ _ h => h) rfl hHeld ?yf11 ?rf11
    case yf11 => (intro wz hz; go_simp; first | done | with_reducible rfl)
    try simp only [Act.put, List.setIfInBounds_toArray, List.set_cons_zero, List.set_cons_succ]
    refine wpAnyH_done (by kernel_rfl) ?_ _
    refine NoPanic.normal ?_
    have HB : Hid _ := hHeld
    clear hHeld
    go_wp2_with fail
    go_meet
    case rel => exact ⟨rfl, rfl, HB.out⟩
  case rest =>
    obtain ⟨rfl, rfl, hb⟩ := hcut
    have HB : Hid _ := hb
    clear hb LK QC
    go_upto_region 2 with fail
    go_cut [4, 5, 26] (fun i t r wx => i = .int .i64 (((firstAt N x.1).getD 0 : Nat) : Int) ∧ t = .bool (firstAt N x.1).isSome ∧ r = .bool (hasN N x) ∧ Below w1.heap.size w1 wx)
    case first =>
      cases hf : firstAt N x.1 with
      | none =>
        have hno : ¬ x ∈ N := fun hm => by
          obtain ⟨k, hk, he⟩ := List.mem_iff_getElem.1 hm
          unfold firstAt at hf
          have := List.findIdx?_eq_none_iff.1 hf x hm
          simp at this
        have hd : hasN N x = false := hasN_not hno
        simp only [Option.getD_none, Option.isSome_none]
        refine wp_region_noPanic ?_
        refine wp_region_held_drew (S := fun w' => Below w1.heap.size w1 w') (by kernel_rfl) (HB.out.drew) (fun hHeld => ?_)
        refine take_op (i := 0) (v := ?vg0) rfl (by kernel_rfl) (by kernel_rfl) (by kernel_rfl) (fun _ _ _ h => h) rfl hHeld ?yg0 ?rg0
        case yg0 => (intro wz hz; go_simp; first | done | with_reducible rfl)
        try simp only [Act.put, List.setIfInBounds_toArray, List.set_cons_zero, List.set_cons_succ]
        refine take_op (i := 1) (v := ?vg1) rfl (by kernel_rfl) (by kernel_rfl) (by kernel_rfl) (fun _ _ _ h => h) rfl hHeld ?yg1 ?rg1
        case yg1 => (intro wz hz; go_simp; first | done | with_reducible rfl)
        try simp only [Act.put, List.setIfInBounds_toArray, List.set_cons_zero, List.set_cons_succ]
        refine take_not (i := 2) rfl (by kernel_rfl) (by kernel_rfl) (by kernel_rfl) (fun _ _ _ h => h) rfl hHeld ?_
        try simp only [Act.put, List.setIfInBounds_toArray, List.set_cons_zero, List.set_cons_succ]
        refine take_not (i := 3) rfl (by kernel_rfl) (by kernel_rfl) (by kernel_rfl) (fun _ _ _ h => h) rfl hHeld ?_
        try simp only [Act.put, List.setIfInBounds_toArray, List.set_cons_zero, List.set_cons_succ]
        refine take_not (i := 4) rfl (by kernel_rfl) (by kernel_rfl) (by kernel_rfl) (fun _ _ _ h => h) rfl hHeld ?_
        try simp only [Act.put, List.setIfInBounds_toArray, List.set_cons_zero, List.set_cons_succ]
        refine take_not (i := 5) rfl (by kernel_rfl) (by kernel_rfl) (by kernel_rfl) (fun _ _ _ h => h) rfl hHeld ?_
        try simp only [Act.put, List.setIfInBounds_toArray, List.set_cons_zero, List.set_cons_succ]
        refine take_not (i := 6) rfl (by kernel_rfl) (by kernel_rfl) (by kernel_rfl) (fun _ _ _ h => h) rfl hHeld ?_
        try simp only [Act.put, List.setIfInBounds_toArray, List.set_cons_zero, List.set_cons_succ]
        refine take_not (i := 7) rfl (by kernel_rfl) (by kernel_rfl) (by kernel_rfl) (fun _ _ _ h => h) rfl hHeld ?_
        try simp only [Act.put, List.setIfInBounds_toArray, List.set_cons_zero, List.set_cons_succ]
        refine take_not (i := 8) rfl (by kernel_rfl) (by kernel_rfl) (by kernel_rfl) (fun _ _ _ h => h) rfl hHeld ?_
        try simp only [Act.put, List.setIfInBounds_toArray, List.set_cons_zero, List.set_cons_succ]
        refine take_not (i := 9) rfl (by kernel_rfl) (by kernel_rfl) (by kernel_rfl) (fun _ _ _ h => h) rfl hHeld ?_
        try simp only [Act.put, List.setIfInBounds_toArray, List.set_cons_zero, List.set_cons_succ]
        refine take_op (i := 10) (v := ?vg10) rfl (by kernel_rfl) (by kernel_rfl) (by kernel_rfl) (fun _ _ _ h => h) rfl hHeld ?yg10 ?rg10
        case yg10 => (intro wz hz; go_simp; first | done | with_reducible rfl)
        try simp only [Act.put, List.setIfInBounds_toArray, List.set_cons_zero, List.set_cons_succ]
        refine wpAnyH_done (by kernel_rfl) ?_ _
        refine NoPanic.normal ?_
        have HB2 : Hid _ := hHeld
        clear hHeld
        go_wp2_with fail
        go_meet
        case rel => exact ⟨by rw [hf]; rfl, by rw [hf]; rfl, by rw [hd], HB2.out⟩
      | some i =>
        have hil := firstAt_lt hf
        obtain ⟨la, lc, rfl, hlc, hlm, hcell⟩ := (show listAt w F lv N from H3.out).shape
        obtain ⟨t0, ht0⟩ := firstAt_get hf
        obtain ⟨g, rfl, hFg, hgl, _⟩ := hcell i _ ht0
        have hsl : ∀ wz : World, (Instr.slice 102 (.slice (some ⟨g, 0, none⟩) N.length lc) (some (.int .i64 i)) none none).run Tryd.prog wz = .ok (.slice (some ⟨g, i * 33, none⟩) (N.length - i) (lc - i)) wz := fun wz => by
          have := run_slice_from33 (P := Tryd.prog) 102 107 g 0 N.length lc i Tryd.underlying102 z33 hil hlc wz
          rw [Nat.zero_add] at this; exact this
        have hct := fun (wz : World) (hz : Below w1.heap.size w1 wz) => contains_any (some ⟨g, i * 33, none⟩) (N.length - i) (lc - i) (fun j => N.getD (i + j) zeroN) x wz (fun j hj => H5.out _ (by rw [List.getD_eq_getElem?_getD, List.getElem?_eq_getElem (by omega)]; exact List.getElem_mem _)) hx (by omega)
          (fun j hj => ⟨g, i * 33, rfl, by have := hz.size; omega, fun k hk => by
            have hg' : N[i + j]? = some (N.getD (i + j) zeroN) := by rw [List.getD_eq_getElem?_getD, List.getElem?_eq_getElem (by omega)]; rfl
            obtain ⟨g', hgg, _, _, hcl⟩ := hcell (i + j) _ hg'
            obtain rfl : g = g' := by injection (Option.some.inj hgg)
            rw [show i * 33 + j * 33 + k = (i + j) * 33 + k by omega]
            exact (hz.cell (p := ⟨g, (i + j) * 33 + k, none⟩) (show g < w1.heap.size by omega)).trans ((B1.out.cell (p := ⟨g, (i + j) * 33 + k, none⟩) hgl).trans (hcl k hk))⟩)
        have HCT : Hid _ := hct
        have i0 : (0 : Int) ≤ (i : Int) := by omega
        have i1 : (i : Int) < (N.length : Int) := by omega
        simp only [Option.getD_some, Option.isSome_some]
        clear hct hcell
        refine wp_region_noPanic ?_
        refine wp_region_held_drew (S := fun w' => Below w1.heap.size w1 w') (by kernel_rfl) (HB.out.drew) (fun hHeld => ?_)
        refine take_op (i := 0) (v := ?vh0) rfl (by kernel_rfl) (by kernel_rfl) (by kernel_rfl) (fun _ _ _ h => h) rfl hHeld ?yh0 ?rh0
        case yh0 => (intro wz hz; go_simp; first | done | with_reducible rfl)
        try simp only [Act.put, List.setIfInBounds_toArray, List.set_cons_zero, List.set_cons_succ]
        refine take_op (i := 1) (v := ?vh1) rfl (by kernel_rfl) (by kernel_rfl) (by kernel_rfl) (fun _ _ _ h => h) rfl hHeld ?yh1 ?rh1
        case yh1 => (intro wz hz; go_simp; first | done | with_reducible rfl)
        try simp only [Act.put, List.setIfInBounds_toArray, List.set_cons_zero, List.set_cons_succ]
        refine take_op (i := 2) (v := ?vh2) rfl (by kernel_rfl) (by kernel_rfl) (by kernel_rfl) (fun _ _ _ h => h) rfl hHeld ?yh2 ?rh2
        case yh2 => (intro wz hz; go_simp; first | done | with_reducible rfl)
        try simp only [Act.put, List.setIfInBounds_toArray, List.set_cons_zero, List.set_cons_succ]
        refine take_op (i := 3) (v := ?vh3) rfl (by kernel_rfl) (by kernel_rfl) (by kernel_rfl) (fun _ _ _ h => h) rfl hHeld ?yh3 ?rh3
        case yh3 => (intro wz hz; go_simp; first | done | with_reducible rfl)
        try simp only [Act.put, List.setIfInBounds_toArray, List.set_cons_zero, List.set_cons_succ]
        refine take_op (i := 4) (v := ?vh4) rfl (by kernel_rfl) (by kernel_rfl) (by kernel_rfl) (fun _ _ _ h => h) rfl hHeld ?yh4 ?rh4
        case yh4 => (intro wz hz; go_simp; first | done | with_reducible rfl)
        try simp only [Act.put, List.setIfInBounds_toArray, List.set_cons_zero, List.set_cons_succ]
        refine take_op (i := 5) (v := ?vh5) rfl (by kernel_rfl) (by kernel_rfl) (by kernel_rfl) (fun _ _ _ h => h) rfl hHeld ?yh5 ?rh5
        case yh5 => (intro wz hz; have hcz := C0.out wz hz; go_simp; first | done | with_reducible rfl)
        try simp only [Act.put, List.setIfInBounds_toArray, List.set_cons_zero, List.set_cons_succ]
        refine take_op (i := 6) (v := ?vh6) rfl (by kernel_rfl) (by kernel_rfl) (by kernel_rfl) (fun _ _ _ h => h) rfl hHeld ?yh6 ?rh6
        case yh6 => (intro wz hz; go_simp; first | done | with_reducible rfl)
        try simp only [Act.put, List.setIfInBounds_toArray, List.set_cons_zero, List.set_cons_succ]
        refine take_op (i := 7) (v := ?vh7) rfl (by kernel_rfl) (by kernel_rfl) (by kernel_rfl) (fun _ _ _ h => h) rfl hHeld ?yh7 ?rh7
        case yh7 => (intro wz hz; have hsz := hsl wz; go_simp; first | done | with_reducible rfl)
        try simp only [Act.put, List.setIfInBounds_toArray, List.set_cons_zero, List.set_cons_succ]
        refine take_load (i := 8) rfl (by kernel_rfl) (by kernel_rfl) (by kernel_rfl) 107 _ rfl w.heap.size 0 33 (noteV x) rfl _ Tryd.underlying107 rfl (by kernel_rfl) (fun _ _ _ h => h) rfl hHeld (fun wz hz => XC.out wz hz) ?_
        try simp only [Act.put, List.setIfInBounds_toArray, List.set_cons_zero, List.set_cons_succ]
        refine take_one (i := 9) rfl (by kernel_rfl) rfl (fun K hK => ?_)
        go_simp
        refine Calls.mono (HCT.out _ hHeld) ?_
        rintro e w9 ⟨r, rfl, hr, hb9⟩
        refine hK.out _ _ (hHeld.trans (hb9.mono hHeld.size)) (fun hHeld => ?_)
        clear hK K
        try simp only [Act.put, List.setIfInBounds_toArray, List.set_cons_zero, List.set_cons_succ]
        refine take_op (i := 10) (v := ?vh10) rfl (by kernel_rfl) (by kernel_rfl) (by kernel_rfl) (fun _ _ _ h => h) rfl hHeld ?yh10 ?rh10
        case yh10 => (intro wz hz; go_simp; first | done | with_reducible rfl)
        try simp only [Act.put, List.setIfInBounds_toArray, List.set_cons_zero, List.set_cons_succ]
        refine wpAnyH_done (by kernel_rfl) ?_ _
        refine NoPanic.normal ?_
        have HB2 : Hid _ := hHeld
        have hrd : r = hasN N x := by
          rw [Bool.eq_iff_iff, hr, hasN_iff]
          exact found_from hf
        clear hHeld hb9 hr
        go_wp2_with fail
        go_meet
        case rel => exact ⟨by rw [hf]; rfl, by rw [hf]; rfl, by rw [hrd], HB2.out⟩
    case rest =>
      obtain ⟨rfl, rfl, rfl, hb2⟩ := hcut
      have HB2 : Hid _ := hb2
      have hs2 := hb2.size
      clear hb2 HB
      by_cases hm : x ∈ N
      · have hd : hasN N x = true := hasN_iff.2 hm
        rw [hd]
        go_wp2
        have e1 : addN N x = N := addN_in hm
        have hB : Below w.heap.size w wc := B1.out.trans (HB2.out.mono (by omega))
        refine bodyPost_ret (results_none rfl _ _ _) rfl ⟨rfl, ?_, Fr.of_below _ hB⟩
        rw [e1]
        obtain ⟨lv', mv', k1, k2, k3, k4, k5, k6⟩ := notesAt.below H0.out hB (Nat.le_refl _)
        exact ⟨lv', mv', k1, Or.inl k2, k3.far (fun _ _ _ => rfl) (fun _ h => Or.inl h), k4.far (fun _ _ _ => rfl) (fun _ h => Or.inl h), k5, fun k hk => by
          rcases hk with hk | hk
          · exact k6 k hk
          · exact hk.2⟩
      · have hd : hasN N x = false := hasN_not hm
        rw [hd]
        clear H0
        have hB : Below w.heap.size w wc := B1.out.trans (HB2.out.mono (by omega))
        have rnb : wc.rowIs nb 105 3 (notesV lv mv c) := hB.row H1.out hn
        have rx : wc.rowIs w.heap.size 107 33 (noteV x) := HB2.out.row RX.out (by omega)
        have hl : listAt wc F lv N := listAt.far H3.out (fun k _ hk => hB.block k hk) (fun _ h => h)
        have c1' : wc.cell? ⟨nb, 1, none⟩ = some mv := rnb.cell (i := 1) (by omega)
        have z1 := World.rowIs.frozen rnb 1
        have RNB : Hid _ := rnb
        have RXC : Hid _ := rx
        have HL : Hid _ := hl
        have HBB : Hid _ := hB
        have hmm := @run_makeMap Tryd.prog
        clear rnb rx hl hB C0 C1 XC
        obtain ⟨bn, hbn, hbg, hbi⟩ : ∃ bn : Bool, (∀ wz : World, (binOp .eql 103 mv (.map none)).run Tryd.prog wz = .ok (.bool bn) wz) ∧ (∀ wz : World, (eqGuard .eql 103 (.tmp 30) (.const (.map none)) mv (.map none)).run Tryd.prog wz = .ok () wz) ∧ (bn = true ↔ mv = .map none) := by
          rcases (show mapAt w F mv N from H4.out) with ⟨rfl, _⟩ | ⟨mb, _, _, rfl, _⟩
          · exact ⟨true, fun wz => by kernel_rfl, fun wz => by kernel_rfl, by simp⟩
          · exact ⟨false, fun wz => by kernel_rfl, fun wz => by kernel_rfl, by simp⟩
        go_upto_if 31 with fail
        go_cut [5] (fun t wx => t = .bool (firstAt N x.1).isSome ∧ midA w F nb N c x lv wx)
        case first =>
          rcases (show mapAt w F mv N from H4.out) with ⟨rfl, rfl⟩ | ⟨mb, es, clock, rfl, hF, hb, k1, k2⟩
          · obtain rfl : bn = true := hbi.2 rfl
            have ra : (wc.alloc (.map #[] 0)).rowIs nb 105 3 (notesV lv (.map none) c) := World.rowIs.alloc RNB.out _
            have za := World.rowIs.frozen ra 1
            have ca : (wc.alloc (.map #[] 0)).cell? ⟨nb, 1, none⟩ = some (.map none) := ra.cell (i := 1) (by omega)
            clear ra
            go_wp2_with fail
            go_meet
            case rel =>
              refine ⟨rfl, wc.heap.size, #[], 0, ?_, Or.inr ⟨by omega, by rw [nblk_setCell]; simp⟩, ?_, fun e he => by simp at he, fun q i _ h => absurd h (by simp [firstAt]), ?_, ?_, ?_⟩
              · refine (World.rowIs.set (World.rowIs.alloc RNB.out (.map #[] 0)) 1 (.map (some wc.heap.size))).congr fun i hi => ?_
                simp only [notesV]
                by_cases e1 : i = 1
                · subst e1; simp
                · simp [e1]
              · rw [blk_setCell_other _ _ _ _ (show wc.heap.size ≠ nb by omega)]; exact blk_alloc_new _ _
              · exact ((Fr.of_below F HBB.out).alloc _).setCell (Or.inl h2) _
              · exact World.rowIs.setOther (World.rowIs.alloc RXC.out _) (show w.heap.size ≠ nb by omega) _
              · refine listAt.own HL.out (fun k cur hk hc => ?_)
                have hkn : k ≠ nb := by
                  rintro rfl
                  have := rowIs_block (w := wc) RNB.out
                  rw [hc] at this
                  injection this with this
                  injection this with _ h2
                  exact absurd h2 (by decide)
                rw [blk_setCell_other _ _ _ _ hkn]
                exact blk_alloc_lt _ _ _ (Array.getElem?_eq_some_iff.1 hc).1
          · obtain rfl : bn = false := by
              cases bn with
              | false => rfl
              | true => exact absurd (hbi.1 rfl) (by simp)
            go_wp2_with fail
            go_meet
            case rel =>
              exact ⟨rfl, mb, es, clock, RNB.out, Or.inl hF, by rw [HBB.out.block mb (H6.out mb hF)]; exact hb, k1, k2, Fr.of_below F HBB.out, RXC.out, HL.out⟩
        case rest =>
          obtain ⟨rfl, hmid⟩ := hcut
          have HM : Hid _ := hmid
          clear hmid RNB RXC HL HBB c1' z1 H1 H3 H4 B1
          obtain ⟨mb, es, clock, m1, m2, m3, m4, m5, m6, m7, m8⟩ := (show midA w F nb N c x lv wc from HM.out)
          clear HM
          have hmn : mb ≠ nb := by
            rintro rfl
            have := rowIs_block m1
            rw [m3] at this; cases this
          have hmx : mb ≠ w.heap.size := by
            rintro rfl
            have := rowIs_block m7
            rw [m3] at this; cases this
          have hsw := m6.size
          have hszc : w.heap.size < wc.heap.size := m7.lt
          obtain ⟨la, lc, hlv, hlc, hlm, _⟩ := m8.shape
          subst hlv
          go_upto_if 37 with fail
          go_cut [4, 5] (fun i t wx => i = .int .i64 (((firstAt N x.1).getD 0 : Nat) : Int) ∧ t = .bool (firstAt N x.1).isSome ∧ midB w F nb N c x (.slice la N.length lc) wx)
          case first =>
            cases hf : firstAt N x.1 with
            | some i =>
              simp only [Option.isSome_some]
              have M1 : Hid _ := m1
              have M8 : Hid _ := m8
              have M7 : Hid _ := m7
              have MM : Hid (mapAt wc (Gr F w wc) (.map (some mb)) (N ++ [x])) := (show mapAt wc (Gr F w wc) (.map (some mb)) (N ++ [x]) from mapAt.append x.2 hf (Or.inr ⟨mb, es, clock, rfl, m2, m3, m4, m5⟩))
              have M6 : Hid _ := m6
              clear m1 m2 m3 m4 m5 m6 m7 m8
              go_wp2_with fail
              go_meet
              case rel => exact ⟨by simp [hf], by simp [hf], .map (some mb), M1.out, MM.out, M6.out, M7.out, M8.out⟩
            | none =>
              simp only [Option.isSome_none]
              obtain ⟨wp, hpr, hpm, hpb, hps⟩ := put_run (w := wc.drew) (F := Gr F w wc) x.2 m2 m3 m4 m5 hx hf
              have hpr' : (Instr.mapUpdate 103 (.map (some mb)) (.agg (rowV 32 (arrV x.1))) (.int .i64 (N.length : Int))).run Tryd.prog wc.drew = .ok () wp := hpr
              have k0 : wc.cell? ⟨nb, 0, none⟩ = some (.slice la N.length lc) := m1.cell (i := 0) (by omega)
              have k1 : wc.cell? ⟨nb, 1, none⟩ = some (.map (some mb)) := m1.cell (i := 1) (by omega)
              have k2 : ∀ i, i < 32 → wc.cell? ⟨w.heap.size, 0 + i, none⟩ = some (arrV x.1 i) := fun i hi => by
                rw [Nat.zero_add, m7.cell (i := i) (by omega), noteV, if_pos hi]
              have hbut : But wc.heap.size mb wc wp := ⟨hpb.os, hpb.tape, hpb.output, hpb.size, hpb.block⟩
              have K0 : Hid (wp.cell? ⟨nb, 0, none⟩ = some (.slice la N.length lc)) := (show wp.cell? ⟨nb, 0, none⟩ = some (.slice la N.length lc) from (hbut.cell (m1.lt) hmn.symm).trans k0)
              have K1 : Hid (wp.cell? ⟨nb, 1, none⟩ = some (.map (some mb))) := (show wp.cell? ⟨nb, 1, none⟩ = some (.map (some mb)) from (hbut.cell (m1.lt) hmn.symm).trans k1)
              have K2 : Hid (∀ i, i < 32 → wp.cell? ⟨w.heap.size, 0 + i, none⟩ = some (arrV x.1 i)) := (show ∀ i, i < 32 → wp.cell? ⟨w.heap.size, 0 + i, none⟩ = some (arrV x.1 i) from fun i hi => (hbut.cell hszc hmx.symm).trans (k2 i hi))
              have RES : Hid (midB w F nb N c x (.slice la N.length lc) wp) := (show midB w F nb N c x (.slice la N.length lc) wp from by
                refine ⟨.map (some mb), hbut.row m1 m1.lt hmn.symm, hpm.far (fun _ _ _ => rfl) (fun k hk => ?_), ?_, hbut.row m7 hszc hmx.symm, ?_⟩
                · rcases hk with h | h
                  · exact Or.inl h
                  · exact Or.inr ⟨h.1, by have : wp.heap.size = wc.heap.size := hps; omega⟩
                · refine m6.trans (G := fun k => k = mb) ⟨hbut.os, hbut.tape, hbut.output, hbut.size, fun k hk hne => hbut.block k hk hne⟩ (fun k hk e => ?_)
                  subst e
                  rcases m2 with h | h
                  · exact h
                  · omega
                · refine listAt.own m8 (fun k cur hk hc => hbut.block k (Array.getElem?_eq_some_iff.1 hc).1 ?_)
                  rintro rfl
                  rw [m3] at hc; cases hc)
              clear m1 m2 m3 m4 m5 m6 m7 m8 hpm hpb hpr hbut
              go_wp2_with fail
              refine wp_region_noPanic ?_
              refine wp_region_held_drew (S := fun w' => w'.cell? ⟨nb, 0, none⟩ = some (.slice la N.length lc) ∧ w'.cell? ⟨nb, 1, none⟩ = some (.map (some mb)) ∧ ∀ i, i < 32 → w'.cell? ⟨w.heap.size, 0 + i, none⟩ = some (arrV x.1 i)) (by kernel_rfl) ⟨k0, k1, k2⟩ (fun hHeld => ?_)
              refine take_op (i := 0) (v := ?vp0) rfl (by kernel_rfl) (by kernel_rfl) (by kernel_rfl) (fun _ _ _ h => h) rfl hHeld ?yp0 ?rp0
              case yp0 => (intro wz hz; go_simp; first | done | with_reducible rfl)
              try simp only [Act.put, List.setIfInBounds_toArray, List.set_cons_zero, List.set_cons_succ]
              refine take_op (i := 1) (v := ?vp1) rfl (by kernel_rfl) (by kernel_rfl) (by kernel_rfl) (fun _ _ _ h => h) rfl hHeld ?yp1 ?rp1
              case yp1 => (intro wz hz; go_simp; first | done | with_reducible rfl)
              try simp only [Act.put, List.setIfInBounds_toArray, List.set_cons_zero, List.set_cons_succ]
              refine take_op (i := 2) (v := ?vp2) rfl (by kernel_rfl) (by kernel_rfl) (by kernel_rfl) (fun _ _ _ h => h) rfl hHeld ?yp2 ?rp2
              case yp2 => (intro wz hz; go_simp; first | done | with_reducible rfl)
              try simp only [Act.put, List.setIfInBounds_toArray, List.set_cons_zero, List.set_cons_succ]
              refine take_op (i := 3) (v := ?vp3) rfl (by kernel_rfl) (by kernel_rfl) (by kernel_rfl) (fun _ _ _ h => h) rfl hHeld ?yp3 ?rp3
              case yp3 => (intro wz hz; have hcz := hz.2.1; go_simp; first | done | with_reducible rfl)
              try simp only [Act.put, List.setIfInBounds_toArray, List.set_cons_zero, List.set_cons_succ]
              refine take_op (i := 4) (v := ?vp4) rfl (by kernel_rfl) (by kernel_rfl) (by kernel_rfl) (fun _ _ _ h => h) rfl hHeld ?yp4 ?rp4
              case yp4 => (intro wz hz; go_simp; first | done | with_reducible rfl)
              try simp only [Act.put, List.setIfInBounds_toArray, List.set_cons_zero, List.set_cons_succ]
              refine take_load (i := 5) rfl (by kernel_rfl) (by kernel_rfl) (by kernel_rfl) 32 _ rfl w.heap.size 0 32 (arrV x.1) rfl _ Tryd.underlying32 rfl (by kernel_rfl) (fun _ _ _ h => h) rfl hHeld (fun wz hz => hz.2.2) ?_
              try simp only [Act.put, List.setIfInBounds_toArray, List.set_cons_zero, List.set_cons_succ]
              refine take_op (i := 6) (v := ?vp6) rfl (by kernel_rfl) (by kernel_rfl) (by kernel_rfl) (fun _ _ _ h => h) rfl hHeld ?yp6 ?rp6
              case yp6 => (intro wz hz; go_simp; first | done | with_reducible rfl)
              try simp only [Act.put, List.setIfInBounds_toArray, List.set_cons_zero, List.set_cons_succ]
              refine take_op (i := 7) (v := ?vp7) rfl (by kernel_rfl) (by kernel_rfl) (by kernel_rfl) (fun _ _ _ h => h) rfl hHeld ?yp7 ?rp7
              case yp7 => (intro wz hz; go_simp; first | done | with_reducible rfl)
              try simp only [Act.put, List.setIfInBounds_toArray, List.set_cons_zero, List.set_cons_succ]
              refine take_op (i := 8) (v := ?vp8) rfl (by kernel_rfl) (by kernel_rfl) (by kernel_rfl) (fun _ _ _ h => h) rfl hHeld ?yp8 ?rp8
              case yp8 => (intro wz hz; go_simp; first | done | with_reducible rfl)
              try simp only [Act.put, List.setIfInBounds_toArray, List.set_cons_zero, List.set_cons_succ]
              refine take_op (i := 9) (v := ?vp9) rfl (by kernel_rfl) (by kernel_rfl) (by kernel_rfl) (fun _ _ _ h => h) rfl hHeld ?yp9 ?rp9
              case yp9 => (intro wz hz; have hcz := hz.1; go_simp; first | done | with_reducible rfl)
              try simp only [Act.put, List.setIfInBounds_toArray, List.set_cons_zero, List.set_cons_succ]
              refine take_op (i := 10) (v := ?vp10) rfl (by kernel_rfl) (by kernel_rfl) (by kernel_rfl) (fun _ _ _ h => h) rfl hHeld ?yp10 ?rp10
              case yp10 => (intro wz hz; go_simp; first | done | with_reducible rfl)
              try simp only [Act.put, List.setIfInBounds_toArray, List.set_cons_zero, List.set_cons_succ]
              refine take_one (i := 11) rfl (by kernel_rfl) rfl (fun K hK => ?_)
              go_simp
              refine hK.out _ _ ⟨K0.out, K1.out, K2.out⟩ (fun hHeld => ?_)
              clear hK K
              try simp only [Act.put, List.setIfInBounds_toArray, List.set_cons_zero, List.set_cons_succ]
              refine wpAnyH_done (by kernel_rfl) ?_ _
              refine NoPanic.normal ?_
              clear hHeld
              go_wp2_with fail
              go_meet
              case rel => exact ⟨by simp [hf], by simp [hf], RES.out⟩
          case rest =>
            obtain ⟨rfl, rfl, hmidB⟩ := hcut
            clear m1 m2 m3 m4 m5 m6 m7 m8
            obtain ⟨mv', m1, m4, m6, m7, m8⟩ := hmidB
            have hszc' : w.heap.size < wc.heap.size := m7.lt
            have hnl : nb < wc.heap.size := m1.lt
            obtain ⟨v9, w9, hr9, hl9, hg9⟩ := note_append_run wc.drew (fun k => F k ∧ k < wc.heap.size) (.slice la N.length lc) N x (listAt.far m8 (fun _ _ _ => rfl) (fun k hk => ⟨hk, Nat.lt_of_lt_of_le (H6.out k hk) m6.size⟩)) hN (fun k hk => hk.2)
            obtain ⟨va9, vc9, rfl, _, _, _⟩ := hl9.shape
            generalize (N ++ [x]).length = n9 at hr9 hl9
            have hone : ∀ k, (Value.slice la N.length lc).ownBlock = some k → F k ∧ ∃ cur, wc.heap[k]? = some (.cells cur 107 (0, 0)) := fun k hk => by
              refine ⟨m8.2 k hk, ?_⟩
              obtain ⟨⟨_, h | ⟨g, cap, cur, hv, _, hg, _⟩⟩, _⟩ := m8
              · rw [h.1] at hk; cases hk
              · rw [hv] at hk
                obtain rfl : g = k := by simpa [Value.ownBlock] using hk
                exact ⟨cur, hg⟩
            have hon : (Value.slice la N.length lc).ownBlock ≠ some nb := fun e => by
              obtain ⟨_, cur, hc⟩ := hone nb e
              have := rowIs_block m1
              rw [hc] at this
              injection this with this
              injection this with _ h2
              exact absurd h2 (by decide)
            have hox : (Value.slice la N.length lc).ownBlock ≠ some w.heap.size := fun e => by
              have := H6.out _ (hone _ e).1
              omega
            have hblk : ∀ k, k < wc.heap.size → (Value.slice la N.length lc).ownBlock ≠ some k → w9.heap[k]? = wc.heap[k]? := fun k hk hne =>
              (hg9.block k (by simp; exact Nat.lt_succ_of_lt hk) (fun e => hne e.symm)).trans (blk_alloc_lt _ _ _ hk)
            have hs9 : wc.heap.size + 1 ≤ w9.heap.size := by have := hg9.size; simpa using this
            have r9 : w9.rowIs nb 105 3 (notesV (.slice la N.length lc) mv' c) := m1.of_block (hblk nb hnl hon)
            have c9 : w9.cell? ⟨nb, 0, none⟩ = some (.slice la N.length lc) := r9.cell (i := 0) (by omega)
            have z9 := World.rowIs.frozen r9 0
            have A0 : wc.cell? ⟨nb, 0, none⟩ = some (.slice la N.length lc) := m1.cell (i := 0) (by omega)
            have A1 : (wc.drew.alloc (.cells (rowV 33 (noteV x)) 107)).cell? ⟨nb, 0, none⟩ = some (.slice la N.length lc) := (World.cell?_of_block (w := wc) (blk_alloc_lt _ _ _ hnl)).trans A0
            have S0 : Hid (∀ i, i < 33 → wc.drew.cell? ⟨w.heap.size, 0 + i, none⟩ = some (noteV x i)) := (show ∀ i, i < 33 → wc.drew.cell? ⟨w.heap.size, 0 + i, none⟩ = some (noteV x i) from fun i hi => by rw [Nat.zero_add]; exact m7.cell hi)
            have S1 : Hid (∀ i, i < 33 → (wc.drew.alloc (.cells (rowV 33 (noteV x)) 107)).cell? ⟨w.heap.size, 0 + i, none⟩ = some (noteV x i)) := (show ∀ i, i < 33 → (wc.drew.alloc (.cells (rowV 33 (noteV x)) 107)).cell? ⟨w.heap.size, 0 + i, none⟩ = some (noteV x i) from fun i hi => (World.cell?_of_block (w := wc) (blk_alloc_lt _ _ _ hszc')).trans (S0.out i hi))
            have S2 : Hid (∀ i, i < 33 → w9.cell? ⟨w.heap.size, 0 + i, none⟩ = some (noteV x i)) := (show ∀ i, i < 33 → w9.cell? ⟨w.heap.size, 0 + i, none⟩ = some (noteV x i) from fun i hi => (World.cell?_of_block (w := wc) (hblk _ hszc' hox)).trans (S0.out i hi))
            have S3 : Hid (∀ i, i < 33 → (w9.setCell ⟨nb, 0, none⟩ (.slice va9 n9 vc9)).cell? ⟨w.heap.size, 0 + i, none⟩ = some (noteV x i)) := (show ∀ i, i < 33 → (w9.setCell ⟨nb, 0, none⟩ (.slice va9 n9 vc9)).cell? ⟨w.heap.size, 0 + i, none⟩ = some (noteV x i) from fun i hi => (World.cell?_of_block (w := w9) (blk_setCell_other _ _ _ _ (show w.heap.size ≠ nb by omega))).trans (S2.out i hi))
            have RES : Hid (notesAt (w9.setCell ⟨nb, 0, none⟩ (.slice va9 n9 vc9)) (Gr F w (w9.setCell ⟨nb, 0, none⟩ (.slice va9 n9 vc9))) nb (addN N x) c ∧ Fr F w (w9.setCell ⟨nb, 0, none⟩ (.slice va9 n9 vc9))) := (show notesAt (w9.setCell ⟨nb, 0, none⟩ (.slice va9 n9 vc9)) (Gr F w (w9.setCell ⟨nb, 0, none⟩ (.slice va9 n9 vc9))) nb (addN N x) c ∧ Fr F w (w9.setCell ⟨nb, 0, none⟩ (.slice va9 n9 vc9)) from by
              have hsE : (w9.setCell ⟨nb, 0, none⟩ (.slice va9 n9 vc9)).heap.size = w9.heap.size := nblk_setCell _ _ _
              rw [addN_out hm]
              refine ⟨⟨.slice va9 n9 vc9, mv', ?_, Or.inl h2, ?_, ?_, ?_, ?_⟩, ?_⟩
              · refine (World.rowIs.set r9 0 (.slice va9 n9 vc9)).congr fun i hi => ?_
                simp only [notesV]
                by_cases e0 : i = 0
                · subst e0; simp
                · simp [e0]
              · refine listAt.far (listAt.own hl9 (fun k cur hk hc => blk_setCell_other _ _ _ _ ?_)) (fun _ _ _ => rfl) (fun k hk => ?_)
                · rintro rfl
                  have := rowIs_block r9
                  rw [hc] at this
                  injection this with this
                  injection this with _ h2
                  exact absurd h2 (by decide)
                · rcases hk with hk | hk
                  · exact Or.inl hk.1
                  · have hk1 : wc.heap.size ≤ k := hk.1
                    exact Or.inr ⟨by omega, by rw [hsE]; exact hk.2⟩
              · refine mapAt.far (mapAt.own m4 (fun k es cl hk hc => ?_)) (fun _ _ _ => rfl) (fun k hk => ?_)
                · have hkl : k < wc.heap.size := (Array.getElem?_eq_some_iff.1 hc).1
                  rw [blk_setCell_other _ _ _ _ (by
                    rintro rfl
                    have := rowIs_block m1
                    rw [hc] at this; cases this)]
                  exact hblk k hkl (fun e => by
                    obtain ⟨_, cur, hc2⟩ := hone k e
                    rw [hc] at hc2; cases hc2)
                · rcases hk with hk | hk
                  · exact Or.inl hk
                  · exact Or.inr ⟨hk.1, by rw [hsE]; omega⟩
              · intro y hy
                rcases List.mem_append.1 hy with hy | hy
                · exact H5.out y hy
                · rw [List.mem_singleton.1 hy]; exact hx
              · intro k hk
                rcases hk with hk | hk
                · have := H6.out k hk
                  rw [hsE]; omega
                · exact hk.2
              · refine Fr.setCell (m6.trans (G := F) ⟨hg9.os, hg9.tape, hg9.output, by omega, fun k hk hn => hblk k hk (fun e => hn (hone k e).1)⟩ (fun _ _ h => h)) (Or.inl h2) _)
            clear m1 m4 m6 m7 m8 hl9 hg9 hone hon hox hblk r9
            go_upto_region 7 with fail
            refine wp_region_noPanic ?_
            refine wp_region_held_drew (S := fun w' => ∀ i, i < 33 → w'.cell? ⟨w.heap.size, 0 + i, none⟩ = some (noteV x i)) (by kernel_rfl) S0.out (fun hHeld => ?_)
            refine take_op (i := 0) (v := ?vt0) rfl (by kernel_rfl) (by kernel_rfl) (by kernel_rfl) (fun _ _ _ h => h) rfl hHeld ?yt0 ?rt0
            case yt0 => (intro wz hz; go_simp; first | done | with_reducible rfl)
            try simp only [Act.put, List.setIfInBounds_toArray, List.set_cons_zero, List.set_cons_succ]
            refine take_op (i := 1) (v := ?vt1) rfl (by kernel_rfl) (by kernel_rfl) (by kernel_rfl) (fun _ _ _ h => h) rfl hHeld ?yt1 ?rt1
            case yt1 => (intro wz hz; go_simp; first | done | with_reducible rfl)
            try simp only [Act.put, List.setIfInBounds_toArray, List.set_cons_zero, List.set_cons_succ]
            refine take_op (i := 2) (v := ?vt2) rfl (by kernel_rfl) (by kernel_rfl) (by kernel_rfl) (fun _ _ _ h => h) rfl hHeld ?yt2 ?rt2
            case yt2 => (intro wz hz; go_simp; first | done | with_reducible rfl)
            try simp only [Act.put, List.setIfInBounds_toArray, List.set_cons_zero, List.set_cons_succ]
            refine take_op (i := 3) (v := ?vt3) rfl (by kernel_rfl) (by kernel_rfl) (by kernel_rfl) (fun _ _ _ h => h) rfl hHeld ?yt3 ?rt3
            case yt3 => (intro wz hz; go_simp; first | done | with_reducible rfl)
            try simp only [Act.put, List.setIfInBounds_toArray, List.set_cons_zero, List.set_cons_succ]
            refine take_load (i := 5) rfl (by kernel_rfl) (by kernel_rfl) (by kernel_rfl) 107 _ rfl w.heap.size 0 33 (noteV x) rfl _ Tryd.underlying107 rfl (by kernel_rfl) (fun _ _ _ h => h) rfl hHeld (fun wz hz => hz) ?_
            try simp only [Act.put, List.setIfInBounds_toArray, List.set_cons_zero, List.set_cons_succ]
            refine take_pair (i := 4) (j := 6) rfl rfl (by kernel_rfl) rfl rfl (fun K hK => ?_) (fun K hK => ?_)
            · go_simp
              refine hK.out _ _ S0.out (fun hHeld => ?_)
              clear hK K
              try simp only [Act.put, List.setIfInBounds_toArray, List.set_cons_zero, List.set_cons_succ]
              refine take_one (i := 6) rfl (by kernel_rfl) rfl (fun K hK => ?_)
              refine wp_build_run (v := .agg (rowV 33 (noteV x))) 102 1 0 _ rfl (by kernel_rfl) (run_build_note (noteV x) wc.drew) ?_
              refine hK.out _ _ S1.out (fun hHeld => ?_)
              clear hK K
              try simp only [Act.put, List.setIfInBounds_toArray, List.set_cons_zero, List.set_cons_succ]
              refine take_one (i := 7) rfl (by kernel_rfl) rfl (fun K hK => ?_)
              refine wp_append_run _ _ _ rfl rfl rfl hr9 ?_
              refine hK.out _ _ S2.out (fun hHeld => ?_)
              clear hK K
              try simp only [Act.put, List.setIfInBounds_toArray, List.set_cons_zero, List.set_cons_succ]
              refine take_op (i := 8) (v := ?vua8) rfl (by kernel_rfl) (by kernel_rfl) (by kernel_rfl) (fun _ _ _ h => h) rfl hHeld ?yua8 ?rua8
              case yua8 => (intro wz hz; go_simp; first | done | with_reducible rfl)
              try simp only [Act.put, List.setIfInBounds_toArray, List.set_cons_zero, List.set_cons_succ]
              refine take_op (i := 9) (v := ?vua9) rfl (by kernel_rfl) (by kernel_rfl) (by kernel_rfl) (fun _ _ _ h => h) rfl hHeld ?yua9 ?rua9
              case yua9 => (intro wz hz; go_simp; first | done | with_reducible rfl)
              try simp only [Act.put, List.setIfInBounds_toArray, List.set_cons_zero, List.set_cons_succ]
              refine take_one (i := 10) rfl (by kernel_rfl) rfl (fun K hK => ?_)
              go_simp
              refine hK.out _ _ S3.out (fun hHeld => ?_)
              clear hK K
              try simp only [Act.put, List.setIfInBounds_toArray, List.set_cons_zero, List.set_cons_succ]
              refine wpAnyH_done (by kernel_rfl) ?_ _
              refine NoPanic.normal ?_
              clear hHeld
              go_wp2
              go_end0
              exact ⟨rfl, RES.out⟩
            · refine wp_build_run (v := .agg (rowV 33 (noteV x))) 102 1 0 _ rfl (by kernel_rfl) (run_build_note (noteV x) wc.drew) ?_
              refine hK.out _ _ S1.out (fun hHeld => ?_)
              clear hK K
              try simp only [Act.put, List.setIfInBounds_toArray, List.set_cons_zero, List.set_cons_succ]
              refine take_one (i := 4) rfl (by kernel_rfl) rfl (fun K hK => ?_)
              go_simp
              refine hK.out _ _ S1.out (fun hHeld => ?_)
              clear hK K
              try simp only [Act.put, List.setIfInBounds_toArray, List.set_cons_zero, List.set_cons_succ]
              refine take_one (i := 7) rfl (by kernel_rfl) rfl (fun K hK => ?_)
              refine wp_append_run _ _ _ rfl rfl rfl hr9 ?_
              refine hK.out _ _ S2.out (fun hHeld => ?_)
              clear hK K
              try simp only [Act.put, List.setIfInBounds_toArray, List.set_cons_zero, List.set_cons_succ]
              refine take_op (i := 8) (v := ?vub8) rfl (by kernel_rfl) (by kernel_rfl) (by kernel_rfl) (fun _ _ _ h => h) rfl hHeld ?yub8 ?rub8
              case yub8 => (intro wz hz; go_simp; first | done | with_reducible rfl)
              try simp only [Act.put, List.setIfInBounds_toArray, List.set_cons_zero, List.set_cons_succ]
              refine take_op (i := 9) (v := ?vub9) rfl (by kernel_rfl) (by kernel_rfl) (by kernel_rfl) (fun _ _ _ h => h) rfl hHeld ?yub9 ?rub9
              case yub9 => (intro wz hz; go_simp; first | done | with_reducible rfl)
              try simp only [Act.put, List.setIfInBounds_toArray, List.set_cons_zero, List.set_cons_succ]
              refine take_one (i := 10) rfl (by kernel_rfl) rfl (fun K hK => ?_)
              go_simp
              refine hK.out _ _ S3.out (fun hHeld => ?_)
              clear hK K
              try simp only [Act.put, List.setIfInBounds_toArray, List.set_cons_zero, List.set_cons_succ]
              refine wpAnyH_done (by kernel_rfl) ?_ _
              refine NoPanic.normal ?_
              clear hHeld
              go_wp2
              go_end0
              exact ⟨rfl, RES.out⟩
end Go.Proofs.YtkgegihkhdgdoaaDoor

/- SHA-256 as plain functions of integers, in the forms in which the walks give them. -/
namespace Go.Proofs.YtkgegihkhdgdoaaDoor
open Go.RowKit

/-- A word turned to the right, as the walk of bits.RotateLeft32 gives it. -/
def rotI (x : Int) (n : Nat) : Int := bits .or .u32 (x * 2 ^ (32 - n) % 4294967296) (x / 2 ^ n)

/-- the word k of a block, of its bytes. -/
def wFirst (f : Nat → Int) (k : Nat) : Int :=
  bits .or .u32 (bits .or .u32 (bits .or .u32 (f (4 * k) % 4294967296 * 16777216 % 4294967296) (f (4 * k + 1) % 4294967296 * 65536 % 4294967296)) (f (4 * k + 2) % 4294967296 * 256 % 4294967296)) (f (4 * k + 3) % 4294967296)
/-- the word behind those that are there. -/
def wNext (l : List Int) (k : Nat) : Int :=
  let p := l.getD (k - 15) 0
  let q := l.getD (k - 2) 0
  let s := bits .xor .u32 (bits .xor .u32 (rotI p 7) (rotI p 18)) (p / 8)
  let t := bits .xor .u32 (bits .xor .u32 (rotI q 17) (rotI q 19)) (q / 1024)
  (((l.getD (k - 16) 0 + s) % 4294967296 + l.getD (k - 7) 0) % 4294967296 + t) % 4294967296
/-- the first k words of a block's 64. -/
def wTo (f : Nat → Int) : Nat → List Int
  | 0 => []
  | k + 1 => wTo f k ++ [if k < 16 then wFirst f k else wNext (wTo f k) k]
theorem wTo_length (f : Nat → Int) (k : Nat) : (wTo f k).length = k := by
  induction k with
  | zero => rfl
  | succ k ih => simp [wTo, ih]
/-- the word j of those k; nought beyond them. -/
def wAt (f : Nat → Int) (k j : Nat) : Int := (wTo f k).getD j 0
theorem wAt_zero (f : Nat → Int) (j : Nat) : wAt f 0 j = 0 := rfl
theorem wAt_succ (f : Nat → Int) (k j : Nat) : wAt f (k + 1) j = if j = k then (if k < 16 then wFirst f k else wNext (wTo f k) k) else wAt f k j := by
  have hl := wTo_length f k
  rw [wAt, wAt, wTo, List.getD_eq_getElem?_getD, List.getD_eq_getElem?_getD, List.getElem?_append, hl]
  by_cases h1 : j < k
  · rw [if_pos h1, if_neg (by omega)]
  · rw [if_neg h1]
    by_cases h2 : j = k
    · subst h2; simp
    · rw [if_neg h2, List.getElem?_eq_none (by simp; omega), List.getElem?_eq_none (by omega)]
theorem wNext_at (f : Nat → Int) (k : Nat) : wNext (wTo f k) k = (((wAt f k (k - 16) + bits .xor .u32 (bits .xor .u32 (rotI (wAt f k (k - 15)) 7) (rotI (wAt f k (k - 15)) 18)) (wAt f k (k - 15) / 8)) % 4294967296 + wAt f k (k - 7)) % 4294967296 + bits .xor .u32 (bits .xor .u32 (rotI (wAt f k (k - 2)) 17) (rotI (wAt f k (k - 2)) 19)) (wAt f k (k - 2) / 1024)) % 4294967296 := rfl

/-- the eight words a to h. -/
structure S8 where
  a : Int
  b : Int
  c : Int
  d : Int
  e : Int
  f : Int
  g : Int
  h : Int
/-- the rounds' constants. -/
def kList : List Int := [1116352408, 1899447441, 3049323471, 3921009573, 961987163, 1508970993, 2453635748, 2870763221, 3624381080, 310598401, 607225278, 1426881987, 1925078388, 2162078206, 2614888103, 3248222580, 3835390401, 4022224774, 264347078, 604807628, 770255983, 1249150122, 1555081692, 1996064986, 2554220882, 2821834349, 2952996808, 3210313671, 3336571891, 3584528711, 113926993, 338241895, 666307205, 773529912, 1294757372, 1396182291, 1695183700, 1986661051, 2177026350, 2456956037, 2730485921, 2820302411, 3259730800, 3345764771, 3516065817, 3600352804, 4094571909, 275423344, 430227734, 506948616, 659060556, 883997877, 958139571, 1322822218, 1537002063, 1747873779, 1955562222, 2024104815, 2227730452, 2361852424, 2428436474, 2756734187, 3204031479, 3329325298]
def kAt (i : Nat) : Int := kList.getD i 0
def notI (x : Int) : Int := bits .xor .u32 (if IntKind.u32.signed = true then -1 else IntKind.u32.max) x
def rndT (s : S8) (k w : Int) : Int :=
  (s.h + bits .xor .u32 (bits .xor .u32 (rotI s.e 6) (rotI s.e 11)) (rotI s.e 25) + bits .xor .u32 (bits .and .u32 s.e s.f) (bits .and .u32 (notI s.e) s.g) + k + w) % 4294967296
def rndU (s : S8) : Int :=
  (bits .xor .u32 (bits .xor .u32 (rotI s.a 2) (rotI s.a 13)) (rotI s.a 22) + bits .xor .u32 (bits .xor .u32 (bits .and .u32 s.a s.b) (bits .and .u32 s.a s.c)) (bits .and .u32 s.b s.c)) % 4294967296
def rnd (s : S8) (k w : Int) : S8 := ⟨(rndT s k w + rndU s) % 4294967296, s.a, s.b, s.c, (s.d + rndT s k w) % 4294967296, s.e, s.f, s.g⟩
/-- behind k rounds over a block's words. -/
def rndTo (w : Nat → Int) (s : S8) : Nat → S8
  | 0 => s
  | k + 1 => rnd (rndTo w s k) (kAt k) (w k)
/-- eight words as a function of the place. -/
def S8.at (s : S8) : Nat → Int
  | 0 => s.a
  | 1 => s.b
  | 2 => s.c
  | 3 => s.d
  | 4 => s.e
  | 5 => s.f
  | 6 => s.g
  | _ => s.h
theorem S8.get (s : S8) (k : Nat) (h : k < 8) : (#[Value.int .u32 s.a, .int .u32 s.b, .int .u32 s.c, .int .u32 s.d, .int .u32 s.e, .int .u32 s.f, .int .u32 s.g, .int .u32 s.h] : Array Value)[k]? = some (.int .u32 (s.at k)) := by
  match k, h with
  | 0, _ => rfl
  | 1, _ => rfl
  | 2, _ => rfl
  | 3, _ => rfl
  | 4, _ => rfl
  | 5, _ => rfl
  | 6, _ => rfl
  | 7, _ => rfl
/-- the first eight words. -/
def firstI : S8 := ⟨1779033703, 3144134277, 1013904242, 2773480762, 1359893119, 2600822924, 528734635, 1541459225⟩
/-- the byte i of a sum. -/
def sumByte (v : Nat → Int) (i : Nat) : Int := v (i / 4) / 2 ^ (24 - 8 * (i % 4)) % 256
/-- eight words behind one more block. -/
def takeI (v : Nat → Int) (f : Nat → Int) (i : Nat) : Int := (v i + (rndTo (wAt f 64) ⟨v 0, v 1, v 2, v 3, v 4, v 5, v 6, v 7⟩ 64).at i) % 4294967296
end Go.Proofs.YtkgegihkhdgdoaaDoor

namespace Go.Proofs.YtkgegihkhdgdoaaDoor
open Go.RowKit

set_option maxHeartbeats 400000 in
theorem rotl_any (x n m : Int) (hb : bits .and .u64 (IntKind.u64.wrap (-n)) 31 = m) (h0 : 0 ≤ m) (h1 : m ≤ 31) (w : World) :
    Calls Tryd.prog 125 #[.int .u32 x, .int .i64 (-n)] w fun e w' => e = .returned (.int .u32 (bits BinOp.or IntKind.u32 (x * 2 ^ m.toNat % 4294967296) (x / 2 ^ (32 - m).toNat))) ∧ w' = w := by
  go_enter Tryd.func125, Tryd.ntmps125
  go_wp2
  go_ret
  exact ⟨rfl, rfl⟩

theorem turn_bits : ∀ n : Nat, 0 < n → n < 32 → bits .and .u64 (IntKind.u64.wrap (-(n : Int))) 31 = ((32 - n : Nat) : Int) := by
  have h : ∀ n : Fin 32, 0 < n.val → bits .and .u64 (IntKind.u64.wrap (-(n.val : Int))) 31 = ((32 - n.val : Nat) : Int) := by decide +kernel
  intro n h0 h1
  exact h ⟨n, h1⟩ h0

set_option maxHeartbeats 400000 in
theorem turn_nat (x : Int) (n : Nat) (h0 : 0 < n) (h1 : n < 32) (w : World) :
    Calls Tryd.prog 124 #[.int .u32 x, .int .i64 n] w fun e w' => e = .returned (.int .u32 (rotI x n)) ∧ w' = w := by
  have key := rotl_any x n _ (turn_bits n h0 h1) (by omega) (by omega)
  go_enter Tryd.func124, Tryd.ntmps124
  go_wp2_with fail
  refine (key _).mono ?_
  rintro e w' ⟨rfl, rfl⟩
  clear key
  go_wp2
  go_ret
  refine ⟨?_, rfl⟩
  have e3 : 32 - (32 - n) = n := by omega
  simp [rotI, e3]

/-- turn(x, n), for each n from 1 to 31. -/
theorem turn_any (x : Int) (n : Int) (h0 : 0 < n) (h1 : n < 32) (w : World) :
    Calls Tryd.prog 124 #[.int .u32 x, .int .i64 n] w fun e w' => e = .returned (.int .u32 (rotI x n.toNat)) ∧ w' = w := by
  obtain ⟨m, rfl⟩ := Int.eq_ofNat_of_zero_le (show 0 ≤ n by omega)
  rw [Int.toNat_natCast]
  exact turn_nat x m (by omega) (by omega) w
end Go.Proofs.YtkgegihkhdgdoaaDoor
