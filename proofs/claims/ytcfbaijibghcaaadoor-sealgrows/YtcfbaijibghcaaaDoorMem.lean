import Derived.WalkKit
import Derived.WalkSpells
import Derived.Deep.OwnRows
import Derived.Deep.MidRow
import Derived.Deep.Draws
/- Rows of memory, said by the index: what a load of a whole array or struct gives, what a store of one leaves. -/
namespace Go.Proofs.YtcfbaijibghcaaaDoor
open Go.RowKit Go.Deep

/-- n values as an array, by the index. -/
def rowV (n : Nat) (f : Nat → Value) : Array Value := Array.ofFn (n := n) (fun i => f i.val)
theorem rowV_size (n : Nat) (f : Nat → Value) : (rowV n f).size = n := by simp [rowV]
theorem rowV_get (n : Nat) (f : Nat → Value) (i : Nat) (h : i < n) : (rowV n f)[i]? = some (f i) := by simp [rowV, h]
theorem rowV_eq {n : Nat} {f : Nat → Value} {c : Array Value} (hs : c.size = n) (hc : ∀ i, i < n → c[i]? = some (f i)) : c = rowV n f := by
  apply Array.ext_getElem?
  intro i
  by_cases h : i < n
  · rw [hc i h, rowV_get n f i h]
  · rw [Array.getElem?_eq_none (by omega), Array.getElem?_eq_none (by rw [rowV_size]; omega)]
theorem rowV_congr {n : Nat} {f g : Nat → Value} (h : ∀ i, i < n → f i = g i) : rowV n f = rowV n g :=
  rowV_eq (rowV_size _ _) fun i hi => by rw [rowV_get _ _ _ hi, h i hi]
theorem rowV_inj {n : Nat} {f g : Nat → Value} (h : rowV n f = rowV n g) (i : Nat) (hi : i < n) : f i = g i := by
  have := rowV_get n f i hi
  rw [h, rowV_get n g i hi] at this
  exact (Option.some.inj this).symm

theorem rowIs_block {w : World} {b : Nat} {t : TypeId} {n : Nat} {f : Nat → Value} (h : w.rowIs b t n f) : w.heap[b]? = some (.cells (rowV n f) t (0, 0)) := by
  obtain ⟨c, hb, hs, hc⟩ := h
  rw [hb, rowV_eq hs hc]
theorem rowIs_of_block {w : World} {b : Nat} {t : TypeId} {n : Nat} {f : Nat → Value} (h : w.heap[b]? = some (.cells (rowV n f) t (0, 0))) : w.rowIs b t n f :=
  ⟨_, h, rowV_size _ _, fun i hi => rowV_get n f i hi⟩
/-- A new block whose cells are written out. -/
theorem rowIs_new (w : World) (c : Array Value) (t : TypeId) (n : Nat) (f : Nat → Value) (hs : c.size = n) (hc : ∀ i, i < n → c[i]? = some (f i)) : (w.alloc (.cells c t)).rowIs w.heap.size t n f := by
  subst hs; exact World.rowIs_alloc w c t f hc

/-- A new block of n like cells. -/
theorem rowIs_zero (w : World) (c : Array Value) (t : TypeId) (n : Nat) (z : Value) (hc : c = Array.replicate n z) : (w.alloc (.cells c t)).rowIs w.heap.size t n (fun _ => z) := by
  subst hc
  exact rowIs_new w _ t n _ (by simp) fun i hi => by simp [hi]
/-- A new block that is a row by the index. -/
theorem rowIs_box (w : World) (t : TypeId) (n : Nat) (f : Nat → Value) : (w.alloc (.cells (rowV n f) t)).rowIs w.heap.size t n f := rowIs_new w _ t n f (rowV_size _ _) fun i hi => rowV_get n f i hi

theorem size_setCells (b : Nat) : ∀ (vs : List Value) (o : Nat) (w : World), (w.setCells b o vs).heap.size = w.heap.size
  | [], _, _ => rfl
  | v :: r, o, w => by rw [World.setCells, size_setCells b r (o + 1)]; exact nblk_setCell _ _ _
theorem below_setCells {B : Nat} (b : Nat) (hb : B ≤ b) : ∀ (vs : List Value) (o : Nat) {a w : World}, Below B a w → Below B a (w.setCells b o vs)
  | [], _, _, _, h => h
  | v :: r, o, _, _, h => by rw [World.setCells]; exact below_setCells b hb r (o + 1) (h.setCell hb v)
theorem rowIs_setCells_other {b b' : Nat} {t : TypeId} {n : Nat} {f : Nat → Value} (hne : b' ≠ b) : ∀ (vs : List Value) (o : Nat) {w : World}, w.rowIs b' t n f → (w.setCells b o vs).rowIs b' t n f
  | [], _, _, h => h
  | v :: r, o, _, h => by rw [World.setCells]; exact rowIs_setCells_other hne r (o + 1) (h.setOther hne v)
theorem rowIs_setCells {b : Nat} {t : TypeId} {n : Nat} : ∀ (vs : List Value) (o : Nat) {w : World} {f : Nat → Value}, w.rowIs b t n f → (w.setCells b o vs).rowIs b t n (fun j => if o ≤ j ∧ j < o + vs.length then vs.getD (j - o) undef else f j)
  | [], o, w, f, h => h.congr fun i _ => by rw [if_neg (by simp)]
  | v :: r, o, w, f, h => by
    rw [World.setCells]
    refine (rowIs_setCells r (o + 1) (h.set o v)).congr fun i _ => ?_
    simp only [List.length_cons]
    by_cases h1 : o + 1 ≤ i ∧ i < o + 1 + r.length
    · rw [if_pos h1, if_pos (by omega)]
      obtain ⟨m, rfl⟩ : ∃ m, i = o + 1 + m := ⟨i - (o + 1), by omega⟩
      rw [show o + 1 + m - (o + 1) = m by omega, show o + 1 + m - o = m + 1 by omega, List.getD_cons_succ]
    · rw [if_neg h1]
      by_cases h2 : i = o
      · subst h2; rw [if_pos rfl, if_pos (by omega)]; simp
      · rw [if_neg h2, if_neg (by omega)]
/-- A row stored into a row. -/
theorem rowIs_splice {b o m : Nat} {t : TypeId} {n : Nat} {f g : Nat → Value} {w : World} (h : w.rowIs b t n f) : (w.setCells b o (rowV m g).toList).rowIs b t n (fun j => if o ≤ j ∧ j < o + m then g (j - o) else f j) := by
  refine (rowIs_setCells (rowV m g).toList o h).congr fun i _ => ?_
  simp only [Array.length_toList, rowV_size]
  by_cases h1 : o ≤ i ∧ i < o + m
  · rw [if_pos h1, if_pos h1, List.getD_eq_getElem?_getD, Array.getElem?_toList, rowV_get _ _ _ (by omega)]; rfl
  · rw [if_neg h1, if_neg h1]

theorem there_of_row {w : World} {b o m : Nat} {t : TypeId} {n : Nat} {f : Nat → Value} (h : w.rowIs b t n f) (hm : o + m ≤ n) : w.there b o m := fun j hj => ⟨by rw [h.cell (by omega)]; rfl, h.frozen _⟩
theorem range_of_cells {w : World} {b o m : Nat} {g : Nat → Value} (hc : ∀ i, i < m → w.cell? ⟨b, o + i, none⟩ = some (g i)) : w.rangeAt b o (rowV m g).toList := fun j v hv => by
  rw [Array.getElem?_toList] at hv
  by_cases h : j < m
  · rw [rowV_get _ _ _ h] at hv; rw [hc j h, ← hv]
  · rw [Array.getElem?_eq_none (by rw [rowV_size]; omega)] at hv; cases hv

end Go.Proofs.YtcfbaijibghcaaaDoor
namespace Go.RowKit
theorem Below.drewN {B : Nat} {a w : World} (h : Below B a w) (n : Nat) : Below B a (w.drewN n) := ⟨h.os, h.tape, h.output, h.size, h.block⟩
theorem Below.row {B : Nat} {w w' : World} (h : Below B w w') {k : Nat} {t : TypeId} {n : Nat} {f : Nat → Value} (hr : w.rowIs k t n f) (hk : k < B) : w'.rowIs k t n f := hr.of_block (h.block k hk)
end Go.RowKit
namespace Go
theorem World.rowIs.drewN {w : World} {b : Nat} {t : TypeId} {n : Nat} {f : Nat → Value} (h : w.rowIs b t n f) (k : Nat) : (w.drewN k).rowIs b t n f := h
end Go
namespace Go.Proofs.YtcfbaijibghcaaaDoor
open Go.RowKit Go.Deep
/-- NOTHING BELOW B HAS TURNED BUT BLOCK b. -/
structure But (B b : Nat) (w w' : World) : Prop where
  os : w'.os = w.os
  tape : w'.tape = w.tape
  output : w'.output = w.output
  size : w.heap.size ≤ w'.heap.size
  block : ∀ k, k < B → k ≠ b → w'.heap[k]? = w.heap[k]?
namespace But
variable {B b : Nat} {w w' w'' : World}
theorem refl (B b : Nat) (w : World) : But B b w w := ⟨rfl, rfl, rfl, Nat.le_refl _, fun _ _ _ => rfl⟩
theorem trans (h : But B b w w') (k : But B b w' w'') : But B b w w'' :=
  ⟨k.os.trans h.os, k.tape.trans h.tape, k.output.trans h.output, Nat.le_trans h.size k.size, fun i hi hb => (k.block i hi hb).trans (h.block i hi hb)⟩
theorem mono {B' : Nat} (h : But B b w w') (hB : B' ≤ B) : But B' b w w' := ⟨h.os, h.tape, h.output, h.size, fun i hi hb => h.block i (Nat.lt_of_lt_of_le hi hB) hb⟩
theorem of_below (h : Below B w w') (b : Nat) : But B b w w' := ⟨h.os, h.tape, h.output, h.size, fun i hi _ => h.block i hi⟩
theorem below (h : But B b w w') (hb : B ≤ b) : Below B w w' := ⟨h.os, h.tape, h.output, h.size, fun i hi => h.block i hi (by omega)⟩
theorem drew (h : But B b w w') : But B b w w'.drew := ⟨h.os, h.tape, h.output, h.size, h.block⟩
theorem drewN (h : But B b w w') (n : Nat) : But B b w (w'.drewN n) := ⟨h.os, h.tape, h.output, h.size, h.block⟩
theorem alloc (h : But B b w w') (hB : B ≤ w'.heap.size) (o : Obj) : But B b w (w'.alloc o) := h.trans (of_below ((Below.refl B w').alloc hB o) b)
theorem set (h : But B b w w') (i : Nat) (v : Value) : But B b w (w'.setCell ⟨b, i, none⟩ v) :=
  ⟨h.os, h.tape, h.output, by rw [nblk_setCell]; exact h.size, fun k hk hb => (blk_setCell_other _ _ _ _ hb).trans (h.block k hk hb)⟩
theorem setNew (h : But B b w w') {p : Addr} (hp : B ≤ p.block) (v : Value) : But B b w (w'.setCell p v) := h.trans (of_below ((Below.refl B w').setCell hp v) b)
theorem cell (h : But B b w w') {k i : Nat} (hk : k < B) (hb : k ≠ b) : w'.cell? ⟨k, i, none⟩ = w.cell? ⟨k, i, none⟩ := World.cell?_of_block (w := w) (h.block k hk hb)
theorem frozen (h : But B b w w') {k i : Nat} (hk : k < B) (hb : k ≠ b) : w'.frozen? ⟨k, i, none⟩ = w.frozen? ⟨k, i, none⟩ := World.frozen?_of_block (w := w) (h.block k hk hb)
theorem row (h : But B b w w') {k : Nat} {t : TypeId} {n : Nat} {f : Nat → Value} (hr : w.rowIs k t n f) (hk : k < B) (hb : k ≠ b) : w'.rowIs k t n f := hr.of_block (h.block k hk hb)
end But
theorem but_setCells {B b : Nat} : ∀ (vs : List Value) (o : Nat) {a w : World}, But B b a w → But B b a (w.setCells b o vs)
  | [], _, _, _, h => h
  | v :: r, o, _, _, h => by rw [World.setCells]; exact but_setCells r (o + 1) (h.set o v)

/-- A cell beside the one that was stored into. -/
theorem cell_keep {w : World} {n b i j : Nat} {v u : Value} (h : i ≠ j) (hc : w.cell? ⟨b, j, none⟩ = some u) : ((w.drewN n).setCell ⟨b, i, none⟩ v).cell? ⟨b, j, none⟩ = some u := by
  rw [World.cell?_setCell_other]
  · exact hc
  · intro e; injection e; contradiction

section
variable {P : Program}
/-- A LOAD OF A WHOLE ARRAY OR STRUCT, out of wherever its cells lie. -/
theorem wpList_load_seg {ops : Array Oper} {rest : List Oper} {op : Oper} {a : Act} {w : World} {Q : Exit → Act → World → Prop} (hgd : op.guard = none) (ty : TypeId) (x : Operand) (ho : op.op = .load ty x)
    (b o m : Nat) (g : Nat → Value) (hx : a.eval x = .pointer (some ⟨b, o, none⟩)) (d : TypeDesc) (hu : P.underlying ty = some d) (hd : d.isRow = true) (hi : (P.info? ty).map (·.size) = some m)
    (hc : ∀ i, i < m → w.cell? ⟨b, o + i, none⟩ = some (g i))
    (h : wpList P ops Q rest (a.put op.dst (.agg (rowV m g))) w) : wpList P ops Q (op :: rest) a w := by
  refine wpList_load_mid hgd ty x ho b o hx (rowV m g).toList d (range_of_cells hc) hu hd ?_ ?_
  · rw [hi, Array.length_toList, rowV_size]
  · rw [Array.toArray_toList]; exact h
/-- A STORE OF A WHOLE ARRAY OR STRUCT INTO A ROW. -/
theorem wpList_store_seg {ops : Array Oper} {rest : List Oper} {op : Oper} {a : Act} {w : World} {Q : Exit → Act → World → Prop} (hgd : op.guard = none) (ty : TypeId) (x y : Operand) (ho : op.op = .store ty x y)
    (b o m : Nat) (g : Nat → Value) (hx : a.eval x = .pointer (some ⟨b, o, none⟩)) (hy : a.eval y = .agg (rowV m g)) (hi : (P.info? ty).map (·.size) = some m) (h1 : ∀ i, i < m → (g i).oneCell' = true)
    (ht : w.there b o m)
    (h : wpList P ops Q rest (a.put op.dst undef) (w.setCells b o (rowV m g).toList)) : wpList P ops Q (op :: rest) a w := by
  refine wpList_store_mid hgd ty x y ho b o (rowV m g) hx hy (by rw [rowV_size]; exact ht) (by rw [hi, rowV_size]) ?_ h
  rw [Array.all_eq_true_iff_forall_mem]
  intro v hv
  obtain ⟨i, hi', rfl⟩ := Array.mem_iff_getElem.1 hv
  have hlt : i < m := by rw [rowV_size] at hi'; exact hi'
  have := rowV_get m g i hlt
  rw [Array.getElem?_eq_getElem hi'] at this
  rw [Option.some.inj this]; exact h1 i hlt
/-- THE SAME, the world behind it under a name. -/
theorem wpList_store_row {ops : Array Oper} {rest : List Oper} {op : Oper} {a : Act} {w : World} {Q : Exit → Act → World → Prop} (hgd : op.guard = none) (ty : TypeId) (x y : Operand) (ho : op.op = .store ty x y) (hdst : op.dst = none)
    (b o m : Nat) (g : Nat → Value) (hx : a.eval x = .pointer (some ⟨b, o, none⟩)) (hy : a.eval y = .agg (rowV m g)) (hi : (P.info? ty).map (·.size) = some m) (h1 : ∀ i, i < m → (g i).oneCell' = true)
    (t n : Nat) (f : Nat → Value) (hr : w.rowIs b t n f) (hm : o + m ≤ n)
    (h : ∀ w', w'.rowIs b t n (fun j => if o ≤ j ∧ j < o + m then g (j - o) else f j) → w'.heap.size = w.heap.size → But w.heap.size b w w' → wpList P ops Q rest a w') : wpList P ops Q (op :: rest) a w := by
  refine wpList_store_seg hgd ty x y ho b o m g hx hy hi h1 (there_of_row hr hm) ?_
  rw [hdst]
  exact h _ (rowIs_splice hr) (size_setCells _ _ _ _) (but_setCells _ _ (But.refl _ _ _))
/-- An array's element by an index that is a letter. -/
theorem run_index_agg (w : World) (t e : TypeId) (n : Nat) (cs : Array Value) (k : Nat) (v : Value) (h : P.underlying t = some (.array n e)) (he : (match P.underlying e with | some (.struct _) => false | some (.array _ _) => false | some _ => true | none => false) = true) (hi : (P.info? e).map (·.size) = some 1) (hk : k < n) (hv : cs[k]? = some v) :
    (Instr.index t (.agg cs) (.int .i64 k)).run P w = .ok v w := by
  cases hq : P.info? e with
  | none => simp [hq] at hi
  | some i =>
    have hs : i.size = 1 := by simpa [hq] using hi
    have hagg : (isAgg e).run P w = .ok false w := by
      unfold isAgg
      cases hd : P.underlying e with
      | none => simp [hd] at he
      | some d =>
        rw [Sem.run_bind, run_underlying hd w]
        rw [hd] at he
        cases d <;> simp_all
    have h1 : (0 : Int) ≤ (k : Int) ∧ (k : Int) < n := by omega
    simp [Instr.index, Sem.run_bind, asIntOf, run_underlying h w, h1, sizeOf, typeInfo, hq, hs, part, hagg, hv]
    intro hk2; omega
/-- A RESULT THAT LIES IN MEMORY. -/
theorem results_cell_seg {fn : Func} {p : Tmp} {ty : TypeId} (h : fn.results = #[.cell p ty]) (tmps : Array Value) (w : World) (g : Nat) (t : TypeId) (n : Nat) (f : Nat → Value) (d : TypeDesc)
    (hp : tmps.getD p undef = .pointer (some ⟨g, 0, none⟩)) (hu : P.underlying ty = some d) (hd : (match d with | .struct _ | .array _ _ => true | _ => false) = true) (hi : (P.info? ty).map (·.size) = some n)
    (hg : w.rowIs g t n f) : (results fn tmps).run P w = .ok (.agg (rowV n f)) w :=
  results_cell_row h tmps w g t (rowV n f) (0, 0) d hp (rowIs_block hg) hu hd (by rw [hi, rowV_size])
end
end Go.Proofs.YtcfbaijibghcaaaDoor
