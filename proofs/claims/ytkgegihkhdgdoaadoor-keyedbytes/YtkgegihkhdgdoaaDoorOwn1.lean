import Derived.WalkKit
import Derived.WalkSpells
import Derived.Deep.OwnRows
import Derived.Deep.MidRow
import Derived.Deep.Draws
import Derived.Deep.AppendLies
import Derived.Test.YtkgegihkhdgdoaaDoorRows
import Derived.Laws.BytesString
import Derived.Lib.SliceRun
import Derived.Lib.Tables
import Derived.WalkLawsBesides
import Derived.Lib.JoinLaws
import Derived.Deep.Light
import Derived.Deep.AppendSrc
import Derived.Laws.Bits64b
import Derived.ChangeKeysEq
import Derived.Laws.StructEq
import Derived.WideKeyArr
import Derived.Maps.OwnSet
set_option linter.unusedVariables false
set_option linter.unusedSimpArgs false
/- Rows of memory, said by the index: what a load of a whole array or struct gives, what a store of one leaves. -/
namespace Go.Proofs.YtkgegihkhdgdoaaDoor
open Go.RowKit Go.Deep

/-- n values as an array, by the index. -/
def rowV (n : Nat) (f : Nat → Value) : Array Value := Array.ofFn (n := n) (fun i => f i.val)
theorem rowV_size (n : Nat) (f : Nat → Value) : (rowV n f).size = n := by simp [rowV]
theorem rowV_get (n : Nat) (f : Nat → Value) (i : Nat) (h : i < n) : (rowV n f)[i]? = some (f i) := by simp [rowV, h]
theorem rowV_eq {n : Nat} {f : Nat → Value} {c : Array Value} (hs : c.size = n) (hc : ∀ i, i < n → c[i]? = some (f i)) : c = rowV n f := by
  apply Array.ext_getElem?
  intro i
  by_cases h : i < n
  · rw [hc i h, rowV_get n f i h]
  · rw [Array.getElem?_eq_none (by omega), Array.getElem?_eq_none (by rw [rowV_size]; omega)]
theorem rowV_congr {n : Nat} {f g : Nat → Value} (h : ∀ i, i < n → f i = g i) : rowV n f = rowV n g :=
  rowV_eq (rowV_size _ _) fun i hi => by rw [rowV_get _ _ _ hi, h i hi]
theorem rowV_inj {n : Nat} {f g : Nat → Value} (h : rowV n f = rowV n g) (i : Nat) (hi : i < n) : f i = g i := by
  have := rowV_get n f i hi
  rw [h, rowV_get n g i hi] at this
  exact (Option.some.inj this).symm

theorem rowIs_block {w : World} {b : Nat} {t : TypeId} {n : Nat} {f : Nat → Value} (h : w.rowIs b t n f) : w.heap[b]? = some (.cells (rowV n f) t (0, 0)) := by
  obtain ⟨c, hb, hs, hc⟩ := h
  rw [hb, rowV_eq hs hc]
/-- A new block whose cells are written out. -/
theorem rowIs_new (w : World) (c : Array Value) (t : TypeId) (n : Nat) (f : Nat → Value) (hs : c.size = n) (hc : ∀ i, i < n → c[i]? = some (f i)) : (w.alloc (.cells c t)).rowIs w.heap.size t n f := by
  subst hs; exact World.rowIs_alloc w c t f hc

/-- A new block of n like cells. -/
theorem rowIs_zero (w : World) (c : Array Value) (t : TypeId) (n : Nat) (z : Value) (hc : c = Array.replicate n z) : (w.alloc (.cells c t)).rowIs w.heap.size t n (fun _ => z) := by
  subst hc
  exact rowIs_new w _ t n _ (by simp) fun i hi => by simp [hi]
/-- A new block that is a row by the index. -/
theorem rowIs_box (w : World) (t : TypeId) (n : Nat) (f : Nat → Value) : (w.alloc (.cells (rowV n f) t)).rowIs w.heap.size t n f := rowIs_new w _ t n f (rowV_size _ _) fun i hi => rowV_get n f i hi

theorem size_setCells (b : Nat) : ∀ (vs : List Value) (o : Nat) (w : World), (w.setCells b o vs).heap.size = w.heap.size
  | [], _, _ => rfl
  | v :: r, o, w => by rw [World.setCells, size_setCells b r (o + 1)]; exact nblk_setCell _ _ _
theorem below_setCells {B : Nat} (b : Nat) (hb : B ≤ b) : ∀ (vs : List Value) (o : Nat) {a w : World}, Below B a w → Below B a (w.setCells b o vs)
  | [], _, _, _, h => h
  | v :: r, o, _, _, h => by rw [World.setCells]; exact below_setCells b hb r (o + 1) (h.setCell hb v)
theorem rowIs_setCells {b : Nat} {t : TypeId} {n : Nat} : ∀ (vs : List Value) (o : Nat) {w : World} {f : Nat → Value}, w.rowIs b t n f → (w.setCells b o vs).rowIs b t n (fun j => if o ≤ j ∧ j < o + vs.length then vs.getD (j - o) undef else f j)
  | [], o, w, f, h => h.congr fun i _ => by rw [if_neg (by simp)]
  | v :: r, o, w, f, h => by
    rw [World.setCells]
    refine (rowIs_setCells r (o + 1) (h.set o v)).congr fun i _ => ?_
    simp only [List.length_cons]
    by_cases h1 : o + 1 ≤ i ∧ i < o + 1 + r.length
    · rw [if_pos h1, if_pos (by omega)]
      obtain ⟨m, rfl⟩ : ∃ m, i = o + 1 + m := ⟨i - (o + 1), by omega⟩
      rw [show o + 1 + m - (o + 1) = m by omega, show o + 1 + m - o = m + 1 by omega, List.getD_cons_succ]
    · rw [if_neg h1]
      by_cases h2 : i = o
      · subst h2; rw [if_pos rfl, if_pos (by omega)]; simp
      · rw [if_neg h2, if_neg (by omega)]
/-- A row stored into a row. -/
theorem rowIs_splice {b o m : Nat} {t : TypeId} {n : Nat} {f g : Nat → Value} {w : World} (h : w.rowIs b t n f) : (w.setCells b o (rowV m g).toList).rowIs b t n (fun j => if o ≤ j ∧ j < o + m then g (j - o) else f j) := by
  refine (rowIs_setCells (rowV m g).toList o h).congr fun i _ => ?_
  simp only [Array.length_toList, rowV_size]
  by_cases h1 : o ≤ i ∧ i < o + m
  · rw [if_pos h1, if_pos h1, List.getD_eq_getElem?_getD, Array.getElem?_toList, rowV_get _ _ _ (by omega)]; rfl
  · rw [if_neg h1, if_neg h1]

theorem there_of_row {w : World} {b o m : Nat} {t : TypeId} {n : Nat} {f : Nat → Value} (h : w.rowIs b t n f) (hm : o + m ≤ n) : w.there b o m := fun j hj => ⟨by rw [h.cell (by omega)]; rfl, h.frozen _⟩
theorem range_of_cells {w : World} {b o m : Nat} {g : Nat → Value} (hc : ∀ i, i < m → w.cell? ⟨b, o + i, none⟩ = some (g i)) : w.rangeAt b o (rowV m g).toList := fun j v hv => by
  rw [Array.getElem?_toList] at hv
  by_cases h : j < m
  · rw [rowV_get _ _ _ h] at hv; rw [hc j h, ← hv]
  · rw [Array.getElem?_eq_none (by rw [rowV_size]; omega)] at hv; cases hv

end Go.Proofs.YtkgegihkhdgdoaaDoor
namespace Go.RowKit
theorem Below.drewN {B : Nat} {a w : World} (h : Below B a w) (n : Nat) : Below B a (w.drewN n) := ⟨h.os, h.tape, h.output, h.size, h.block⟩
theorem Below.row {B : Nat} {w w' : World} (h : Below B w w') {k : Nat} {t : TypeId} {n : Nat} {f : Nat → Value} (hr : w.rowIs k t n f) (hk : k < B) : w'.rowIs k t n f := hr.of_block (h.block k hk)
end Go.RowKit
namespace Go
theorem World.rowIs.drewN {w : World} {b : Nat} {t : TypeId} {n : Nat} {f : Nat → Value} (h : w.rowIs b t n f) (k : Nat) : (w.drewN k).rowIs b t n f := h
end Go
namespace Go.Proofs.YtkgegihkhdgdoaaDoor
open Go.RowKit Go.Deep
/-- NOTHING BELOW B HAS TURNED BUT BLOCK b. -/
structure But (B b : Nat) (w w' : World) : Prop where
  os : w'.os = w.os
  tape : w'.tape = w.tape
  output : w'.output = w.output
  size : w.heap.size ≤ w'.heap.size
  block : ∀ k, k < B → k ≠ b → w'.heap[k]? = w.heap[k]?
namespace But
variable {B b : Nat} {w w' w'' : World}
theorem refl (B b : Nat) (w : World) : But B b w w := ⟨rfl, rfl, rfl, Nat.le_refl _, fun _ _ _ => rfl⟩
theorem trans (h : But B b w w') (k : But B b w' w'') : But B b w w'' :=
  ⟨k.os.trans h.os, k.tape.trans h.tape, k.output.trans h.output, Nat.le_trans h.size k.size, fun i hi hb => (k.block i hi hb).trans (h.block i hi hb)⟩
theorem mono {B' : Nat} (h : But B b w w') (hB : B' ≤ B) : But B' b w w' := ⟨h.os, h.tape, h.output, h.size, fun i hi hb => h.block i (Nat.lt_of_lt_of_le hi hB) hb⟩
theorem of_below (h : Below B w w') (b : Nat) : But B b w w' := ⟨h.os, h.tape, h.output, h.size, fun i hi _ => h.block i hi⟩
theorem below (h : But B b w w') (hb : B ≤ b) : Below B w w' := ⟨h.os, h.tape, h.output, h.size, fun i hi => h.block i hi (by omega)⟩
theorem drew (h : But B b w w') : But B b w w'.drew := ⟨h.os, h.tape, h.output, h.size, h.block⟩
theorem drewN (h : But B b w w') (n : Nat) : But B b w (w'.drewN n) := ⟨h.os, h.tape, h.output, h.size, h.block⟩
theorem alloc (h : But B b w w') (hB : B ≤ w'.heap.size) (o : Obj) : But B b w (w'.alloc o) := h.trans (of_below ((Below.refl B w').alloc hB o) b)
theorem set (h : But B b w w') (i : Nat) (v : Value) : But B b w (w'.setCell ⟨b, i, none⟩ v) :=
  ⟨h.os, h.tape, h.output, by rw [nblk_setCell]; exact h.size, fun k hk hb => (blk_setCell_other _ _ _ _ hb).trans (h.block k hk hb)⟩
theorem cell (h : But B b w w') {k i : Nat} (hk : k < B) (hb : k ≠ b) : w'.cell? ⟨k, i, none⟩ = w.cell? ⟨k, i, none⟩ := World.cell?_of_block (w := w) (h.block k hk hb)
theorem frozen (h : But B b w w') {k i : Nat} (hk : k < B) (hb : k ≠ b) : w'.frozen? ⟨k, i, none⟩ = w.frozen? ⟨k, i, none⟩ := World.frozen?_of_block (w := w) (h.block k hk hb)
theorem row (h : But B b w w') {k : Nat} {t : TypeId} {n : Nat} {f : Nat → Value} (hr : w.rowIs k t n f) (hk : k < B) (hb : k ≠ b) : w'.rowIs k t n f := hr.of_block (h.block k hk hb)
end But
theorem but_setCells {B b : Nat} : ∀ (vs : List Value) (o : Nat) {a w : World}, But B b a w → But B b a (w.setCells b o vs)
  | [], _, _, _, h => h
  | v :: r, o, _, _, h => by rw [World.setCells]; exact but_setCells r (o + 1) (h.set o v)

/-- A cell beside the one that was stored into. -/
theorem cell_keep {w : World} {n b i j : Nat} {v u : Value} (h : i ≠ j) (hc : w.cell? ⟨b, j, none⟩ = some u) : ((w.drewN n).setCell ⟨b, i, none⟩ v).cell? ⟨b, j, none⟩ = some u := by
  rw [World.cell?_setCell_other]
  · exact hc
  · intro e; injection e; contradiction

section
variable {P : Program}
/-- A LOAD OF A WHOLE ARRAY OR STRUCT, out of wherever its cells lie. -/
theorem wpList_load_seg {ops : Array Oper} {rest : List Oper} {op : Oper} {a : Act} {w : World} {Q : Exit → Act → World → Prop} (hgd : op.guard = none) (ty : TypeId) (x : Operand) (ho : op.op = .load ty x)
    (b o m : Nat) (g : Nat → Value) (hx : a.eval x = .pointer (some ⟨b, o, none⟩)) (d : TypeDesc) (hu : P.underlying ty = some d) (hd : d.isRow = true) (hi : (P.info? ty).map (·.size) = some m)
    (hc : ∀ i, i < m → w.cell? ⟨b, o + i, none⟩ = some (g i))
    (h : wpList P ops Q rest (a.put op.dst (.agg (rowV m g))) w) : wpList P ops Q (op :: rest) a w := by
  refine wpList_load_mid hgd ty x ho b o hx (rowV m g).toList d (range_of_cells hc) hu hd ?_ ?_
  · rw [hi, Array.length_toList, rowV_size]
  · rw [Array.toArray_toList]; exact h
/-- A STORE OF A WHOLE ARRAY OR STRUCT INTO A ROW. -/
theorem wpList_store_seg {ops : Array Oper} {rest : List Oper} {op : Oper} {a : Act} {w : World} {Q : Exit → Act → World → Prop} (hgd : op.guard = none) (ty : TypeId) (x y : Operand) (ho : op.op = .store ty x y)
    (b o m : Nat) (g : Nat → Value) (hx : a.eval x = .pointer (some ⟨b, o, none⟩)) (hy : a.eval y = .agg (rowV m g)) (hi : (P.info? ty).map (·.size) = some m) (h1 : ∀ i, i < m → (g i).oneCell' = true)
    (ht : w.there b o m)
    (h : wpList P ops Q rest (a.put op.dst undef) (w.setCells b o (rowV m g).toList)) : wpList P ops Q (op :: rest) a w := by
  refine wpList_store_mid hgd ty x y ho b o (rowV m g) hx hy (by rw [rowV_size]; exact ht) (by rw [hi, rowV_size]) ?_ h
  rw [Array.all_eq_true_iff_forall_mem]
  intro v hv
  obtain ⟨i, hi', rfl⟩ := Array.mem_iff_getElem.1 hv
  have hlt : i < m := by rw [rowV_size] at hi'; exact hi'
  have := rowV_get m g i hlt
  rw [Array.getElem?_eq_getElem hi'] at this
  rw [Option.some.inj this]; exact h1 i hlt
/-- THE SAME, the world behind it under a name. -/
theorem wpList_store_row {ops : Array Oper} {rest : List Oper} {op : Oper} {a : Act} {w : World} {Q : Exit → Act → World → Prop} (hgd : op.guard = none) (ty : TypeId) (x y : Operand) (ho : op.op = .store ty x y) (hdst : op.dst = none)
    (b o m : Nat) (g : Nat → Value) (hx : a.eval x = .pointer (some ⟨b, o, none⟩)) (hy : a.eval y = .agg (rowV m g)) (hi : (P.info? ty).map (·.size) = some m) (h1 : ∀ i, i < m → (g i).oneCell' = true)
    (t n : Nat) (f : Nat → Value) (hr : w.rowIs b t n f) (hm : o + m ≤ n)
    (h : ∀ w', w'.rowIs b t n (fun j => if o ≤ j ∧ j < o + m then g (j - o) else f j) → w'.heap.size = w.heap.size → But w.heap.size b w w' → wpList P ops Q rest a w') : wpList P ops Q (op :: rest) a w := by
  refine wpList_store_seg hgd ty x y ho b o m g hx hy hi h1 (there_of_row hr hm) ?_
  rw [hdst]
  exact h _ (rowIs_splice hr) (size_setCells _ _ _ _) (but_setCells _ _ (But.refl _ _ _))
/-- An array's element by an index that is a letter. -/
theorem run_index_agg (w : World) (t e : TypeId) (n : Nat) (cs : Array Value) (k : Nat) (v : Value) (h : P.underlying t = some (.array n e)) (he : (match P.underlying e with | some (.struct _) => false | some (.array _ _) => false | some _ => true | none => false) = true) (hi : (P.info? e).map (·.size) = some 1) (hk : k < n) (hv : cs[k]? = some v) :
    (Instr.index t (.agg cs) (.int .i64 k)).run P w = .ok v w := by
  cases hq : P.info? e with
  | none => simp [hq] at hi
  | some i =>
    have hs : i.size = 1 := by simpa [hq] using hi
    have hagg : (isAgg e).run P w = .ok false w := by
      unfold isAgg
      cases hd : P.underlying e with
      | none => simp [hd] at he
      | some d =>
        rw [Sem.run_bind, run_underlying hd w]
        rw [hd] at he
        cases d <;> simp_all
    have h1 : (0 : Int) ≤ (k : Int) ∧ (k : Int) < n := by omega
    simp [Instr.index, Sem.run_bind, asIntOf, run_underlying h w, h1, sizeOf, typeInfo, hq, hs, part, hagg, hv]
    intro hk2; omega
/-- A RESULT THAT LIES IN MEMORY. -/
theorem results_cell_seg {fn : Func} {p : Tmp} {ty : TypeId} (h : fn.results = #[.cell p ty]) (tmps : Array Value) (w : World) (g : Nat) (t : TypeId) (n : Nat) (f : Nat → Value) (d : TypeDesc)
    (hp : tmps.getD p undef = .pointer (some ⟨g, 0, none⟩)) (hu : P.underlying ty = some d) (hd : (match d with | .struct _ | .array _ _ => true | _ => false) = true) (hi : (P.info? ty).map (·.size) = some n)
    (hg : w.rowIs g t n f) : (results fn tmps).run P w = .ok (.agg (rowV n f)) w :=
  results_cell_row h tmps w g t (rowV n f) (0, 0) d hp (rowIs_block hg) hu hd (by rw [hi, rowV_size])
end
end Go.Proofs.YtkgegihkhdgdoaaDoor

/- Slices that the call itself makes: what append leaves. -/
namespace Go.Proofs.YtkgegihkhdgdoaaDoor
open Go.RowKit Go.Deep

/-- v is a slice of the elements xs, of one cell each, in a block of its own from B on. -/
def owns (w : World) (B : Nat) (e : TypeId) (v : Value) (xs : List Value) : Prop := w.ownsRow B e 1 v xs.length xs
theorem owns_nil (w : World) (B : Nat) (e : TypeId) : owns w B e (.slice none 0 0) [] := ⟨rfl, Or.inl ⟨rfl, rfl⟩⟩
theorem owns.block {w : World} {B : Nat} {e : TypeId} {v : Value} {xs : List Value} (h : owns w B e v xs) (k : Nat) (hk : v.ownBlock = some k) : B ≤ k ∧ k < w.heap.size := by
  obtain ⟨_, h | ⟨g, cap, cur, rfl, hB, hb, _⟩⟩ := h
  · rw [h.1] at hk; cases hk
  · obtain rfl : g = k := by simpa [Value.ownBlock] using hk
    exact ⟨hB, (Array.getElem?_eq_some_iff.1 hb).1⟩
/-- a slice that is not the one that grew is as it was. -/
theorem owns.far {w w' : World} {B : Nat} {e : TypeId} {v : Value} {xs : List Value} (h : owns w B e v xs) (hk : ∀ k, v.ownBlock = some k → w'.heap[k]? = w.heap[k]?) : owns w' B e v xs := by
  obtain ⟨hl, h | ⟨g, cap, cur, rfl, hB, hb, hr⟩⟩ := h
  · exact ⟨hl, Or.inl h⟩
  · exact ⟨hl, Or.inr ⟨g, cap, cur, rfl, hB, by rw [hk g rfl]; exact hb, hr⟩⟩
theorem owns.below {w w' : World} {B C : Nat} {e : TypeId} {v : Value} {xs : List Value} (h : owns w B e v xs) (hb : Below C w w') (hC : w.heap.size ≤ C) : owns w' B e v xs :=
  h.far fun k hk => hb.block k (Nat.lt_of_lt_of_le (h.block k hk).2 hC)
theorem owns.alloc {w : World} {B : Nat} {e : TypeId} {v : Value} {xs : List Value} (h : owns w B e v xs) (o : Obj) : owns (w.alloc o) B e v xs :=
  h.far fun k hk => blk_alloc_lt _ _ _ (h.block k hk).2
theorem owns.drew {w : World} {B : Nat} {e : TypeId} {v : Value} {xs : List Value} (h : owns w B e v xs) : owns w.drew B e v xs := h
theorem owns.drewN {w : World} {B : Nat} {e : TypeId} {v : Value} {xs : List Value} (h : owns w B e v xs) (n : Nat) : owns (w.drewN n) B e v xs := h
/-- its shape, and its cells. -/
theorem owns.shape {w : World} {B : Nat} {e : TypeId} {v : Value} {xs : List Value} (h : owns w B e v xs) (hn : 0 < xs.length) :
    ∃ g cap, v = .slice (some ⟨g, 0, none⟩) xs.length cap ∧ B ≤ g ∧ g < w.heap.size ∧ xs.length ≤ cap ∧ cap ≤ maxLen ∧ (∀ i u, xs[i]? = some u → w.cell? ⟨g, i, none⟩ = some u) ∧ ∀ i, w.frozen? ⟨g, i, none⟩ = false := by
  obtain ⟨hl, h | ⟨g, cap, cur, rfl, hB, hb, hc, hm, hs, ht⟩⟩ := h
  · omega
  · refine ⟨g, cap, rfl, hB, (Array.getElem?_eq_some_iff.1 hb).1, hc, hm, fun i u hu => ?_, fun i => by simp [World.frozen?, hb]⟩
    rw [cell_of_row _ _ _ _ _ _ hb]
    rw [Nat.mul_one] at ht
    have hi : i < xs.length := by rw [List.getElem?_eq_some_iff] at hu; exact hu.1
    rw [← ht, List.getElem?_take, if_pos hi, Array.getElem?_toList] at hu
    exact hu

section
variable {P : Program}
/-- WHAT append LEAVES: the elements behind one another; nothing old but the slice's own block has turned. -/
theorem run_append (w : World) (t ty : TypeId) (B : Nat) (e : TypeId) (z : Value) (bytes : Nat) (ht : P.underlying t = some (.slice e)) (hi : (P.info? e).map (fun i => (i.zero, i.size, i.bytes)) = some (some z, 1, bytes)) (hz1 : z.cells.size = 1)
    (v : Value) (xs : List Value) (hown : owns w B e v xs) (sb so m c : Nat) (news : List Value) (hl : news.length = m) (hnews : ∀ j u, news[j]? = some u → w.cell? ⟨sb, so + j, none⟩ = some u) (h1 : ∀ u ∈ news, u.oneCell' = true)
    (hm : 0 < m) (h63 : xs.length + m ≤ maxLen) (hbytes : (xs.length + m) * bytes ≤ 140737488355328) (hB : B ≤ w.heap.size) :
    ∃ g cap w', (Builtin.append_ #[t, t] ty #[v, .slice (some ⟨sb, so, none⟩) m c]).run P w = .ok (.slice (some ⟨g, 0, none⟩) (xs.length + m) cap) w' ∧
      owns w' B e (.slice (some ⟨g, 0, none⟩) (xs.length + m) cap) (xs ++ news) ∧ w.grownBy w' v.ownBlock ∧ (v.ownBlock = some g ∨ g = w.heap.size) ∧ g < w'.heap.size := by
  cases hq : P.info? e with
  | none => simp [hq] at hi
  | some i =>
    simp only [hq, Option.map_some, Option.some.injEq, Prod.mk.injEq] at hi
    obtain ⟨hz, hs, hb⟩ := hi
    obtain ⟨g, cap, w', hr, ho, hg, hw, hlt⟩ := run_append_lies (P := P) w t ty B e i z 1 bytes ht hq hz hs hb hz1 (by omega) v xs.length xs hown ⟨sb, so, none⟩ m c news (by omega) (fun j u hu => by rw [Addr.add_mid]; exact hnews j u hu) h1 hm h63 hbytes hB w.heap.size rfl
    refine ⟨g, cap, w', hr, ?_, hg, hw, hlt⟩
    unfold owns
    rw [List.length_append, hl]; exact ho
/-- append, by what its run comes to. -/
theorem wp_append_run {o : Oper} {a : Act} {w w' : World} {K : Act → World → Prop} {Q : Exit → Act → World → Prop} {v y r : Value} (s x : Operand) (t : TypeId)
    (ho : o.op = .call { callee := .builtin .append, args := #[s, x], argTypes := #[t, t] }) (hs : a.eval s = v) (hx : a.eval x = y)
    (hr : (Builtin.append_ #[t, t] o.type #[v, y]).run P w = .ok r w') (h : K (a.put o.dst r) w') : o.wp P a w K Q := by
  unfold Oper.wp execOp
  simp only [ho, resolve, invoke, builtin, Sem.run_bind, Sem.run_pure, Result.andThen_ok, List.map_toArray, List.map_cons, List.map_nil, hs, hx, hr]
  exact h
theorem wpList_append_run {ops : Array Oper} {rest : List Oper} {o : Oper} {a : Act} {w w' : World} {Q : Exit → Act → World → Prop} {v y r : Value} (hgd : o.guard = none) (s x : Operand) (t : TypeId)
    (ho : o.op = .call { callee := .builtin .append, args := #[s, x], argTypes := #[t, t] }) (hs : a.eval s = v) (hx : a.eval x = y)
    (hr : (Builtin.append_ #[t, t] o.type #[v, y]).run P w = .ok r w') (h : wpList P ops Q rest (a.put o.dst r) w') : wpList P ops Q (o :: rest) a w :=
  wpList_plain hgd fun _ hK => wp_append_run s x t ho hs hx hr (hK _ _ h)
end
end Go.Proofs.YtkgegihkhdgdoaaDoor

/- Slices of bytes, and of others, wherever they lie. -/
namespace Go.Proofs.YtkgegihkhdgdoaaDoor
set_option linter.unusedSimpArgs false
open Go.RowKit Go.Deep

/-- the bytes of the parts ahead of place k. -/
def flatTo (ps : Nat → List Int) : Nat → List Int
  | 0 => []
  | k + 1 => flatTo ps k ++ ps k
theorem flatTo_mono (ps : Nat → List Int) : ∀ n i, i ≤ n → (flatTo ps i).length ≤ (flatTo ps n).length
  | 0, i, h => by obtain rfl : i = 0 := by omega
                  exact Nat.le_refl _
  | n + 1, i, h => by
    by_cases e : i = n + 1
    · subst e; exact Nat.le_refl _
    · rw [flatTo, List.length_append]
      have := flatTo_mono ps n i (by omega)
      omega
/-- THE VALUE v IS A SLICE OF THESE BYTES. -/
def isBytes (w : World) (v : Value) (l : List Int) : Prop :=
  (v = .slice none 0 0 ∧ l = []) ∨ ∃ pb po cap : Nat, v = .slice (some ⟨pb, po, none⟩) l.length cap ∧ l.length ≤ cap ∧ cap ≤ maxLen ∧ pb < w.heap.size ∧
    (∀ i, i < l.length → w.cell? ⟨pb, po + i, none⟩ = some (.int .u8 (l.getD i 0))) ∧ ∀ i, 0 ≤ l.getD i 0 ∧ l.getD i 0 ≤ 255
theorem isBytes.below {w w' : World} {B : Nat} {v : Value} {l : List Int} (h : isBytes w v l) (hb : Below B w w') (hB : w.heap.size ≤ B) : isBytes w' v l := by
  rcases h with h | ⟨pb, po, cap, h1, h2, h3, h4, h6, h7⟩
  · exact Or.inl h
  · exact Or.inr ⟨pb, po, cap, h1, h2, h3, Nat.lt_of_lt_of_le h4 hb.size, fun i hi => by rw [hb.cell (p := ⟨pb, po + i, none⟩) (Nat.lt_of_lt_of_le h4 hB)]; exact h6 i hi, h7⟩
/-- .. OR ONE OF NONE, wherever it says that it lies. -/
def anyBytes (w : World) (v : Value) (l : List Int) : Prop := isBytes w v l ∨ ((∃ a, v = .slice a 0 0) ∧ l = [])
theorem anyBytes.below {w w' : World} {B : Nat} {v : Value} {l : List Int} (h : anyBytes w v l) (hb : Below B w w') (hB : w.heap.size ≤ B) : anyBytes w' v l := by
  rcases h with h | h
  · exact Or.inl (h.below hb hB)
  · exact Or.inr h
/-- THE VALUE v IS A SLICE OF n SLICES OF BYTES. -/
def isParts (w : World) (v : Value) (n : Nat) (ps : Nat → List Int) : Prop :=
  (v = .slice none 0 0 ∧ n = 0) ∨ ∃ (qb qo cap : Nat) (sv : Nat → Value), v = .slice (some ⟨qb, qo, none⟩) n cap ∧ qb < w.heap.size ∧ n ≤ maxLen ∧ ∀ i, i < n → w.cell? ⟨qb, qo + i, none⟩ = some (sv i) ∧ anyBytes w (sv i) (ps i)
theorem isParts.below {w w' : World} {B : Nat} {v : Value} {n : Nat} {ps : Nat → List Int} (h : isParts w v n ps) (hb : Below B w w') (hB : w.heap.size ≤ B) : isParts w' v n ps := by
  rcases h with h | ⟨qb, qo, cap, sv, h1, h2, h3, h4⟩
  · exact Or.inl h
  · exact Or.inr ⟨qb, qo, cap, sv, h1, Nat.lt_of_lt_of_le h2 hb.size, h3, fun i hi => ⟨by rw [hb.cell (p := ⟨qb, qo + i, none⟩) (Nat.lt_of_lt_of_le h2 hB)]; exact (h4 i hi).1, (h4 i hi).2.below hb hB⟩⟩
theorem isBytes.slice {w : World} {v : Value} {l : List Int} (h : isBytes w v l) : ∃ a c, v = .slice a l.length c ∧ l.length ≤ maxLen := by
  rcases h with ⟨rfl, rfl⟩ | ⟨pb, po, cap, rfl, h2, h3, _⟩
  · exact ⟨_, _, rfl, Nat.zero_le _⟩
  · exact ⟨_, _, rfl, by omega⟩
theorem anyBytes.slice {w : World} {v : Value} {l : List Int} (h : anyBytes w v l) : ∃ a c, v = .slice a l.length c ∧ l.length ≤ maxLen := by
  rcases h with h | ⟨⟨a, rfl⟩, rfl⟩
  · exact h.slice
  · exact ⟨a, 0, rfl, Nat.zero_le _⟩
theorem isBytes.byte {w : World} {v : Value} {l : List Int} (h : isBytes w v l) (i : Nat) : 0 ≤ l.getD i 0 ∧ l.getD i 0 ≤ 255 := by
  rcases h with ⟨_, rfl⟩ | ⟨pb, po, cap, _, _, _, _, _, h7⟩
  · exact ⟨by simp, by simp⟩
  · exact h7 i
theorem isBytes.under {w : World} {pb o n cap : Nat} {l : List Int} (h : isBytes w (.slice (some ⟨pb, o, none⟩) n cap) l) : pb < w.heap.size := by
  rcases h with ⟨h, _⟩ | ⟨pb', po, cap', h1, _, _, h4, _⟩
  · cases h
  · have e : pb = pb' := by injection h1 with h1 _ _; injection h1 with h1; injection h1
    omega
theorem isBytes.of_block {w w' : World} {pb o n cap : Nat} {l : List Int} (h : isBytes w (.slice (some ⟨pb, o, none⟩) n cap) l) (hb : w'.heap[pb]? = w.heap[pb]?) (hs : w.heap.size ≤ w'.heap.size) : isBytes w' (.slice (some ⟨pb, o, none⟩) n cap) l := by
  rcases h with ⟨h, _⟩ | ⟨pb', po, cap', h1, h2, h3, h4, h6, h7⟩
  · cases h
  · have e : pb = pb' := by injection h1 with h1 _ _; injection h1 with h1; injection h1
    subst e
    exact Or.inr ⟨pb, po, cap', h1, h2, h3, by omega, fun i hi => by rw [World.cell?_of_block (w := w) hb]; exact h6 i hi, h7⟩
/-- a slice of bytes of which nothing was written is as it was. -/
theorem isBytes.far {w w' : World} {v : Value} {l : List Int} (h : isBytes w v l) (hb : ∀ k, v.ownBlock = some k → w'.heap[k]? = w.heap[k]?) (hs : w.heap.size ≤ w'.heap.size) : isBytes w' v l := by
  rcases h with h | ⟨pb, po, cap, rfl, h2, h3, h4, h6, h7⟩
  · exact Or.inl h
  · exact Or.inr ⟨pb, po, cap, rfl, h2, h3, by omega, fun i hi => by rw [World.cell?_of_block (w := w) (hb pb rfl)]; exact h6 i hi, h7⟩
theorem isBytes.block {w : World} {v : Value} {l : List Int} (h : isBytes w v l) (k : Nat) (hk : v.ownBlock = some k) : k < w.heap.size := by
  rcases h with ⟨rfl, _⟩ | ⟨pb, po, cap, rfl, h2, h3, h4, h6, h7⟩
  · cases hk
  · simp [Value.ownBlock] at hk; omega
theorem hi8 : (Tryd.prog.info? 5).map (fun i => (i.zero, i.size, i.bytes)) = some (some (.int .u8 0), 1, 1) := by kernel_rfl
/-- bytes of the call's own. -/
def newBytes (w : World) (B : Nat) (v : Value) (l : List Int) : Prop := owns w B 5 v (l.map (Value.int .u8)) ∧ ∀ i, 0 ≤ l.getD i 0 ∧ l.getD i 0 ≤ 255
theorem getElem?_u8 {l : List Int} {i : Nat} (hi : i < l.length) : (l.map (Value.int .u8))[i]? = some (Value.int .u8 (l.getD i 0)) := by
  rw [List.getElem?_map, List.getElem?_eq_getElem hi, List.getD_eq_getElem?_getD, List.getElem?_eq_getElem hi]; rfl
theorem newBytes.is {w : World} {B : Nat} {v : Value} {l : List Int} (h : newBytes w B v l) : isBytes w v l := by
  obtain ⟨ho, hb⟩ := h
  obtain ⟨_, h | ⟨g, cap, cur, rfl, hB, hg, hc, hm, hs, ht⟩⟩ := ho
  · obtain ⟨rfl, hl⟩ := h
    rw [List.length_map] at hl
    exact Or.inl ⟨rfl, List.length_eq_zero_iff.1 hl⟩
  · rw [List.length_map] at hc ⊢
    refine Or.inr ⟨g, 0, cap, rfl, hc, hm, (Array.getElem?_eq_some_iff.1 hg).1, fun i hi => ?_, hb⟩
    rw [Nat.zero_add, cell_of_row _ _ _ _ _ _ hg, ← Array.getElem?_toList]
    have h2 := getElem?_u8 hi
    rw [← ht, List.getElem?_take, List.length_map] at h2
    by_cases hh : i < l.length * 1
    · rw [if_pos hh] at h2; exact h2
    · omega
theorem newBytes.block {w : World} {B : Nat} {v : Value} {l : List Int} (h : newBytes w B v l) (k : Nat) (hk : v.ownBlock = some k) : B ≤ k ∧ k < w.heap.size := h.1.block k hk
theorem newBytes.nil (w : World) (B : Nat) : newBytes w B (.slice none 0 0) [] := ⟨owns_nil _ _ _, fun i => by simp⟩
theorem newBytes.below {w w' : World} {B C : Nat} {v : Value} {l : List Int} (h : newBytes w B v l) (hb : Below C w w') (hC : w.heap.size ≤ C) : newBytes w' B v l := ⟨h.1.below hb hC, h.2⟩
theorem newBytes.mono {w : World} {B C : Nat} {v : Value} {l : List Int} (h : newBytes w B v l) (hC : C ≤ B) : newBytes w C v l := by
  obtain ⟨⟨hl, h1⟩, hb⟩ := h
  refine ⟨⟨hl, ?_⟩, hb⟩
  rcases h1 with h1 | ⟨g, cap, cur, h1, h2, h3⟩
  · exact Or.inl h1
  · exact Or.inr ⟨g, cap, cur, h1, by omega, h3⟩
section
variable {P : Program}
theorem run_append_nil (w : World) (t ty e : TypeId) (ht : P.underlying t = some (.slice e)) (hi : (P.info? e).isSome = true) (b : Option Addr) (n c : Nat) (hn : n ≤ c) (sa : Option Addr) (d : Nat) :
    (Builtin.append_ #[t, t] ty #[.slice b n c, .slice sa 0 d]).run P w = .ok (.slice b n c) w := by
  cases hq : P.info? e with
  | none => rw [hq] at hi; cases hi
  | some i => cases b <;> cases sa <;> simp [Builtin.append_, run_underlying ht, sizeOf, typeInfo, hq, hn, storeCells, loadCells, Builtin.lenOf, Builtin.firstCells, loadCellsFrom]
end
section
variable {P : Program}
/-- x[m:], x a slice of elements of one cell. -/
theorem run_slice_from (t e : TypeId) (b o len cap m : Nat) (hu : P.underlying t = some (.slice e)) (hs : (P.info? e).map (·.size) = some 1) (hm : m ≤ len) :
    ∃ o', (m < cap → o' = o + m) ∧ ∀ w : World, (Instr.slice t (.slice (some ⟨b, o, none⟩) len cap) (some (.int .i64 m)) none none).run P w = .ok (.slice (some ⟨b, o', none⟩) (len - m) (cap - m)) w := by
  cases hq : P.info? e with
  | none => simp [hq] at hs
  | some i =>
    have hi : i.size = 1 := by simpa [hq] using hs
    have h0 : (0 : Int) ≤ (m : Int) ∧ (m : Int) ≤ (len : Int) := by omega
    by_cases hc : cap = m
    · refine ⟨o, fun h => by omega, fun w => ?_⟩
      simp [Instr.slice, Instr.sliceBounds, Instr.sliceBound, asIntOf, run_underlying hu, sizeOf, typeInfo, hq, h0, hc, hm]
    · refine ⟨o + m, fun _ => rfl, fun w => ?_⟩
      simp [Instr.slice, Instr.sliceBounds, Instr.sliceBound, asIntOf, run_underlying hu, sizeOf, typeInfo, hq, hi, h0, hc, hm, Addr.add_mid]
/-- x[:n:n]. -/
theorem run_slice_front (t e : TypeId) (b o len cap n : Nat) (hu : P.underlying t = some (.slice e)) (hs : (P.info? e).map (·.size) = some 1) (hm : n ≤ cap) (w : World) :
    (Instr.slice t (.slice (some ⟨b, o, none⟩) len cap) none (some (.int .i64 n)) (some (.int .i64 n))).run P w = .ok (.slice (some ⟨b, o, none⟩) n n) w := by
  cases hq : P.info? e with
  | none => simp [hq] at hs
  | some i =>
    have hi : i.size = 1 := by simpa [hq] using hs
    have h0 : (0 : Int) ≤ (n : Int) ∧ (n : Int) ≤ (cap : Int) := by omega
    simp [Instr.slice, Instr.sliceBounds, Instr.sliceBound, asIntOf, run_underlying hu, sizeOf, typeInfo, hq, hi, h0, hm, Addr.add_mid]
/-- x[m:n:n]. -/
theorem run_slice_mid (t e : TypeId) (b o len cap m n : Nat) (hu : P.underlying t = some (.slice e)) (hs : (P.info? e).map (·.size) = some 1) (hmn : m ≤ n) (hm : n ≤ cap) :
    ∃ o', (m < n → o' = o + m) ∧ ∀ w : World, (Instr.slice t (.slice (some ⟨b, o, none⟩) len cap) (some (.int .i64 m)) (some (.int .i64 n)) (some (.int .i64 n))).run P w = .ok (.slice (some ⟨b, o', none⟩) (n - m) (n - m)) w := by
  cases hq : P.info? e with
  | none => simp [hq] at hs
  | some i =>
    have hi : i.size = 1 := by simpa [hq] using hs
    have h0 : (0 : Int) ≤ (n : Int) ∧ (n : Int) ≤ (cap : Int) := by omega
    have h1 : (0 : Int) ≤ (m : Int) ∧ (m : Int) ≤ (n : Int) := by omega
    by_cases hc : n = m
    · refine ⟨o, fun h => by omega, fun w => ?_⟩
      simp [Instr.slice, Instr.sliceBounds, Instr.sliceBound, asIntOf, run_underlying hu, sizeOf, typeInfo, hq, h0, h1, hc, hm, hmn]
      omega
    · refine ⟨o + m, fun _ => rfl, fun w => ?_⟩
      simp [Instr.slice, Instr.sliceBounds, Instr.sliceBound, asIntOf, run_underlying hu, sizeOf, typeInfo, hq, hi, h0, h1, hc, hm, hmn, Addr.add_mid]
      try omega
end
theorem getD_append_byte {l m : List Int} (hl : ∀ i, 0 ≤ l.getD i 0 ∧ l.getD i 0 ≤ 255) (hm : ∀ i, 0 ≤ m.getD i 0 ∧ m.getD i 0 ≤ 255) (i : Nat) : 0 ≤ (l ++ m).getD i 0 ∧ (l ++ m).getD i 0 ≤ 255 := by
  rw [List.getD_eq_getElem?_getD, List.getElem?_append]
  split
  · rw [← List.getD_eq_getElem?_getD]; exact hl i
  · rw [← List.getD_eq_getElem?_getD]; exact hm _
/-- append(v, u...), v of the call's own, u any bytes. -/
theorem bytes_append_run (w : World) (B : Nat) (v u : Value) (l m : List Int) (hv : newBytes w B v l) (hu : isBytes w u m) (hs : l.length + m.length ≤ 1099511627776) (hB : B ≤ w.heap.size) :
    ∃ v' w', (Builtin.append_ #[23, 23] 23 #[v, u]).run Tryd.prog w = .ok v' w' ∧ newBytes w' B v' (l ++ m) ∧ w.grownBy w' v.ownBlock ∧ (v'.ownBlock = v.ownBlock ∨ v'.ownBlock = some w.heap.size) := by
  have hgrow : w.grownBy w v.ownBlock := ⟨rfl, rfl, rfl, Nat.le_refl _, fun _ _ _ => rfl⟩
  by_cases h0 : m.length = 0
  · obtain rfl : m = [] := List.length_eq_zero_iff.1 h0
    obtain ⟨a, c, rfl, _⟩ := hu.slice
    have hsh : ∃ a n c, v = .slice a n c ∧ n ≤ c := by
      obtain ⟨⟨_, h | ⟨g, cap, cur, rfl, _, _, hc, _⟩⟩, _⟩ := hv
      · exact ⟨_, _, _, h.1, Nat.le_refl _⟩
      · exact ⟨_, _, _, rfl, hc⟩
    obtain ⟨a', n', c', rfl, hc⟩ := hsh
    exact ⟨_, w, run_append_nil w _ _ _ Tryd.underlying23 (by kernel_rfl) a' n' c' hc a c, by rw [List.append_nil]; exact hv, hgrow, Or.inl rfl⟩
  · rcases hu with ⟨_, rfl⟩ | ⟨pb, po, cap, rfl, h2, h3, h4, h6, h7⟩
    · exact absurd rfl h0
    · obtain ⟨g, cp, w2, hr, ho, hg, hat, hlt⟩ := run_append (P := Tryd.prog) w 23 23 B 5 (.int .u8 0) 1 Tryd.underlying23 hi8 rfl v _ hv.1 pb po m.length cap (m.map (Value.int .u8)) (by simp)
        (fun j u hu => by
          have hj : j < m.length := by
            by_cases hj : j < m.length
            · exact hj
            · rw [List.getElem?_eq_none (by simp; omega)] at hu; cases hu
          rw [getElem?_u8 hj] at hu
          rw [h6 j hj, ← hu])
        (fun v hv => by obtain ⟨x, _, rfl⟩ := List.mem_map.1 hv; rfl) (by omega) (by simp; unfold maxLen; omega) (by simp; omega) hB
      rw [List.length_map] at hr ho
      refine ⟨_, w2, hr, ⟨?_, getD_append_byte hv.2 h7⟩, hg, ?_⟩
      · rw [List.map_append]; exact ho
      · rcases hat with h | h
        · exact Or.inl h.symm
        · exact Or.inr (by rw [h]; rfl)
/-- .. u any bytes, or none. -/
theorem any_append_run (w : World) (B : Nat) (v u : Value) (l m : List Int) (hv : newBytes w B v l) (hu : anyBytes w u m) (hs : l.length + m.length ≤ 1099511627776) (hB : B ≤ w.heap.size) :
    ∃ v' w', (Builtin.append_ #[23, 23] 23 #[v, u]).run Tryd.prog w = .ok v' w' ∧ newBytes w' B v' (l ++ m) ∧ w.grownBy w' v.ownBlock ∧ (v'.ownBlock = v.ownBlock ∨ v'.ownBlock = some w.heap.size) := by
  rcases hu with hu | ⟨⟨a, rfl⟩, rfl⟩
  · exact bytes_append_run w B v u l m hv hu hs hB
  · have hsh : ∃ a n c, v = .slice a n c ∧ n ≤ c := by
      obtain ⟨⟨_, h | ⟨g, cap, cur, rfl, _, _, hc, _⟩⟩, _⟩ := hv
      · exact ⟨_, _, _, h.1, Nat.le_refl _⟩
      · exact ⟨_, _, _, rfl, hc⟩
    obtain ⟨a', n', c', rfl, hc⟩ := hsh
    exact ⟨_, w, run_append_nil w _ _ _ Tryd.underlying23 (by kernel_rfl) a' n' c' hc a 0, by rw [List.append_nil]; exact hv, ⟨rfl, rfl, rfl, Nat.le_refl _, fun _ _ _ => rfl⟩, Or.inl rfl⟩
theorem below_grown {w w' : World} {B : Nat} {v : Value} (hg : w.grownBy w' v.ownBlock) (hv : ∀ k, v.ownBlock = some k → B ≤ k) (hB : B ≤ w.heap.size) : Below B w w' :=
  ⟨hg.os, hg.tape, hg.output, hg.size, fun k hk => hg.block k (by omega) (fun e => by have := hv k e.symm; omega)⟩
/-- append([]byte{}, u...): new bytes, the same. -/
theorem bytes_copy_run (w : World) (u : Value) (l : List Int) (hu : isBytes w u l) (hl : l.length ≤ 1099511627776) :
    ∃ v' w', (Builtin.append_ #[23, 23] 23 #[.slice (some ⟨w.heap.size, 0, none⟩) 0 0, u]).run Tryd.prog (w.alloc (.cells #[] 5)) = .ok v' w' ∧ newBytes w' w.heap.size v' l ∧ Below w.heap.size w w' := by
  have hb1 : Below w.heap.size w (w.alloc (.cells #[] 5)) := (Below.refl _ _).alloc (Nat.le_refl _) _
  have hO : newBytes (w.alloc (.cells #[] 5)) w.heap.size (.slice (some ⟨w.heap.size, 0, none⟩) 0 0) [] :=
    ⟨⟨rfl, Or.inr ⟨w.heap.size, 0, #[], rfl, Nat.le_refl _, blk_alloc_new _ _, Nat.le_refl _, by unfold maxLen; omega, rfl, rfl⟩⟩, fun i => by simp⟩
  obtain ⟨v', w', hr, hn, hg, _⟩ := bytes_append_run _ w.heap.size _ u [] l hO (hu.below hb1 (Nat.le_refl _)) (by simp; omega) (by simp)
  exact ⟨v', w', hr, hn, hb1.trans (below_grown hg (fun k hk => (hO.block k hk).1) (by simp))⟩

/-- bytes as a string. -/
def strOf (l : List Int) : ByteArray := ⟨(l.map fun n => UInt8.ofNat n.toNat).toArray⟩
theorem strOf_fold (l : List Int) : ∀ s : ByteArray, l.foldl (fun r n => r.push (UInt8.ofNat n.toNat)) s = ⟨(s.data.toList ++ l.map fun n => UInt8.ofNat n.toNat).toArray⟩ := by
  induction l with
  | nil => intro s; simp
  | cons n l ih => intro s; rw [List.foldl_cons, ih]; simp [ByteArray.push]
theorem strOf_size (l : List Int) : (strOf l).size = l.length := by simp [strOf, ByteArray.size]
theorem rowV_map (n : Nat) (f : Nat → Int) : rowV n (fun i => .int .u8 (f i)) = (((List.range n).map f).map (Value.int .u8)).toArray := by
  symm
  apply rowV_eq
  · simp
  · intro i hi; simp [hi]
section
variable {P : Program}
/-- string(b), b a slice over a row of bytes. -/
theorem run_convert_row_string (w : World) (src dst e : TypeId) (b o n c : Nat) (f : Nat → Int) (hs : P.underlying src = some (.slice e)) (he : P.underlying e = some (.int .u8)) (hd : P.underlying dst = some .string)
    (hc : ∀ i, i < n → w.cell? ⟨b, o + i, none⟩ = some (.int .u8 (f i))) :
    (convert src dst (.slice (some ⟨b, o, none⟩) n c)).run P w = .ok (.string (strOf ((List.range n).map f))) w := by
  rw [run_convert_bytes_string w src dst e _ _ _ hs he hd]
  have hl := run_loadCells_list (P := P) w ⟨b, o, none⟩ (rowV n fun i => .int .u8 (f i)).toList (fun j v hv => by rw [Addr.add_mid]; exact range_of_cells hc j v hv)
  rw [Array.length_toList, rowV_size, Array.toArray_toList, rowV_map] at hl
  rw [run_bytesToString w ⟨b, o, none⟩ n c _ hl, strOf_fold]
  simp [strOf]
theorem range_getD (l : List Int) : (List.range l.length).map (fun i => l.getD i 0) = l := by
  apply List.ext_getElem?
  intro i
  rw [List.getElem?_map]
  by_cases h : i < l.length
  · rw [List.getElem?_range h, List.getElem?_eq_getElem h, Option.map_some, List.getD_eq_getElem?_getD, List.getElem?_eq_getElem h]; rfl
  · rw [List.getElem?_eq_none (by simp; omega), List.getElem?_eq_none (by omega)]; rfl
/-- string(b), b any bytes. -/
theorem run_convert_bytes (w : World) (src dst e : TypeId) (v : Value) (l : List Int) (hs : P.underlying src = some (.slice e)) (he : P.underlying e = some (.int .u8)) (hd : P.underlying dst = some .string)
    (h : isBytes w v l) : (convert src dst v).run P w = .ok (.string (strOf l)) w := by
  rcases h with ⟨rfl, rfl⟩ | ⟨pb, po, cap, rfl, h2, h3, h4, h6, h7⟩
  · rw [run_convert_bytes_string w src dst e _ _ _ hs he hd]
    simp [Conv.bytesToString, strOf]
    rfl
  · rw [run_convert_row_string w src dst e pb po l.length cap (fun i => l.getD i 0) hs he hd h6, range_getD]
theorem run_convert_any (w : World) (src dst e : TypeId) (v : Value) (l : List Int) (hs : P.underlying src = some (.slice e)) (he : P.underlying e = some (.int .u8)) (hd : P.underlying dst = some .string)
    (h : anyBytes w v l) : (convert src dst v).run P w = .ok (.string (strOf l)) w := by
  rcases h with h | ⟨⟨a, rfl⟩, rfl⟩
  · exact run_convert_bytes w src dst e v l hs he hd h
  · rw [run_convert_bytes_string w src dst e _ _ _ hs he hd]
    cases a with
    | none => simp [Conv.bytesToString, strOf]; rfl
    | some a => rw [run_bytesToString w a 0 0 [] (by simp [loadCells, loadCellsFrom]), strOf_fold]; simp [strOf]
theorem wp_convert_run {o : Oper} {a : Act} {w w' : World} {K : Act → World → Prop} {Q : Exit → Act → World → Prop} {v r : Value} (s t : TypeId) (x : Operand)
    (ho : o.op = .convert s t x) (hx : a.eval x = v) (hr : (convert s t v).run P w = .ok r w') (h : K (a.put o.dst r) w') : o.wp P a w K Q := by
  unfold Oper.wp execOp
  simp only [ho, hx, Sem.run_bind, hr, Result.andThen_ok, Sem.run_pure]
  exact h
theorem wpList_convert_run {ops : Array Oper} {rest : List Oper} {o : Oper} {a : Act} {w w' : World} {Q : Exit → Act → World → Prop} {v r : Value} (hgd : o.guard = none) (s t : TypeId) (x : Operand)
    (ho : o.op = .convert s t x) (hx : a.eval x = v) (hr : (convert s t v).run P w = .ok r w') (h : wpList P ops Q rest (a.put o.dst r) w') : wpList P ops Q (o :: rest) a w :=
  wpList_plain hgd fun _ hK => wp_convert_run s t x ho hx hr (hK _ _ h)
end
theorem strOf_inj {l m : List Int} (hl : ∀ i, 0 ≤ l.getD i 0 ∧ l.getD i 0 ≤ 255) (hm : ∀ i, 0 ≤ m.getD i 0 ∧ m.getD i 0 ≤ 255) (h : strOf l = strOf m) : l = m := by
  have hlen : l.length = m.length := by rw [← strOf_size l, ← strOf_size m, h]
  have h' : l.map (fun n => UInt8.ofNat n.toNat) = m.map (fun n => UInt8.ofNat n.toNat) := by
    have := congrArg (fun s : ByteArray => s.data.toList) h
    simpa [strOf] using this
  apply List.ext_getElem hlen
  intro i h1 h2
  have e := congrArg (fun q => q[i]?) h'
  simp only [List.getElem?_map, List.getElem?_eq_getElem h1, List.getElem?_eq_getElem h2, Option.map_some, Option.some.injEq] at e
  have a1 := hl i
  have a2 := hm i
  rw [List.getD_eq_getElem?_getD, List.getElem?_eq_getElem h1] at a1
  rw [List.getD_eq_getElem?_getD, List.getElem?_eq_getElem h2] at a2
  simp only [Option.getD_some] at a1 a2
  have e2 := congrArg UInt8.toNat e
  rw [UInt8.toNat_ofNat', UInt8.toNat_ofNat'] at e2
  omega
end Go.Proofs.YtkgegihkhdgdoaaDoor

/- Numbers as bytes: how many, and which. Plain mathematics. -/
namespace Go.Proofs.YtkgegihkhdgdoaaDoor

/-- how many bytes a number has behind its first. -/
def szI (x : Int) : Nat :=
  if x < 1 then 0 else if x < 256 then 1 else if x < 65536 then 2 else if x < 16777216 then 3 else if x < 4294967296 then 4
  else if x < 1099511627776 then 5 else if x < 281474976710656 then 6 else if x < 72057594037927936 then 7 else 8
theorem szI_le (x : Int) : szI x ≤ 8 := by unfold szI; repeat' split <;> try omega
theorem len8_small : ∀ k : Fin 256, (Go.Lib.len8 (k.val : Int) = 0 ↔ k.val = 0) ∧ 0 ≤ Go.Lib.len8 (k.val : Int) ∧ Go.Lib.len8 (k.val : Int) ≤ 8 := by decide +kernel
theorem len8_is (x : Int) (h0 : 0 ≤ x) (h1 : x < 256) : (Go.Lib.len8 x = 0 ↔ x = 0) ∧ 0 ≤ Go.Lib.len8 x ∧ Go.Lib.len8 x ≤ 8 := by
  obtain ⟨m, rfl⟩ := Int.eq_ofNat_of_zero_le h0
  have := len8_small ⟨m, by omega⟩
  refine ⟨⟨fun h => ?_, fun h => ?_⟩, this.2⟩
  · have := this.1.1 h; simp at this; omega
  · exact this.1.2 (by simp; omega)
/-- the byte i of k, the highest first. -/
def digI (x : Int) (k i : Nat) : Int := x / 2 ^ (8 * (k - 1 - i)) % 256
def digsI (x : Int) (k : Nat) : List Int := (List.range k).map (digI x k)
/-- A NUMBER's BYTES. -/
def numB (x : Int) : List Int := (szI x : Int) :: digsI x (szI x)
theorem numB_length (x : Int) : (numB x).length = 1 + szI x := by simp [numB, digsI]; omega
theorem digI_byte (x : Int) (k i : Nat) : 0 ≤ digI x k i ∧ digI x k i ≤ 255 := by unfold digI; omega
theorem digsI_byte (x : Int) (k : Nat) (i : Nat) : 0 ≤ (digsI x k).getD i 0 ∧ (digsI x k).getD i 0 ≤ 255 := by
  rw [List.getD_eq_getElem?_getD, digsI, List.getElem?_map]
  by_cases h : i < k
  · rw [List.getElem?_range h]; exact digI_byte x k i
  · rw [List.getElem?_eq_none (by simp; omega)]; exact ⟨by simp, by simp⟩
/-- a number out of its bytes. -/
def horn (l : List Int) : Int := l.foldl (fun a b => a * 256 + b) 0
theorem horn_snoc (l : List Int) (b : Int) : horn (l ++ [b]) = horn l * 256 + b := by simp [horn]
theorem digsI_succ (x : Int) (k : Nat) : digsI x (k + 1) = digsI (x / 256) k ++ [x % 256] := by
  rw [digsI, List.range_succ, List.map_append]
  congr 1
  · apply List.map_congr_left
    intro i hi
    have hi' : i < k := by simpa using hi
    unfold digI
    have : 8 * (k + 1 - 1 - i) = 8 + 8 * (k - 1 - i) := by omega
    rw [this, Int.pow_add, ← Int.ediv_ediv_of_nonneg (by omega)]
    rfl
  · simp [digI]
theorem horn_digsI : ∀ (k : Nat) (x : Int), 0 ≤ x → x < 256 ^ k → horn (digsI x k) = x
  | 0, x, h0, h1 => by have : x = 0 := by simp at h1; omega
                       subst this; rfl
  | k + 1, x, h0, h1 => by
    rw [digsI_succ, horn_snoc, horn_digsI k (x / 256) (by omega) (by
      have : (256 : Int) ^ (k + 1) = 256 ^ k * 256 := Int.pow_succ _ _
      rw [this] at h1
      generalize (256 : Int) ^ k = p at *
      omega)]
    omega
theorem horn_bound : ∀ (l : List Int), (∀ b ∈ l, 0 ≤ b ∧ b ≤ 255) → 0 ≤ horn l ∧ horn l < 256 ^ l.length := by
  intro l
  have key : ∀ (l : List Int) (a : Int), 0 ≤ a → (∀ b ∈ l, 0 ≤ b ∧ b ≤ 255) → 0 ≤ l.foldl (fun a b => a * 256 + b) a ∧ l.foldl (fun a b => a * 256 + b) a < (a + 1) * 256 ^ l.length := by
    intro l
    induction l with
    | nil => intro a ha _; simp; omega
    | cons b l ih =>
      intro a ha hb
      have h1 := hb b (by simp)
      obtain ⟨i1, i2⟩ := ih (a * 256 + b) (by omega) (fun c hc => hb c (by simp [hc]))
      refine ⟨i1, Int.lt_of_lt_of_le i2 ?_⟩
      rw [List.length_cons, Int.pow_succ]
      have hp : (0 : Int) < 256 ^ l.length := Int.pow_pos (by omega)
      generalize (256 : Int) ^ l.length = p at *
      have : (a * 256 + b + 1) * p ≤ ((a + 1) * 256) * p := Int.mul_le_mul_of_nonneg_right (by omega) (by omega)
      rw [Int.mul_comm p 256, ← Int.mul_assoc]; exact this
  intro h
  have := key l 0 (by omega) h
  simpa [horn] using this
/-- k bytes are the digits of what they make. -/
theorem digsI_horn : ∀ (k : Nat) (l : List Int), l.length = k → (∀ b ∈ l, 0 ≤ b ∧ b ≤ 255) → digsI (horn l) k = l
  | 0, l, hl, _ => by obtain rfl := List.length_eq_zero_iff.1 hl; rfl
  | k + 1, l, hl, hb => by
    obtain ⟨m, b, rfl⟩ : ∃ m b, l = m ++ [b] := ⟨l.dropLast, l.getLast (by intro e; rw [e] at hl; simp at hl), (List.dropLast_concat_getLast _).symm⟩
    have h1 := hb b (by simp)
    have h2 := horn_bound m (fun c hc => hb c (by simp [hc]))
    rw [digsI_succ, horn_snoc]
    have e1 : (horn m * 256 + b) / 256 = horn m := by omega
    have e2 : (horn m * 256 + b) % 256 = b := by omega
    rw [e1, e2, digsI_horn k m (by simp at hl; omega) (fun c hc => hb c (by simp [hc]))]
end Go.Proofs.YtkgegihkhdgdoaaDoor

namespace Go.Proofs.YtkgegihkhdgdoaaDoor
open Go.RowKit Go.Deep

theorem ret_int {k : IntKind} {a b : Int} (h : a = b) : Ending.returned (.int k a) = .returned (.int k b) := by rw [h]
/-- what bits.Len64 answers. -/
def lenI (x : Int) : Int :=
  if 4294967296 ≤ x then
    (if 65536 ≤ x / 4294967296 then (if 256 ≤ x / 4294967296 / 65536 then 56 + Go.Lib.len8 (x / 4294967296 / 65536 / 256) else 48 + Go.Lib.len8 (x / 4294967296 / 65536))
     else (if 256 ≤ x / 4294967296 then 40 + Go.Lib.len8 (x / 4294967296 / 256) else 32 + Go.Lib.len8 (x / 4294967296)))
  else
    (if 65536 ≤ x then (if 256 ≤ x / 65536 then 24 + Go.Lib.len8 (x / 65536 / 256) else 16 + Go.Lib.len8 (x / 65536))
     else (if 256 ≤ x then 8 + Go.Lib.len8 (x / 256) else 0 + Go.Lib.len8 x))
theorem lenI_sz (x : Int) (h0 : 0 ≤ x) (h1 : x < 18446744073709551616) : 0 ≤ lenI x ∧ lenI x ≤ 64 ∧ (lenI x + 7) / 8 = (szI x : Int) := by
  unfold lenI
  split
  · split
    · split
      · have := len8_is (x / 4294967296 / 65536 / 256) (by omega) (by omega)
        have e : szI x = 8 := by unfold szI; repeat' rw [if_neg (by omega)]
        rw [e]; omega
      · have := len8_is (x / 4294967296 / 65536) (by omega) (by omega)
        have e : szI x = 7 := by unfold szI; repeat' (first | rw [if_neg (by omega)] | rw [if_pos (by omega)])
        rw [e]; omega
    · split
      · have := len8_is (x / 4294967296 / 256) (by omega) (by omega)
        have e : szI x = 6 := by unfold szI; repeat' (first | rw [if_neg (by omega)] | rw [if_pos (by omega)])
        rw [e]; omega
      · have := len8_is (x / 4294967296) (by omega) (by omega)
        have e : szI x = 5 := by unfold szI; repeat' (first | rw [if_neg (by omega)] | rw [if_pos (by omega)])
        rw [e]; omega
  · split
    · split
      · have := len8_is (x / 65536 / 256) (by omega) (by omega)
        have e : szI x = 4 := by unfold szI; repeat' (first | rw [if_neg (by omega)] | rw [if_pos (by omega)])
        rw [e]; omega
      · have := len8_is (x / 65536) (by omega) (by omega)
        have e : szI x = 3 := by unfold szI; repeat' (first | rw [if_neg (by omega)] | rw [if_pos (by omega)])
        rw [e]; omega
    · split
      · have := len8_is (x / 256) (by omega) (by omega)
        have e : szI x = 2 := by unfold szI; repeat' (first | rw [if_neg (by omega)] | rw [if_pos (by omega)])
        rw [e]; omega
      · have := len8_is x (by omega) (by omega)
        by_cases hz : x = 0
        · subst hz; have e : szI 0 = 0 := rfl
          rw [e]; omega
        · have e : szI x = 1 := by unfold szI; repeat' (first | rw [if_neg (by omega)] | rw [if_pos (by omega)])
          rw [e]; omega

set_option maxHeartbeats 1000000 in
theorem len64_any (x : Int) (h0 : 0 ≤ x) (h1 : x < 18446744073709551616) (w : World) :
    Calls Tryd.prog 96 #[.int .u64 x] w fun e w' => e = .returned (.int .i64 (lenI x)) ∧ w' = w := by
  by_cases a : 4294967296 ≤ x
  · by_cases b : 65536 ≤ x / 4294967296
    · by_cases c : 256 ≤ x / 4294967296 / 65536
      · have q0 : 0 ≤ x / 4294967296 / 65536 / 256 := by omega
        have q1 : x / 4294967296 / 65536 / 256 ≤ 255 := by omega
        have := len8_is _ q0 (by omega)
        have E0 : lenI x = 56 + Go.Lib.len8 (x / 4294967296 / 65536 / 256) := by unfold lenI; rw [if_pos a]; rw [if_pos b]; rw [if_pos c]
        have E : Hid _ := E0
        clear E0
        go_enter Tryd.func96, Tryd.ntmps96
        go_wp2
        go_ret
        exact ⟨ret_int (by first | (rw [E.out]; done) | (rw [E.out, Int.zero_add]; done)), rfl⟩
      · have q0 : 0 ≤ x / 4294967296 / 65536 := by omega
        have q1 : x / 4294967296 / 65536 ≤ 255 := by omega
        have := len8_is _ q0 (by omega)
        have E0 : lenI x = 48 + Go.Lib.len8 (x / 4294967296 / 65536) := by unfold lenI; rw [if_pos a]; rw [if_pos b]; rw [if_neg c]
        have E : Hid _ := E0
        clear E0
        go_enter Tryd.func96, Tryd.ntmps96
        go_wp2
        go_ret
        exact ⟨ret_int (by first | (rw [E.out]; done) | (rw [E.out, Int.zero_add]; done)), rfl⟩
    · by_cases c : 256 ≤ x / 4294967296
      · have q0 : 0 ≤ x / 4294967296 / 256 := by omega
        have q1 : x / 4294967296 / 256 ≤ 255 := by omega
        have := len8_is _ q0 (by omega)
        have E0 : lenI x = 40 + Go.Lib.len8 (x / 4294967296 / 256) := by unfold lenI; rw [if_pos a]; rw [if_neg b]; rw [if_pos c]
        have E : Hid _ := E0
        clear E0
        go_enter Tryd.func96, Tryd.ntmps96
        go_wp2
        go_ret
        exact ⟨ret_int (by first | (rw [E.out]; done) | (rw [E.out, Int.zero_add]; done)), rfl⟩
      · have q0 : 0 ≤ x / 4294967296 := by omega
        have q1 : x / 4294967296 ≤ 255 := by omega
        have := len8_is _ q0 (by omega)
        have E0 : lenI x = 32 + Go.Lib.len8 (x / 4294967296) := by unfold lenI; rw [if_pos a]; rw [if_neg b]; rw [if_neg c]
        have E : Hid _ := E0
        clear E0
        go_enter Tryd.func96, Tryd.ntmps96
        go_wp2
        go_ret
        exact ⟨ret_int (by first | (rw [E.out]; done) | (rw [E.out, Int.zero_add]; done)), rfl⟩
  · by_cases b : 65536 ≤ x
    · by_cases c : 256 ≤ x / 65536
      · have q0 : 0 ≤ x / 65536 / 256 := by omega
        have q1 : x / 65536 / 256 ≤ 255 := by omega
        have := len8_is _ q0 (by omega)
        have E0 : lenI x = 24 + Go.Lib.len8 (x / 65536 / 256) := by unfold lenI; rw [if_neg a]; rw [if_pos b]; rw [if_pos c]
        have E : Hid _ := E0
        clear E0
        go_enter Tryd.func96, Tryd.ntmps96
        go_wp2
        go_ret
        exact ⟨ret_int (by first | (rw [E.out]; done) | (rw [E.out, Int.zero_add]; done)), rfl⟩
      · have q0 : 0 ≤ x / 65536 := by omega
        have q1 : x / 65536 ≤ 255 := by omega
        have := len8_is _ q0 (by omega)
        have E0 : lenI x = 16 + Go.Lib.len8 (x / 65536) := by unfold lenI; rw [if_neg a]; rw [if_pos b]; rw [if_neg c]
        have E : Hid _ := E0
        clear E0
        go_enter Tryd.func96, Tryd.ntmps96
        go_wp2
        go_ret
        exact ⟨ret_int (by first | (rw [E.out]; done) | (rw [E.out, Int.zero_add]; done)), rfl⟩
    · by_cases c : 256 ≤ x
      · have q0 : 0 ≤ x / 256 := by omega
        have q1 : x / 256 ≤ 255 := by omega
        have := len8_is _ q0 (by omega)
        have E0 : lenI x = 8 + Go.Lib.len8 (x / 256) := by unfold lenI; rw [if_neg a]; rw [if_neg b]; rw [if_pos c]
        have E : Hid _ := E0
        clear E0
        go_enter Tryd.func96, Tryd.ntmps96
        go_wp2
        go_ret
        exact ⟨ret_int (by first | (rw [E.out]; done) | (rw [E.out, Int.zero_add]; done)), rfl⟩
      · have q0 : 0 ≤ x := by omega
        have q1 : x ≤ 255 := by omega
        have := len8_is _ q0 (by omega)
        have E0 : lenI x = 0 + Go.Lib.len8 (x) := by unfold lenI; rw [if_neg a]; rw [if_neg b]; rw [if_neg c]
        have E : Hid _ := E0
        clear E0
        go_enter Tryd.func96, Tryd.ntmps96
        go_wp2
        go_ret
        exact ⟨ret_int (by first | (rw [E.out]; done) | (rw [E.out, Int.zero_add]; done)), rfl⟩

theorem numberSize_any (x : Int) (h0 : 0 ≤ x) (h1 : x < 18446744073709551616) (w : World) :
    Calls Tryd.prog 78 #[.int .u64 x] w fun e w' => e = .returned (.int .i64 (1 + (szI x : Int))) ∧ w' = w := by
  obtain ⟨l0, l1, l2⟩ := lenI_sz x h0 h1
  have HL : Hid _ := l2
  clear l2
  go_enter Tryd.func78, Tryd.ntmps78
  go_wp2_with (go_at_call 96; refine (len64_any x h0 h1 _).mono ?_; rintro e w' ⟨rfl, rfl⟩)
  go_ret
  exact ⟨ret_int (by rw [HL.out]), rfl⟩
theorem partSize_any (n : Nat) (h1 : n ≤ 1099511627776) (w : World) :
    Calls Tryd.prog 97 #[.int .i64 n] w fun e w' => e = .returned (.int .i64 (1 + (szI n : Int) + n)) ∧ w' = w := by
  have h0 : (0 : Int) ≤ n := by omega
  have h2 : (n : Int) ≤ 1099511627776 := by omega
  have hs := szI_le n
  go_enter Tryd.func97, Tryd.ntmps97
  go_wp2_with (go_at_call 78; refine (numberSize_any n (by omega) (by omega) _).mono ?_; rintro e w' ⟨rfl, rfl⟩)
  go_ret
  exact ⟨rfl, rfl⟩
end Go.Proofs.YtkgegihkhdgdoaaDoor

namespace Go.Proofs.YtkgegihkhdgdoaaDoor
set_option maxRecDepth 100000
open Go.RowKit Go.Deep

section
variable {P : Program}
theorem wp_make_run {o : Oper} {a : Act} {w w' : World} {K : Act → World → Prop} {Q : Exit → Act → World → Prop} {l c r : Value} (t : TypeId) (x y : Operand)
    (ho : o.op = .makeSlice t x y) (hx : a.eval x = l) (hy : a.eval y = c) (hr : (Instr.makeSlice t l c).run P w = .ok r w') (h : K (a.put o.dst r) w') : o.wp P a w K Q := by
  unfold Oper.wp execOp
  simp only [ho, hx, hy, Sem.run_bind, hr, Result.andThen_ok, Sem.run_pure]
  exact h
theorem wpList_make_run {ops : Array Oper} {rest : List Oper} {o : Oper} {a : Act} {w w' : World} {Q : Exit → Act → World → Prop} {l c r : Value} (hgd : o.guard = none) (t : TypeId) (x y : Operand)
    (ho : o.op = .makeSlice t x y) (hx : a.eval x = l) (hy : a.eval y = c) (hr : (Instr.makeSlice t l c).run P w = .ok r w') (h : wpList P ops Q rest (a.put o.dst r) w') : wpList P ops Q (o :: rest) a w :=
  wpList_plain hgd fun _ hK => wp_make_run t x y ho hx hy hr (hK _ _ h)
end

set_option maxHeartbeats 1000000 in
theorem withRoom_any (l : List Int) (v : Value) (r : Nat) (w : World) (hv : isBytes w v l) (hs : l.length + r ≤ 1099511627776) :
    Calls Tryd.prog 79 #[v, .int .i64 r] w fun e w' => ∃ v', e = .returned v' ∧ newBytes w' w.heap.size v' l ∧ Below w.heap.size w w' := by
  have hmk := run_make_room (P := Tryd.prog) 23 5 (.int .u8 0) 1 Tryd.underlying23 hi8 rfl .i64 .i64 (l.length + r) (by omega) (by omega) w
  have hb1 : Below w.heap.size w (w.alloc (.cells (madeCells #[Value.int .u8 0] (l.length + r)) 5)) := (Below.refl _ _).alloc (Nat.le_refl _) _
  have hO : newBytes (w.alloc (.cells (madeCells #[Value.int .u8 0] (l.length + r)) 5)) w.heap.size (.slice (some ⟨w.heap.size, 0, none⟩) 0 (l.length + r)) [] :=
    ⟨⟨rfl, Or.inr ⟨w.heap.size, l.length + r, _, rfl, Nat.le_refl _, blk_alloc_new _ _, Nat.zero_le _, by unfold maxLen; omega, by rw [size_madeCells]; simp, by simp⟩⟩, fun i => by simp⟩
  obtain ⟨v', w', hr, hn, hg, _⟩ := bytes_append_run _ w.heap.size _ v [] l hO (hv.below hb1 (Nat.le_refl _)) (by simp; omega) (by simp)
  have hbl : Below w.heap.size w w' := hb1.trans (below_grown hg (fun k hk => (hO.block k hk).1) (by simp))
  have HN : Hid _ := hn
  have HB : Hid _ := hbl
  obtain ⟨a, c, rfl, hm⟩ := hv.slice
  have h1 : (l.length : Int) ≤ 1099511627776 := by omega
  have h2 : (r : Int) ≤ 1099511627776 := by omega
  rw [Int.natCast_add] at hmk
  clear hn hbl hO hg hb1 hv
  go_enter Tryd.func79, Tryd.ntmps79
  go_wp2_with (first | (refine wpList_make_run rfl _ _ _ rfl rfl rfl hmk ?_) | (at_builtin; refine wpList_append_run rfl _ _ _ rfl rfl rfl hr ?_))
  go_ret
  exact ⟨_, rfl, HN.out, HB.out⟩

/-- one element in a slice that the call builds. -/
theorem one_cell (w : World) (u : Value) (t : TypeId) : (w.alloc (.cells #[u] t)).cell? ⟨w.heap.size, 0, none⟩ = some u := by
  have := (rowIs_new w #[u] t 1 (fun _ => u) rfl (fun i hi => by obtain rfl : i = 0 := by omega
                                                                 rfl)).cell (i := 0) (by omega)
  exact this
theorem one_byte (w : World) (b : Int) (h0 : 0 ≤ b) (h1 : b ≤ 255) : isBytes (w.alloc (.cells #[.int .u8 b] 5)) (.slice (some ⟨w.heap.size, 0, none⟩) 1 1) [b] :=
  Or.inr ⟨w.heap.size, 0, 1, rfl, by simp, by unfold maxLen; omega, by simp, fun i hi => by
    have hi' : i < 1 := by simpa using hi
    obtain rfl : i = 0 := by omega
    exact one_cell w _ _, fun i => by cases i <;> simp <;> omega⟩
/-- append(v, b). -/
theorem byte_append_run (w : World) (B : Nat) (v : Value) (l : List Int) (b : Int) (h0 : 0 ≤ b) (h1 : b ≤ 255) (hv : newBytes w B v l) (hs : l.length < 1099511627776) (hB : B ≤ w.heap.size) :
    ∃ v' w', (Builtin.append_ #[23, 23] 23 #[v, .slice (some ⟨w.heap.size, 0, none⟩) 1 1]).run Tryd.prog (w.alloc (.cells #[.int .u8 b] 5)) = .ok v' w' ∧ newBytes w' B v' (l ++ [b]) ∧ Below B w w' := by
  have hb1 : Below w.heap.size w (w.alloc (.cells #[Value.int .u8 b] 5)) := (Below.refl _ _).alloc (Nat.le_refl _) _
  have hv1 := hv.below hb1 (Nat.le_refl _)
  obtain ⟨v', w', hr, hn, hg, _⟩ := bytes_append_run _ B v _ l [b] hv1 (one_byte w b h0 h1) (by simp; omega) (by simp; omega)
  exact ⟨v', w', hr, hn, (hb1.mono hB).trans (below_grown hg (fun k hk => (hv1.block k hk).1) (by simp; omega))⟩

theorem digs_take_succ (x : Int) (K k : Nat) (h : k < K) : (digsI x K).take (k + 1) = (digsI x K).take k ++ [digI x K k] := by
  unfold digsI
  rw [List.take_succ_eq_append_getElem (by simp; omega)]
  simp
theorem num_take (x : Int) : numB x = [(szI x : Int)] ++ (digsI x (szI x)).take (szI x) := by
  rw [List.take_of_length_le (by simp [digsI])]; rfl
set_option maxHeartbeats 1000000 in
theorem addNumber_any (x : Int) (h0 : 0 ≤ x) (h1 : x < 18446744073709551616) (v : Value) (l : List Int) (B : Nat) (w : World) (hv : newBytes w B v l) (hs : l.length + 9 ≤ 1099511627776) (hB : B ≤ w.heap.size) :
    Calls Tryd.prog 80 #[v, .int .u64 x] w fun e w' => ∃ v', e = .returned v' ∧ newBytes w' B v' (l ++ numB x) ∧ Below B w w' := by
  have hz := szI_le x
  have hz2 : (szI x : Int) ≤ 8 := by omega
  obtain ⟨v1, w1, hr1, hn1, hb1⟩ := byte_append_run w B v l (szI x) (by omega) (by omega) hv (by omega) hB
  have hk1 : (1 : Int) + (szI x : Int) - 1 = (szI x : Int) := by omega
  have HX : Hid (numB x = _) := num_take x
  have HN : Hid _ := hn1
  have HB : Hid _ := hb1
  clear hn1 hb1
  go_enter Tryd.func80, Tryd.ntmps80
  go_wp2_with (first | (go_at_call 78; refine (numberSize_any x h0 h1 _).mono ?_; rintro e w' ⟨rfl, hw⟩; obtain rfl := hw.symm; clear hw) | (at_builtin; refine wpList_append_run rfl _ _ _ rfl rfl rfl hr1 ?_))
  go_loopw [0, 16] (fun v i wr => ∃ k : Nat, k ≤ szI x ∧ i = .int .i64 k ∧ newBytes wr B v (l ++ ([(szI x : Int)] ++ (digsI x (szI x)).take k)) ∧ Below B w wr) (fun _ i _ => szI x - (intOf i).toNat)
  case atStart => exact ⟨0, by omega, rfl, HN.out, HB.out⟩
  case round =>
    clear HN HB hr1 hv
    obtain ⟨k, hk, rfl, hn, hb⟩ := hrel
    by_cases hlt : k < szI x
    · have b0 : (0 : Int) ≤ (k : Int) := by omega
      have b1 : (k : Int) < (szI x : Int) := by omega
      have hd := digI_byte x (szI x) k
      obtain ⟨v2, w2, hr2, hn2, hb2⟩ := byte_append_run wr B u0 _ (digI x (szI x) k) hd.1 hd.2 hn (by simp; omega) (by have := hb.size; omega)
      have HN : Hid _ := hn2
      have HB : Hid _ := hb.trans hb2
      have HS : Hid _ := digs_take_succ x (szI x) k hlt
      clear hn2 hb2 hn hb hd
      go_wp2_with (first | (at_builtin; refine wpList_append_run rfl _ _ _ rfl rfl rfl hr2 ?_))
      go_light
      exact ⟨⟨k + 1, by omega, by go_num, by rw [HS.out, ← List.append_assoc, ← List.append_assoc, List.append_assoc l]; exact HN.out, HB.out⟩, by simp [intOf]; omega⟩
    · obtain rfl : k = szI x := by omega
      have HR : Hid _ := hn
      go_wp2
      go_ret
      exact ⟨_, rfl, by rw [HX.out]; exact HR.out, hb⟩
end Go.Proofs.YtkgegihkhdgdoaaDoor

namespace Go.Proofs.YtkgegihkhdgdoaaDoor
open Go.RowKit Go.Deep

/-- THE VALUE v IS A SLICE OF n ELEMENTS OF ONE CELL EACH. -/
def isRow (w : World) (v : Value) (n : Nat) (f : Nat → Value) : Prop :=
  (v = .slice none 0 0 ∧ n = 0) ∨ ∃ pb po cap : Nat, v = .slice (some ⟨pb, po, none⟩) n cap ∧ pb < w.heap.size ∧ n ≤ maxLen ∧ ∀ i, i < n → w.cell? ⟨pb, po + i, none⟩ = some (f i)
theorem isRow.below {w w' : World} {B : Nat} {v : Value} {n : Nat} {f : Nat → Value} (h : isRow w v n f) (hb : Below B w w') (hB : w.heap.size ≤ B) : isRow w' v n f := by
  rcases h with h | ⟨pb, po, cap, h1, h2, h3, h4⟩
  · exact Or.inl h
  · exact Or.inr ⟨pb, po, cap, h1, Nat.lt_of_lt_of_le h2 hb.size, h3, fun i hi => by rw [hb.cell (p := ⟨pb, po + i, none⟩) (Nat.lt_of_lt_of_le h2 hB)]; exact h4 i hi⟩
theorem isRow.open {w : World} {v : Value} {n : Nat} {f : Nat → Value} (h : isRow w v n f) :
    ∃ a cap, v = .slice a n cap ∧ n ≤ maxLen ∧ ∀ k, k < n → ∃ qb qo, a = some ⟨qb, qo, none⟩ ∧ qb < w.heap.size ∧ w.cell? ⟨qb, qo + k, none⟩ = some (f k) := by
  rcases h with ⟨rfl, rfl⟩ | ⟨pb, po, cap, rfl, h2, h3, h4⟩
  · exact ⟨_, _, rfl, Nat.zero_le _, fun k hk => by omega⟩
  · exact ⟨_, _, rfl, h3, fun k hk => ⟨pb, po, rfl, h2, h4 k hk⟩⟩
theorem isParts.open {w : World} {v : Value} {n : Nat} {ps : Nat → List Int} (h : isParts w v n ps) :
    ∃ a cap, v = .slice a n cap ∧ n ≤ maxLen ∧ ∀ k, k < n → ∃ qb qo u, a = some ⟨qb, qo, none⟩ ∧ qb < w.heap.size ∧ w.cell? ⟨qb, qo + k, none⟩ = some u ∧ anyBytes w u (ps k) := by
  rcases h with ⟨rfl, rfl⟩ | ⟨pb, po, cap, sv, rfl, h2, h3, h4⟩
  · exact ⟨_, _, rfl, Nat.zero_le _, fun k hk => by omega⟩
  · exact ⟨_, _, rfl, h3, fun k hk => ⟨pb, po, sv k, rfl, h2, (h4 k hk).1, (h4 k hk).2⟩⟩
/-- .. OR NONE, wherever it says that they lie. -/
def anyParts (w : World) (v : Value) (n : Nat) (ps : Nat → List Int) : Prop := isParts w v n ps ∨ ((∃ a, v = .slice a 0 0) ∧ n = 0)
theorem isParts.any {w : World} {v : Value} {n : Nat} {ps : Nat → List Int} (h : isParts w v n ps) : anyParts w v n ps := Or.inl h
theorem anyParts.below {w w' : World} {B : Nat} {v : Value} {n : Nat} {ps : Nat → List Int} (h : anyParts w v n ps) (hb : Below B w w') (hB : w.heap.size ≤ B) : anyParts w' v n ps := by
  rcases h with h | h
  · exact Or.inl (h.below hb hB)
  · exact Or.inr h
theorem anyParts.open {w : World} {v : Value} {n : Nat} {ps : Nat → List Int} (h : anyParts w v n ps) :
    ∃ a cap, v = .slice a n cap ∧ n ≤ maxLen ∧ ∀ k, k < n → ∃ qb qo u, a = some ⟨qb, qo, none⟩ ∧ qb < w.heap.size ∧ w.cell? ⟨qb, qo + k, none⟩ = some u ∧ anyBytes w u (ps k) := by
  rcases h with h | ⟨⟨a, rfl⟩, rfl⟩
  · exact h.open
  · exact ⟨_, _, rfl, Nat.zero_le _, fun k hk => by omega⟩
theorem flatTo_len_le (ps : Nat → List Int) (m : Nat) (h : ∀ i, (ps i).length ≤ m) : ∀ k, (flatTo ps k).length ≤ m * k
  | 0 => by simp [flatTo]
  | k + 1 => by
    have := flatTo_len_le ps m h k
    have h2 := h k
    rw [flatTo, List.length_append, Nat.mul_succ]; omega

/-- the numbers' bytes. -/
def numsB (f : Nat → Int) (i : Nat) : List Int := numB (f i)
theorem numsB_le (f : Nat → Int) (i : Nat) : (numsB f i).length ≤ 9 := by rw [numsB, numB_length]; have := szI_le (f i); omega
end Go.Proofs.YtkgegihkhdgdoaaDoor

/- append of a string to bytes of the call's own. -/
namespace Go.Proofs.YtkgegihkhdgdoaaDoor
open Go.RowKit Go.Deep

/-- a string's bytes. -/
def sBytes (s : ByteArray) : List Int := s.data.toList.map fun c => (c.toNat : Int)
section
variable {P : Program}
theorem wp_append2_run {o : Oper} {a : Act} {w w' : World} {K : Act → World → Prop} {Q : Exit → Act → World → Prop} {v y r : Value} (s x : Operand) (t t' : TypeId)
    (ho : o.op = .call { callee := .builtin .append, args := #[s, x], argTypes := #[t, t'] }) (hs : a.eval s = v) (hx : a.eval x = y)
    (hr : (Builtin.append_ #[t, t'] o.type #[v, y]).run P w = .ok r w') (h : K (a.put o.dst r) w') : o.wp P a w K Q := by
  unfold Oper.wp execOp
  simp only [ho, resolve, invoke, builtin, Sem.run_bind, Sem.run_pure, Result.andThen_ok, List.map_toArray, List.map_cons, List.map_nil, hs, hx, hr]
  exact h
theorem wpList_append2_run {ops : Array Oper} {rest : List Oper} {o : Oper} {a : Act} {w w' : World} {Q : Exit → Act → World → Prop} {v y r : Value} (hgd : o.guard = none) (s x : Operand) (t t' : TypeId)
    (ho : o.op = .call { callee := .builtin .append, args := #[s, x], argTypes := #[t, t'] }) (hs : a.eval s = v) (hx : a.eval x = y)
    (hr : (Builtin.append_ #[t, t'] o.type #[v, y]).run P w = .ok r w') (h : wpList P ops Q rest (a.put o.dst r) w') : wpList P ops Q (o :: rest) a w :=
  wpList_plain hgd fun _ hK => wp_append2_run s x t t' ho hs hx hr (hK _ _ h)
end
end Go.Proofs.YtkgegihkhdgdoaaDoor

namespace Go.Proofs.YtkgegihkhdgdoaaDoor
set_option maxRecDepth 100000
open Go.RowKit Go.Deep

/-- a blob. -/
def blobB (p : List Int) : List Int := numB p.length ++ p
def blobsB (ps : Nat → List Int) (i : Nat) : List Int := blobB (ps i)
theorem blobB_length (p : List Int) : (blobB p).length = 1 + szI p.length + p.length := by rw [blobB, List.length_append, numB_length]
set_option maxHeartbeats 1000000 in
theorem blob_any' (l : List Int) (v u : Value) (n : Nat) (ps : Nat → List Int) (w : World) (hv : isBytes w v l) (hu : anyParts w u n ps) (hs : ∀ i, i ≤ n → l.length + (flatTo (blobsB ps) i).length ≤ 1000000000000) :
    Calls Tryd.prog 81 #[v, u] w fun e w' => ∃ v', e = .returned v' ∧ newBytes w' w.heap.size v' (l ++ flatTo (blobsB ps) n) ∧ Below w.heap.size w w' := by
  obtain ⟨a, cap, rfl, hnm, hcell⟩ := hu.open
  clear hu
  unfold maxLen at hnm
  go_enter Tryd.func81, Tryd.ntmps81
  go_wp2
  go_loopw [5, 13] (fun z i wr => ∃ k : Nat, k ≤ n ∧ i = .int .i64 k ∧ z = .int .i64 ((flatTo (blobsB ps) k).length : Int) ∧ wr = w) (fun _ i _ => n - (intOf i).toNat)
  case atStart => exact ⟨0, by omega, rfl, rfl, rfl⟩
  case round =>
    obtain ⟨k, hk, rfl, rfl, hwr⟩ := hrel
    obtain rfl := hwr.symm
    clear hwr
    have hlk := hs k hk
    by_cases hlt : k < n
    · obtain ⟨qb, qo, y, rfl, hq, hc, hy⟩ := hcell k hlt
      obtain ⟨ya, yc, rfl, hym⟩ := hy.slice
      clear hy
      have b0 : (0 : Int) ≤ (k : Int) := by omega
      have b1 : (k : Int) < (n : Int) := by omega
      have hsz := szI_le ((ps k).length : Int)
      have hsk := hs (k + 1) hlt
      have HL0 : (flatTo (blobsB ps) (k + 1)).length = (flatTo (blobsB ps) k).length + (1 + szI ((ps k).length : Int) + (ps k).length) := by rw [flatTo, List.length_append, blobsB, blobB_length]
      rw [HL0] at hsk
      have HL : Hid _ := HL0
      clear HL0
      generalize hLL : (flatTo (blobsB ps) k).length = L at *
      have hM : (ps k).length ≤ 1000000000000 := by omega
      have hM2 : ((ps k).length : Int) ≤ 1000000000000 := by omega
      have hL : (L : Int) ≤ 1000000000000 := by omega
      go_wp2_with (first | (go_at_call 97; refine (partSize_any (ps k).length (by omega) _).mono ?_; rintro e w' ⟨rfl, hw⟩; obtain rfl := hw.symm; clear hw))
      go_light
      exact ⟨⟨k + 1, by omega, by go_num, by rw [HL.out]; go_num, trivial⟩, by simp [intOf]; omega⟩
    · obtain rfl : k = n := by omega
      have HS : Hid _ := hs
      clear hs
      generalize hLL : (flatTo (blobsB ps) k).length = L at *
      go_wp2_with (first | (go_at_call 79; refine (withRoom_any l v L _ hv (by omega)).mono ?_; rintro e w1 ⟨v1, rfl, hn1, hb1⟩))
      have HN : Hid _ := hn1
      have HB : Hid _ := hb1
      clear hn1 hb1 hLL
      go_loopw [8, 28] (fun z i wr => ∃ j : Nat, j ≤ k ∧ i = .int .i64 j ∧ newBytes wr w.heap.size z (l ++ flatTo (blobsB ps) j) ∧ Below w.heap.size w wr) (fun _ i _ => k - (intOf i).toNat)
      case atStart => exact ⟨0, by omega, rfl, by rw [flatTo, List.append_nil]; exact HN.out, HB.out⟩
      case round =>
        clear HN HB
        obtain ⟨j, hj, rfl, hn, hb⟩ := hrel
        by_cases hlt2 : j < k
        · obtain ⟨qb, qo, y, rfl, hq, hc, hy⟩ := hcell j hlt2
          have HYB : Hid _ := fun (w9 : World) (h9 : Below w.heap.size w w9) => hy.below h9 (Nat.le_refl _)
          obtain ⟨ya, yc, rfl, hym⟩ := hy.slice
          clear hy
          have b0 : (0 : Int) ≤ (j : Int) := by omega
          have b1 : (j : Int) < (k : Int) := by omega
          have hlj := HS.out (j + 1) hlt2
          rw [flatTo, List.length_append, blobsB, blobB_length] at hlj
          rw [← hb.cell (p := ⟨qb, qo + j, none⟩) hq] at hc
          have HN : Hid _ := hn
          have hbs := hb.size
          clear hn
          have hM : (ps j).length ≤ 1000000000000 := by omega
          have hM2 : ((ps j).length : Int) ≤ 1000000000000 := by omega
          go_wp2_with fail
          refine (addNumber_any ((ps j).length : Int) (by omega) (by omega) _ _ _ _ HN.out (by rw [List.length_append]; omega) hb.size).mono ?_
          rintro e w2 ⟨v2, rfl, hn2, hb2⟩
          obtain ⟨v3, w3, hr3, hn3, hg3, _⟩ := any_append_run w2 w.heap.size v2 _ _ (ps j) hn2 (HYB.out w2 (hb.trans hb2)) (by rw [List.length_append, List.length_append, numB_length]; omega) (by have := hb2.size; omega)
          have hb3 := below_grown hg3 (fun q hq2 => (hn2.block q hq2).1) (by have := hb2.size; omega)
          have HN3 : Hid _ := hn3
          have HB3 : Hid _ := hb.trans (hb2.trans hb3)
          clear hn2 hb2 hn3 hb3 hb HN hg3
          go_wp2_with (first | (at_builtin; refine wpList_append2_run rfl _ _ _ _ rfl rfl rfl hr3 ?_))
          go_light
          exact ⟨⟨j + 1, by omega, by go_num, by rw [flatTo, ← List.append_assoc, blobsB, blobB, ← List.append_assoc]; exact HN3.out, HB3.out⟩, by simp [intOf]; omega⟩
        · obtain rfl : j = k := by omega
          have HN : Hid _ := hn
          clear hn
          go_wp2
          go_ret
          exact ⟨_, rfl, HN.out, hb⟩
end Go.Proofs.YtkgegihkhdgdoaaDoor

namespace Go.Proofs.YtkgegihkhdgdoaaDoor
set_option linter.unusedVariables false
open Go.RowKit Go.Deep

theorem or_byte (a b : Int) (ha0 : 0 ≤ a) (ha1 : a * 256 < 18446744073709551616) (hb0 : 0 ≤ b) (hb1 : b ≤ 255) : bits .or .u64 (a * 256) b = a * 256 + b := by
  obtain ⟨A, rfl⟩ := Int.eq_ofNat_of_zero_le ha0
  obtain ⟨B, rfl⟩ := Int.eq_ofNat_of_zero_le hb0
  have e : ((A : Int) * 256) = ((A * 256 : Nat) : Int) := by omega
  rw [e, bits_or_u64_nat _ _ (by omega) (by omega)]
  have h := Nat.shiftLeft_add_eq_or_of_lt (i := 8) (b := B) (by omega) A
  rw [Nat.shiftLeft_eq] at h
  rw [← h]; rfl
/-- THE NUMBER WITH WHICH BYTES BEGIN, in its one form, and how many bytes it has. -/
def firstB (l : List Int) : Option (Int × Nat) :=
  if 0 < l.length ∧ l.getD 0 0 ≤ 8 ∧ l.getD 0 0 < l.length then
    (if 0 < (l.getD 0 0).toNat ∧ l.getD 1 0 = 0 then none else some (horn ((l.drop 1).take (l.getD 0 0).toNat), 1 + (l.getD 0 0).toNat))
  else none
def numOf (l : List Int) (most : Int) : Option (Int × Nat) :=
  match firstB l with
  | some (x, n) => if most < x then none else some (x, n)
  | none => none
def numberIs (r : Option (Int × Nat)) : Value :=
  match r with
  | some (x, n) => .tuple #[.int .u64 x, .int .i64 (n : Int), .bool true]
  | none => .tuple #[.int .u64 0, .int .i64 0, .bool false]
theorem getD_drop (l : List Int) (k i : Nat) : (l.drop k).getD i 0 = l.getD (k + i) 0 := by
  rw [List.getD_eq_getElem?_getD, List.getElem?_drop, ← List.getD_eq_getElem?_getD]
theorem mem_getD {l : List Int} {b : Int} (h : b ∈ l) : ∃ i, i < l.length ∧ l.getD i 0 = b := by
  obtain ⟨i, hi, rfl⟩ := List.mem_iff_getElem.1 h
  exact ⟨i, hi, by rw [List.getD_eq_getElem?_getD, List.getElem?_eq_getElem hi]; rfl⟩
theorem bytes_mem {l : List Int} (h : ∀ i, 0 ≤ l.getD i 0 ∧ l.getD i 0 ≤ 255) (b : Int) (hb : b ∈ l) : 0 ≤ b ∧ b ≤ 255 := by
  obtain ⟨i, _, rfl⟩ := mem_getD hb
  exact h i
theorem horn_take (l : List Int) (j : Nat) (hj : j < l.length) : horn (l.take (j + 1)) = horn (l.take j) * 256 + l.getD j 0 := by
  rw [List.take_succ_eq_append_getElem hj, horn_snoc, List.getD_eq_getElem?_getD, List.getElem?_eq_getElem hj]; rfl
theorem horn_take_bound (l : List Int) (h : ∀ i, 0 ≤ l.getD i 0 ∧ l.getD i 0 ≤ 255) (j : Nat) : 0 ≤ horn (l.take j) ∧ horn (l.take j) < 256 ^ j := by
  obtain ⟨h0, h1⟩ := horn_bound (l.take j) (fun b hb => bytes_mem h b (List.mem_of_mem_take hb))
  refine ⟨h0, Int.lt_of_lt_of_le h1 ?_⟩
  have := Nat.pow_le_pow_right (n := 256) (by omega) (List.length_take_le j l)
  have e1 := Int.natCast_pow 256 (l.take j).length
  have e2 := Int.natCast_pow 256 j
  rw [show (256 : Int) = ((256 : Nat) : Int) from rfl, ← e1, ← e2]
  exact Int.ofNat_le.2 this
theorem pow256 (j : Nat) (h : j ≤ 8) : (256 : Int) ^ j ≤ 18446744073709551616 := by
  have := Nat.pow_le_pow_right (n := 256) (by omega) h
  rw [show (256 : Int) = ((256 : Nat) : Int) from rfl, ← Int.natCast_pow]
  exact Int.ofNat_le.2 this
theorem pow256' (j : Nat) (h : j ≤ 7) : (256 : Int) ^ j ≤ 72057594037927936 := by
  have := Nat.pow_le_pow_right (n := 256) (by omega) h
  rw [show (256 : Int) = ((256 : Nat) : Int) from rfl, ← Int.natCast_pow]
  exact Int.ofNat_le.2 this
theorem numOf_none_short {l : List Int} {most : Int} (h : ¬ (0 < l.length ∧ l.getD 0 0 ≤ 8 ∧ l.getD 0 0 < l.length)) : numOf l most = none := by
  unfold numOf firstB; rw [if_neg h]
theorem numOf_none_zero {l : List Int} {most : Int} (h1 : 0 < (l.getD 0 0).toNat) (h2 : l.getD 1 0 = 0) : numOf l most = none := by
  unfold numOf firstB
  by_cases h : 0 < l.length ∧ l.getD 0 0 ≤ 8 ∧ l.getD 0 0 < l.length
  · rw [if_pos h, if_pos ⟨h1, h2⟩]
  · rw [if_neg h]
theorem numOf_none_most {l : List Int} {most : Int} (h1 : most < horn ((l.drop 1).take (l.getD 0 0).toNat)) : numOf l most = none := by
  unfold numOf firstB
  by_cases h : 0 < l.length ∧ l.getD 0 0 ≤ 8 ∧ l.getD 0 0 < l.length
  · rw [if_pos h]
    by_cases h2 : 0 < (l.getD 0 0).toNat ∧ l.getD 1 0 = 0
    · rw [if_pos h2]
    · rw [if_neg h2]; simp only; rw [if_pos h1]
  · rw [if_neg h]
theorem numOf_some {l : List Int} {most : Int} (h : 0 < l.length ∧ l.getD 0 0 ≤ 8 ∧ l.getD 0 0 < l.length) (h2 : ¬ (0 < (l.getD 0 0).toNat ∧ l.getD 1 0 = 0)) (h1 : ¬ most < horn ((l.drop 1).take (l.getD 0 0).toNat)) :
    numOf l most = some (horn ((l.drop 1).take (l.getD 0 0).toNat), 1 + (l.getD 0 0).toNat) := by
  unfold numOf firstB; rw [if_pos h, if_neg h2]; simp only; rw [if_neg h1]

set_option maxHeartbeats 1000000 in
theorem number_any (l : List Int) (v : Value) (most : Int) (hm0 : 0 ≤ most) (w : World) (hv : isBytes w v l) :
    Calls Tryd.prog 98 #[v, .int .u64 most] w fun e w' => e = .returned (numberIs (numOf l most)) ∧ w' = w := by
  have hbyte := hv.byte
  by_cases hl : l.length = 0
  · have HN : Hid _ := numOf_none_short (l := l) (most := most) (by omega)
    obtain ⟨a, c, rfl, hm⟩ := hv.slice
    clear hv hbyte
    rw [hl]
    go_enter Tryd.func98, Tryd.ntmps98
    go_wp2
    exact bodyPost_ret (v := numberIs none) (by simp [results, Tryd.results98, go_sem, numberIs]) rfl ⟨by rw [HN.out], rfl⟩
  · rcases hv with ⟨_, rfl⟩ | ⟨pb, po, cap, rfl, h2, h3, h4, h6, _⟩
    · exact absurd rfl hl
    · have hc0 := h6 0 (by omega)
      rw [Nat.add_zero] at hc0
      have hb0 := hbyte 0
      unfold maxLen at h3
      have hlm : (l.length : Int) ≤ 9223372036854775807 := by omega
      have hl0 : ((l.length : Int) == 0) = false := beq_eq_false_iff_ne.2 (by omega)
      have hl1 : (0 : Int) < (l.length : Int) := by omega
      generalize hB : l.getD 0 0 = b0 at *
      by_cases q1 : 8 < b0
      · have HN : Hid _ := numOf_none_short (l := l) (most := most) (by omega)
        go_enter Tryd.func98, Tryd.ntmps98
        go_wp2
        exact bodyPost_ret (v := numberIs none) (by simp [results, Tryd.results98, go_sem, numberIs]) rfl ⟨by rw [HN.out], rfl⟩
      · by_cases q2 : (l.length : Int) ≤ b0
        · have HN : Hid _ := numOf_none_short (l := l) (most := most) (by omega)
          go_enter Tryd.func98, Tryd.ntmps98
          go_wp2
          exact bodyPost_ret (v := numberIs none) (by simp [results, Tryd.results98, go_sem, numberIs]) rfl ⟨by rw [HN.out], rfl⟩
        · obtain ⟨k, rfl⟩ := Int.eq_ofNat_of_zero_le hb0.1
          have hk8 : (k : Int) ≤ 8 := by omega
          have hkl : (k : Int) < (l.length : Int) := by omega
          obtain ⟨o', ho', hsl⟩ := run_slice_mid (P := Tryd.prog) 98 5 pb po l.length cap 1 (1 + k) Tryd.underlying98 (by kernel_rfl) (by omega) (by omega)
          simp only [show ((1 + k : Nat) : Int) = 1 + (k : Int) by omega, show ((1 : Nat) : Int) = 1 from rfl, show 1 + k - 1 = k by omega] at hsl
          have hdl : (l.drop 1).length = l.length - 1 := by simp
          have hdb : ∀ i, 0 ≤ (l.drop 1).getD i 0 ∧ (l.drop 1).getD i 0 ≤ 255 := fun i => by rw [getD_drop]; exact hbyte _
          have HO : Hid _ := ho'
          have HB : Hid _ := hB
          clear ho' hB
          go_enter Tryd.func98, Tryd.ntmps98
          go_wp2
          go_loopw [4, 39] (fun x i wr => ∃ j : Nat, j ≤ k ∧ i = .int .i64 j ∧ x = .int .u64 (horn ((l.drop 1).take j)) ∧ wr = w) (fun _ i _ => k - (intOf i).toNat)
          case atStart => exact ⟨0, by omega, rfl, rfl, rfl⟩
          case round =>
            obtain ⟨j, hj, rfl, rfl, hwr⟩ := hrel
            obtain rfl := hwr.symm
            clear hwr
            obtain ⟨x0, x1⟩ := horn_take_bound (l.drop 1) hdb j
            by_cases hlt : j < k
            · have hc := h6 (1 + j) (by omega)
              have hcb := hbyte (1 + j)
              rw [← Nat.add_assoc, ← HO.out (by omega)] at hc
              have hp := pow256' j (by omega)
              have b0 : (0 : Int) ≤ (j : Int) := by omega
              have b1 : (j : Int) < (k : Int) := by omega
              have HT : Hid _ := horn_take (l.drop 1) j (by omega)
              have HG : Hid _ := getD_drop l 1 j
              generalize horn ((l.drop 1).take j) = X at *
              generalize l.getD (1 + j) 0 = c at *
              have hX : X < 72057594037927936 := by omega
              have hor := or_byte X c x0 (by omega) hcb.1 hcb.2
              clear x1 hp hsl
              go_wp2
              go_light
              exact ⟨⟨j + 1, by omega, by go_num, by rw [HT.out, HG.out], trivial⟩, by simp [intOf]; omega⟩
            · obtain rfl : j = k := by omega
              have e0 : l.getD 0 0 = (j : Int) := HB.out
              have et : (l.getD 0 0).toNat = j := by rw [e0]; rfl
              by_cases r1 : most < horn ((l.drop 1).take j)
              · have HN : Hid _ := numOf_none_most (l := l) (most := most) (by rw [et]; exact r1)
                clear e0 et hsl
                generalize horn ((l.drop 1).take j) = X at *
                go_wp2
                exact bodyPost_ret (v := numberIs none) (by simp [results, Tryd.results98, go_sem, numberIs]) rfl ⟨by rw [HN.out], rfl⟩
              · by_cases r2 : j = 0
                · have HN0 := numOf_some (l := l) (most := most) (by omega) (by rw [et]; omega) (by rw [et]; exact r1)
                  rw [et] at HN0
                  have HN : Hid _ := HN0
                  subst r2
                  clear e0 et HN0 hsl
                  generalize horn ((l.drop 1).take 0) = X at *
                  go_wp2
                  exact bodyPost_ret (v := numberIs (some (X, 1 + 0))) (by simp [results, Tryd.results98, go_sem, numberIs]) rfl ⟨by rw [HN.out], rfl⟩
                · have hc := h6 1 (by omega)
                  have hcb := hbyte 1
                  rw [← HO.out (by omega)] at hc
                  have b1 : (0 : Int) < (j : Int) := by omega
                  by_cases r3 : l.getD 1 0 = 0
                  · have HN : Hid _ := numOf_none_zero (l := l) (most := most) (by rw [et]; omega) r3
                    rw [r3] at hc
                    clear e0 et hsl r3 hcb
                    generalize horn ((l.drop 1).take j) = X at *
                    go_wp2
                    exact bodyPost_ret (v := numberIs none) (by simp [results, Tryd.results98, go_sem, numberIs]) rfl ⟨by rw [HN.out], rfl⟩
                  · have HN0 := numOf_some (l := l) (most := most) (by omega) (by rw [et]; omega) (by rw [et]; exact r1)
                    rw [et] at HN0
                    have HN : Hid _ := HN0
                    clear e0 et HN0 hsl
                    generalize horn ((l.drop 1).take j) = X at *
                    generalize l.getD 1 0 = c at *
                    have r4 : (c == 0) = false := beq_eq_false_iff_ne.2 r3
                    go_wp2
                    exact bodyPost_ret (v := numberIs (some (X, 1 + j))) (by simp [results, Tryd.results98, go_sem, numberIs]) rfl ⟨by rw [HN.out], rfl⟩
end Go.Proofs.YtkgegihkhdgdoaaDoor

namespace Go.Proofs.YtkgegihkhdgdoaaDoor
open Go.RowKit Go.Deep

def errI (b : Bool) : Int := if b then 2 else 0
/-- a Cut in memory. -/
def cutV (v : Value) (b : Bool) (j : Nat) : Value := if j = 0 then v else .bool b
def cutIs (w : World) (c : Nat) (v : Value) (b : Bool) : Prop := w.rowIs c 100 2 (cutV v b)
theorem cutIs.c0 {w : World} {c : Nat} {v : Value} {b : Bool} (h : cutIs w c v b) : w.cell? ⟨c, 0, none⟩ = some v := h.cell (i := 0) (by omega)
theorem cutIs.c1 {w : World} {c : Nat} {v : Value} {b : Bool} (h : cutIs w c v b) : w.cell? ⟨c, 1, none⟩ = some (.bool b) := h.cell (i := 1) (by omega)
theorem cutIs.lt {w : World} {c : Nat} {v : Value} {b : Bool} (h : cutIs w c v b) : c < w.heap.size := World.block_lt_of_cell? _ _ h.c0
theorem cutIs.set0 {w : World} {c : Nat} {v : Value} {b : Bool} (h : cutIs w c v b) (u : Value) : cutIs (w.setCell ⟨c, 0, none⟩ u) c u b := (World.rowIs.set h 0 u).congr fun i hi => by
  unfold cutV; split <;> rfl
theorem cutIs.set1 {w : World} {c : Nat} {v : Value} {b : Bool} (h : cutIs w c v b) (u : Bool) : cutIs (w.setCell ⟨c, 1, none⟩ (.bool u)) c v u := (World.rowIs.set h 1 (.bool u)).congr fun i hi => by
  unfold cutV
  by_cases e : i = 1
  · subst e; rfl
  · obtain rfl : i = 0 := by omega
    rfl
/-- A CUT, WITH THESE BYTES LEFT, AND A FAULT OR NONE: all its memory lies from B on. -/
def cutOf (w : World) (B c : Nat) (l : List Int) (b : Bool) : Prop :=
  ∃ v, cutIs w c v b ∧ isBytes w v l ∧ B ≤ c ∧ ∀ k, v.ownBlock = some k → B ≤ k ∧ k ≠ c
theorem cutOf.lt {w : World} {B c : Nat} {l : List Int} {b : Bool} (h : cutOf w B c l b) : c < w.heap.size := by
  obtain ⟨v, h, _⟩ := h; exact h.lt
theorem cutOf.ge {w : World} {B c : Nat} {l : List Int} {b : Bool} (h : cutOf w B c l b) : B ≤ c := by
  obtain ⟨v, _, _, h, _⟩ := h; exact h
theorem cutOf.byte {w : World} {B c : Nat} {l : List Int} {b : Bool} (h : cutOf w B c l b) (i : Nat) : 0 ≤ l.getD i 0 ∧ l.getD i 0 ≤ 255 := by
  obtain ⟨v, _, h, _⟩ := h; exact h.byte i
theorem cutOf.len {w : World} {B c : Nat} {l : List Int} {b : Bool} (h : cutOf w B c l b) : l.length ≤ maxLen := by
  obtain ⟨v, _, h, _⟩ := h
  obtain ⟨_, _, _, h⟩ := h.slice
  exact h
/-- what happens elsewhere leaves a Cut as it was. -/
theorem cutOf.far {w w' : World} {B c : Nat} {l : List Int} {b : Bool} (h : cutOf w B c l b) (hb : ∀ k, k < w.heap.size → B ≤ k → w'.heap[k]? = w.heap[k]?) (hs : w.heap.size ≤ w'.heap.size) : cutOf w' B c l b := by
  obtain ⟨v, h1, h2, h3, h4⟩ := h
  exact ⟨v, h1.of_block (hb c h1.lt h3), h2.far (fun k hk => hb k (h2.block k hk) (h4 k hk).1) hs, h3, h4⟩
theorem cutOf.below {w w' : World} {B C c : Nat} {l : List Int} {b : Bool} (h : cutOf w B c l b) (hb : Below C w w') (hC : w.heap.size ≤ C) : cutOf w' B c l b :=
  h.far (fun k hk _ => hb.block k (by omega)) hb.size
theorem cutOf.mono {w : World} {B C c : Nat} {l : List Int} {b : Bool} (h : cutOf w B c l b) (hC : C ≤ B) : cutOf w C c l b := by
  obtain ⟨v, h1, h2, h3, h4⟩ := h
  exact ⟨v, h1, h2, by omega, fun k hk => ⟨by have := h4 k hk; omega, (h4 k hk).2⟩⟩
theorem cutOf.fail {w : World} {B c : Nat} {l : List Int} {b : Bool} (h : cutOf w B c l b) : cutOf (w.setCell ⟨c, 1, none⟩ (.bool true)) B c l true := by
  obtain ⟨v, h1, h2, h3, h4⟩ := h
  refine ⟨v, h1.set1 true, h2.far (fun k hk => blk_setCell_other _ _ _ _ (h4 k hk).2) (by rw [nblk_setCell]; exact Nat.le_refl _), h3, h4⟩

set_option maxHeartbeats 400000 in
theorem err_any (c : Nat) (v : Value) (b : Bool) (w : World) (h : cutIs w c v b) :
    Calls Tryd.prog 29 #[.pointer (some ⟨c, 0, none⟩)] w fun e w' => e = .returned (.int .i64 (errI b)) ∧ w' = w := by
  have c1 := h.c1
  cases b
  · go_enter Tryd.func29, Tryd.ntmps29
    go_wp2
    go_ret
    exact ⟨rfl, rfl⟩
  · go_enter Tryd.func29, Tryd.ntmps29
    go_wp2
    go_ret
    exact ⟨rfl, rfl⟩
set_option maxHeartbeats 400000 in
theorem clone_any (v : Value) (l : List Int) (w : World) (hv : isBytes w v l) (hl : l.length ≤ 1099511627776) :
    Calls Tryd.prog 36 #[v] w fun e w' => ∃ v', e = .returned v' ∧ newBytes w' w.heap.size v' l ∧ Below w.heap.size w w' := by
  by_cases hn : v = .slice none 0 0
  · subst hn
    have hl0 : l = [] := by
      rcases hv with ⟨_, h⟩ | ⟨pb, po, cap, h1, _⟩
      · exact h
      · cases h1
    subst hl0
    clear hv
    have hq := fun wx : World => Go.Lib.run_eql_slice_nil (P := Tryd.prog) wx 23 5 none 0 0 0 0 Tryd.underlying23
    go_enter Tryd.func36, Tryd.ntmps36
    go_wp2
    go_ret
    exact ⟨_, rfl, newBytes.nil _ _, Below.refl _ _⟩
  · obtain ⟨v', w', hr, hn', hb'⟩ := bytes_copy_run w v l hv hl
    rcases hv with ⟨h, _⟩ | ⟨pb, po, cap, rfl, _⟩
    · exact absurd h hn
    · have HN : Hid _ := hn'
      have HB : Hid _ := hb'
      clear hn' hb' hn
      have hq := fun wx : World => Go.Lib.run_eql_slice_nil (P := Tryd.prog) wx 23 5 (some ⟨pb, po, none⟩) l.length cap 0 0 Tryd.underlying23
      go_enter Tryd.func36, Tryd.ntmps36
      go_wp2_with (first | (at_builtin; refine wpList_append_run rfl _ _ _ rfl rfl rfl hr ?_))
      go_ret
      exact ⟨_, rfl, HN.out, HB.out⟩
set_option maxHeartbeats 400000 in
theorem from_any (v : Value) (l : List Int) (w : World) (hv : isBytes w v l) (hl : l.length ≤ 1099511627776) :
    Calls Tryd.prog 26 #[v] w fun e w' => ∃ c, e = .returned (.pointer (some ⟨c, 0, none⟩)) ∧ cutOf w' w.heap.size c l false ∧ Below w.heap.size w w' := by
  go_enter Tryd.func26, Tryd.ntmps26
  go_wp2_with fail
  refine (clone_any v l w hv hl).mono ?_
  rintro e w1 ⟨v1, rfl, hn1, hb1⟩
  have HN : Hid _ := hn1
  have HB : Hid _ := hb1
  have hsz := hb1.size
  obtain ⟨a1, cp1, rfl, _⟩ := hn1.is.slice
  clear hn1 hb1 hv
  go_wp2
  go_ret
  refine ⟨_, rfl, ⟨.slice a1 l.length cp1, ?_, newBytes.is (HN.out |> fun h => newBytes.below h ((Below.refl _ _).alloc (Nat.le_refl _) _) (Nat.le_refl _)), hsz, fun k hk => ?_⟩, HB.out.alloc hsz _⟩
  · refine rowIs_new w1 _ _ 2 _ rfl (fun i hi => ?_)
    have : i = 0 ∨ i = 1 := by omega
    rcases this with rfl | rfl <;> rfl
  · have := newBytes.block HN.out k hk
    omega
end Go.Proofs.YtkgegihkhdgdoaaDoor

namespace Go.Proofs.YtkgegihkhdgdoaaDoor
open Go.RowKit Go.Deep

theorem getD_take_le (l : List Int) (n i : Nat) (h : i < n) : (l.take n).getD i 0 = l.getD i 0 := by
  rw [List.getD_eq_getElem?_getD, List.getElem?_take, if_pos h, ← List.getD_eq_getElem?_getD]
theorem take_byte {l : List Int} (h : ∀ i, 0 ≤ l.getD i 0 ∧ l.getD i 0 ≤ 255) (n i : Nat) : 0 ≤ (l.take n).getD i 0 ∧ (l.take n).getD i 0 ≤ 255 := by
  by_cases e : i < n
  · rw [getD_take_le _ _ _ e]; exact h i
  · rw [List.getD_eq_getElem?_getD, List.getElem?_eq_none (by simp; omega)]; exact ⟨by simp, by simp⟩
theorem drop_byte {l : List Int} (h : ∀ i, 0 ≤ l.getD i 0 ∧ l.getD i 0 ≤ 255) (n i : Nat) : 0 ≤ (l.drop n).getD i 0 ∧ (l.drop n).getD i 0 ≤ 255 := by
  rw [getD_drop]; exact h _
/-- a Cut whose bytes are a slice of a block. -/
def cutNon (w : World) (B c : Nat) (l : List Int) (b : Bool) : Prop :=
  ∃ pb po cap, cutIs w c (.slice (some ⟨pb, po, none⟩) l.length cap) b ∧ isBytes w (.slice (some ⟨pb, po, none⟩) l.length cap) l ∧ B ≤ c ∧ B ≤ pb ∧ pb ≠ c
theorem cutNon.of {w : World} {B c : Nat} {l : List Int} {b : Bool} (h : cutNon w B c l b) : cutOf w B c l b := by
  obtain ⟨pb, po, cap, h1, h2, h3, h4, h5⟩ := h
  exact ⟨_, h1, h2, h3, fun k hk => by simp [Value.ownBlock] at hk; omega⟩
theorem cutOf.non {w : World} {B c : Nat} {l : List Int} {b : Bool} (h : cutOf w B c l b) (hl : 0 < l.length) : cutNon w B c l b := by
  obtain ⟨v, h1, h2, h3, h4⟩ := h
  have h2' := h2
  rcases h2 with ⟨_, rfl⟩ | ⟨pb, po, cap, rfl, _⟩
  · simp at hl
  · exact ⟨pb, po, cap, h1, h2', h3, (h4 pb rfl).1, (h4 pb rfl).2⟩

theorem firstB_some {l : List Int} {x : Int} {n : Nat} (hb : ∀ i, 0 ≤ l.getD i 0 ∧ l.getD i 0 ≤ 255) (h : firstB l = some (x, n)) : 1 ≤ n ∧ n ≤ 9 ∧ n ≤ l.length ∧ 0 ≤ x ∧ x < 18446744073709551616 ∧ 0 < l.length := by
  unfold firstB at h
  by_cases h1 : 0 < l.length ∧ l.getD 0 0 ≤ 8 ∧ l.getD 0 0 < l.length
  · rw [if_pos h1] at h
    have hk : (l.getD 0 0).toNat ≤ 8 := by omega
    obtain ⟨b0, b1⟩ := horn_take_bound (l.drop 1) (drop_byte hb 1) (l.getD 0 0).toNat
    have hp := pow256 _ hk
    by_cases h2 : 0 < (l.getD 0 0).toNat ∧ l.getD 1 0 = 0
    · rw [if_pos h2] at h; cases h
    · rw [if_neg h2] at h
      have h3 := Option.some.inj h
      rw [Prod.mk.injEq] at h3
      obtain ⟨e1, e2⟩ := h3
      have := hb 0
      refine ⟨by omega, by omega, by omega, by omega, by omega, by omega⟩
  · rw [if_neg h1] at h; cases h
theorem numOf_first {l : List Int} {most x : Int} {n : Nat} (h : numOf l most = some (x, n)) : firstB l = some (x, n) ∧ x ≤ most := by
  unfold numOf at h
  cases hf : firstB l with
  | none => rw [hf] at h; cases h
  | some q =>
    obtain ⟨y, m⟩ := q
    rw [hf] at h
    simp only at h
    by_cases e : most < y
    · rw [if_pos e] at h; cases h
    · rw [if_neg e] at h
      have h3 := Option.some.inj h
      rw [Prod.mk.injEq] at h3
      obtain ⟨rfl, rfl⟩ := h3
      exact ⟨rfl, by omega⟩
/-- Num: the answer, what is left, whether there was a fault. -/
def numR (l : List Int) (b : Bool) (most : Int) : Int × List Int × Bool :=
  if b then (0, l, true) else match numOf l most with
    | some (x, n) => (x, l.drop n, false)
    | none => (0, l, true)
end Go.Proofs.YtkgegihkhdgdoaaDoor

namespace Go.Proofs.YtkgegihkhdgdoaaDoor
open Go.RowKit Go.Deep

theorem isBytes_from {w : World} {pb po len cap : Nat} {l : List Int} (h : isBytes w (.slice (some ⟨pb, po, none⟩) len cap) l) (n o' : Nat) (hn : n ≤ l.length) (ho : n < cap → o' = po + n) : isBytes w (.slice (some ⟨pb, o', none⟩) (len - n) (cap - n)) (l.drop n) := by
  have hby := h.byte
  rcases h with ⟨h, _⟩ | ⟨pb', po', cap', he, g1, g2, g3, g4, _⟩
  · cases h
  · have he' : (pb = pb' ∧ po = po') ∧ len = l.length ∧ cap = cap' := by simpa using he
    obtain ⟨⟨rfl, rfl⟩, rfl, rfl⟩ := he'
    exact Or.inr ⟨pb, o', cap - n, by rw [List.length_drop], by rw [List.length_drop]; omega, by omega, g3, fun i hi => by rw [List.length_drop] at hi; rw [ho (by omega), Nat.add_assoc, g4 (n + i) (by omega), getD_drop], drop_byte hby n⟩
end Go.Proofs.YtkgegihkhdgdoaaDoor

namespace Go.Proofs.YtkgegihkhdgdoaaDoor
open Go.RowKit Go.Deep

/-- Blob, Text: the bytes, what is left, whether there was a fault. -/
def partR (l : List Int) (b : Bool) (most : Int) : List Int × List Int × Bool :=
  if b || decide (most < 0) then ([], l, true) else match numOf l most with
    | some (x, n) => if (l.length : Int) - n < x then ([], l, true) else ((l.drop n).take x.toNat, (l.drop n).drop x.toNat, false)
    | none => ([], l, true)
theorem isBytes_nil (w : World) : isBytes w (.slice none 0 0) [] := Or.inl ⟨rfl, rfl⟩
theorem partR_len (l : List Int) (b : Bool) (most : Int) : (partR l b most).1.length ≤ l.length := by
  unfold partR
  split
  · simp
  · split
    · split
      · simp
      · simp only [List.length_take, List.length_drop]; omega
    · simp
theorem partR_left (l : List Int) (b : Bool) (most : Int) : (partR l b most).2.1.length ≤ l.length := by
  unfold partR
  split
  · simp
  · split
    · split
      · simp
      · simp only [List.length_drop]; omega
    · simp
theorem numR_left (l : List Int) (b : Bool) (most : Int) : (numR l b most).2.1.length ≤ l.length := by
  unfold numR
  split
  · simp
  · split
    · simp
    · simp
end Go.Proofs.YtkgegihkhdgdoaaDoor

namespace Go.Proofs.YtkgegihkhdgdoaaDoor
open Go.RowKit Go.Deep

/-- bytes as an array. -/
def arrV (l : List Int) (i : Nat) : Value := .int .u8 (l.getD i 0)
/-- two rows of n numbers are alike. -/
def arrEq (n : Nat) (f g : Nat → Int) : Bool := (List.range n).all fun i => f i == g i
theorem arrEq_iff (n : Nat) (f g : Nat → Int) : arrEq n f g = true ↔ ∀ i, i < n → f i = g i := by simp [arrEq]
section
variable {P : Program}
theorem run_part_row (w : World) (e : TypeId) (n : Nat) (f : Nat → Value) (k : IntKind) (he : P.underlying e = some (.int k)) (i : Nat) (hi : i < n) : (part e (rowV n f) i).run P w = .ok (f i) w := by
  have hagg : (isAgg e).run P w = .ok false w := by
    unfold isAgg
    rw [Sem.run_bind, run_underlying he w]
    simp
  simp [part, Sem.run_bind, hagg, rowV_get n f i hi]
theorem run_eqItems_ints (w : World) (d : Nat) (e : TypeId) (k : IntKind) (he : P.underlying e = some (.int k)) (n : Nat) (f g : Nat → Int) : ∀ is : List Nat, (∀ i ∈ is, i < n) →
    (Op.eqItems (d + 1) e 1 (rowV n fun i => .int k (f i)) (rowV n fun i => .int k (g i)) is).run P w = .ok (is.all fun i => f i == g i) w
  | [], _ => by simp [Op.eqItems]
  | i :: is, h => by
    have ih := run_eqItems_ints w d e k he n f g is (fun j hj => h j (List.mem_cons_of_mem _ hj))
    have hi := h i List.mem_cons_self
    simp only [Op.eqItems, Sem.run_bind, Nat.mul_one, run_part_row w e n _ k he i hi, Result.andThen_ok, run_equalIn_int w d e k k (f i) (g i) he]
    by_cases hfg : f i = g i
    · simp [hfg, ih]
    · simp [hfg]
theorem run_neq_arr (w : World) (t e : TypeId) (k : IntKind) (n : Nat) (f g : Nat → Int) (hu : P.underlying t = some (.array n e)) (he : P.underlying e = some (.int k)) (hi : (P.info? e).isSome = true) (hc : P.cellsOf e = 1) :
    (binOp .neq t (.agg (rowV n fun i => .int k (f i))) (.agg (rowV n fun i => .int k (g i)))).run P w = .ok (.bool (!arrEq n f g)) w := by
  obtain ⟨i, hi'⟩ := Option.isSome_iff_exists.1 hi
  rw [run_neq_struct, run_equalIn_array w 9999 _ _ hu hi', hc, run_eqItems_ints w 9998 e k he n f g _ (fun i hi => by simpa using hi)]
  rfl
end
end Go.Proofs.YtkgegihkhdgdoaaDoor

namespace Go.Proofs.YtkgegihkhdgdoaaDoor
open Go.RowKit Go.Deep

/-- Sum: the bytes, what is left, whether there was a fault. -/
def sumR (l : List Int) (b : Bool) : List Int × List Int × Bool :=
  if b || decide (l.length < 32) then (List.replicate 32 0, l, true) else (l.take 32, l.drop 32, false)
theorem sumR_length (l : List Int) (b : Bool) : (sumR l b).1.length = 32 := by
  unfold sumR
  split
  · simp
  · rename_i h
    simp at h
    rw [List.length_take]; omega
theorem rowV_zero (n : Nat) (z : Value) : Array.replicate n z = rowV n (fun _ => z) := rowV_eq (by simp) fun i hi => by simp [hi]
theorem getD_zeros (n i : Nat) : (List.replicate n (0 : Int)).getD i 0 = 0 := by
  rw [List.getD_eq_getElem?_getD, List.getElem?_replicate]; split <;> rfl
section
variable {P : Program}
theorem wp_arrayAt {o : Oper} {a : Act} {w : World} {K : Act → World → Prop} {Q : Exit → Act → World → Prop} (t e : TypeId) (x : Operand) (p : Addr) (n m c : Nat)
    (ho : o.op = .sliceToArrayPointer t x) (hu : P.underlying t = some (.array n e)) (hx : a.eval x = .slice (some p) m c) (hn : n ≤ m) (h : K (a.put o.dst (.pointer (some p))) w) : o.wp P a w K Q := by
  unfold Oper.wp execOp
  simp [ho, hx, Instr.arrayAt, run_underlying hu, Nat.not_lt.2 hn]
  exact h
theorem wpList_arrayAt {ops : Array Oper} {rest : List Oper} {o : Oper} {a : Act} {w : World} {Q : Exit → Act → World → Prop} (hgd : o.guard = none) (t e : TypeId) (x : Operand) (p : Addr) (n m c : Nat)
    (ho : o.op = .sliceToArrayPointer t x) (hu : P.underlying t = some (.array n e)) (hx : a.eval x = .slice (some p) m c) (hn : n ≤ m) (h : wpList P ops Q rest (a.put o.dst (.pointer (some p))) w) : wpList P ops Q (o :: rest) a w :=
  wpList_plain hgd fun _ hK => wp_arrayAt t e x p n m c ho hu hx hn (hK _ _ h)
end
theorem hi32 : (Tryd.prog.info? 32).map (·.size) = some 32 := by kernel_rfl
theorem fail_is (c : Nat) (v : Value) (b : Bool) (w : World) (h : cutIs w c v b) :
    Calls Tryd.prog 59 #[.pointer (some ⟨c, 0, none⟩)] w fun e w' => e = .returned (.tuple #[]) ∧ w' = w.setCell ⟨c, 1, none⟩ (.bool true) := by
  have c1 := h.c1
  have z1 := World.rowIs.frozen h 1
  go_enter Tryd.func59, Tryd.ntmps59
  go_wp2
  go_end0
  exact ⟨rfl, rfl⟩
set_option maxHeartbeats 400000 in
theorem take_is (c pb po len cap : Nat) (b : Bool) (n : Nat) (w : World) (h : cutIs w c (.slice (some ⟨pb, po, none⟩) len cap) b) (hn : n ≤ len) (hc : len ≤ cap) :
    Calls Tryd.prog 99 #[.pointer (some ⟨c, 0, none⟩), .int .i64 n] w fun e w' => ∃ o', e = .returned (.slice (some ⟨pb, po, none⟩) n n) ∧ (n < cap → o' = po + n) ∧ w' = w.setCell ⟨c, 0, none⟩ (.slice (some ⟨pb, o', none⟩) (len - n) (cap - n)) := by
  have c0 := h.c0
  have z0 := World.rowIs.frozen h 0
  obtain ⟨o', ho', hsl⟩ := run_slice_from (P := Tryd.prog) 98 5 pb po len cap n Tryd.underlying98 (by kernel_rfl) hn
  have hsf := run_slice_front (P := Tryd.prog) 98 5 pb po len cap n Tryd.underlying98 (by kernel_rfl) (by omega)
  have HO : Hid _ := ho'
  clear ho'
  go_enter Tryd.func99, Tryd.ntmps99
  go_wp2
  go_ret
  exact ⟨o', rfl, HO.out, rfl⟩
/-- what lies below N is as it was, but for block c: a Cut whose bytes lie below N. -/
theorem cutOf.behind {w w' : World} {B N c : Nat} {v : Value} {l : List Int} {b : Bool} (h1 : cutIs w c v b) (h2 : isBytes w v l) (h3 : B ≤ c) (h4 : ∀ k, v.ownBlock = some k → B ≤ k ∧ k ≠ c ∧ k < N) (hc : c < N) (hb : ∀ k, k < N → w'.heap[k]? = w.heap[k]?) (hs : w.heap.size ≤ w'.heap.size) : cutOf w' B c l b :=
  ⟨v, h1.of_block (hb c hc), h2.far (fun k hk => hb k (h4 k hk).2.2) hs, h3, fun k hk => ⟨(h4 k hk).1, (h4 k hk).2.1⟩⟩
end Go.Proofs.YtkgegihkhdgdoaaDoor

/- A Cut's calls, with whatever is so of the blocks of its memory. -/
namespace Go.Proofs.YtkgegihkhdgdoaaDoor
set_option linter.unusedSimpArgs false
set_option linter.unusedVariables false
open Go.RowKit Go.Deep

/-- A CUT, WITH THESE BYTES LEFT, AND A FAULT OR NONE: S is so of the blocks of its memory. -/
def cutS (w : World) (S : Nat → Prop) (c : Nat) (l : List Int) (b : Bool) : Prop :=
  ∃ v, cutIs w c v b ∧ isBytes w v l ∧ S c ∧ ∀ k, v.ownBlock = some k → S k ∧ k ≠ c
def cutNS (w : World) (S : Nat → Prop) (c : Nat) (l : List Int) (b : Bool) : Prop :=
  ∃ pb po cap, cutIs w c (.slice (some ⟨pb, po, none⟩) l.length cap) b ∧ isBytes w (.slice (some ⟨pb, po, none⟩) l.length cap) l ∧ S c ∧ S pb ∧ pb ≠ c
theorem nilS {S : Nat → Prop} {c : Nat} (k : Nat) (hk : (Value.slice none 0 0).ownBlock = some k) : S k ∧ k ≠ c := by cases hk
theorem cutOf.s {w : World} {B c : Nat} {l : List Int} {b : Bool} (h : cutOf w B c l b) : cutS w (fun k => B ≤ k ∧ k < w.heap.size) c l b := by
  obtain ⟨v, h1, h2, h3, h4⟩ := h
  exact ⟨v, h1, h2, ⟨h3, h1.lt⟩, fun k hk => ⟨⟨(h4 k hk).1, h2.block k hk⟩, (h4 k hk).2⟩⟩
theorem cutS.of {w : World} {S : Nat → Prop} {B c : Nat} {l : List Int} {b : Bool} (h : cutS w S c l b) (hS : ∀ k, S k → B ≤ k) : cutOf w B c l b := by
  obtain ⟨v, h1, h2, h3, h4⟩ := h
  exact ⟨v, h1, h2, hS _ h3, fun k hk => ⟨hS _ (h4 k hk).1, (h4 k hk).2⟩⟩
/-- what happens to no block of its memory leaves it as it was. -/
theorem cutS.far {w w' : World} {S : Nat → Prop} {c : Nat} {l : List Int} {b : Bool} (h : cutS w S c l b) (hb : ∀ k, k < w.heap.size → S k → w'.heap[k]? = w.heap[k]?) (hs : w.heap.size ≤ w'.heap.size) : cutS w' S c l b := by
  obtain ⟨v, h1, h2, h3, h4⟩ := h
  exact ⟨v, h1.of_block (hb c h1.lt h3), h2.far (fun k hk => hb k (h2.block k hk) (h4 k hk).1) hs, h3, h4⟩
theorem cutS.below {w w' : World} {S : Nat → Prop} {C c : Nat} {l : List Int} {b : Bool} (h : cutS w S c l b) (hb : Below C w w') (hC : w.heap.size ≤ C) : cutS w' S c l b :=
  h.far (fun k hk _ => hb.block k (by omega)) hb.size
theorem cutS.behind {w w' : World} {S : Nat → Prop} {N c : Nat} {v : Value} {l : List Int} {b : Bool} (h1 : cutIs w c v b) (h2 : isBytes w v l) (h3 : S c) (h4 : ∀ k, v.ownBlock = some k → (S k ∧ k ≠ c) ∧ k < N) (hc : c < N) (hb : ∀ k, k < N → w'.heap[k]? = w.heap[k]?) (hs : w.heap.size ≤ w'.heap.size) : cutS w' S c l b :=
  ⟨v, h1.of_block (hb c hc), h2.far (fun k hk => hb k (h4 k hk).2) hs, h3, fun k hk => (h4 k hk).1⟩
theorem cutS.lt {w : World} {S : Nat → Prop} {c : Nat} {l : List Int} {b : Bool} (h : cutS w S c l b) : c < w.heap.size := by
  obtain ⟨v, h, _⟩ := h; exact h.lt
theorem cutS.byte {w : World} {S : Nat → Prop} {c : Nat} {l : List Int} {b : Bool} (h : cutS w S c l b) (i : Nat) : 0 ≤ l.getD i 0 ∧ l.getD i 0 ≤ 255 := by
  obtain ⟨v, _, h, _⟩ := h; exact h.byte i
theorem cutS.len {w : World} {S : Nat → Prop} {c : Nat} {l : List Int} {b : Bool} (h : cutS w S c l b) : l.length ≤ maxLen := by
  obtain ⟨v, _, h, _⟩ := h
  obtain ⟨_, _, _, h⟩ := h.slice
  exact h
theorem cutS.fail {w : World} {S : Nat → Prop} {c : Nat} {l : List Int} {b : Bool} (h : cutS w S c l b) : cutS (w.setCell ⟨c, 1, none⟩ (.bool true)) S c l true := by
  obtain ⟨v, h1, h2, h3, h4⟩ := h
  refine ⟨v, h1.set1 true, h2.far (fun k hk => blk_setCell_other _ _ _ _ (h4 k hk).2) (by rw [nblk_setCell]; exact Nat.le_refl _), h3, h4⟩
theorem cutNS.of {w : World} {S : Nat → Prop} {c : Nat} {l : List Int} {b : Bool} (h : cutNS w S c l b) : cutS w S c l b := by
  obtain ⟨pb, po, cap, h1, h2, h3, h4, h5⟩ := h
  exact ⟨_, h1, h2, h3, fun k hk => by
    have e : pb = k := by simpa [Value.ownBlock] using hk
    rw [← e]; exact ⟨h4, h5⟩⟩
theorem cutS.non {w : World} {S : Nat → Prop} {c : Nat} {l : List Int} {b : Bool} (h : cutS w S c l b) (hl : 0 < l.length) : cutNS w S c l b := by
  obtain ⟨v, h1, h2, h3, h4⟩ := h
  have h2' := h2
  rcases h2 with ⟨_, rfl⟩ | ⟨pb, po, cap, rfl, _⟩
  · simp at hl
  · exact ⟨pb, po, cap, h1, h2', h3, (h4 pb rfl).1, (h4 pb rfl).2⟩
theorem err_s (c : Nat) (S : Nat → Prop) (l : List Int) (b : Bool) (w : World) (h : cutS w S c l b) :
    Calls Tryd.prog 29 #[.pointer (some ⟨c, 0, none⟩)] w fun e w' => e = .returned (.int .i64 (errI b)) ∧ w' = w := by
  obtain ⟨v, h1, _⟩ := h
  exact err_any c v b w h1
theorem fail_s (c : Nat) (S : Nat → Prop) (l : List Int) (b : Bool) (w : World) (h : cutS w S c l b) :
    Calls Tryd.prog 59 #[.pointer (some ⟨c, 0, none⟩)] w fun e w' => e = .returned (.tuple #[]) ∧ cutS w' S c l true ∧ But w.heap.size c w w' := by
  have HF : Hid _ := h.fail
  obtain ⟨v, h1, h2, h3, h4⟩ := h
  have c1 := h1.c1
  have z1 := World.rowIs.frozen h1 1
  clear h1 h2 h3 h4
  go_enter Tryd.func59, Tryd.ntmps59
  go_wp2
  go_end0
  exact ⟨rfl, HF.out, (But.refl _ _ _).set 1 _⟩
theorem left_s (c : Nat) (S : Nat → Prop) (l : List Int) (b : Bool) (w : World) (h : cutS w S c l b) :
    Calls Tryd.prog 30 #[.pointer (some ⟨c, 0, none⟩)] w fun e w' => e = .returned (.int .i64 (l.length : Int)) ∧ w' = w := by
  obtain ⟨v, h1, h2, h3, h4⟩ := h
  have c0 := h1.c0
  obtain ⟨a, cp, rfl, hm⟩ := h2.slice
  clear h1 h2 h3 h4
  go_enter Tryd.func30, Tryd.ntmps30
  go_wp2
  go_ret
  exact ⟨rfl, rfl⟩
set_option maxHeartbeats 400000 in
theorem take_s (c : Nat) (S : Nat → Prop) (l : List Int) (b : Bool) (n : Nat) (w : World) (h : cutNS w S c l b) (hn : n ≤ l.length) :
    Calls Tryd.prog 99 #[.pointer (some ⟨c, 0, none⟩), .int .i64 n] w fun e w' => ∃ pb po, e = .returned (.slice (some ⟨pb, po, none⟩) n n) ∧ isBytes w' (.slice (some ⟨pb, po, none⟩) n n) (l.take n) ∧ S pb ∧ pb ≠ c ∧ cutNS w' S c (l.drop n) b ∧ But w.heap.size c w w' := by
  obtain ⟨pb, po, cap, h1, h2, h3, h4, h5⟩ := h
  have c0 := h1.c0
  have z0 := World.rowIs.frozen h1 0
  have hm := h2.slice
  have hlt := h2.under
  have hby := h2.byte
  rcases h2 with ⟨h, _⟩ | ⟨pb', po', cap', he, g1, g2, g3, g4, _⟩
  · cases h
  · have he' : (pb = pb' ∧ po = po') ∧ cap = cap' := by simpa using he
    obtain ⟨⟨rfl, rfl⟩, rfl⟩ := he'
    clear he hm
    obtain ⟨o', ho', hsl⟩ := run_slice_from (P := Tryd.prog) 98 5 pb po l.length cap n Tryd.underlying98 (by kernel_rfl) hn
    have hsf := run_slice_front (P := Tryd.prog) 98 5 pb po l.length cap n Tryd.underlying98 (by kernel_rfl) (by omega)
    have hset := h1.set0 (.slice (some ⟨pb, o', none⟩) (l.length - n) (cap - n))
    have hcell : ∀ i, (w.setCell ⟨c, 0, none⟩ (.slice (some ⟨pb, o', none⟩) (l.length - n) (cap - n))).cell? ⟨pb, i, none⟩ = w.cell? ⟨pb, i, none⟩ := fun i => World.cell?_of_block (blk_setCell_other _ _ _ _ h5)
    have hnb : (w.setCell ⟨c, 0, none⟩ (.slice (some ⟨pb, o', none⟩) (l.length - n) (cap - n))).heap.size = w.heap.size := nblk_setCell _ _ _
    have HB : Hid _ := (But.refl w.heap.size c w).set 0 (.slice (some ⟨pb, o', none⟩) (l.length - n) (cap - n))
    have HF : Hid (isBytes (w.setCell ⟨c, 0, none⟩ (.slice (some ⟨pb, o', none⟩) (l.length - n) (cap - n))) (.slice (some ⟨pb, po, none⟩) n n) (l.take n)) := by
      refine show isBytes _ _ _ from Or.inr ⟨pb, po, n, ?_, ?_, ?_, ?_, fun i hi => ?_, take_byte hby n⟩
      · rw [List.length_take, Nat.min_eq_left hn]
      · rw [List.length_take, Nat.min_eq_left hn]; exact Nat.le_refl _
      · omega
      · rw [hnb]; exact hlt
      · rw [List.length_take, Nat.min_eq_left hn] at hi
        rw [hcell, g4 i (by omega), getD_take_le _ _ _ hi]
    have HC : Hid (cutNS (w.setCell ⟨c, 0, none⟩ (.slice (some ⟨pb, o', none⟩) (l.length - n) (cap - n))) S c (l.drop n) b) := by
      refine show cutNS _ _ _ _ _ from ⟨pb, o', cap - n, by rw [List.length_drop]; exact hset, Or.inr ⟨pb, o', cap - n, rfl, by rw [List.length_drop]; omega, by omega, by rw [hnb]; exact hlt, fun i hi => ?_, drop_byte hby n⟩, h3, h4, h5⟩
      rw [List.length_drop] at hi
      rw [hcell, ho' (by omega), Nat.add_assoc, g4 (n + i) (by omega), getD_drop]
    clear h1 hset hcell hnb g4 ho'
    go_enter Tryd.func99, Tryd.ntmps99
    go_wp2
    go_ret
    exact ⟨_, _, rfl, HF.out, h4, h5, HC.out, HB.out⟩

set_option maxHeartbeats 400000 in
theorem cnum_s (c : Nat) (S : Nat → Prop) (l : List Int) (b : Bool) (most : Int) (hm0 : 0 ≤ most) (w : World) (h : cutS w S c l b) :
    Calls Tryd.prog 83 #[.pointer (some ⟨c, 0, none⟩), .int .u64 most] w fun e w' => e = .returned (.int .u64 (numR l b most).1) ∧ cutS w' S c (numR l b most).2.1 (numR l b most).2.2 ∧ But w.heap.size c w w' := by
  have HC : Hid _ := h
  have hby := h.byte
  obtain ⟨v, h1, h2, h3, h4⟩ := h
  have c0 := h1.c0
  have hm := h2.slice
  have H2 : Hid _ := h2
  clear h1 h2 h3 h4
  cases b with
  | true =>
    have HR : Hid (numR l true most = _) := rfl
    go_enter Tryd.func83, Tryd.ntmps83
    go_wp2_with fail
    refine (err_s c S l true _ HC.out).mono ?_
    rintro e w' ⟨rfl, hw⟩
    obtain rfl := hw.symm
    clear hw
    rw [show errI true = 2 from rfl]
    go_wp2
    go_ret
    exact ⟨rfl, HC.out, But.refl _ _ _⟩
  | false =>
    have HNA := number_any l v most hm0 w H2.out
    cases hn : numOf l most with
    | none =>
      have HR : numR l false most = (0, l, true) := by unfold numR; rw [hn]; rfl
      rw [HR]
      rw [hn] at HNA
      simp only [numberIs] at HNA
      go_enter Tryd.func83, Tryd.ntmps83
      go_wp2_with fail
      refine (err_s c S l false _ HC.out).mono ?_
      rintro e w' ⟨rfl, hw⟩
      obtain rfl := hw.symm
      clear hw
      rw [show errI false = 0 from rfl]
      go_wp2_with fail
      refine HNA.mono ?_
      rintro e w' ⟨rfl, hw⟩
      obtain rfl := hw.symm
      clear hw HNA
      go_wp2_with fail
      refine (fail_s c S l false _ HC.out).mono ?_
      rintro e w1 ⟨rfl, hc1, hb1⟩
      have HC1 : Hid _ := hc1
      clear hc1
      go_wp2
      go_ret
      exact ⟨rfl, HC1.out, hb1⟩
    | some q =>
      obtain ⟨x, n⟩ := q
      have HR : numR l false most = (x, l.drop n, false) := by unfold numR; rw [hn]; rfl
      rw [HR]
      rw [hn] at HNA
      simp only [numberIs] at HNA
      obtain ⟨f1, f2⟩ := numOf_first hn
      obtain ⟨g1, g2, g3, g4, g5, g6⟩ := firstB_some hby f1
      have HCN : Hid _ := cutS.non HC.out g6
      go_enter Tryd.func83, Tryd.ntmps83
      go_wp2_with fail
      refine (err_s c S l false _ HC.out).mono ?_
      rintro e w' ⟨rfl, hw⟩
      obtain rfl := hw.symm
      clear hw
      rw [show errI false = 0 from rfl]
      go_wp2_with fail
      refine HNA.mono ?_
      rintro e w' ⟨rfl, hw⟩
      obtain rfl := hw.symm
      clear hw HNA
      go_wp2_with fail
      refine (take_s c S l false n _ HCN.out g3).mono ?_
      rintro e w1 ⟨pb, po, rfl, _, _, _, hc1, hb1⟩
      have HC1 : Hid _ := hc1.of
      clear hc1
      go_wp2
      go_ret
      exact ⟨rfl, HC1.out, hb1⟩
set_option maxHeartbeats 1000000 in
set_option maxRecDepth 100000 in
theorem part_s (c : Nat) (S : Nat → Prop) (l : List Int) (b : Bool) (most : Int) (hm1 : most ≤ 9223372036854775807) (w : World) (h : cutS w S c l b) :
    Calls Tryd.prog 111 #[.pointer (some ⟨c, 0, none⟩), .int .i64 most] w fun e w' => ∃ v, e = .returned v ∧ isBytes w' v (partR l b most).1 ∧ (∀ k, v.ownBlock = some k → S k ∧ k ≠ c) ∧ cutS w' S c (partR l b most).2.1 (partR l b most).2.2 ∧ But w.heap.size c w w' := by
  have HC : Hid _ := h
  have hby := h.byte
  have hlm := h.len
  unfold maxLen at hlm
  obtain ⟨v, h1, h2, h3, h4⟩ := h
  have c0 := h1.c0
  have H2 : Hid _ := h2
  obtain ⟨va, vc, rfl, _⟩ := h2.slice
  clear h1 h2 h3 h4
  cases b with
  | true =>
    have HR : partR l true most = ([], l, true) := rfl
    rw [HR]
    go_enter Tryd.func111, Tryd.ntmps111
    go_wp2_with fail
    refine (err_s c S l true _ HC.out).mono ?_
    rintro e w' ⟨rfl, hw⟩
    obtain rfl := hw.symm
    clear hw
    rw [show errI true = 2 from rfl]
    go_wp2_with fail
    refine (fail_s c S l true _ HC.out).mono ?_
    rintro e w1 ⟨rfl, hc1, hb1⟩
    have HC1 : Hid _ := hc1
    clear hc1
    go_wp2
    go_ret
    exact ⟨_, rfl, isBytes_nil _, nilS, HC1.out, hb1⟩
  | false =>
    by_cases hneg : most < 0
    · have HR : partR l false most = ([], l, true) := by unfold partR; rw [if_pos (by simp; exact hneg)]
      rw [HR]
      go_enter Tryd.func111, Tryd.ntmps111
      go_wp2_with fail
      refine (err_s c S l false _ HC.out).mono ?_
      rintro e w' ⟨rfl, hw⟩
      obtain rfl := hw.symm
      clear hw
      rw [show errI false = 0 from rfl]
      go_wp2_with fail
      refine (fail_s c S l false _ HC.out).mono ?_
      rintro e w1 ⟨rfl, hc1, hb1⟩
      have HC1 : Hid _ := hc1
      clear hc1
      go_wp2
      go_ret
      exact ⟨_, rfl, isBytes_nil _, nilS, HC1.out, hb1⟩
    · have hm0 : 0 ≤ most := by omega
      have HR0 : partR l false most = match numOf l most with
          | some (x, n) => if (l.length : Int) - n < x then ([], l, true) else ((l.drop n).take x.toNat, (l.drop n).drop x.toNat, false)
          | none => ([], l, true) := by unfold partR; first | (rw [if_neg (by simp; omega)]; done) | (rw [if_neg (by simp; omega)]; cases numOf l most <;> rfl)
      have HNA := number_any l _ most hm0 w H2.out
      cases hn : numOf l most with
      | none =>
        rw [hn] at HNA HR0
        have HR : partR l false most = ([], l, true) := HR0
        rw [HR]
        simp only [numberIs] at HNA
        clear HR0 HR
        go_enter Tryd.func111, Tryd.ntmps111
        go_wp2_with fail
        refine (err_s c S l false _ HC.out).mono ?_
        rintro e w' ⟨rfl, hw⟩
        obtain rfl := hw.symm
        clear hw
        rw [show errI false = 0 from rfl]
        go_wp2_with fail
        refine HNA.mono ?_
        rintro e w' ⟨rfl, hw⟩
        obtain rfl := hw.symm
        clear hw HNA
        go_wp2_with fail
        refine (fail_s c S l false _ HC.out).mono ?_
        rintro e w1 ⟨rfl, hc1, hb1⟩
        have HC1 : Hid _ := hc1
        clear hc1
        go_wp2
        go_ret
        exact ⟨_, rfl, isBytes_nil _, nilS, HC1.out, hb1⟩
      | some q =>
        obtain ⟨x, n⟩ := q
        rw [hn] at HNA HR0
        simp only [numberIs] at HNA
        simp only at HR0
        obtain ⟨f1, f2⟩ := numOf_first hn
        obtain ⟨g1, g2, g3, g4, g5, g6⟩ := firstB_some hby f1
        have HCN : Hid _ := cutS.non HC.out g6
        have i1 : (n : Int) ≤ (l.length : Int) := by omega
        have i2 : (n : Int) ≤ 9 := by omega
        have i3 : (l.length : Int) ≤ 9223372036854775807 := by omega
        have i4 : (1 : Int) ≤ (n : Int) := by omega
        by_cases hx : (l.length : Int) - n < x
        · rw [if_pos hx] at HR0
          rw [HR0]
          clear HR0 hn f1
          go_enter Tryd.func111, Tryd.ntmps111
          go_wp2_with fail
          refine (err_s c S l false _ HC.out).mono ?_
          rintro e w' ⟨rfl, hw⟩
          obtain rfl := hw.symm
          clear hw
          rw [show errI false = 0 from rfl]
          go_wp2_with fail
          refine HNA.mono ?_
          rintro e w' ⟨rfl, hw⟩
          obtain rfl := hw.symm
          clear hw HNA
          go_wp2_with fail
          refine (fail_s c S l false _ HC.out).mono ?_
          rintro e w1 ⟨rfl, hc1, hb1⟩
          have HC1 : Hid _ := hc1
          clear hc1
          go_wp2
          go_ret
          exact ⟨_, rfl, isBytes_nil _, nilS, HC1.out, hb1⟩
        · rw [if_neg hx] at HR0
          rw [HR0]
          clear HR0 hn f1
          obtain ⟨m, rfl⟩ := Int.eq_ofNat_of_zero_le g4
          have hx' : (m : Int) ≤ (l.length : Int) - n := by omega
          clear hx g5 g4
          go_enter Tryd.func111, Tryd.ntmps111
          go_wp2_with fail
          refine (err_s c S l false _ HC.out).mono ?_
          rintro e w' ⟨rfl, hw⟩
          obtain rfl := hw.symm
          clear hw
          rw [show errI false = 0 from rfl]
          go_wp2_with fail
          refine HNA.mono ?_
          rintro e w' ⟨rfl, hw⟩
          obtain rfl := hw.symm
          clear hw HNA
          go_wp2_with fail
          refine (take_s c S l false n _ HCN.out g3).mono ?_
          rintro e w1 ⟨pb, po, rfl, _, _, _, hc1, hb1⟩
          have HC1 : Hid _ := hc1
          clear hc1
          go_wp2_with fail
          refine (take_s c S (l.drop n) false m _ HC1.out (by rw [List.length_drop]; omega)).mono ?_
          rintro e w2 ⟨pb2, po2, rfl, hf2, hB2, hc2', hc2, hb2⟩
          have HF2 : Hid _ := hf2
          have HC2 : Hid _ := hc2.of
          clear hc2 hf2
          go_wp2
          go_ret
          exact ⟨_, rfl, HF2.out, (fun k hk => by
            have e : pb2 = k := by simpa [Value.ownBlock] using hk
            rw [← e]; exact ⟨hB2, hc2'⟩), HC2.out, hb1.trans (hb2.mono hb1.size)⟩
theorem cblob_s (c : Nat) (S : Nat → Prop) (l : List Int) (b : Bool) (most : Int) (hm1 : most ≤ 9223372036854775807) (w : World) (h : cutS w S c l b) (hl : l.length ≤ 1099511627776) :
    Calls Tryd.prog 100 #[.pointer (some ⟨c, 0, none⟩), .int .i64 most] w fun e w' => ∃ v, e = .returned v ∧ newBytes w' w.heap.size v (partR l b most).1 ∧ cutS w' S c (partR l b most).2.1 (partR l b most).2.2 ∧ But w.heap.size c w w' := by
  have hpl := partR_len l b most
  go_enter Tryd.func100, Tryd.ntmps100
  go_wp2_with fail
  refine (part_s c S l b most hm1 w h).mono ?_
  rintro e w1 ⟨v1, rfl, hv1, _, hc1, hb1⟩
  have HC : Hid _ := hc1
  have HV : Hid _ := hv1
  clear hc1 hv1
  go_wp2_with fail
  refine (clone_any v1 _ w1 HV.out (by omega)).mono ?_
  rintro e w2 ⟨v2, rfl, hn2, hb2⟩
  have HN : Hid _ := hn2.mono hb1.size
  have HC2 : Hid _ := cutS.below HC.out hb2 (Nat.le_refl _)
  clear hn2 HC HV
  go_wp2
  go_ret
  exact ⟨_, rfl, HN.out, HC2.out, hb1.trans (But.of_below (hb2.mono hb1.size) c)⟩
set_option maxHeartbeats 1000000 in
set_option maxRecDepth 100000 in
theorem csum_s (c : Nat) (S : Nat → Prop) (l : List Int) (b : Bool) (w : World) (h : cutS w S c l b) :
    Calls Tryd.prog 101 #[.pointer (some ⟨c, 0, none⟩)] w fun e w' => e = .returned (.agg (rowV 32 (arrV (sumR l b).1))) ∧ cutS w' S c (sumR l b).2.1 (sumR l b).2.2 ∧ But w.heap.size c w w' := by
  have hlt := h.lt
  have hlm := h.len
  unfold maxLen at hlm
  have hb0 : Below w.heap.size w (w.alloc (.cells #[.int .u8 0, .int .u8 0, .int .u8 0, .int .u8 0, .int .u8 0, .int .u8 0, .int .u8 0, .int .u8 0, .int .u8 0, .int .u8 0, .int .u8 0, .int .u8 0, .int .u8 0, .int .u8 0, .int .u8 0, .int .u8 0, .int .u8 0, .int .u8 0, .int .u8 0, .int .u8 0, .int .u8 0, .int .u8 0, .int .u8 0, .int .u8 0, .int .u8 0, .int .u8 0, .int .u8 0, .int .u8 0, .int .u8 0, .int .u8 0, .int .u8 0, .int .u8 0] 32)) := (Below.refl _ _).alloc (Nat.le_refl _) _
  have r0 := rowIs_zero w #[.int .u8 0, .int .u8 0, .int .u8 0, .int .u8 0, .int .u8 0, .int .u8 0, .int .u8 0, .int .u8 0, .int .u8 0, .int .u8 0, .int .u8 0, .int .u8 0, .int .u8 0, .int .u8 0, .int .u8 0, .int .u8 0, .int .u8 0, .int .u8 0, .int .u8 0, .int .u8 0, .int .u8 0, .int .u8 0, .int .u8 0, .int .u8 0, .int .u8 0, .int .u8 0, .int .u8 0, .int .u8 0, .int .u8 0, .int .u8 0, .int .u8 0, .int .u8 0] 32 32 (.int .u8 0) rfl
  have hs0 : (w.alloc (.cells #[.int .u8 0, .int .u8 0, .int .u8 0, .int .u8 0, .int .u8 0, .int .u8 0, .int .u8 0, .int .u8 0, .int .u8 0, .int .u8 0, .int .u8 0, .int .u8 0, .int .u8 0, .int .u8 0, .int .u8 0, .int .u8 0, .int .u8 0, .int .u8 0, .int .u8 0, .int .u8 0, .int .u8 0, .int .u8 0, .int .u8 0, .int .u8 0, .int .u8 0, .int .u8 0, .int .u8 0, .int .u8 0, .int .u8 0, .int .u8 0, .int .u8 0, .int .u8 0] 32)).heap.size = w.heap.size + 1 := by simp
  obtain ⟨v, h1, h2, h3, h4⟩ := h
  have hblk := h2.block
  have hby := h2.byte
  have i1 : (l.length : Int) ≤ 9223372036854775807 := by omega
  -- the world with the answer's memory
  revert hb0 r0 hs0
  generalize hwa : w.alloc (.cells #[.int .u8 0, .int .u8 0, .int .u8 0, .int .u8 0, .int .u8 0, .int .u8 0, .int .u8 0, .int .u8 0, .int .u8 0, .int .u8 0, .int .u8 0, .int .u8 0, .int .u8 0, .int .u8 0, .int .u8 0, .int .u8 0, .int .u8 0, .int .u8 0, .int .u8 0, .int .u8 0, .int .u8 0, .int .u8 0, .int .u8 0, .int .u8 0, .int .u8 0, .int .u8 0, .int .u8 0, .int .u8 0, .int .u8 0, .int .u8 0, .int .u8 0, .int .u8 0] 32) = wa
  intro hb0 r0 hs0
  have k1 : cutIs wa c v b := h1.of_block (hb0.block c hlt)
  have k2 : isBytes wa v l := h2.below hb0 (Nat.le_refl _)
  by_cases hbad : b = true ∨ l.length < 32
  · have hR : sumR l b = (List.replicate 32 0, l, true) := by unfold sumR; rw [if_pos (by simp; exact hbad)]
    rw [hR]
    have r1 : (wa.setCell ⟨c, 1, none⟩ (.bool true)).rowIs w.heap.size 32 32 (fun _ => .int .u8 0) := World.rowIs.setOther r0 (by show w.heap.size ≠ c; omega) _
    have q1 : cutIs (wa.setCell ⟨c, 1, none⟩ (.bool true)) c v true := k1.set1 true
    have q2 : isBytes (wa.setCell ⟨c, 1, none⟩ (.bool true)) v l := k2.far (fun k hk => blk_setCell_other _ _ _ _ (h4 k hk).2) (by rw [nblk_setCell]; exact Nat.le_refl _)
    have hb1 : But w.heap.size c w (wa.setCell ⟨c, 1, none⟩ (.bool true)) := (But.of_below hb0 c).set 1 _
    have fin : ∀ w2 : World, w2.heap.size = (wa.setCell ⟨c, 1, none⟩ (.bool true)).heap.size → But (wa.setCell ⟨c, 1, none⟩ (.bool true)).heap.size w.heap.size (wa.setCell ⟨c, 1, none⟩ (.bool true)) w2 → cutS w2 S c l true ∧ But w.heap.size c w w2 := fun w2 hz hb2 => by
      have hn : (wa.setCell ⟨c, 1, none⟩ (.bool true)).heap.size = w.heap.size + 1 := by rw [nblk_setCell]; exact hs0
      refine ⟨cutS.behind (N := w.heap.size) q1 q2 h3 (fun k hk => ⟨h4 k hk, hblk k hk⟩) hlt (fun k hk => hb2.block k (by omega) (by omega)) hb2.size, hb1.trans ⟨hb2.os, hb2.tape, hb2.output, hb2.size, fun k hk _ => hb2.block k (by omega) (by omega)⟩⟩
    have FIN : Hid _ := fin
    have K1 : Hid _ := k1
    have R1 : Hid _ := r1
    have c0 := k1.c0
    obtain ⟨va, vc, rfl, _⟩ := h2.slice
    clear fin q1 q2 hb1 k1 k2 h1 h2 h3 h4 hb0 r0 hblk hby r1
    cases b with
    | true =>
      go_enter Tryd.func101, Tryd.ntmps101
      go_wp2_with fail
      clear hwa
      refine (err_any c _ true _ K1.out).mono ?_
      rintro e w' ⟨rfl, hw⟩
      obtain rfl := hw.symm
      clear hw
      rw [show errI true = 2 from rfl]
      go_wp2_with fail
      refine (fail_is c _ true _ K1.out).mono ?_
      rintro e w1 ⟨rfl, rfl⟩
      have r1 := R1.out
      go_wp2_with (first | (refine wpList_store_row rfl 32 _ _ rfl rfl w.heap.size 0 32 (fun _ => .int .u8 0) rfl (by rw [← rowV_zero]; rfl) hi32 (fun _ _ => rfl) _ _ _ r1 (by omega) ?_; intro w2 r2 hz2 hb2))
      obtain ⟨q1, q2⟩ := FIN.out w2 hz2 hb2
      refine bodyPost_ret (results_cell_seg rfl _ _ w.heap.size 32 32 (arrV (List.replicate 32 0)) _ rfl Tryd.underlying32 rfl hi32 (r2.congr fun i hi => ?_)) rfl ⟨rfl, q1, q2⟩
      rw [if_pos (by omega), arrV, getD_zeros]
    | false =>
      have hl32 : (l.length : Int) < 32 := by
        rcases hbad with h | h
        · cases h
        · omega
      clear hbad
      go_enter Tryd.func101, Tryd.ntmps101
      go_wp2_with fail
      clear hwa
      refine (err_any c _ false _ K1.out).mono ?_
      rintro e w' ⟨rfl, hw⟩
      obtain rfl := hw.symm
      clear hw
      rw [show errI false = 0 from rfl]
      go_wp2_with fail
      refine (fail_is c _ false _ K1.out).mono ?_
      rintro e w1 ⟨rfl, rfl⟩
      have r1 := R1.out
      go_wp2_with (first | (refine wpList_store_row rfl 32 _ _ rfl rfl w.heap.size 0 32 (fun _ => .int .u8 0) rfl (by rw [← rowV_zero]; rfl) hi32 (fun _ _ => rfl) _ _ _ r1 (by omega) ?_; intro w2 r2 hz2 hb2))
      obtain ⟨q1, q2⟩ := FIN.out w2 hz2 hb2
      refine bodyPost_ret (results_cell_seg rfl _ _ w.heap.size 32 32 (arrV (List.replicate 32 0)) _ rfl Tryd.underlying32 rfl hi32 (r2.congr fun i hi => ?_)) rfl ⟨rfl, q1, q2⟩
      rw [if_pos (by omega), arrV, getD_zeros]
  · obtain rfl : b = false := by cases b; rfl; exact absurd (Or.inl rfl) hbad
    have hl32 : 32 ≤ l.length := by omega
    have hR : sumR l false = (l.take 32, l.drop 32, false) := by unfold sumR; rw [if_neg (by simp; omega)]
    rw [hR]
    rcases h2 with ⟨_, rfl⟩ | ⟨pb, po, cap, rfl, g1, g2, g3, g4, _⟩
    · simp at hl32
    · obtain ⟨hpB, hpc⟩ := h4 pb rfl
      have i2 : (32 : Int) ≤ (l.length : Int) := by omega
      have c0 := k1.c0
      have K1 : Hid _ := k1
      have fin : ∀ (o' : Nat) (w2 : World), (32 < cap → o' = po + 32) → w2.heap.size = (wa.setCell ⟨c, 0, none⟩ (.slice (some ⟨pb, o', none⟩) (l.length - 32) (cap - 32))).heap.size → But (wa.setCell ⟨c, 0, none⟩ (.slice (some ⟨pb, o', none⟩) (l.length - 32) (cap - 32))).heap.size w.heap.size (wa.setCell ⟨c, 0, none⟩ (.slice (some ⟨pb, o', none⟩) (l.length - 32) (cap - 32))) w2 → cutS w2 S c (l.drop 32) false ∧ But w.heap.size c w w2 := fun o' w2 ho' hz hb2 => by
        have hn : (wa.setCell ⟨c, 0, none⟩ (.slice (some ⟨pb, o', none⟩) (l.length - 32) (cap - 32))).heap.size = w.heap.size + 1 := by rw [nblk_setCell]; exact hs0
        have q1 := k1.set0 (.slice (some ⟨pb, o', none⟩) (l.length - 32) (cap - 32))
        have q2 : isBytes (wa.setCell ⟨c, 0, none⟩ (.slice (some ⟨pb, o', none⟩) (l.length - 32) (cap - 32))) (.slice (some ⟨pb, o', none⟩) (l.length - 32) (cap - 32)) (l.drop 32) :=
          (isBytes_from k2 32 o' hl32 ho').far (fun k hk => blk_setCell_other _ _ _ _ (by simp [Value.ownBlock] at hk; show k ≠ c; omega)) (by rw [nblk_setCell]; exact Nat.le_refl _)
        refine ⟨cutS.behind (N := w.heap.size) q1 q2 h3 (fun k hk => by
          have e : pb = k := by simpa [Value.ownBlock] using hk
          rw [← e]; exact ⟨⟨hpB, hpc⟩, g3⟩) hlt (fun k hk => hb2.block k (by omega) (by omega)) hb2.size, ((But.of_below hb0 c).set 0 _).trans ⟨hb2.os, hb2.tape, hb2.output, hb2.size, fun k hk _ => hb2.block k (by omega) (by omega)⟩⟩
      have FIN : Hid _ := fin
      have hcell : ∀ (u : Value) (i : Nat), i < 32 → (wa.setCell ⟨c, 0, none⟩ u).cell? ⟨pb, po + i, none⟩ = some (arrV (l.take 32) i) := fun u i hi => by
        rw [World.cell?_of_block (w := wa) (blk_setCell_other _ _ _ _ hpc), hb0.cell (p := ⟨pb, po + i, none⟩) g3, g4 i (by omega), arrV, getD_take_le _ _ _ hi]
      have HCL : Hid _ := hcell
      have hrow : ∀ u : Value, (wa.setCell ⟨c, 0, none⟩ u).rowIs w.heap.size 32 32 (fun _ => .int .u8 0) := fun u => World.rowIs.setOther r0 (by show w.heap.size ≠ c; omega) _
      have HRW : Hid _ := hrow
      clear fin hcell hrow k1 k2 h1 h4 hb0 r0 hblk hby g4
      go_enter Tryd.func101, Tryd.ntmps101
      go_wp2_with fail
      clear hwa
      refine (err_any c _ false _ K1.out).mono ?_
      rintro e w' ⟨rfl, hw⟩
      obtain rfl := hw.symm
      clear hw
      rw [show errI false = 0 from rfl]
      go_wp2_with fail
      refine (take_is c pb po l.length cap false 32 _ K1.out hl32 g1).mono ?_
      rintro e w1 ⟨o', rfl, ho', rfl⟩
      have HO : Hid _ := ho'
      have r1 := HRW.out (.slice (some ⟨pb, o', none⟩) (l.length - 32) (cap - 32))
      have cl := HCL.out (.slice (some ⟨pb, o', none⟩) (l.length - 32) (cap - 32))
      clear ho'
      go_wp2_with (first | (refine wpList_arrayAt rfl 32 5 _ ⟨pb, po, none⟩ 32 32 32 rfl Tryd.underlying32 rfl (Nat.le_refl _) ?_) | (refine wpList_load_seg rfl 32 _ rfl pb po 32 (arrV (l.take 32)) rfl _ Tryd.underlying32 rfl hi32 cl ?_) | (refine wpList_store_row rfl 32 _ _ rfl rfl w.heap.size 0 32 _ rfl rfl hi32 (fun _ _ => rfl) _ _ _ r1 (by omega) ?_; intro w2 r2 hz2 hb2))
      obtain ⟨q1, q2⟩ := FIN.out o' w2 HO.out hz2 hb2
      refine bodyPost_ret (results_cell_seg rfl _ _ w.heap.size 32 32 (arrV (l.take 32)) _ rfl Tryd.underlying32 rfl hi32 (r2.congr fun i hi => ?_)) rfl ⟨rfl, q1, q2⟩
      rw [if_pos (by omega)]; rfl
end Go.Proofs.YtkgegihkhdgdoaaDoor

/- The map of seal: sums, and where they stand first. -/
namespace Go.Proofs.YtkgegihkhdgdoaaDoor
set_option linter.unusedSimpArgs false
set_option linter.unusedVariables false
open Go.RowKit Go.Deep

/-- 32 bytes. -/
def isSum (q : List Int) : Prop := q.length = 32 ∧ ∀ i, 0 ≤ q.getD i 0 ∧ q.getD i 0 ≤ 255
def sumV (q : List Int) : Value := .agg (rowV 32 (arrV q))
theorem sumV_inj {p q : List Int} (hp : isSum p) (hq : isSum q) (e : sumV p = sumV q) : p = q := by
  have h : rowV 32 (arrV p) = rowV 32 (arrV q) := Value.agg.inj e
  apply List.ext_getElem?
  intro i
  by_cases hi : i < 32
  · have := rowV_inj h i hi
    simp only [arrV, Value.int.injEq, true_and] at this
    rw [List.getElem?_eq_getElem (by rw [hp.1]; exact hi), List.getElem?_eq_getElem (by rw [hq.1]; exact hi)]
    rw [List.getD_eq_getElem?_getD, List.getD_eq_getElem?_getD, List.getElem?_eq_getElem (by rw [hp.1]; exact hi), List.getElem?_eq_getElem (by rw [hq.1]; exact hi)] at this
    simpa using this
  · rw [List.getElem?_eq_none (by rw [hp.1]; omega), List.getElem?_eq_none (by rw [hq.1]; omega)]
theorem mapM_all {α β : Type} (f : α → Option β) (g : α → β) : ∀ L : List α, (∀ x ∈ L, f x = some (g x)) → L.mapM f = some (L.map g)
  | [], _ => rfl
  | x :: L, h => by
    rw [List.mapM_cons, h x (by simp), mapM_all f g L (fun y hy => h y (by simp [hy]))]; rfl
theorem arrKey : Go.WideMaps.ArrKey Tryd.prog 32 5 32 := ⟨Tryd.underlying32, by kernel_rfl, by kernel_rfl, by kernel_rfl⟩
theorem types_some : ∃ m, Tryd.prog.types.size = m + 1 := ⟨Tryd.prog.types.size - 1, by
  have : 0 < Tryd.prog.types.size := of_decide_eq_true (by kernel_rfl)
  omega⟩
theorem sumKey {q : List Int} (hq : isSum q) : ∃ l, keyOf Tryd.prog 32 (sumV q) = some l := by
  have hc : Tryd.prog.cellsOf 32 = 32 := by kernel_rfl
  have hc8 : Tryd.prog.cellsOf 5 = 1 := by kernel_rfl
  have hk := arrKey.keyType types_some
  obtain ⟨m, hm⟩ := types_some
  have hform : (sumV q).formed Tryd.prog 32 = true := by simp [sumV, Value.formed, Tryd.underlying32, hc, rowV_size]
  have hl : (rowV 32 (arrV q)).toList.length = 32 := by rw [Array.length_toList, rowV_size]
  have hel : ∀ i ∈ List.range 32, Tryd.prog.keyLits (m + 1) 5 (((rowV 32 (arrV q)).toList.drop (i * 1)).take 1) = some [Lit.int .u8 (q.getD i 0)] := fun i hi => by
    have hi' : i < 32 := List.mem_range.1 hi
    have e1 : ((rowV 32 (arrV q)).toList.drop (i * 1)).take 1 = [arrV q i] := by
      rw [Nat.mul_one, List.drop_eq_getElem_cons (by omega)]
      have : (rowV 32 (arrV q)).toList[i]? = some (arrV q i) := by rw [Array.getElem?_toList]; exact rowV_get _ _ _ hi'
      rw [List.getElem?_eq_getElem (by omega)] at this
      rw [Option.some.inj this]; rfl
    have hb := hq.2 i
    rw [e1]
    have hw : (Lit.int .u8 (q.getD i 0)).wf = true := by
      simp [Lit.wf, IntKind.min, IntKind.max, IntKind.signed, IntKind.bits]; simp at hb; omega
    simp only [Program.keyLits, arrV, Tryd.underlying5]
    rw [if_pos ⟨trivial, hw⟩]
  refine ⟨.string (keyBytes ((List.range 32).map fun i => [Lit.int .u8 (q.getD i 0)]).flatten), ?_⟩
  unfold keyOf
  simp only [Tryd.underlying32, hk, hform, Bool.and_self, if_true]
  rw [hm]
  generalize m + 1 = d at hel ⊢
  simp only [sumV, Value.cells, Program.keyLits, Tryd.underlying32, hl, hc, hc8, if_true]
  rw [mapM_all _ _ _ hel]
  rfl
theorem keyLaw : Go.WideMaps.KeyLaw Tryd.prog 32 := arrKey.law
theorem check_run (w : World) (em : Bool) {q : List Int} (hq : isSum q) : (Instr.checkKey em 10000 32 (sumV q)).run Tryd.prog w = .ok () w := by
  obtain ⟨l, hl⟩ := sumKey hq
  exact keyLaw.check w em hl

/-- a note: a sum, a text. -/
abbrev Nt := List Int × ByteArray
/-- where a sum stands first. -/
def firstAt (N : List Nt) (q : List Int) : Option Nat := N.findIdx? fun x => decide (x.1 = q)
theorem firstAt_lt {N : List Nt} {q : List Int} {i : Nat} (h : firstAt N q = some i) : i < N.length := by
  unfold firstAt at h
  exact (List.findIdx?_eq_some_iff_getElem.1 h).1
theorem firstAt_get {N : List Nt} {q : List Int} {i : Nat} (h : firstAt N q = some i) : ∃ s, N[i]? = some (q, s) := by
  unfold firstAt at h
  obtain ⟨hi, h1, _⟩ := List.findIdx?_eq_some_iff_getElem.1 h
  have : N[i].1 = q := by simpa using h1
  exact ⟨N[i].2, by rw [List.getElem?_eq_getElem hi, ← this]⟩
theorem firstAt_append {N : List Nt} {x : Nt} {q : List Int} : firstAt (N ++ [x]) q = (firstAt N q).or (if x.1 = q then some N.length else none) := by
  unfold firstAt
  rw [List.findIdx?_append]
  simp only [List.findIdx?_cons, List.findIdx?_nil]
  by_cases h : x.1 = q <;> simp [h]
/-- the map of some notes, its memory in F. -/
def mapAt (w : World) (F : Nat → Prop) (mv : Value) (N : List Nt) : Prop :=
  (mv = .map none ∧ N = []) ∨ ∃ (mb : Nat) (es : Array MapEntry) (clock : Nat), mv = .map (some mb) ∧ F mb ∧ w.heap[mb]? = some (.map es clock) ∧
    (∀ e ∈ es.toList, ∃ (q : List Int) (i : Nat), isSum q ∧ e.key = sumV q ∧ firstAt N q = some i ∧ e.val = .int .i64 (i : Int)) ∧ ∀ (q : List Int) (i : Nat), isSum q → firstAt N q = some i → ∃ e ∈ es.toList, e.key = sumV q
theorem zero3 (w : World) : (zeroValue 3).run Tryd.prog w = .ok (.int .i64 0) w := by kernel_rfl
theorem look_run {w : World} {F : Nat → Prop} {mv : Value} {N : List Nt} (h : mapAt w F mv N) {q : List Int} (hq : isSum q) :
    (Instr.lookup 103 mv (sumV q) true).run Tryd.prog w = .ok (.tuple #[.int .i64 (((firstAt N q).getD 0 : Nat) : Int), .bool (firstAt N q).isSome]) w := by
  obtain ⟨l, hl⟩ := sumKey hq
  rcases h with ⟨rfl, rfl⟩ | ⟨mb, es, clock, rfl, _, hb, h1, h2⟩
  · have e0 : firstAt [] q = none := rfl
    have hck := check_run w true hq
    have hf : (Instr.findKey 32 (sumV q) []).run Tryd.prog w = .ok none w := by
      simp [Instr.findKey, run_underlying Tryd.underlying32, Instr.findNow]
    simp [Instr.lookup, run_underlying Tryd.underlying103, hck, hf, zero3, e0]
  · have hck := check_run w es.isEmpty hq
    have hall : ∀ e ∈ es.toList, ∃ l, keyOf Tryd.prog 32 e.key = some l := fun e he => by
      obtain ⟨q', i, hq', hk, _⟩ := h1 e he
      rw [hk]; exact sumKey hq'
    rcases keyLaw.find w hl es.toList hall with ⟨hf, hne⟩ | ⟨j, e, hf, hj, hk⟩
    · have e0 : firstAt N q = none := by
        cases hfa : firstAt N q with
        | none => rfl
        | some i =>
          obtain ⟨e, he, hk⟩ := h2 q i hq hfa
          exact absurd hk (hne e he)
      simp [Instr.lookup, run_underlying Tryd.underlying103, MapKept.run_getObj_map hb, hck, hf, zero3, e0]
    · obtain ⟨q', i, hq', hk', hfa, hv⟩ := h1 e (List.mem_of_getElem? hj)
      obtain rfl : q' = q := sumV_inj hq' hq (hk'.symm.trans hk)
      simp [Instr.lookup, run_underlying Tryd.underlying103, MapKept.run_getObj_map hb, hck, hf, hfa, hv]
end Go.Proofs.YtkgegihkhdgdoaaDoor
