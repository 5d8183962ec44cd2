import Derived.WalkKit
import Derived.WalkSpells
import Derived.Deep.OwnRows
import Derived.Deep.MidRow
import Derived.Deep.Draws
import Derived.Test.YtknglaiobbmoaaaDoorRows
import Derived.WalkLawsBesides
import Derived.Deep.RegionHeld3
import Derived.Deep.QuietTactic
import Derived.BigQuiet
import Derived.Deep.DrawnRows
import Derived.Deep.Light
import Derived.RegionTactic
import Derived.BigRegion
import Derived.Deep.AppendLies
import Derived.Laws.BytesString
import Derived.Lib.SliceRun
import Derived.Laws.CopyRow
set_option linter.unusedVariables false
set_option linter.unusedSimpArgs false
/- Rows of memory, said by the index: what a load of a whole array or struct gives, what a store of one leaves. -/
namespace Go.Proofs.YtknglaiobbmoaaaDoor
open Go.RowKit Go.Deep

/-- n values as an array, by the index. -/
def rowV (n : Nat) (f : Nat → Value) : Array Value := Array.ofFn (n := n) (fun i => f i.val)
theorem rowV_size (n : Nat) (f : Nat → Value) : (rowV n f).size = n := by simp [rowV]
theorem rowV_get (n : Nat) (f : Nat → Value) (i : Nat) (h : i < n) : (rowV n f)[i]? = some (f i) := by simp [rowV, h]
theorem rowV_eq {n : Nat} {f : Nat → Value} {c : Array Value} (hs : c.size = n) (hc : ∀ i, i < n → c[i]? = some (f i)) : c = rowV n f := by
  apply Array.ext_getElem?
  intro i
  by_cases h : i < n
  · rw [hc i h, rowV_get n f i h]
  · rw [Array.getElem?_eq_none (by omega), Array.getElem?_eq_none (by rw [rowV_size]; omega)]
theorem rowV_congr {n : Nat} {f g : Nat → Value} (h : ∀ i, i < n → f i = g i) : rowV n f = rowV n g :=
  rowV_eq (rowV_size _ _) fun i hi => by rw [rowV_get _ _ _ hi, h i hi]
theorem rowV_inj {n : Nat} {f g : Nat → Value} (h : rowV n f = rowV n g) (i : Nat) (hi : i < n) : f i = g i := by
  have := rowV_get n f i hi
  rw [h, rowV_get n g i hi] at this
  exact (Option.some.inj this).symm

theorem rowIs_block {w : World} {b : Nat} {t : TypeId} {n : Nat} {f : Nat → Value} (h : w.rowIs b t n f) : w.heap[b]? = some (.cells (rowV n f) t (0, 0)) := by
  obtain ⟨c, hb, hs, hc⟩ := h
  rw [hb, rowV_eq hs hc]
theorem rowIs_of_block {w : World} {b : Nat} {t : TypeId} {n : Nat} {f : Nat → Value} (h : w.heap[b]? = some (.cells (rowV n f) t (0, 0))) : w.rowIs b t n f :=
  ⟨_, h, rowV_size _ _, fun i hi => rowV_get n f i hi⟩
/-- A new block whose cells are written out. -/
theorem rowIs_new (w : World) (c : Array Value) (t : TypeId) (n : Nat) (f : Nat → Value) (hs : c.size = n) (hc : ∀ i, i < n → c[i]? = some (f i)) : (w.alloc (.cells c t)).rowIs w.heap.size t n f := by
  subst hs; exact World.rowIs_alloc w c t f hc

/-- A new block of n like cells. -/
theorem rowIs_zero (w : World) (c : Array Value) (t : TypeId) (n : Nat) (z : Value) (hc : c = Array.replicate n z) : (w.alloc (.cells c t)).rowIs w.heap.size t n (fun _ => z) := by
  subst hc
  exact rowIs_new w _ t n _ (by simp) fun i hi => by simp [hi]
/-- A new block that is a row by the index. -/
theorem rowIs_box (w : World) (t : TypeId) (n : Nat) (f : Nat → Value) : (w.alloc (.cells (rowV n f) t)).rowIs w.heap.size t n f := rowIs_new w _ t n f (rowV_size _ _) fun i hi => rowV_get n f i hi

theorem size_setCells (b : Nat) : ∀ (vs : List Value) (o : Nat) (w : World), (w.setCells b o vs).heap.size = w.heap.size
  | [], _, _ => rfl
  | v :: r, o, w => by rw [World.setCells, size_setCells b r (o + 1)]; exact nblk_setCell _ _ _
theorem below_setCells {B : Nat} (b : Nat) (hb : B ≤ b) : ∀ (vs : List Value) (o : Nat) {a w : World}, Below B a w → Below B a (w.setCells b o vs)
  | [], _, _, _, h => h
  | v :: r, o, _, _, h => by rw [World.setCells]; exact below_setCells b hb r (o + 1) (h.setCell hb v)
theorem rowIs_setCells_other {b b' : Nat} {t : TypeId} {n : Nat} {f : Nat → Value} (hne : b' ≠ b) : ∀ (vs : List Value) (o : Nat) {w : World}, w.rowIs b' t n f → (w.setCells b o vs).rowIs b' t n f
  | [], _, _, h => h
  | v :: r, o, _, h => by rw [World.setCells]; exact rowIs_setCells_other hne r (o + 1) (h.setOther hne v)
theorem rowIs_setCells {b : Nat} {t : TypeId} {n : Nat} : ∀ (vs : List Value) (o : Nat) {w : World} {f : Nat → Value}, w.rowIs b t n f → (w.setCells b o vs).rowIs b t n (fun j => if o ≤ j ∧ j < o + vs.length then vs.getD (j - o) undef else f j)
  | [], o, w, f, h => h.congr fun i _ => by rw [if_neg (by simp)]
  | v :: r, o, w, f, h => by
    rw [World.setCells]
    refine (rowIs_setCells r (o + 1) (h.set o v)).congr fun i _ => ?_
    simp only [List.length_cons]
    by_cases h1 : o + 1 ≤ i ∧ i < o + 1 + r.length
    · rw [if_pos h1, if_pos (by omega)]
      obtain ⟨m, rfl⟩ : ∃ m, i = o + 1 + m := ⟨i - (o + 1), by omega⟩
      rw [show o + 1 + m - (o + 1) = m by omega, show o + 1 + m - o = m + 1 by omega, List.getD_cons_succ]
    · rw [if_neg h1]
      by_cases h2 : i = o
      · subst h2; rw [if_pos rfl, if_pos (by omega)]; simp
      · rw [if_neg h2, if_neg (by omega)]
/-- A row stored into a row. -/
theorem rowIs_splice {b o m : Nat} {t : TypeId} {n : Nat} {f g : Nat → Value} {w : World} (h : w.rowIs b t n f) : (w.setCells b o (rowV m g).toList).rowIs b t n (fun j => if o ≤ j ∧ j < o + m then g (j - o) else f j) := by
  refine (rowIs_setCells (rowV m g).toList o h).congr fun i _ => ?_
  simp only [Array.length_toList, rowV_size]
  by_cases h1 : o ≤ i ∧ i < o + m
  · rw [if_pos h1, if_pos h1, List.getD_eq_getElem?_getD, Array.getElem?_toList, rowV_get _ _ _ (by omega)]; rfl
  · rw [if_neg h1, if_neg h1]

theorem there_of_row {w : World} {b o m : Nat} {t : TypeId} {n : Nat} {f : Nat → Value} (h : w.rowIs b t n f) (hm : o + m ≤ n) : w.there b o m := fun j hj => ⟨by rw [h.cell (by omega)]; rfl, h.frozen _⟩
theorem range_of_cells {w : World} {b o m : Nat} {g : Nat → Value} (hc : ∀ i, i < m → w.cell? ⟨b, o + i, none⟩ = some (g i)) : w.rangeAt b o (rowV m g).toList := fun j v hv => by
  rw [Array.getElem?_toList] at hv
  by_cases h : j < m
  · rw [rowV_get _ _ _ h] at hv; rw [hc j h, ← hv]
  · rw [Array.getElem?_eq_none (by rw [rowV_size]; omega)] at hv; cases hv

end Go.Proofs.YtknglaiobbmoaaaDoor
namespace Go.RowKit
theorem Below.drewN {B : Nat} {a w : World} (h : Below B a w) (n : Nat) : Below B a (w.drewN n) := ⟨h.os, h.tape, h.output, h.size, h.block⟩
theorem Below.row {B : Nat} {w w' : World} (h : Below B w w') {k : Nat} {t : TypeId} {n : Nat} {f : Nat → Value} (hr : w.rowIs k t n f) (hk : k < B) : w'.rowIs k t n f := hr.of_block (h.block k hk)
end Go.RowKit
namespace Go
theorem World.rowIs.drewN {w : World} {b : Nat} {t : TypeId} {n : Nat} {f : Nat → Value} (h : w.rowIs b t n f) (k : Nat) : (w.drewN k).rowIs b t n f := h
end Go
namespace Go.Proofs.YtknglaiobbmoaaaDoor
open Go.RowKit Go.Deep
/-- NOTHING BELOW B HAS TURNED BUT BLOCK b. -/
structure But (B b : Nat) (w w' : World) : Prop where
  os : w'.os = w.os
  tape : w'.tape = w.tape
  output : w'.output = w.output
  size : w.heap.size ≤ w'.heap.size
  block : ∀ k, k < B → k ≠ b → w'.heap[k]? = w.heap[k]?
namespace But
variable {B b : Nat} {w w' w'' : World}
theorem refl (B b : Nat) (w : World) : But B b w w := ⟨rfl, rfl, rfl, Nat.le_refl _, fun _ _ _ => rfl⟩
theorem trans (h : But B b w w') (k : But B b w' w'') : But B b w w'' :=
  ⟨k.os.trans h.os, k.tape.trans h.tape, k.output.trans h.output, Nat.le_trans h.size k.size, fun i hi hb => (k.block i hi hb).trans (h.block i hi hb)⟩
theorem mono {B' : Nat} (h : But B b w w') (hB : B' ≤ B) : But B' b w w' := ⟨h.os, h.tape, h.output, h.size, fun i hi hb => h.block i (Nat.lt_of_lt_of_le hi hB) hb⟩
theorem of_below (h : Below B w w') (b : Nat) : But B b w w' := ⟨h.os, h.tape, h.output, h.size, fun i hi _ => h.block i hi⟩
theorem below (h : But B b w w') (hb : B ≤ b) : Below B w w' := ⟨h.os, h.tape, h.output, h.size, fun i hi => h.block i hi (by omega)⟩
theorem drew (h : But B b w w') : But B b w w'.drew := ⟨h.os, h.tape, h.output, h.size, h.block⟩
theorem drewN (h : But B b w w') (n : Nat) : But B b w (w'.drewN n) := ⟨h.os, h.tape, h.output, h.size, h.block⟩
theorem alloc (h : But B b w w') (hB : B ≤ w'.heap.size) (o : Obj) : But B b w (w'.alloc o) := h.trans (of_below ((Below.refl B w').alloc hB o) b)
theorem set (h : But B b w w') (i : Nat) (v : Value) : But B b w (w'.setCell ⟨b, i, none⟩ v) :=
  ⟨h.os, h.tape, h.output, by rw [nblk_setCell]; exact h.size, fun k hk hb => (blk_setCell_other _ _ _ _ hb).trans (h.block k hk hb)⟩
theorem setNew (h : But B b w w') {p : Addr} (hp : B ≤ p.block) (v : Value) : But B b w (w'.setCell p v) := h.trans (of_below ((Below.refl B w').setCell hp v) b)
theorem cell (h : But B b w w') {k i : Nat} (hk : k < B) (hb : k ≠ b) : w'.cell? ⟨k, i, none⟩ = w.cell? ⟨k, i, none⟩ := World.cell?_of_block (w := w) (h.block k hk hb)
theorem frozen (h : But B b w w') {k i : Nat} (hk : k < B) (hb : k ≠ b) : w'.frozen? ⟨k, i, none⟩ = w.frozen? ⟨k, i, none⟩ := World.frozen?_of_block (w := w) (h.block k hk hb)
theorem row (h : But B b w w') {k : Nat} {t : TypeId} {n : Nat} {f : Nat → Value} (hr : w.rowIs k t n f) (hk : k < B) (hb : k ≠ b) : w'.rowIs k t n f := hr.of_block (h.block k hk hb)
end But
theorem but_setCells {B b : Nat} : ∀ (vs : List Value) (o : Nat) {a w : World}, But B b a w → But B b a (w.setCells b o vs)
  | [], _, _, _, h => h
  | v :: r, o, _, _, h => by rw [World.setCells]; exact but_setCells r (o + 1) (h.set o v)

/-- A cell beside the one that was stored into. -/
theorem cell_keep {w : World} {n b i j : Nat} {v u : Value} (h : i ≠ j) (hc : w.cell? ⟨b, j, none⟩ = some u) : ((w.drewN n).setCell ⟨b, i, none⟩ v).cell? ⟨b, j, none⟩ = some u := by
  rw [World.cell?_setCell_other]
  · exact hc
  · intro e; injection e; contradiction

section
variable {P : Program}
/-- A LOAD OF A WHOLE ARRAY OR STRUCT, out of wherever its cells lie. -/
theorem wpList_load_seg {ops : Array Oper} {rest : List Oper} {op : Oper} {a : Act} {w : World} {Q : Exit → Act → World → Prop} (hgd : op.guard = none) (ty : TypeId) (x : Operand) (ho : op.op = .load ty x)
    (b o m : Nat) (g : Nat → Value) (hx : a.eval x = .pointer (some ⟨b, o, none⟩)) (d : TypeDesc) (hu : P.underlying ty = some d) (hd : d.isRow = true) (hi : (P.info? ty).map (·.size) = some m)
    (hc : ∀ i, i < m → w.cell? ⟨b, o + i, none⟩ = some (g i))
    (h : wpList P ops Q rest (a.put op.dst (.agg (rowV m g))) w) : wpList P ops Q (op :: rest) a w := by
  refine wpList_load_mid hgd ty x ho b o hx (rowV m g).toList d (range_of_cells hc) hu hd ?_ ?_
  · rw [hi, Array.length_toList, rowV_size]
  · rw [Array.toArray_toList]; exact h
/-- A STORE OF A WHOLE ARRAY OR STRUCT INTO A ROW. -/
theorem wpList_store_seg {ops : Array Oper} {rest : List Oper} {op : Oper} {a : Act} {w : World} {Q : Exit → Act → World → Prop} (hgd : op.guard = none) (ty : TypeId) (x y : Operand) (ho : op.op = .store ty x y)
    (b o m : Nat) (g : Nat → Value) (hx : a.eval x = .pointer (some ⟨b, o, none⟩)) (hy : a.eval y = .agg (rowV m g)) (hi : (P.info? ty).map (·.size) = some m) (h1 : ∀ i, i < m → (g i).oneCell' = true)
    (ht : w.there b o m)
    (h : wpList P ops Q rest (a.put op.dst undef) (w.setCells b o (rowV m g).toList)) : wpList P ops Q (op :: rest) a w := by
  refine wpList_store_mid hgd ty x y ho b o (rowV m g) hx hy (by rw [rowV_size]; exact ht) (by rw [hi, rowV_size]) ?_ h
  rw [Array.all_eq_true_iff_forall_mem]
  intro v hv
  obtain ⟨i, hi', rfl⟩ := Array.mem_iff_getElem.1 hv
  have hlt : i < m := by rw [rowV_size] at hi'; exact hi'
  have := rowV_get m g i hlt
  rw [Array.getElem?_eq_getElem hi'] at this
  rw [Option.some.inj this]; exact h1 i hlt
/-- THE SAME, the world behind it under a name. -/
theorem wpList_store_row {ops : Array Oper} {rest : List Oper} {op : Oper} {a : Act} {w : World} {Q : Exit → Act → World → Prop} (hgd : op.guard = none) (ty : TypeId) (x y : Operand) (ho : op.op = .store ty x y) (hdst : op.dst = none)
    (b o m : Nat) (g : Nat → Value) (hx : a.eval x = .pointer (some ⟨b, o, none⟩)) (hy : a.eval y = .agg (rowV m g)) (hi : (P.info? ty).map (·.size) = some m) (h1 : ∀ i, i < m → (g i).oneCell' = true)
    (t n : Nat) (f : Nat → Value) (hr : w.rowIs b t n f) (hm : o + m ≤ n)
    (h : ∀ w', w'.rowIs b t n (fun j => if o ≤ j ∧ j < o + m then g (j - o) else f j) → w'.heap.size = w.heap.size → But w.heap.size b w w' → wpList P ops Q rest a w') : wpList P ops Q (op :: rest) a w := by
  refine wpList_store_seg hgd ty x y ho b o m g hx hy hi h1 (there_of_row hr hm) ?_
  rw [hdst]
  exact h _ (rowIs_splice hr) (size_setCells _ _ _ _) (but_setCells _ _ (But.refl _ _ _))
/-- An array's element by an index that is a letter. -/
theorem run_index_agg (w : World) (t e : TypeId) (n : Nat) (cs : Array Value) (k : Nat) (v : Value) (h : P.underlying t = some (.array n e)) (he : (match P.underlying e with | some (.struct _) => false | some (.array _ _) => false | some _ => true | none => false) = true) (hi : (P.info? e).map (·.size) = some 1) (hk : k < n) (hv : cs[k]? = some v) :
    (Instr.index t (.agg cs) (.int .i64 k)).run P w = .ok v w := by
  cases hq : P.info? e with
  | none => simp [hq] at hi
  | some i =>
    have hs : i.size = 1 := by simpa [hq] using hi
    have hagg : (isAgg e).run P w = .ok false w := by
      unfold isAgg
      cases hd : P.underlying e with
      | none => simp [hd] at he
      | some d =>
        rw [Sem.run_bind, run_underlying hd w]
        rw [hd] at he
        cases d <;> simp_all
    have h1 : (0 : Int) ≤ (k : Int) ∧ (k : Int) < n := by omega
    simp [Instr.index, Sem.run_bind, asIntOf, run_underlying h w, h1, sizeOf, typeInfo, hq, hs, part, hagg, hv]
    intro hk2; omega
/-- A RESULT THAT LIES IN MEMORY. -/
theorem results_cell_seg {fn : Func} {p : Tmp} {ty : TypeId} (h : fn.results = #[.cell p ty]) (tmps : Array Value) (w : World) (g : Nat) (t : TypeId) (n : Nat) (f : Nat → Value) (d : TypeDesc)
    (hp : tmps.getD p undef = .pointer (some ⟨g, 0, none⟩)) (hu : P.underlying ty = some d) (hd : (match d with | .struct _ | .array _ _ => true | _ => false) = true) (hi : (P.info? ty).map (·.size) = some n)
    (hg : w.rowIs g t n f) : (results fn tmps).run P w = .ok (.agg (rowV n f)) w :=
  results_cell_row h tmps w g t (rowV n f) (0, 0) d hp (rowIs_block hg) hu hd (by rw [hi, rowV_size])
end
end Go.Proofs.YtknglaiobbmoaaaDoor

/- SHA-256 as plain functions of integers, in the forms in which the walks give them. -/
namespace Go.Proofs.YtknglaiobbmoaaaDoor
open Go.RowKit

/-- A word turned to the right, as the walk of bits.RotateLeft32 gives it. -/
def rotI (x : Int) (n : Nat) : Int := bits .or .u32 (x * 2 ^ (32 - n) % 4294967296) (x / 2 ^ n)

/-- the word k of a block, of its bytes. -/
def wFirst (f : Nat → Int) (k : Nat) : Int :=
  bits .or .u32 (bits .or .u32 (bits .or .u32 (f (4 * k) % 4294967296 * 16777216 % 4294967296) (f (4 * k + 1) % 4294967296 * 65536 % 4294967296)) (f (4 * k + 2) % 4294967296 * 256 % 4294967296)) (f (4 * k + 3) % 4294967296)
/-- the word behind those that are there. -/
def wNext (l : List Int) (k : Nat) : Int :=
  let p := l.getD (k - 15) 0
  let q := l.getD (k - 2) 0
  let s := bits .xor .u32 (bits .xor .u32 (rotI p 7) (rotI p 18)) (p / 8)
  let t := bits .xor .u32 (bits .xor .u32 (rotI q 17) (rotI q 19)) (q / 1024)
  (((l.getD (k - 16) 0 + s) % 4294967296 + l.getD (k - 7) 0) % 4294967296 + t) % 4294967296
/-- the first k words of a block's 64. -/
def wTo (f : Nat → Int) : Nat → List Int
  | 0 => []
  | k + 1 => wTo f k ++ [if k < 16 then wFirst f k else wNext (wTo f k) k]
theorem wTo_length (f : Nat → Int) (k : Nat) : (wTo f k).length = k := by
  induction k with
  | zero => rfl
  | succ k ih => simp [wTo, ih]
/-- the word j of those k; nought beyond them. -/
def wAt (f : Nat → Int) (k j : Nat) : Int := (wTo f k).getD j 0
theorem wAt_zero (f : Nat → Int) (j : Nat) : wAt f 0 j = 0 := rfl
theorem wAt_succ (f : Nat → Int) (k j : Nat) : wAt f (k + 1) j = if j = k then (if k < 16 then wFirst f k else wNext (wTo f k) k) else wAt f k j := by
  have hl := wTo_length f k
  rw [wAt, wAt, wTo, List.getD_eq_getElem?_getD, List.getD_eq_getElem?_getD, List.getElem?_append, hl]
  by_cases h1 : j < k
  · rw [if_pos h1, if_neg (by omega)]
  · rw [if_neg h1]
    by_cases h2 : j = k
    · subst h2; simp
    · rw [if_neg h2, List.getElem?_eq_none (by simp; omega), List.getElem?_eq_none (by omega)]
theorem wNext_at (f : Nat → Int) (k : Nat) : wNext (wTo f k) k = (((wAt f k (k - 16) + bits .xor .u32 (bits .xor .u32 (rotI (wAt f k (k - 15)) 7) (rotI (wAt f k (k - 15)) 18)) (wAt f k (k - 15) / 8)) % 4294967296 + wAt f k (k - 7)) % 4294967296 + bits .xor .u32 (bits .xor .u32 (rotI (wAt f k (k - 2)) 17) (rotI (wAt f k (k - 2)) 19)) (wAt f k (k - 2) / 1024)) % 4294967296 := rfl

/-- the eight words a to h. -/
structure S8 where
  a : Int
  b : Int
  c : Int
  d : Int
  e : Int
  f : Int
  g : Int
  h : Int
/-- the rounds' constants. -/
def kList : List Int := [1116352408, 1899447441, 3049323471, 3921009573, 961987163, 1508970993, 2453635748, 2870763221, 3624381080, 310598401, 607225278, 1426881987, 1925078388, 2162078206, 2614888103, 3248222580, 3835390401, 4022224774, 264347078, 604807628, 770255983, 1249150122, 1555081692, 1996064986, 2554220882, 2821834349, 2952996808, 3210313671, 3336571891, 3584528711, 113926993, 338241895, 666307205, 773529912, 1294757372, 1396182291, 1695183700, 1986661051, 2177026350, 2456956037, 2730485921, 2820302411, 3259730800, 3345764771, 3516065817, 3600352804, 4094571909, 275423344, 430227734, 506948616, 659060556, 883997877, 958139571, 1322822218, 1537002063, 1747873779, 1955562222, 2024104815, 2227730452, 2361852424, 2428436474, 2756734187, 3204031479, 3329325298]
def kAt (i : Nat) : Int := kList.getD i 0
def notI (x : Int) : Int := bits .xor .u32 (if IntKind.u32.signed = true then -1 else IntKind.u32.max) x
def rndT (s : S8) (k w : Int) : Int :=
  (s.h + bits .xor .u32 (bits .xor .u32 (rotI s.e 6) (rotI s.e 11)) (rotI s.e 25) + bits .xor .u32 (bits .and .u32 s.e s.f) (bits .and .u32 (notI s.e) s.g) + k + w) % 4294967296
def rndU (s : S8) : Int :=
  (bits .xor .u32 (bits .xor .u32 (rotI s.a 2) (rotI s.a 13)) (rotI s.a 22) + bits .xor .u32 (bits .xor .u32 (bits .and .u32 s.a s.b) (bits .and .u32 s.a s.c)) (bits .and .u32 s.b s.c)) % 4294967296
def rnd (s : S8) (k w : Int) : S8 := ⟨(rndT s k w + rndU s) % 4294967296, s.a, s.b, s.c, (s.d + rndT s k w) % 4294967296, s.e, s.f, s.g⟩
/-- behind k rounds over a block's words. -/
def rndTo (w : Nat → Int) (s : S8) : Nat → S8
  | 0 => s
  | k + 1 => rnd (rndTo w s k) (kAt k) (w k)
/-- eight words as a function of the place. -/
def S8.at (s : S8) : Nat → Int
  | 0 => s.a
  | 1 => s.b
  | 2 => s.c
  | 3 => s.d
  | 4 => s.e
  | 5 => s.f
  | 6 => s.g
  | _ => s.h
theorem S8.get (s : S8) (k : Nat) (h : k < 8) : (#[Value.int .u32 s.a, .int .u32 s.b, .int .u32 s.c, .int .u32 s.d, .int .u32 s.e, .int .u32 s.f, .int .u32 s.g, .int .u32 s.h] : Array Value)[k]? = some (.int .u32 (s.at k)) := by
  match k, h with
  | 0, _ => rfl
  | 1, _ => rfl
  | 2, _ => rfl
  | 3, _ => rfl
  | 4, _ => rfl
  | 5, _ => rfl
  | 6, _ => rfl
  | 7, _ => rfl
/-- the first eight words. -/
def firstI : S8 := ⟨1779033703, 3144134277, 1013904242, 2773480762, 1359893119, 2600822924, 528734635, 1541459225⟩
/-- the byte i of a sum. -/
def sumByte (v : Nat → Int) (i : Nat) : Int := v (i / 4) / 2 ^ (24 - 8 * (i % 4)) % 256
/-- eight words behind one more block. -/
def takeI (v : Nat → Int) (f : Nat → Int) (i : Nat) : Int := (v i + (rndTo (wAt f 64) ⟨v 0, v 1, v 2, v 3, v 4, v 5, v 6, v 7⟩ 64).at i) % 4294967296
end Go.Proofs.YtknglaiobbmoaaaDoor

namespace Go.Proofs.YtknglaiobbmoaaaDoor
open Go.RowKit

set_option maxHeartbeats 400000 in
theorem rotl_any (x n m : Int) (hb : bits .and .u64 (IntKind.u64.wrap (-n)) 31 = m) (h0 : 0 ≤ m) (h1 : m ≤ 31) (w : World) :
    Calls Tryd.prog 22 #[.int .u32 x, .int .i64 (-n)] w fun e w' => e = .returned (.int .u32 (bits BinOp.or IntKind.u32 (x * 2 ^ m.toNat % 4294967296) (x / 2 ^ (32 - m).toNat))) ∧ w' = w := by
  go_enter Tryd.func22, Tryd.ntmps22
  go_wp2
  go_ret
  exact ⟨rfl, rfl⟩

theorem turn_bits : ∀ n : Nat, 0 < n → n < 32 → bits .and .u64 (IntKind.u64.wrap (-(n : Int))) 31 = ((32 - n : Nat) : Int) := by
  have h : ∀ n : Fin 32, 0 < n.val → bits .and .u64 (IntKind.u64.wrap (-(n.val : Int))) 31 = ((32 - n.val : Nat) : Int) := by decide +kernel
  intro n h0 h1
  exact h ⟨n, h1⟩ h0

set_option maxHeartbeats 400000 in
theorem turn_nat (x : Int) (n : Nat) (h0 : 0 < n) (h1 : n < 32) (w : World) :
    Calls Tryd.prog 20 #[.int .u32 x, .int .i64 n] w fun e w' => e = .returned (.int .u32 (rotI x n)) ∧ w' = w := by
  have key := rotl_any x n _ (turn_bits n h0 h1) (by omega) (by omega)
  go_enter Tryd.func20, Tryd.ntmps20
  go_wp2_with fail
  refine (key _).mono ?_
  rintro e w' ⟨rfl, rfl⟩
  clear key
  go_wp2
  go_ret
  refine ⟨?_, rfl⟩
  have e3 : 32 - (32 - n) = n := by omega
  simp [rotI, e3]

/-- turn(x, n), for each n from 1 to 31. -/
theorem turn_any (x : Int) (n : Int) (h0 : 0 < n) (h1 : n < 32) (w : World) :
    Calls Tryd.prog 20 #[.int .u32 x, .int .i64 n] w fun e w' => e = .returned (.int .u32 (rotI x n.toNat)) ∧ w' = w := by
  obtain ⟨m, rfl⟩ := Int.eq_ofNat_of_zero_le (show 0 ≤ n by omega)
  rw [Int.toNat_natCast]
  exact turn_nat x m (by omega) (by omega) w
end Go.Proofs.YtknglaiobbmoaaaDoor

namespace Go.Proofs.YtknglaiobbmoaaaDoor
open Go.RowKit Go.Deep

set_option maxHeartbeats 1000000 in
set_option maxRecDepth 100000 in
theorem spread_any (f : Nat → Int) (w : World) :
    Calls Tryd.prog 19 #[.agg (rowV 64 fun i => .int .u8 (f i))] w fun e w' => e = .returned (.agg (rowV 64 fun i => .int .u32 (wAt f 64 i))) ∧ Below w.heap.size w w' := by
  go_enter Tryd.func19, Tryd.ntmps19
  go_wp2
  go_loopw [8] (fun i wr => ∃ k : Nat, k ≤ 16 ∧ i = .int .i64 k ∧ Below w.heap.size w wr ∧ wr.heap.size = w.heap.size + 3 ∧ wr.rowIs w.heap.size 35 64 (fun i => .int .u8 (f i)) ∧ wr.rowIs (w.heap.size + 1) 49 64 (fun _ => .int .u32 0) ∧ wr.rowIs (w.heap.size + 1 + 1) 49 64 (fun i => .int .u32 (wAt f k i))) (fun i _ => 16 - (intOf i).toNat)
  case atStart =>
    refine ⟨0, by omega, rfl, (((Below.refl _ _).alloc (Nat.le_refl _) _).alloc (by simp) _).alloc (by simp; omega) _, by simp, ?_, ?_, ?_⟩
    · exact ((rowIs_box w 35 64 _).alloc _).alloc _
    · have := rowIs_zero (w.alloc (.cells (rowV 64 fun i => .int .u8 (f i)) 35)) _ 49 64 (.int .u32 0) rfl
      simp only [nblk_alloc] at this
      exact this.alloc _
    · have := rowIs_zero ((w.alloc (.cells (rowV 64 fun i => .int .u8 (f i)) 35)).alloc (.cells (Array.replicate 64 (.int .u32 0)) 49)) _ 49 64 (.int .u32 0) rfl
      simp only [nblk_alloc] at this
      exact this
  case round =>
    obtain ⟨k, hk, rfl, hb, hz, r0, r1, r2⟩ := hrel
    by_cases hlt : k < 16
    · have t0 : (4 * (k : Int)).toNat = 4 * k := by omega
      have t1 : (4 * (k : Int) + 1).toNat = 4 * k + 1 := by omega
      have t2 : (4 * (k : Int) + 2).toNat = 4 * k + 2 := by omega
      have t3 : (4 * (k : Int) + 3).toNat = 4 * k + 3 := by omega
      have c0 := r0.cell (i := 4 * k) (by omega)
      have c1 := r0.cell (i := 4 * k + 1) (by omega)
      have c2 := r0.cell (i := 4 * k + 2) (by omega)
      have c3 := r0.cell (i := 4 * k + 3) (by omega)
      rw [← t0] at c0
      rw [← t1] at c1
      rw [← t2] at c2
      rw [← t3] at c3
      clear t0 t1 t2 t3
      have c4 := r2.cell (i := k) (by omega)
      have z4 := r2.frozen k
      have b0 : (0 : Int) ≤ (k : Int) := by omega
      have b1 : (k : Int) < 16 := by omega
      have hne : w.heap.size + 1 + 1 ≠ w.heap.size := by omega
      have bk : (k : Int) < 64 := by omega
      have b2 : (0 : Int) ≤ 4 * (k : Int) := by omega
      have b3 : 4 * (k : Int) < 64 := by omega
      have b4 : 4 * (k : Int) + 1 < 64 := by omega
      have b5 : 4 * (k : Int) + 2 < 64 := by omega
      have b6 : 4 * (k : Int) + 3 < 64 := by omega
      have b7 : (0 : Int) ≤ 4 * (k : Int) + 1 := by omega
      have b8 : (0 : Int) ≤ 4 * (k : Int) + 2 := by omega
      have b9 : (0 : Int) ≤ 4 * (k : Int) + 3 := by omega
      have e0 : IntKind.i64.wrap (4 * (k : Int)) = 4 * (k : Int) := IntWalk.i64_in _ (by omega)
      have e1 : IntKind.i64.wrap (4 * (k : Int) + 1) = 4 * (k : Int) + 1 := IntWalk.i64_in _ (by omega)
      have e2 : IntKind.i64.wrap (4 * (k : Int) + 2) = 4 * (k : Int) + 2 := IntWalk.i64_in _ (by omega)
      have e3 : IntKind.i64.wrap (4 * (k : Int) + 3) = 4 * (k : Int) + 3 := IntWalk.i64_in _ (by omega)
      go_wp2
      go_region_held3 (fun w' => w'.cell? ⟨w.heap.size, (4 * (k : Int)).toNat, none⟩ = some (.int .u8 (f (4 * (k : Int)).toNat)) ∧ w'.cell? ⟨w.heap.size, (4 * (k : Int) + 1).toNat, none⟩ = some (.int .u8 (f (4 * (k : Int) + 1).toNat)) ∧ w'.cell? ⟨w.heap.size, (4 * (k : Int) + 2).toNat, none⟩ = some (.int .u8 (f (4 * (k : Int) + 2).toNat)) ∧ w'.cell? ⟨w.heap.size, (4 * (k : Int) + 3).toNat, none⟩ = some (.int .u8 (f (4 * (k : Int) + 3).toNat))) (go_keep) (fail)
      go_wp2
      go_light
      refine ⟨⟨k + 1, by omega, by go_num, (hb.setCell (by simp; omega) _).drew, by simpa using hz, (r0.setOther (by simp; omega) _).drew, (r1.setOther (by simp) _).drew, ((r2.set k _).drew).congr fun i hi => ?_⟩, by simp [intOf]; omega⟩
      rw [wAt_succ]
      by_cases e : i = k
      · rw [if_pos e, if_pos e, if_pos hlt]; rfl
      · rw [if_neg e, if_neg e]
    · obtain rfl : k = 16 := by omega
      clear hlt hk
      go_wp2
      go_loopw [5] (fun i wr => ∃ k : Nat, 16 ≤ k ∧ k ≤ 64 ∧ i = .int .i64 k ∧ Below w.heap.size w wr ∧ wr.heap.size = w.heap.size + 3 ∧ wr.rowIs (w.heap.size + 1) 49 64 (fun _ => .int .u32 0) ∧ wr.rowIs (w.heap.size + 1 + 1) 49 64 (fun i => .int .u32 (wAt f k i))) (fun i _ => 64 - (intOf i).toNat)
      case atStart =>
        exact ⟨16, by omega, by omega, rfl, hb, hz, r1, r2⟩
      case round =>
        clear hb hz r0 r1 r2
        obtain ⟨k, hk0, hk, rfl, hb, hz, r1, r2⟩ := hrel
        by_cases hlt : k < 64
        · have c0 : wr.cell? ⟨w.heap.size + 1 + 1, ((k : Int) - 15).toNat, none⟩ = some (.int .u32 (wAt f k (k - 15))) := by
            rw [show ((k : Int) - 15).toNat = k - 15 by omega]; exact r2.cell (by omega)
          have c1 : wr.cell? ⟨w.heap.size + 1 + 1, ((k : Int) - 2).toNat, none⟩ = some (.int .u32 (wAt f k (k - 2))) := by
            rw [show ((k : Int) - 2).toNat = k - 2 by omega]; exact r2.cell (by omega)
          have c2 : wr.cell? ⟨w.heap.size + 1 + 1, ((k : Int) - 16).toNat, none⟩ = some (.int .u32 (wAt f k (k - 16))) := by
            rw [show ((k : Int) - 16).toNat = k - 16 by omega]; exact r2.cell (by omega)
          have c3 : wr.cell? ⟨w.heap.size + 1 + 1, ((k : Int) - 7).toNat, none⟩ = some (.int .u32 (wAt f k (k - 7))) := by
            rw [show ((k : Int) - 7).toNat = k - 7 by omega]; exact r2.cell (by omega)
          have d0 := r2.cell (i := k - 15) (by omega)
          have d1 := r2.cell (i := k - 2) (by omega)
          have c4 := r2.cell (i := k) (by omega)
          have z4 := r2.frozen k
          have b0 : (0 : Int) ≤ (k : Int) := by omega
          have b1 : (k : Int) < 64 := by omega
          have b2 : (0 : Int) ≤ (k : Int) - 15 := by omega
          have b3 : (0 : Int) ≤ (k : Int) - 2 := by omega
          have b4 : (0 : Int) ≤ (k : Int) - 16 := by omega
          have b5 : (0 : Int) ≤ (k : Int) - 7 := by omega
          have b6 : (k : Int) - 15 < 64 := by omega
          have b7 : (k : Int) - 2 < 64 := by omega
          have b8 : (k : Int) - 16 < 64 := by omega
          have b9 : (k : Int) - 7 < 64 := by omega
          have n16 : k ≠ ((k : Int) - 16).toNat := by omega
          have n7 : k ≠ ((k : Int) - 7).toNat := by omega
          have g0 : (2 : Int) ≤ (k : Int) := by omega
          have g1 : (7 : Int) ≤ (k : Int) := by omega
          have g2 : (15 : Int) ≤ (k : Int) := by omega
          have g3 : (16 : Int) ≤ (k : Int) := by omega
          have g4 : (k : Int) < 66 := by omega
          have g5 : (k : Int) < 79 := by omega
          have e0 : IntKind.i64.wrap ((k : Int) - 15) = (k : Int) - 15 := IntWalk.i64_in _ (by omega)
          have e1 : IntKind.i64.wrap ((k : Int) - 2) = (k : Int) - 2 := IntWalk.i64_in _ (by omega)
          have e2 : IntKind.i64.wrap ((k : Int) - 16) = (k : Int) - 16 := IntWalk.i64_in _ (by omega)
          have e3 : IntKind.i64.wrap ((k : Int) - 7) = (k : Int) - 7 := IntWalk.i64_in _ (by omega)
          go_wp2
          go_quiet ((go_at_call 20; exact Calls.quiet_of_same (turn_any _ _ (by decide) (by decide) _)))
          go_wp2
          go_region_held3 (fun w' => w'.cell? ⟨w.heap.size + 1 + 1, ((k : Int) - 2).toNat, none⟩ = some (.int .u32 (wAt f k (k - 2)))) (go_keep) (first | (go_at_call 20; refine (turn_any _ _ (by decide) (by decide) _).mono ?_; rintro e w' ⟨rfl, rfl⟩))
          go_wp2
          go_region_held3 (fun w' => w'.cell? ⟨w.heap.size + 1 + 1, ((k : Int) - 16).toNat, none⟩ = some (.int .u32 (wAt f k (k - 16))) ∧ w'.cell? ⟨w.heap.size + 1 + 1, ((k : Int) - 7).toNat, none⟩ = some (.int .u32 (wAt f k (k - 7)))) (first | exact ⟨cell_keep n16 c2, cell_keep n7 c3⟩ | go_keep) (fail)
          go_wp2
          go_roundw
          case rel =>
            (repeat apply Exists.intro)
            refine ⟨?_, rfl⟩
            go_light
            refine ⟨k + 1, by omega, by omega, by go_num, (hb.drewN _).setCell (by simp; omega) _, by simpa using hz, (r1.drewN _).setOther (by simp) _, ((r2.drewN _).set k _).congr fun i hi => ?_⟩
            rw [wAt_succ]
            by_cases e : i = k
            · rw [if_pos e, if_pos e, if_neg (by omega), wNext_at]
            · rw [if_neg e, if_neg e]
          case measure => simp [intOf]; omega
        · obtain rfl : k = 64 := by omega
          clear hlt hk hk0
          have hi : (Tryd.prog.info? 49).map (·.size) = some 64 := by kernel_rfl
          go_wp2_with (first | (refine wpList_load_seg rfl 49 _ rfl (w.heap.size + 1 + 1) 0 64 _ rfl _ Tryd.underlying49 rfl hi (fun i hi => by rw [Nat.zero_add]; exact r2.cell hi) ?_) | (refine wpList_store_seg rfl 49 _ _ rfl (w.heap.size + 1) 0 64 _ rfl rfl hi (fun _ _ => rfl) (there_of_row r1 (by omega)) ?_))
          refine bodyPost_ret (v := .agg (rowV 64 fun i => .int .u32 (wAt f 64 i))) (results_cell_seg rfl _ _ (w.heap.size + 1) 49 64 _ _ rfl Tryd.underlying49 rfl hi ((rowIs_splice r1).congr fun i hi => ?_)) rfl ⟨rfl, below_setCells _ (by omega) _ _ hb⟩
          rw [if_pos (by omega), Nat.sub_zero]
end Go.Proofs.YtknglaiobbmoaaaDoor

namespace Go.Proofs.YtknglaiobbmoaaaDoor
open Go.RowKit Go.Deep

set_option maxHeartbeats 1000000 in
set_option maxRecDepth 100000 in
theorem take_any (b t n : Nat) (F : Nat → Value) (v : Nat → Int) (f : Nat → Int) (w : World) (hv : ∀ i, i < 8 → F i = .int .u32 (v i)) (hn : 8 ≤ n) (hrow : w.rowIs b t n F) (hk : ∀ i, i < 64 → w.cell? ⟨0, i, none⟩ = some (.int .u32 (kAt i))) (h0 : 0 < w.heap.size) :
    Calls Tryd.prog 17 #[.pointer (some ⟨b, 0, none⟩), .agg (rowV 64 fun i => .int .u8 (f i))] w fun e w' => e = .returned (.tuple #[]) ∧ But w.heap.size b w w' ∧ w'.rowIs b t n (fun j => if j < 8 then .int .u32 (takeI v f j) else F j) := by
  have hlt := hrow.lt
  have hi38 : (Tryd.prog.info? 35).map (·.size) = some 64 := by kernel_rfl
  go_enter Tryd.func17, Tryd.ntmps17
  go_wp2_with (first | (refine wpList_load_seg rfl 35 _ rfl w.heap.size 0 64 _ rfl _ Tryd.underlying35 rfl hi38 (fun i hi => by rw [Nat.zero_add]; exact (rowIs_box w 35 64 _).cell hi) ?_))
  refine (spread_any f _).mono ?_
  rintro e w1 ⟨rfl, hb1⟩
  have hs1 : w.heap.size + 1 ≤ w1.heap.size := by have := hb1.size; simpa using this
  have hrow1 : w1.rowIs b t n F := (hrow.alloc (.cells (rowV 64 fun i => .int .u8 (f i)) 35)).of_block (hb1.block _ (by simp; omega))
  have hi72 : (Tryd.prog.info? 49).map (·.size) = some 64 := by kernel_rfl
  have z1 := rowIs_zero w1 (Array.replicate 64 (.int .u32 0)) 49 64 (.int .u32 0) rfl
  go_wp2_with (first | (refine wpList_store_row rfl 49 _ _ rfl rfl w1.heap.size 0 64 _ rfl rfl hi72 (fun _ _ => rfl) _ _ _ z1 (by omega) ?_; intro W r4 hz hbut))
  have r4' : W.rowIs w1.heap.size 49 64 (fun i => .int .u32 (wAt f 64 i)) := r4.congr fun i hi => by rw [if_pos (by omega), Nat.sub_zero]
  have rb : W.rowIs b t n F := hbut.row (hrow1.alloc _) (by rw [nblk_alloc]; omega) (by omega)
  have hb : Below w.heap.size w W := ((((Below.refl w.heap.size w).alloc (Nat.le_refl _) _).trans (hb1.mono (by simp))).alloc (by omega) _).trans ((hbut.mono (B' := w.heap.size) (by rw [nblk_alloc]; omega)).below (by omega))
  have hzW : W.heap.size = w1.heap.size + 1 := by rw [hz, nblk_alloc]
  clear r4 hz hbut z1 hb1 hrow1
  have c0 : W.cell? ⟨b, 0, none⟩ = some (.int .u32 (v 0)) := by rw [rb.cell (by omega), hv 0 (by omega)]
  have c1 : W.cell? ⟨b, 1, none⟩ = some (.int .u32 (v 1)) := by rw [rb.cell (by omega), hv 1 (by omega)]
  have c2 : W.cell? ⟨b, 2, none⟩ = some (.int .u32 (v 2)) := by rw [rb.cell (by omega), hv 2 (by omega)]
  have c3 : W.cell? ⟨b, 3, none⟩ = some (.int .u32 (v 3)) := by rw [rb.cell (by omega), hv 3 (by omega)]
  have c4 : W.cell? ⟨b, 4, none⟩ = some (.int .u32 (v 4)) := by rw [rb.cell (by omega), hv 4 (by omega)]
  have c5 : W.cell? ⟨b, 5, none⟩ = some (.int .u32 (v 5)) := by rw [rb.cell (by omega), hv 5 (by omega)]
  have c6 : W.cell? ⟨b, 6, none⟩ = some (.int .u32 (v 6)) := by rw [rb.cell (by omega), hv 6 (by omega)]
  have c7 : W.cell? ⟨b, 7, none⟩ = some (.int .u32 (v 7)) := by rw [rb.cell (by omega), hv 7 (by omega)]
  go_quiet (fail)
  clear c0 c1 c2 c3 c4 c5 c6 c7
  go_wp2
  go_loopw [5, 6, 7, 8, 9, 10, 11, 12, 52] (fun s5 s6 s7 s8 s9 s10 s11 s12 i wr => ∃ k : Nat, k ≤ 64 ∧ i = .int .i64 k ∧ wr.rowIs w1.heap.size 49 64 (fun i => .int .u32 (wAt f 64 i)) ∧ wr.rowIs b t n F ∧ Below w.heap.size w wr ∧ ∃ s : S8, Hid (s = rndTo (wAt f 64) ⟨v 0, v 1, v 2, v 3, v 4, v 5, v 6, v 7⟩ k) ∧ s5 = .int .u32 s.a ∧ s6 = .int .u32 s.b ∧ s7 = .int .u32 s.c ∧ s8 = .int .u32 s.d ∧ s9 = .int .u32 s.e ∧ s10 = .int .u32 s.f ∧ s11 = .int .u32 s.g ∧ s12 = .int .u32 s.h) (fun _ _ _ _ _ _ _ _ i _ => 64 - (intOf i).toNat)
  case atStart => exact ⟨0, by omega, rfl, r4'.drewN _, rb.drewN _, hb.drewN _, _, rfl, rfl, rfl, rfl, rfl, rfl, rfl, rfl, rfl⟩
  case round =>
    clear r4' rb hb hzW
    obtain ⟨k, hk64, rfl, r4, rb, hb, s, HS, rfl, rfl, rfl, rfl, rfl, rfl, rfl, rfl⟩ := hrel
    by_cases hlt : k < 64
    · have b0 : (0 : Int) ≤ (k : Int) := by omega
      have b1 : (k : Int) < 64 := by omega
      have c0 : wr.cell? ⟨0, k, none⟩ = some (.int .u32 (kAt k)) := by rw [hb.cell (p := ⟨0, k, none⟩) h0]; exact hk k hlt
      have c1 := r4.cell hlt
      go_wp2
      go_quiet ((go_at_call 20; exact Calls.quiet_of_same (turn_any _ _ (by decide) (by decide) _)))
      go_wp2_with ((go_at_call 20; refine (turn_any _ _ ?_ ?_ _).mono ?_; (decide); (decide); rintro e w' ⟨rfl, rfl⟩))
      go_light
      exact ⟨⟨k + 1, by omega, by go_num, r4.drewN _, rb.drewN _, hb.drewN _, rnd s (kAt k) (wAt f 64 k), (by rw [HS.out]; rfl), rfl, rfl, rfl, rfl, rfl, rfl, rfl, rfl⟩, by simp [intOf]; omega⟩
    · obtain rfl : k = 64 := by omega
      clear hlt hk64
      go_wp2
      go_loopw [124] (fun i wr => ∃ k : Nat, k ≤ 8 ∧ i = .int .i64 k ∧ But w.heap.size b w wr ∧ wr.rowIs b t n (fun j => if j < k then .int .u32 ((v j + s.at j) % 4294967296) else F j)) (fun i _ => 8 - (intOf i).toNat)
      case atStart => exact ⟨0, by omega, rfl, But.of_below hb b, rb.congr fun i _ => by rw [if_neg (by omega)]⟩
      case round =>
        clear r4 rb hb
        obtain ⟨k, hk8, rfl, hb, rb⟩ := hrel
        by_cases hlt8 : k < 8
        · have c0 : wr.cell? ⟨b, k, none⟩ = some (.int .u32 (v k)) := by rw [rb.cell (by omega), if_neg (by omega), hv k hlt8]
          have z0 := rb.frozen k
          have b0 : (0 : Int) ≤ (k : Int) := by omega
          have b1 : (k : Int) < 8 := by omega
          have hix := fun wx => run_index_agg (P := Tryd.prog) wx 32 31 8 _ k _ Tryd.underlying32 (by kernel_rfl) (by kernel_rfl) hlt8 (s.get k hlt8)
          go_wp2
          go_region
          go_wp2
          go_light
          refine ⟨⟨k + 1, by omega, by go_num, (hb.set k _).drew, ((rb.set k _).drew).congr fun i _ => ?_⟩, by simp [intOf]; omega⟩
          by_cases e : i = k
          · subst e; rw [if_pos rfl, if_pos (by omega)]
          · rw [if_neg e]
            by_cases e2 : i < k
            · rw [if_pos e2, if_pos (by omega)]
            · rw [if_neg e2, if_neg (by omega)]
        · obtain rfl : k = 8 := by omega
          go_wp2
          go_end0
          exact ⟨rfl, hb, rb.congr fun i _ => by rw [takeI, ← HS.out]⟩
end Go.Proofs.YtknglaiobbmoaaaDoor

namespace Go.Proofs.YtknglaiobbmoaaaDoor
open Go.RowKit Go.Deep

/-- what a hash's block holds: eight words, 64 bytes, a count. -/
def hashV (v f : Nat → Int) (c : Int) (j : Nat) : Value := if j < 8 then .int .u32 (v j) else if j < 72 then .int .u8 (f (j - 8)) else .int .u64 c
theorem hashV_word (v f : Nat → Int) (c : Int) (j : Nat) (h : j < 8) : hashV v f c j = .int .u32 (v j) := if_pos h
theorem hashV_byte (v f : Nat → Int) (c : Int) (j : Nat) (h : j < 64) : hashV v f c (8 + j) = .int .u8 (f j) := by
  rw [hashV, if_neg (by omega), if_pos (by omega), show 8 + j - 8 = j by omega]
theorem hashV_count (v f : Nat → Int) (c : Int) : hashV v f c 72 = .int .u64 c := rfl
/-- a hash lies in block b. -/
def hashIs (w : World) (b : Nat) (v f : Nat → Int) (c : Int) : Prop := w.rowIs b 38 73 (hashV v f c)

set_option maxHeartbeats 400000 in
theorem waiting_any (b : Nat) (v f : Nat → Int) (c : Nat) (w : World) (h : hashIs w b v f c) :
    Calls Tryd.prog 16 #[.pointer (some ⟨b, 0, none⟩)] w fun e w' => e = .returned (.int .i64 ((c : Int) % 64)) ∧ w' = w := by
  have c0 : w.cell? ⟨b, 72, none⟩ = some (.int .u64 c) := h.cell (by omega)
  go_enter Tryd.func16, Tryd.ntmps16
  go_wp2
  go_ret
  exact ⟨rfl, rfl⟩

theorem zero_hash : ∀ w : World, (zeroValue 38).run Tryd.prog w = .ok (.agg (rowV 73 (hashV (fun _ => 0) (fun _ => 0) 0))) w := fun w => by kernel_rfl
theorem zero_block : ∀ w : World, (zeroValue 35).run Tryd.prog w = .ok (.agg (rowV 64 (fun _ => .int .u8 0))) w := fun w => by kernel_rfl
set_option maxHeartbeats 400000 in
theorem new_any (w : World) :
    Calls Tryd.prog 4 #[] w fun e w' => e = .returned (.pointer (some ⟨w.heap.size, 0, none⟩)) ∧ Below w.heap.size w w' ∧ w'.heap.size = w.heap.size + 1 ∧ hashIs w' w.heap.size (fun _ => 0) (fun _ => 0) 0 := by
  have hz := zero_hash
  go_enter Tryd.func4, Tryd.ntmps4
  go_wp2
  go_ret
  refine ⟨rfl, (Below.refl _ _).alloc (Nat.le_refl _) _, by simp, ?_⟩
  exact rowIs_box w _ _ _
set_option maxHeartbeats 400000 in
theorem first_any (w : World) :
    Calls Tryd.prog 15 #[] w fun e w' => e = .returned (.agg (rowV 8 fun i => .int .u32 (firstI.at i))) ∧ Below w.heap.size w w' := by
  go_enter Tryd.func15, Tryd.ntmps15
  go_wp2
  have r := rowIs_new w #[.int .u32 1779033703, .int .u32 3144134277, .int .u32 1013904242, .int .u32 2773480762, .int .u32 1359893119, .int .u32 2600822924, .int .u32 528734635, .int .u32 1541459225] 33 8 (fun i => .int .u32 (firstI.at i)) rfl (firstI.get)
  exact bodyPost_ret (results_cell_seg rfl _ _ w.heap.size 33 8 _ _ rfl Tryd.underlying33 rfl (by kernel_rfl) r) rfl ⟨rfl, (Below.refl _ _).alloc (Nat.le_refl _) _⟩
end Go.Proofs.YtknglaiobbmoaaaDoor

namespace Go.Proofs.YtknglaiobbmoaaaDoor
open Go.RowKit Go.Deep

set_option maxHeartbeats 1000000 in
set_option maxRecDepth 100000 in
theorem bytes_any (b t n : Nat) (F : Nat → Value) (v : Nat → Int) (w : World) (hv : ∀ i, i < 8 → F i = .int .u32 (v i)) (hn : 8 ≤ n) (hrow : w.rowIs b t n F) :
    Calls Tryd.prog 14 #[.pointer (some ⟨b, 0, none⟩)] w fun e w' => e = .returned (.agg (rowV 32 fun i => .int .u8 (sumByte v i))) ∧ Below w.heap.size w w' := by
  have hlt := hrow.lt
  go_enter Tryd.func14, Tryd.ntmps14
  go_wp2
  go_loopw [8] (fun i wr => ∃ k : Nat, k ≤ 8 ∧ i = .int .i64 k ∧ Below w.heap.size w wr ∧ wr.heap.size = w.heap.size + 2 ∧ wr.rowIs w.heap.size 28 32 (fun _ => .int .u8 0) ∧ wr.rowIs (w.heap.size + 1) 28 32 (fun j => .int .u8 (if j < 4 * k then sumByte v j else 0))) (fun i _ => 8 - (intOf i).toNat)
  case atStart =>
    refine ⟨0, by omega, rfl, ((Below.refl _ _).alloc (Nat.le_refl _) _).alloc (by simp) _, by simp, ?_, ?_⟩
    · exact (rowIs_zero w _ 28 32 (.int .u8 0) rfl).alloc _
    · have := rowIs_zero (w.alloc (.cells (Array.replicate 32 (.int .u8 0)) 28)) _ 28 32 (.int .u8 0) rfl
      simp only [nblk_alloc] at this
      exact this
  case round =>
    obtain ⟨k, hk, rfl, hb, hz, r0, r1⟩ := hrel
    by_cases hlt8 : k < 8
    · have c0 : wr.cell? ⟨b, k, none⟩ = some (.int .u32 (v k)) := by rw [hb.cell (p := ⟨b, k, none⟩) hlt, hrow.cell (by omega), hv k hlt8]
      have b0 : (0 : Int) ≤ (k : Int) := by omega
      have b1 : (k : Int) < 8 := by omega
      go_wp2
      go_quiet (fail)
      go_wp2
      go_loopw [14] (fun i wr => ∃ j : Nat, j ≤ 4 ∧ i = .int .i64 j ∧ Below w.heap.size w wr ∧ wr.heap.size = w.heap.size + 2 ∧ wr.rowIs w.heap.size 28 32 (fun _ => .int .u8 0) ∧ wr.rowIs (w.heap.size + 1) 28 32 (fun i => .int .u8 (if i < 4 * k + j then sumByte v i else 0))) (fun i _ => 4 - (intOf i).toNat)
      case atStart => exact ⟨0, by omega, rfl, hb.drewN _, hz, r0.drewN _, r1.drewN _⟩
      case round =>
        clear hb hz r0 r1 c0
        obtain ⟨j, hj, rfl, hb, hz, r0, r1⟩ := hrel
        by_cases hltj : j < 4
        · have g0 : (0 : Int) ≤ (j : Int) := by omega
          have g1 : (j : Int) < 4 := by omega
          have g2 : 4 * (k : Int) + (j : Int) < 32 := by omega
          have g3 : (0 : Int) ≤ 4 * (k : Int) + (j : Int) := by omega
          have g4 : (0 : Int) ≤ 24 - 8 * (j : Int) := by omega
          have g5 : 24 - 8 * (j : Int) ≤ 24 := by omega
          have z0 := r1.frozen (4 * k + j)
          have c1 := r1.cell (i := 4 * k + j) (by omega)
          go_wp2
          go_light
          refine ⟨⟨j + 1, by omega, by go_num, hb.setCell (by simp) _, by simpa using hz, r0.setOther (by simp) _, (r1.set (4 * k + j) _).congr fun i _ => ?_⟩, by simp [intOf]; omega⟩
          by_cases e : i = 4 * k + j
          · subst e; rw [if_pos rfl, if_pos (by omega), sumByte, show (4 * k + j) / 4 = k by omega, show (4 * k + j) % 4 = j by omega]
          · rw [if_neg e]
            by_cases e2 : i < 4 * k + j
            · rw [if_pos e2, if_pos (by omega)]
            · rw [if_neg e2, if_neg (by omega)]
        · obtain rfl : j = 4 := by omega
          go_wp2
          go_roundw
          case rel =>
            first
            | exact ⟨k + 1, by omega, by go_num, hb, hz, r0, r1⟩
            | ((repeat apply Exists.intro); refine ⟨?_, rfl⟩; exact ⟨k + 1, by omega, by go_num, hb, hz, r0, r1⟩)
          case measure => simp [intOf]; omega
    · obtain rfl : k = 8 := by omega
      clear hlt8 hk
      have hi : (Tryd.prog.info? 28).map (·.size) = some 32 := by kernel_rfl
      go_wp2_with (first | (refine wpList_load_seg rfl 28 _ rfl (w.heap.size + 1) 0 32 _ rfl _ Tryd.underlying28 rfl hi (fun i hi => by rw [Nat.zero_add]; exact r1.cell hi) ?_) | (refine wpList_store_row rfl 28 _ _ rfl rfl w.heap.size 0 32 _ rfl rfl hi (fun _ _ => rfl) _ _ _ r0 (by omega) ?_; intro W rW hzW hbut))
      exact bodyPost_ret (results_cell_seg rfl _ _ w.heap.size 28 32 _ _ rfl Tryd.underlying28 rfl hi (rW.congr fun i hi => by rw [if_pos (by omega), Nat.sub_zero, if_pos (by omega)])) rfl ⟨rfl, hb.trans ((hbut.mono (by omega)).below (Nat.le_refl _))⟩
end Go.Proofs.YtknglaiobbmoaaaDoor

namespace Go.Proofs.YtknglaiobbmoaaaDoor
open Go.RowKit Go.Deep

theorem hashV_splice_words (v f : Nat → Int) (c : Int) (v' : Nat → Int) (j : Nat) : (if 0 ≤ j ∧ j < 0 + 8 then Value.int .u32 (v' (j - 0)) else hashV v f c j) = hashV v' f c j := by
  by_cases h : j < 8
  · rw [if_pos (by omega), hashV, if_pos h, Nat.sub_zero]
  · rw [if_neg (by omega), hashV, hashV, if_neg h, if_neg h]

set_option maxHeartbeats 1000000 in
set_option maxRecDepth 100000 in
theorem begin_zero (b : Nat) (v f : Nat → Int) (w : World) (h : hashIs w b v f 0) :
    Calls Tryd.prog 10 #[.pointer (some ⟨b, 0, none⟩)] w fun e w' => e = .returned (.tuple #[]) ∧ But w.heap.size b w w' ∧ hashIs w' b firstI.at f 0 := by
  have hlt := h.lt
  have c0 : w.cell? ⟨b, 72, none⟩ = some (.int .u64 0) := h.cell (by omega)
  have hi : (Tryd.prog.info? 33).map (·.size) = some 8 := by kernel_rfl
  go_enter Tryd.func10, Tryd.ntmps10
  go_wp2_with fail
  refine (first_any _).mono ?_
  rintro e w1 ⟨rfl, hb1⟩
  have h1 : w1.rowIs b 38 73 (hashV v f 0) := hb1.row h hlt
  go_wp2_with (first | (refine wpList_store_row rfl 33 _ _ rfl rfl b 0 8 _ rfl rfl hi (fun _ _ => rfl) _ _ _ h1 (by omega) ?_; intro W rW hzW hbut))
  go_end0
  exact ⟨rfl, (But.of_below hb1 b).trans (hbut.mono hb1.size), rW.congr fun i _ => hashV_splice_words v f 0 _ i⟩
set_option maxHeartbeats 1000000 in
theorem begin_some (b : Nat) (v f : Nat → Int) (c : Nat) (hc : 0 < c) (w : World) (h : hashIs w b v f c) :
    Calls Tryd.prog 10 #[.pointer (some ⟨b, 0, none⟩)] w fun e w' => e = .returned (.tuple #[]) ∧ w' = w := by
  have c0 : w.cell? ⟨b, 72, none⟩ = some (.int .u64 c) := h.cell (by omega)
  have hd : ((c : Int) == 0) = false := by simp; omega
  go_enter Tryd.func10, Tryd.ntmps10
  go_wp2
  go_end0
  exact ⟨rfl, rfl⟩

end Go.Proofs.YtknglaiobbmoaaaDoor

/- Slices that the call itself makes: what append leaves. -/
namespace Go.Proofs.YtknglaiobbmoaaaDoor
open Go.RowKit Go.Deep

/-- v is a slice of the elements xs, of one cell each, in a block of its own from B on. -/
def owns (w : World) (B : Nat) (e : TypeId) (v : Value) (xs : List Value) : Prop := w.ownsRow B e 1 v xs.length xs
theorem owns_nil (w : World) (B : Nat) (e : TypeId) : owns w B e (.slice none 0 0) [] := ⟨rfl, Or.inl ⟨rfl, rfl⟩⟩
theorem owns.block {w : World} {B : Nat} {e : TypeId} {v : Value} {xs : List Value} (h : owns w B e v xs) (k : Nat) (hk : v.ownBlock = some k) : B ≤ k ∧ k < w.heap.size := by
  obtain ⟨_, h | ⟨g, cap, cur, rfl, hB, hb, _⟩⟩ := h
  · rw [h.1] at hk; cases hk
  · obtain rfl : g = k := by simpa [Value.ownBlock] using hk
    exact ⟨hB, (Array.getElem?_eq_some_iff.1 hb).1⟩
/-- a slice that is not the one that grew is as it was. -/
theorem owns.far {w w' : World} {B : Nat} {e : TypeId} {v : Value} {xs : List Value} (h : owns w B e v xs) (hk : ∀ k, v.ownBlock = some k → w'.heap[k]? = w.heap[k]?) : owns w' B e v xs := by
  obtain ⟨hl, h | ⟨g, cap, cur, rfl, hB, hb, hr⟩⟩ := h
  · exact ⟨hl, Or.inl h⟩
  · exact ⟨hl, Or.inr ⟨g, cap, cur, rfl, hB, by rw [hk g rfl]; exact hb, hr⟩⟩
theorem owns.below {w w' : World} {B C : Nat} {e : TypeId} {v : Value} {xs : List Value} (h : owns w B e v xs) (hb : Below C w w') (hC : w.heap.size ≤ C) : owns w' B e v xs :=
  h.far fun k hk => hb.block k (Nat.lt_of_lt_of_le (h.block k hk).2 hC)
theorem owns.grown {w w' : World} {B : Nat} {e : TypeId} {v : Value} {xs : List Value} {row : Option Nat} (h : owns w B e v xs) (hg : w.grownBy w' row) (hne : ∀ k, v.ownBlock = some k → row ≠ some k) : owns w' B e v xs :=
  h.far fun k hk => hg.block k (h.block k hk).2 (fun e => hne k hk e.symm)
theorem owns.alloc {w : World} {B : Nat} {e : TypeId} {v : Value} {xs : List Value} (h : owns w B e v xs) (o : Obj) : owns (w.alloc o) B e v xs :=
  h.far fun k hk => blk_alloc_lt _ _ _ (h.block k hk).2
theorem owns.drew {w : World} {B : Nat} {e : TypeId} {v : Value} {xs : List Value} (h : owns w B e v xs) : owns w.drew B e v xs := h
theorem owns.drewN {w : World} {B : Nat} {e : TypeId} {v : Value} {xs : List Value} (h : owns w B e v xs) (n : Nat) : owns (w.drewN n) B e v xs := h
/-- its shape, and its cells. -/
theorem owns.shape {w : World} {B : Nat} {e : TypeId} {v : Value} {xs : List Value} (h : owns w B e v xs) (hn : 0 < xs.length) :
    ∃ g cap, v = .slice (some ⟨g, 0, none⟩) xs.length cap ∧ B ≤ g ∧ g < w.heap.size ∧ xs.length ≤ cap ∧ cap ≤ maxLen ∧ (∀ i u, xs[i]? = some u → w.cell? ⟨g, i, none⟩ = some u) ∧ ∀ i, w.frozen? ⟨g, i, none⟩ = false := by
  obtain ⟨hl, h | ⟨g, cap, cur, rfl, hB, hb, hc, hm, hs, ht⟩⟩ := h
  · omega
  · refine ⟨g, cap, rfl, hB, (Array.getElem?_eq_some_iff.1 hb).1, hc, hm, fun i u hu => ?_, fun i => by simp [World.frozen?, hb]⟩
    rw [cell_of_row _ _ _ _ _ _ hb]
    rw [Nat.mul_one] at ht
    have hi : i < xs.length := by rw [List.getElem?_eq_some_iff] at hu; exact hu.1
    rw [← ht, List.getElem?_take, if_pos hi, Array.getElem?_toList] at hu
    exact hu

section
variable {P : Program}
/-- WHAT append LEAVES: the elements behind one another; nothing old but the slice's own block has turned. -/
theorem run_append (w : World) (t ty : TypeId) (B : Nat) (e : TypeId) (z : Value) (bytes : Nat) (ht : P.underlying t = some (.slice e)) (hi : (P.info? e).map (fun i => (i.zero, i.size, i.bytes)) = some (some z, 1, bytes)) (hz1 : z.cells.size = 1)
    (v : Value) (xs : List Value) (hown : owns w B e v xs) (sb so m c : Nat) (news : List Value) (hl : news.length = m) (hnews : ∀ j u, news[j]? = some u → w.cell? ⟨sb, so + j, none⟩ = some u) (h1 : ∀ u ∈ news, u.oneCell' = true)
    (hm : 0 < m) (h63 : xs.length + m ≤ maxLen) (hbytes : (xs.length + m) * bytes ≤ 140737488355328) (hB : B ≤ w.heap.size) :
    ∃ g cap w', (Builtin.append_ #[t, t] ty #[v, .slice (some ⟨sb, so, none⟩) m c]).run P w = .ok (.slice (some ⟨g, 0, none⟩) (xs.length + m) cap) w' ∧
      owns w' B e (.slice (some ⟨g, 0, none⟩) (xs.length + m) cap) (xs ++ news) ∧ w.grownBy w' v.ownBlock ∧ (v.ownBlock = some g ∨ g = w.heap.size) ∧ g < w'.heap.size := by
  cases hq : P.info? e with
  | none => simp [hq] at hi
  | some i =>
    simp only [hq, Option.map_some, Option.some.injEq, Prod.mk.injEq] at hi
    obtain ⟨hz, hs, hb⟩ := hi
    obtain ⟨g, cap, w', hr, ho, hg, hw, hlt⟩ := run_append_lies (P := P) w t ty B e i z 1 bytes ht hq hz hs hb hz1 (by omega) v xs.length xs hown ⟨sb, so, none⟩ m c news (by omega) (fun j u hu => by rw [Addr.add_mid]; exact hnews j u hu) h1 hm h63 hbytes hB w.heap.size rfl
    refine ⟨g, cap, w', hr, ?_, hg, hw, hlt⟩
    unfold owns
    rw [List.length_append, hl]; exact ho
/-- append, by what its run comes to. -/
theorem wp_append_run {o : Oper} {a : Act} {w w' : World} {K : Act → World → Prop} {Q : Exit → Act → World → Prop} {v y r : Value} (s x : Operand) (t : TypeId)
    (ho : o.op = .call { callee := .builtin .append, args := #[s, x], argTypes := #[t, t] }) (hs : a.eval s = v) (hx : a.eval x = y)
    (hr : (Builtin.append_ #[t, t] o.type #[v, y]).run P w = .ok r w') (h : K (a.put o.dst r) w') : o.wp P a w K Q := by
  unfold Oper.wp execOp
  simp only [ho, resolve, invoke, builtin, Sem.run_bind, Sem.run_pure, Result.andThen_ok, List.map_toArray, List.map_cons, List.map_nil, hs, hx, hr]
  exact h
theorem wpList_append_run {ops : Array Oper} {rest : List Oper} {o : Oper} {a : Act} {w w' : World} {Q : Exit → Act → World → Prop} {v y r : Value} (hgd : o.guard = none) (s x : Operand) (t : TypeId)
    (ho : o.op = .call { callee := .builtin .append, args := #[s, x], argTypes := #[t, t] }) (hs : a.eval s = v) (hx : a.eval x = y)
    (hr : (Builtin.append_ #[t, t] o.type #[v, y]).run P w = .ok r w') (h : wpList P ops Q rest (a.put o.dst r) w') : wpList P ops Q (o :: rest) a w :=
  wpList_plain hgd fun _ hK => wp_append_run s x t ho hs hx hr (hK _ _ h)
end
end Go.Proofs.YtknglaiobbmoaaaDoor

/- Slices of bytes, and of others, wherever they lie. -/
namespace Go.Proofs.YtknglaiobbmoaaaDoor
set_option linter.unusedSimpArgs false
open Go.RowKit Go.Deep

/-- the bytes of the parts ahead of place k. -/
def flatTo (ps : Nat → List Int) : Nat → List Int
  | 0 => []
  | k + 1 => flatTo ps k ++ ps k
theorem flatTo_mono (ps : Nat → List Int) : ∀ n i, i ≤ n → (flatTo ps i).length ≤ (flatTo ps n).length
  | 0, i, h => by obtain rfl : i = 0 := by omega
                  exact Nat.le_refl _
  | n + 1, i, h => by
    by_cases e : i = n + 1
    · subst e; exact Nat.le_refl _
    · rw [flatTo, List.length_append]
      have := flatTo_mono ps n i (by omega)
      omega
/-- THE VALUE v IS A SLICE OF THESE BYTES. -/
def isBytes (w : World) (v : Value) (l : List Int) : Prop :=
  (v = .slice none 0 0 ∧ l = []) ∨ ∃ pb po cap : Nat, v = .slice (some ⟨pb, po, none⟩) l.length cap ∧ l.length ≤ cap ∧ cap ≤ maxLen ∧ pb < w.heap.size ∧
    (∀ i, i < l.length → w.cell? ⟨pb, po + i, none⟩ = some (.int .u8 (l.getD i 0))) ∧ ∀ i, 0 ≤ l.getD i 0 ∧ l.getD i 0 ≤ 255
theorem isBytes.below {w w' : World} {B : Nat} {v : Value} {l : List Int} (h : isBytes w v l) (hb : Below B w w') (hB : w.heap.size ≤ B) : isBytes w' v l := by
  rcases h with h | ⟨pb, po, cap, h1, h2, h3, h4, h6, h7⟩
  · exact Or.inl h
  · exact Or.inr ⟨pb, po, cap, h1, h2, h3, Nat.lt_of_lt_of_le h4 hb.size, fun i hi => by rw [hb.cell (p := ⟨pb, po + i, none⟩) (Nat.lt_of_lt_of_le h4 hB)]; exact h6 i hi, h7⟩
/-- .. OR ONE OF NONE, wherever it says that it lies. -/
def anyBytes (w : World) (v : Value) (l : List Int) : Prop := isBytes w v l ∨ ((∃ a, v = .slice a 0 0) ∧ l = [])
theorem anyBytes.below {w w' : World} {B : Nat} {v : Value} {l : List Int} (h : anyBytes w v l) (hb : Below B w w') (hB : w.heap.size ≤ B) : anyBytes w' v l := by
  rcases h with h | h
  · exact Or.inl (h.below hb hB)
  · exact Or.inr h
/-- THE VALUE v IS A SLICE OF n SLICES OF BYTES. -/
def isParts (w : World) (v : Value) (n : Nat) (ps : Nat → List Int) : Prop :=
  (v = .slice none 0 0 ∧ n = 0) ∨ ∃ (qb qo cap : Nat) (sv : Nat → Value), v = .slice (some ⟨qb, qo, none⟩) n cap ∧ qb < w.heap.size ∧ n ≤ maxLen ∧ ∀ i, i < n → w.cell? ⟨qb, qo + i, none⟩ = some (sv i) ∧ anyBytes w (sv i) (ps i)
theorem isParts.below {w w' : World} {B : Nat} {v : Value} {n : Nat} {ps : Nat → List Int} (h : isParts w v n ps) (hb : Below B w w') (hB : w.heap.size ≤ B) : isParts w' v n ps := by
  rcases h with h | ⟨qb, qo, cap, sv, h1, h2, h3, h4⟩
  · exact Or.inl h
  · exact Or.inr ⟨qb, qo, cap, sv, h1, Nat.lt_of_lt_of_le h2 hb.size, h3, fun i hi => ⟨by rw [hb.cell (p := ⟨qb, qo + i, none⟩) (Nat.lt_of_lt_of_le h2 hB)]; exact (h4 i hi).1, (h4 i hi).2.below hb hB⟩⟩
theorem isBytes.slice {w : World} {v : Value} {l : List Int} (h : isBytes w v l) : ∃ a c, v = .slice a l.length c ∧ l.length ≤ maxLen := by
  rcases h with ⟨rfl, rfl⟩ | ⟨pb, po, cap, rfl, h2, h3, _⟩
  · exact ⟨_, _, rfl, Nat.zero_le _⟩
  · exact ⟨_, _, rfl, by omega⟩
theorem anyBytes.slice {w : World} {v : Value} {l : List Int} (h : anyBytes w v l) : ∃ a c, v = .slice a l.length c ∧ l.length ≤ maxLen := by
  rcases h with h | ⟨⟨a, rfl⟩, rfl⟩
  · exact h.slice
  · exact ⟨a, 0, rfl, Nat.zero_le _⟩
theorem isBytes.byte {w : World} {v : Value} {l : List Int} (h : isBytes w v l) (i : Nat) : 0 ≤ l.getD i 0 ∧ l.getD i 0 ≤ 255 := by
  rcases h with ⟨_, rfl⟩ | ⟨pb, po, cap, _, _, _, _, _, h7⟩
  · exact ⟨by simp, by simp⟩
  · exact h7 i
theorem isBytes.under {w : World} {pb o n cap : Nat} {l : List Int} (h : isBytes w (.slice (some ⟨pb, o, none⟩) n cap) l) : pb < w.heap.size := by
  rcases h with ⟨h, _⟩ | ⟨pb', po, cap', h1, _, _, h4, _⟩
  · cases h
  · have e : pb = pb' := by injection h1 with h1 _ _; injection h1 with h1; injection h1
    omega
theorem isBytes.of_block {w w' : World} {pb o n cap : Nat} {l : List Int} (h : isBytes w (.slice (some ⟨pb, o, none⟩) n cap) l) (hb : w'.heap[pb]? = w.heap[pb]?) (hs : w.heap.size ≤ w'.heap.size) : isBytes w' (.slice (some ⟨pb, o, none⟩) n cap) l := by
  rcases h with ⟨h, _⟩ | ⟨pb', po, cap', h1, h2, h3, h4, h6, h7⟩
  · cases h
  · have e : pb = pb' := by injection h1 with h1 _ _; injection h1 with h1; injection h1
    subst e
    exact Or.inr ⟨pb, po, cap', h1, h2, h3, by omega, fun i hi => by rw [World.cell?_of_block (w := w) hb]; exact h6 i hi, h7⟩
/-- a slice of bytes of which nothing was written is as it was. -/
theorem isBytes.far {w w' : World} {v : Value} {l : List Int} (h : isBytes w v l) (hb : ∀ k, v.ownBlock = some k → w'.heap[k]? = w.heap[k]?) (hs : w.heap.size ≤ w'.heap.size) : isBytes w' v l := by
  rcases h with h | ⟨pb, po, cap, rfl, h2, h3, h4, h6, h7⟩
  · exact Or.inl h
  · exact Or.inr ⟨pb, po, cap, rfl, h2, h3, by omega, fun i hi => by rw [World.cell?_of_block (w := w) (hb pb rfl)]; exact h6 i hi, h7⟩
theorem isBytes.block {w : World} {v : Value} {l : List Int} (h : isBytes w v l) (k : Nat) (hk : v.ownBlock = some k) : k < w.heap.size := by
  rcases h with ⟨rfl, _⟩ | ⟨pb, po, cap, rfl, h2, h3, h4, h6, h7⟩
  · cases hk
  · simp [Value.ownBlock] at hk; omega
theorem hi8 : (Tryd.prog.info? 5).map (fun i => (i.zero, i.size, i.bytes)) = some (some (.int .u8 0), 1, 1) := by kernel_rfl
/-- bytes of the call's own. -/
def newBytes (w : World) (B : Nat) (v : Value) (l : List Int) : Prop := owns w B 5 v (l.map (Value.int .u8)) ∧ ∀ i, 0 ≤ l.getD i 0 ∧ l.getD i 0 ≤ 255
theorem getElem?_u8 {l : List Int} {i : Nat} (hi : i < l.length) : (l.map (Value.int .u8))[i]? = some (Value.int .u8 (l.getD i 0)) := by
  rw [List.getElem?_map, List.getElem?_eq_getElem hi, List.getD_eq_getElem?_getD, List.getElem?_eq_getElem hi]; rfl
theorem newBytes.is {w : World} {B : Nat} {v : Value} {l : List Int} (h : newBytes w B v l) : isBytes w v l := by
  obtain ⟨ho, hb⟩ := h
  obtain ⟨_, h | ⟨g, cap, cur, rfl, hB, hg, hc, hm, hs, ht⟩⟩ := ho
  · obtain ⟨rfl, hl⟩ := h
    rw [List.length_map] at hl
    exact Or.inl ⟨rfl, List.length_eq_zero_iff.1 hl⟩
  · rw [List.length_map] at hc ⊢
    refine Or.inr ⟨g, 0, cap, rfl, hc, hm, (Array.getElem?_eq_some_iff.1 hg).1, fun i hi => ?_, hb⟩
    rw [Nat.zero_add, cell_of_row _ _ _ _ _ _ hg, ← Array.getElem?_toList]
    have h2 := getElem?_u8 hi
    rw [← ht, List.getElem?_take, List.length_map] at h2
    by_cases hh : i < l.length * 1
    · rw [if_pos hh] at h2; exact h2
    · omega
theorem newBytes.block {w : World} {B : Nat} {v : Value} {l : List Int} (h : newBytes w B v l) (k : Nat) (hk : v.ownBlock = some k) : B ≤ k ∧ k < w.heap.size := h.1.block k hk
theorem newBytes.nil (w : World) (B : Nat) : newBytes w B (.slice none 0 0) [] := ⟨owns_nil _ _ _, fun i => by simp⟩
theorem newBytes.below {w w' : World} {B C : Nat} {v : Value} {l : List Int} (h : newBytes w B v l) (hb : Below C w w') (hC : w.heap.size ≤ C) : newBytes w' B v l := ⟨h.1.below hb hC, h.2⟩
theorem newBytes.mono {w : World} {B C : Nat} {v : Value} {l : List Int} (h : newBytes w B v l) (hC : C ≤ B) : newBytes w C v l := by
  obtain ⟨⟨hl, h1⟩, hb⟩ := h
  refine ⟨⟨hl, ?_⟩, hb⟩
  rcases h1 with h1 | ⟨g, cap, cur, h1, h2, h3⟩
  · exact Or.inl h1
  · exact Or.inr ⟨g, cap, cur, h1, by omega, h3⟩
section
variable {P : Program}
theorem run_append_nil (w : World) (t ty e : TypeId) (ht : P.underlying t = some (.slice e)) (hi : (P.info? e).isSome = true) (b : Option Addr) (n c : Nat) (hn : n ≤ c) (sa : Option Addr) (d : Nat) :
    (Builtin.append_ #[t, t] ty #[.slice b n c, .slice sa 0 d]).run P w = .ok (.slice b n c) w := by
  cases hq : P.info? e with
  | none => rw [hq] at hi; cases hi
  | some i => cases b <;> cases sa <;> simp [Builtin.append_, run_underlying ht, sizeOf, typeInfo, hq, hn, storeCells, loadCells, Builtin.lenOf, Builtin.firstCells, loadCellsFrom]
end
section
variable {P : Program}
/-- x[m:], x a slice of elements of one cell. -/
theorem run_slice_from (t e : TypeId) (b o len cap m : Nat) (hu : P.underlying t = some (.slice e)) (hs : (P.info? e).map (·.size) = some 1) (hm : m ≤ len) :
    ∃ o', (m < cap → o' = o + m) ∧ ∀ w : World, (Instr.slice t (.slice (some ⟨b, o, none⟩) len cap) (some (.int .i64 m)) none none).run P w = .ok (.slice (some ⟨b, o', none⟩) (len - m) (cap - m)) w := by
  cases hq : P.info? e with
  | none => simp [hq] at hs
  | some i =>
    have hi : i.size = 1 := by simpa [hq] using hs
    have h0 : (0 : Int) ≤ (m : Int) ∧ (m : Int) ≤ (len : Int) := by omega
    by_cases hc : cap = m
    · refine ⟨o, fun h => by omega, fun w => ?_⟩
      simp [Instr.slice, Instr.sliceBounds, Instr.sliceBound, asIntOf, run_underlying hu, sizeOf, typeInfo, hq, h0, hc, hm]
    · refine ⟨o + m, fun _ => rfl, fun w => ?_⟩
      simp [Instr.slice, Instr.sliceBounds, Instr.sliceBound, asIntOf, run_underlying hu, sizeOf, typeInfo, hq, hi, h0, hc, hm, Addr.add_mid]
/-- x[:n:n]. -/
theorem run_slice_front (t e : TypeId) (b o len cap n : Nat) (hu : P.underlying t = some (.slice e)) (hs : (P.info? e).map (·.size) = some 1) (hm : n ≤ cap) (w : World) :
    (Instr.slice t (.slice (some ⟨b, o, none⟩) len cap) none (some (.int .i64 n)) (some (.int .i64 n))).run P w = .ok (.slice (some ⟨b, o, none⟩) n n) w := by
  cases hq : P.info? e with
  | none => simp [hq] at hs
  | some i =>
    have hi : i.size = 1 := by simpa [hq] using hs
    have h0 : (0 : Int) ≤ (n : Int) ∧ (n : Int) ≤ (cap : Int) := by omega
    simp [Instr.slice, Instr.sliceBounds, Instr.sliceBound, asIntOf, run_underlying hu, sizeOf, typeInfo, hq, hi, h0, hm, Addr.add_mid]
/-- x[m:n:n]. -/
theorem run_slice_mid (t e : TypeId) (b o len cap m n : Nat) (hu : P.underlying t = some (.slice e)) (hs : (P.info? e).map (·.size) = some 1) (hmn : m ≤ n) (hm : n ≤ cap) :
    ∃ o', (m < n → o' = o + m) ∧ ∀ w : World, (Instr.slice t (.slice (some ⟨b, o, none⟩) len cap) (some (.int .i64 m)) (some (.int .i64 n)) (some (.int .i64 n))).run P w = .ok (.slice (some ⟨b, o', none⟩) (n - m) (n - m)) w := by
  cases hq : P.info? e with
  | none => simp [hq] at hs
  | some i =>
    have hi : i.size = 1 := by simpa [hq] using hs
    have h0 : (0 : Int) ≤ (n : Int) ∧ (n : Int) ≤ (cap : Int) := by omega
    have h1 : (0 : Int) ≤ (m : Int) ∧ (m : Int) ≤ (n : Int) := by omega
    by_cases hc : n = m
    · refine ⟨o, fun h => by omega, fun w => ?_⟩
      simp [Instr.slice, Instr.sliceBounds, Instr.sliceBound, asIntOf, run_underlying hu, sizeOf, typeInfo, hq, h0, h1, hc, hm, hmn]
      omega
    · refine ⟨o + m, fun _ => rfl, fun w => ?_⟩
      simp [Instr.slice, Instr.sliceBounds, Instr.sliceBound, asIntOf, run_underlying hu, sizeOf, typeInfo, hq, hi, h0, h1, hc, hm, hmn, Addr.add_mid]
      try omega
end
theorem getD_append_byte {l m : List Int} (hl : ∀ i, 0 ≤ l.getD i 0 ∧ l.getD i 0 ≤ 255) (hm : ∀ i, 0 ≤ m.getD i 0 ∧ m.getD i 0 ≤ 255) (i : Nat) : 0 ≤ (l ++ m).getD i 0 ∧ (l ++ m).getD i 0 ≤ 255 := by
  rw [List.getD_eq_getElem?_getD, List.getElem?_append]
  split
  · rw [← List.getD_eq_getElem?_getD]; exact hl i
  · rw [← List.getD_eq_getElem?_getD]; exact hm _
/-- append(v, u...), v of the call's own, u any bytes. -/
theorem bytes_append_run (w : World) (B : Nat) (v u : Value) (l m : List Int) (hv : newBytes w B v l) (hu : isBytes w u m) (hs : l.length + m.length ≤ 1099511627776) (hB : B ≤ w.heap.size) :
    ∃ v' w', (Builtin.append_ #[22, 22] 22 #[v, u]).run Tryd.prog w = .ok v' w' ∧ newBytes w' B v' (l ++ m) ∧ w.grownBy w' v.ownBlock ∧ (v'.ownBlock = v.ownBlock ∨ v'.ownBlock = some w.heap.size) := by
  have hgrow : w.grownBy w v.ownBlock := ⟨rfl, rfl, rfl, Nat.le_refl _, fun _ _ _ => rfl⟩
  by_cases h0 : m.length = 0
  · obtain rfl : m = [] := List.length_eq_zero_iff.1 h0
    obtain ⟨a, c, rfl, _⟩ := hu.slice
    have hsh : ∃ a n c, v = .slice a n c ∧ n ≤ c := by
      obtain ⟨⟨_, h | ⟨g, cap, cur, rfl, _, _, hc, _⟩⟩, _⟩ := hv
      · exact ⟨_, _, _, h.1, Nat.le_refl _⟩
      · exact ⟨_, _, _, rfl, hc⟩
    obtain ⟨a', n', c', rfl, hc⟩ := hsh
    exact ⟨_, w, run_append_nil w _ _ _ Tryd.underlying22 (by kernel_rfl) a' n' c' hc a c, by rw [List.append_nil]; exact hv, hgrow, Or.inl rfl⟩
  · rcases hu with ⟨_, rfl⟩ | ⟨pb, po, cap, rfl, h2, h3, h4, h6, h7⟩
    · exact absurd rfl h0
    · obtain ⟨g, cp, w2, hr, ho, hg, hat, hlt⟩ := run_append (P := Tryd.prog) w 22 22 B 5 (.int .u8 0) 1 Tryd.underlying22 hi8 rfl v _ hv.1 pb po m.length cap (m.map (Value.int .u8)) (by simp)
        (fun j u hu => by
          have hj : j < m.length := by
            by_cases hj : j < m.length
            · exact hj
            · rw [List.getElem?_eq_none (by simp; omega)] at hu; cases hu
          rw [getElem?_u8 hj] at hu
          rw [h6 j hj, ← hu])
        (fun v hv => by obtain ⟨x, _, rfl⟩ := List.mem_map.1 hv; rfl) (by omega) (by simp; unfold maxLen; omega) (by simp; omega) hB
      rw [List.length_map] at hr ho
      refine ⟨_, w2, hr, ⟨?_, getD_append_byte hv.2 h7⟩, hg, ?_⟩
      · rw [List.map_append]; exact ho
      · rcases hat with h | h
        · exact Or.inl h.symm
        · exact Or.inr (by rw [h]; rfl)
/-- .. u any bytes, or none. -/
theorem any_append_run (w : World) (B : Nat) (v u : Value) (l m : List Int) (hv : newBytes w B v l) (hu : anyBytes w u m) (hs : l.length + m.length ≤ 1099511627776) (hB : B ≤ w.heap.size) :
    ∃ v' w', (Builtin.append_ #[22, 22] 22 #[v, u]).run Tryd.prog w = .ok v' w' ∧ newBytes w' B v' (l ++ m) ∧ w.grownBy w' v.ownBlock ∧ (v'.ownBlock = v.ownBlock ∨ v'.ownBlock = some w.heap.size) := by
  rcases hu with hu | ⟨⟨a, rfl⟩, rfl⟩
  · exact bytes_append_run w B v u l m hv hu hs hB
  · have hsh : ∃ a n c, v = .slice a n c ∧ n ≤ c := by
      obtain ⟨⟨_, h | ⟨g, cap, cur, rfl, _, _, hc, _⟩⟩, _⟩ := hv
      · exact ⟨_, _, _, h.1, Nat.le_refl _⟩
      · exact ⟨_, _, _, rfl, hc⟩
    obtain ⟨a', n', c', rfl, hc⟩ := hsh
    exact ⟨_, w, run_append_nil w _ _ _ Tryd.underlying22 (by kernel_rfl) a' n' c' hc a 0, by rw [List.append_nil]; exact hv, ⟨rfl, rfl, rfl, Nat.le_refl _, fun _ _ _ => rfl⟩, Or.inl rfl⟩
theorem below_grown {w w' : World} {B : Nat} {v : Value} (hg : w.grownBy w' v.ownBlock) (hv : ∀ k, v.ownBlock = some k → B ≤ k) (hB : B ≤ w.heap.size) : Below B w w' :=
  ⟨hg.os, hg.tape, hg.output, hg.size, fun k hk => hg.block k (by omega) (fun e => by have := hv k e.symm; omega)⟩
/-- append([]byte{}, u...): new bytes, the same. -/
theorem bytes_copy_run (w : World) (u : Value) (l : List Int) (hu : isBytes w u l) (hl : l.length ≤ 1099511627776) :
    ∃ v' w', (Builtin.append_ #[22, 22] 22 #[.slice (some ⟨w.heap.size, 0, none⟩) 0 0, u]).run Tryd.prog (w.alloc (.cells #[] 5)) = .ok v' w' ∧ newBytes w' w.heap.size v' l ∧ Below w.heap.size w w' := by
  have hb1 : Below w.heap.size w (w.alloc (.cells #[] 5)) := (Below.refl _ _).alloc (Nat.le_refl _) _
  have hO : newBytes (w.alloc (.cells #[] 5)) w.heap.size (.slice (some ⟨w.heap.size, 0, none⟩) 0 0) [] :=
    ⟨⟨rfl, Or.inr ⟨w.heap.size, 0, #[], rfl, Nat.le_refl _, blk_alloc_new _ _, Nat.le_refl _, by unfold maxLen; omega, rfl, rfl⟩⟩, fun i => by simp⟩
  obtain ⟨v', w', hr, hn, hg, _⟩ := bytes_append_run _ w.heap.size _ u [] l hO (hu.below hb1 (Nat.le_refl _)) (by simp; omega) (by simp)
  exact ⟨v', w', hr, hn, hb1.trans (below_grown hg (fun k hk => (hO.block k hk).1) (by simp))⟩

/-- bytes as a string. -/
def strOf (l : List Int) : ByteArray := ⟨(l.map fun n => UInt8.ofNat n.toNat).toArray⟩
theorem strOf_fold (l : List Int) : ∀ s : ByteArray, l.foldl (fun r n => r.push (UInt8.ofNat n.toNat)) s = ⟨(s.data.toList ++ l.map fun n => UInt8.ofNat n.toNat).toArray⟩ := by
  induction l with
  | nil => intro s; simp
  | cons n l ih => intro s; rw [List.foldl_cons, ih]; simp [ByteArray.push]
theorem strOf_size (l : List Int) : (strOf l).size = l.length := by simp [strOf, ByteArray.size]
theorem rowV_map (n : Nat) (f : Nat → Int) : rowV n (fun i => .int .u8 (f i)) = (((List.range n).map f).map (Value.int .u8)).toArray := by
  symm
  apply rowV_eq
  · simp
  · intro i hi; simp [hi]
section
variable {P : Program}
/-- string(b), b a slice over a row of bytes. -/
theorem run_convert_row_string (w : World) (src dst e : TypeId) (b o n c : Nat) (f : Nat → Int) (hs : P.underlying src = some (.slice e)) (he : P.underlying e = some (.int .u8)) (hd : P.underlying dst = some .string)
    (hc : ∀ i, i < n → w.cell? ⟨b, o + i, none⟩ = some (.int .u8 (f i))) :
    (convert src dst (.slice (some ⟨b, o, none⟩) n c)).run P w = .ok (.string (strOf ((List.range n).map f))) w := by
  rw [run_convert_bytes_string w src dst e _ _ _ hs he hd]
  have hl := run_loadCells_list (P := P) w ⟨b, o, none⟩ (rowV n fun i => .int .u8 (f i)).toList (fun j v hv => by rw [Addr.add_mid]; exact range_of_cells hc j v hv)
  rw [Array.length_toList, rowV_size, Array.toArray_toList, rowV_map] at hl
  rw [run_bytesToString w ⟨b, o, none⟩ n c _ hl, strOf_fold]
  simp [strOf]
theorem range_getD (l : List Int) : (List.range l.length).map (fun i => l.getD i 0) = l := by
  apply List.ext_getElem?
  intro i
  rw [List.getElem?_map]
  by_cases h : i < l.length
  · rw [List.getElem?_range h, List.getElem?_eq_getElem h, Option.map_some, List.getD_eq_getElem?_getD, List.getElem?_eq_getElem h]; rfl
  · rw [List.getElem?_eq_none (by simp; omega), List.getElem?_eq_none (by omega)]; rfl
/-- string(b), b any bytes. -/
theorem run_convert_bytes (w : World) (src dst e : TypeId) (v : Value) (l : List Int) (hs : P.underlying src = some (.slice e)) (he : P.underlying e = some (.int .u8)) (hd : P.underlying dst = some .string)
    (h : isBytes w v l) : (convert src dst v).run P w = .ok (.string (strOf l)) w := by
  rcases h with ⟨rfl, rfl⟩ | ⟨pb, po, cap, rfl, h2, h3, h4, h6, h7⟩
  · rw [run_convert_bytes_string w src dst e _ _ _ hs he hd]
    simp [Conv.bytesToString, strOf]
    rfl
  · rw [run_convert_row_string w src dst e pb po l.length cap (fun i => l.getD i 0) hs he hd h6, range_getD]
theorem run_convert_any (w : World) (src dst e : TypeId) (v : Value) (l : List Int) (hs : P.underlying src = some (.slice e)) (he : P.underlying e = some (.int .u8)) (hd : P.underlying dst = some .string)
    (h : anyBytes w v l) : (convert src dst v).run P w = .ok (.string (strOf l)) w := by
  rcases h with h | ⟨⟨a, rfl⟩, rfl⟩
  · exact run_convert_bytes w src dst e v l hs he hd h
  · rw [run_convert_bytes_string w src dst e _ _ _ hs he hd]
    cases a with
    | none => simp [Conv.bytesToString, strOf]; rfl
    | some a => rw [run_bytesToString w a 0 0 [] (by simp [loadCells, loadCellsFrom]), strOf_fold]; simp [strOf]
theorem wp_convert_run {o : Oper} {a : Act} {w w' : World} {K : Act → World → Prop} {Q : Exit → Act → World → Prop} {v r : Value} (s t : TypeId) (x : Operand)
    (ho : o.op = .convert s t x) (hx : a.eval x = v) (hr : (convert s t v).run P w = .ok r w') (h : K (a.put o.dst r) w') : o.wp P a w K Q := by
  unfold Oper.wp execOp
  simp only [ho, hx, Sem.run_bind, hr, Result.andThen_ok, Sem.run_pure]
  exact h
theorem wpList_convert_run {ops : Array Oper} {rest : List Oper} {o : Oper} {a : Act} {w w' : World} {Q : Exit → Act → World → Prop} {v r : Value} (hgd : o.guard = none) (s t : TypeId) (x : Operand)
    (ho : o.op = .convert s t x) (hx : a.eval x = v) (hr : (convert s t v).run P w = .ok r w') (h : wpList P ops Q rest (a.put o.dst r) w') : wpList P ops Q (o :: rest) a w :=
  wpList_plain hgd fun _ hK => wp_convert_run s t x ho hx hr (hK _ _ h)
end
theorem strOf_inj {l m : List Int} (hl : ∀ i, 0 ≤ l.getD i 0 ∧ l.getD i 0 ≤ 255) (hm : ∀ i, 0 ≤ m.getD i 0 ∧ m.getD i 0 ≤ 255) (h : strOf l = strOf m) : l = m := by
  have hlen : l.length = m.length := by rw [← strOf_size l, ← strOf_size m, h]
  have h' : l.map (fun n => UInt8.ofNat n.toNat) = m.map (fun n => UInt8.ofNat n.toNat) := by
    have := congrArg (fun s : ByteArray => s.data.toList) h
    simpa [strOf] using this
  apply List.ext_getElem hlen
  intro i h1 h2
  have e := congrArg (fun q => q[i]?) h'
  simp only [List.getElem?_map, List.getElem?_eq_getElem h1, List.getElem?_eq_getElem h2, Option.map_some, Option.some.injEq] at e
  have a1 := hl i
  have a2 := hm i
  rw [List.getD_eq_getElem?_getD, List.getElem?_eq_getElem h1] at a1
  rw [List.getD_eq_getElem?_getD, List.getElem?_eq_getElem h2] at a2
  simp only [Option.getD_some] at a1 a2
  have e2 := congrArg UInt8.toNat e
  rw [UInt8.toNat_ofNat', UInt8.toNat_ofNat'] at e2
  omega
end Go.Proofs.YtknglaiobbmoaaaDoor

namespace Go.Proofs.YtknglaiobbmoaaaDoor
open Go.RowKit Go.Deep

section
variable {P : Program}
/-- copy, out of some cells into a row. -/
theorem run_copy_seg (w : World) (dT sT ty elem : TypeId) (b o dLen dCap sb so sLen sCap m : Nat) (g : Nat → Value) (t n : Nat) (F : Nat → Value)
    (hu : P.underlying dT = some (.slice elem)) (hs : (P.info? elem).map (·.size) = some 1) (hm : m = Nat.min sLen dLen)
    (hr : w.rowIs b t n F) (hfit : o + m ≤ n) (hsrc : ∀ j, j < m → w.cell? ⟨sb, so + j, none⟩ = some (g j)) (h1 : ∀ j, j < m → (g j).oneCell' = true) :
    (Builtin.copy_ #[dT, sT] ty #[.slice (some ⟨b, o, none⟩) dLen dCap, .slice (some ⟨sb, so, none⟩) sLen sCap]).run P w = .ok (goInt m) (w.setCells b o (rowV m g).toList) := by
  have hlen : (rowV m g).toList.length = m := by rw [Array.length_toList, rowV_size]
  have hl := run_loadCells_list (P := P) w ⟨sb, so, none⟩ (rowV m g).toList (fun j v hv => by rw [Addr.add_mid]; exact range_of_cells hsrc j v hv)
  have ht := there_of_row hr hfit
  have hst := run_storeCells_cells (P := P) b o (rowV m g).toList 0 w (fun j hj => by rw [hlen] at hj; simpa using (ht j hj).1) (fun j hj => by rw [hlen] at hj; simpa using (ht j hj).2)
    (fun v hv => by
      rw [Array.mem_toList_iff] at hv
      obtain ⟨i, hi', rfl⟩ := Array.mem_iff_getElem.1 hv
      have hlt : i < m := by rw [rowV_size] at hi'; exact hi'
      have := rowV_get m g i hlt
      rw [Array.getElem?_eq_getElem hi'] at this
      rw [Option.some.inj this]; exact h1 i hlt)
  cases hq : P.info? elem with
  | none => simp [hq] at hs
  | some i =>
    have hi : i.size = 1 := by simpa [hq] using hs
    rw [hlen] at hl
    simp only [Nat.add_zero, Array.toArray_toList] at hl hst
    simp [Builtin.copy_, run_underlying hu, Builtin.lenOf, Builtin.firstCells, sizeOf, typeInfo, hq, hi, ← hm, hl, hst]
end

theorem wTo_congr {f g : Nat → Int} (h : ∀ i, i < 64 → f i = g i) : ∀ k, wTo f k = wTo g k
  | 0 => rfl
  | k + 1 => by
    rw [wTo, wTo, wTo_congr h k]
    by_cases e : k < 16
    · rw [if_pos e, if_pos e, wFirst, wFirst, h _ (by omega), h _ (by omega), h _ (by omega), h _ (by omega)]
    · rw [if_neg e, if_neg e]
theorem takeI_congr {v v' f f' : Nat → Int} (hv : ∀ i, i < 8 → v i = v' i) (hf : ∀ i, i < 64 → f i = f' i) (i : Nat) (hi : i < 8) : takeI v f i = takeI v' f' i := by
  have hw : wAt f 64 = wAt f' 64 := by funext j; rw [wAt, wAt, wTo_congr hf]
  rw [takeI, takeI, hw, hv i hi, hv 0 (by omega), hv 1 (by omega), hv 2 (by omega), hv 3 (by omega), hv 4 (by omega), hv 5 (by omega), hv 6 (by omega), hv 7 (by omega)]
/-- the words behind the first k blocks of some bytes. -/
def wordsAt (l : List Int) : Nat → Nat → Int
  | 0 => firstI.at
  | k + 1 => takeI (wordsAt l k) (fun i => l.getD (64 * k + i) 0)
theorem wordsAt_append (l m : List Int) : ∀ k, 64 * k ≤ l.length → ∀ i, i < 8 → wordsAt (l ++ m) k i = wordsAt l k i
  | 0, _, _, _ => rfl
  | k + 1, h, i, hi => by
    rw [wordsAt, wordsAt]
    refine takeI_congr (fun j hj => wordsAt_append l m k (by omega) j hj) (fun j hj => ?_) i hi
    rw [List.getD_eq_getElem?_getD, List.getD_eq_getElem?_getD, List.getElem?_append_left (by omega)]
theorem hash_range {w : World} {b : Nat} {v f : Nat → Int} {c : Int} (h : hashIs w b v f c) :
    ∃ cs : List Value, cs.length = 64 ∧ w.rangeAt b 8 cs ∧ Hid (cs.toArray = rowV 64 fun i => .int .u8 (f i)) :=
  ⟨(rowV 64 fun i => .int .u8 (f i)).toList, by rw [Array.length_toList, rowV_size], range_of_cells fun i hi => by rw [h.cell (by omega), hashV_byte _ _ _ _ hi], by rw [Hid, Array.toArray_toList]⟩
/-- take, of a hash and its own block. -/
theorem take_hash (b : Nat) (v f : Nat → Int) (c : Int) (cs : List Value) (w : World) (Hcs : Hid (cs.toArray = rowV 64 fun i => .int .u8 (f i))) (h : hashIs w b v f c)
    (hk : ∀ i, i < 64 → w.cell? ⟨0, i, none⟩ = some (.int .u32 (kAt i))) :
    Calls Tryd.prog 17 #[.pointer (some ⟨b, 0, none⟩), .agg cs.toArray] w fun e w' => e = .returned (.tuple #[]) ∧ But w.heap.size b w w' ∧ hashIs w' b (takeI v f) f c ∧ w'.rangeAt b 8 cs := by
  rw [Hcs.out]
  have hlt := h.lt
  refine (take_any b _ 73 _ v f w (fun i hi => hashV_word v f c i hi) (by omega) h hk (by omega)).mono ?_
  rintro e w' ⟨rfl, hb, hr⟩
  have hr' : hashIs w' b (takeI v f) f c := hr.congr fun i _ => by
    by_cases e : i < 8
    · rw [if_pos e, hashV_word _ _ _ _ e]
    · rw [if_neg e, hashV, hashV, if_neg e, if_neg e]
  refine ⟨rfl, hb, hr', ?_⟩
  have hcs : cs = (rowV 64 fun i => Value.int .u8 (f i)).toList := by rw [← Hcs.out]
  rw [hcs]
  exact range_of_cells fun i hi => by rw [hr'.cell (by omega), hashV_byte _ _ _ _ hi]
/-- A HASH TO WHICH THESE BYTES CAME, its words begun. -/
def hashOf (w : World) (b : Nat) (l : List Int) : Prop :=
  ∃ v f : Nat → Int, hashIs w b v f l.length ∧ (∀ i, i < 8 → v i = wordsAt l (l.length / 64) i) ∧ (∀ i, 0 ≤ f i ∧ f i ≤ 255) ∧ ∀ i, i < l.length % 64 → f i = l.getD (l.length / 64 * 64 + i) 0
end Go.Proofs.YtknglaiobbmoaaaDoor

namespace Go.Proofs.YtknglaiobbmoaaaDoor
open Go.RowKit Go.Deep

theorem min_or (a b : Nat) : Nat.min a b = a ∨ Nat.min a b = b := by
  rcases Nat.le_total a b with h | h
  · exact Or.inl (Nat.min_eq_left h)
  · exact Or.inr (Nat.min_eq_right h)
/-- a hash's bytes behind a copy of m bytes. -/
def addF (f : Nat → Int) (p : List Int) (d n m : Nat) (i : Nat) : Int := if n % 64 ≤ i ∧ i < n % 64 + m then p.getD (d + (i - n % 64)) 0 else f i
theorem addF_byte {f : Nat → Int} {p : List Int} {d n m : Nat} (hf : ∀ i, 0 ≤ f i ∧ f i ≤ 255) (hp : ∀ i, 0 ≤ p.getD i 0 ∧ p.getD i 0 ≤ 255) (i : Nat) : 0 ≤ addF f p d n m i ∧ addF f p d n m i ≤ 255 := by
  unfold addF; split
  · exact hp _
  · exact hf _
/-- the bytes of a hash behind a copy are those of the longer text. -/
theorem addF_text {l p : List Int} {d n m : Nat} {f : Nat → Int} (hd : d + m ≤ p.length) (hn : n = l.length + d) (hfl : ∀ i, i < n % 64 → f i = (l ++ p.take d).getD (n / 64 * 64 + i) 0) (i : Nat) (hi : i < n % 64 + m) :
    addF f p d n m i = (l ++ p.take (d + m)).getD (n / 64 * 64 + i) 0 := by
  have hL : (l ++ p.take d).length = n := by rw [List.length_append, List.length_take, Nat.min_eq_left (by omega), hn]
  have hsplit : l ++ p.take (d + m) = (l ++ p.take d) ++ (p.drop d).take m := by rw [List.append_assoc, ← List.take_add]
  rw [hsplit, List.getD_eq_getElem?_getD, List.getElem?_append, hL, addF]
  by_cases e : n % 64 ≤ i
  · rw [if_pos ⟨e, hi⟩, if_neg (by omega), show n / 64 * 64 + i - n = i - n % 64 by omega, List.getElem?_take, if_pos (by omega), List.getElem?_drop, ← List.getD_eq_getElem?_getD]
  · rw [if_neg (by omega), if_pos (by omega), ← List.getD_eq_getElem?_getD]; exact hfl i (by omega)
theorem hash_more {w : World} {b : Nat} {l p : List Int} {d n m : Nat} {v f : Nat → Int} (hd : d + m ≤ p.length) (hn : n = l.length + d) (hm : n % 64 + m < 64) (hfl : ∀ i, i < n % 64 → f i = (l ++ p.take d).getD (n / 64 * 64 + i) 0)
    (hf : ∀ i, 0 ≤ f i ∧ f i ≤ 255) (hp : ∀ i, 0 ≤ p.getD i 0 ∧ p.getD i 0 ≤ 255) (hv : ∀ i, i < 8 → v i = wordsAt (l ++ p.take d) (n / 64) i) (h : hashIs w b v (addF f p d n m) ((n + m : Nat) : Int)) : hashOf w b (l ++ p.take (d + m)) := by
  have hL : (l ++ p.take (d + m)).length = n + m := by rw [List.length_append, List.length_take, Nat.min_eq_left (by omega), hn]; omega
  have hL0 : (l ++ p.take d).length = n := by rw [List.length_append, List.length_take, Nat.min_eq_left (by omega), hn]
  have hsplit : l ++ p.take (d + m) = (l ++ p.take d) ++ (p.drop d).take m := by rw [List.append_assoc, ← List.take_add]
  refine ⟨v, addF f p d n m, by rw [hL]; exact h, fun i hi => ?_, addF_byte hf hp, fun i hi => ?_⟩
  · rw [hL, show (n + m) / 64 = n / 64 by omega, hv i hi, hsplit, wordsAt_append (l ++ p.take d) ((p.drop d).take m) _ (by rw [hL0]; omega) i hi]
  · rw [hL] at hi ⊢
    rw [show (n + m) / 64 = n / 64 by omega]
    exact addF_text hd hn hfl i (by omega)
theorem hash_full {w : World} {b : Nat} {l p : List Int} {d n m : Nat} {v f : Nat → Int} (hd : d + m ≤ p.length) (hn : n = l.length + d) (hm : n % 64 + m = 64) (hfl : ∀ i, i < n % 64 → f i = (l ++ p.take d).getD (n / 64 * 64 + i) 0)
    (hf : ∀ i, 0 ≤ f i ∧ f i ≤ 255) (hp : ∀ i, 0 ≤ p.getD i 0 ∧ p.getD i 0 ≤ 255) (hv : ∀ i, i < 8 → v i = wordsAt (l ++ p.take d) (n / 64) i) (h : hashIs w b (takeI v (addF f p d n m)) (addF f p d n m) ((n + m : Nat) : Int)) : hashOf w b (l ++ p.take (d + m)) := by
  have hL : (l ++ p.take (d + m)).length = n + m := by rw [List.length_append, List.length_take, Nat.min_eq_left (by omega), hn]; omega
  have hL0 : (l ++ p.take d).length = n := by rw [List.length_append, List.length_take, Nat.min_eq_left (by omega), hn]
  have hsplit : l ++ p.take (d + m) = (l ++ p.take d) ++ (p.drop d).take m := by rw [List.append_assoc, ← List.take_add]
  refine ⟨takeI v (addF f p d n m), addF f p d n m, by rw [hL]; exact h, fun i hi => ?_, addF_byte hf hp, fun i hi => ?_⟩
  · rw [hL, show (n + m) / 64 = n / 64 + 1 by omega, wordsAt]
    refine takeI_congr (fun j hj => ?_) (fun j hj => ?_) i hi
    · rw [hv j hj, hsplit, wordsAt_append (l ++ p.take d) ((p.drop d).take m) _ (by rw [hL0]; omega) j hj]
    · rw [addF_text hd hn hfl j (by omega), Nat.mul_comm]
  · rw [hL] at hi
    omega
def sliceLen : Value → Nat
  | .slice _ n _ => n
  | _ => 0
set_option maxHeartbeats 1000000 in
set_option maxRecDepth 100000 in
theorem add_any (b : Nat) (l p : List Int) (pb po cap : Nat) (w : World) (h : hashOf w b l) (hne : pb ≠ b) (hpb : pb < w.heap.size) (hcap : p.length ≤ cap) (hbig : l.length + p.length < 1099511627776)
    (hcell : ∀ i, i < p.length → w.cell? ⟨pb, po + i, none⟩ = some (.int .u8 (p.getD i 0))) (hbyte : ∀ i, 0 ≤ p.getD i 0 ∧ p.getD i 0 ≤ 255)
    (hk : ∀ i, i < 64 → w.cell? ⟨0, i, none⟩ = some (.int .u32 (kAt i))) (hb0 : b ≠ 0) (hcm : cap ≤ maxLen) :
    Calls Tryd.prog 11 #[.pointer (some ⟨b, 0, none⟩), .slice (some ⟨pb, po, none⟩) p.length cap] w fun e w' => e = .returned (.tuple #[]) ∧ But w.heap.size b w w' ∧ hashOf w' b (l ++ p) := by
  unfold maxLen at hcm
  have hlt : b < w.heap.size := by obtain ⟨v, f, h, _⟩ := h; exact h.lt
  go_enter Tryd.func11, Tryd.ntmps11
  go_wp2
  go_loopw [1] (fun s wr => ∃ d r c o : Nat, d + r ≤ p.length ∧ p.length ≤ d + r ∧ r ≤ c ∧ c ≤ cap ∧ (0 < r → o = po + d) ∧ s = .slice (some ⟨pb, o, none⟩) r c ∧ But w.heap.size b w wr ∧ hashOf wr b (l ++ p.take d)) (fun s _ => sliceLen s)
  case atStart => exact ⟨0, p.length, cap, po, by omega, by omega, hcap, Nat.le_refl _, fun _ => rfl, rfl, But.refl _ _ _, by simpa using h⟩
  case round =>
    clear h
    obtain ⟨d, r, c, o, hd1, hd2, hrc, hcc, ho, rfl, hbut, v, f, h, hv, hf, hfl⟩ := hrel
    have hl : (l ++ p.take d).length = l.length + d := by rw [List.length_append, List.length_take, Nat.min_eq_left (by omega)]
    rw [hl] at h hv hfl
    clear hl
    obtain ⟨n, hn⟩ : ∃ n, n = l.length + d := ⟨_, rfl⟩
    rw [← hn] at h hv hfl
    have HN : Hid (n = l.length + d) := hn
    have hn2 : n < 1099511627776 := by omega
    clear hn
    by_cases hr : 0 < r
    · obtain rfl := ho hr
      clear ho
      have q0 : (0 : Int) < (r : Int) := by omega
      have q1 : (0 : Int) ≤ (n : Int) % 64 := by omega
      have q2 : (n : Int) % 64 < 64 := by omega
      have q3 : (n : Int) % 64 ≤ 64 := by omega
      obtain ⟨m, hm⟩ : ∃ m, m = Nat.min r (64 - ((n : Int) % 64).toNat) := ⟨_, rfl⟩
      have hmr : m ≤ r := by rw [hm]; exact Nat.min_le_left _ _
      have hmq : m ≤ 64 - ((n : Int) % 64).toNat := by rw [hm]; exact Nat.min_le_right _ _
      have hm0 : 0 < m := by rw [hm]; exact Nat.lt_min.2 ⟨by omega, by omega⟩
      have hmx : m = r ∨ m = 64 - ((n : Int) % 64).toNat := by rw [hm]; exact min_or _ _
      have hsrc : ∀ j, j < m → wr.drew.cell? ⟨pb, po + d + j, none⟩ = some (.int .u8 (p.getD (d + j) 0)) := fun j hj => by
        show wr.cell? _ = _
        rw [hbut.cell hpb hne, Nat.add_assoc]; exact hcell _ (by omega)
      have hcp := run_copy_seg (P := Tryd.prog) wr.drew 22 22 3 5 b (8 + ((n : Int) % 64).toNat) (64 - ((n : Int) % 64).toNat) (64 - ((n : Int) % 64).toNat) pb (po + d) r c m (fun j => .int .u8 (p.getD (d + j) 0)) 38 73 (hashV v f n) Tryd.underlying22 (by kernel_rfl) hm h.drew (by omega) hsrc (fun _ _ => rfl)
      have rW : (wr.drew.setCells b (8 + ((n : Int) % 64).toNat) (rowV m fun j => .int .u8 (p.getD (d + j) 0)).toList).rowIs b 38 73 _ := rowIs_splice h.drew
      have hbW : But w.heap.size b w (wr.drew.setCells b (8 + ((n : Int) % 64).toNat) (rowV m fun j => .int .u8 (p.getD (d + j) 0)).toList) := but_setCells _ _ hbut.drew
      revert hcp rW hbW
      generalize wr.drew.setCells b (8 + ((n : Int) % 64).toNat) (rowV m fun j => .int .u8 (p.getD (d + j) 0)).toList = W
      intro hcp rW hbW
      have HM : Hid (m = r ∨ m = 64 - ((n : Int) % 64).toNat) := hmx
      clear hm hsrc hmx
      go_wp2
      go_region_held3 (fun _ => True) (trivial) (first | (go_at_call 16; refine (waiting_any b v f n _ ?_).mono ?_; exact h; rintro e w' ⟨rfl, rfl⟩))
      clear hcp
      obtain ⟨o', ho', hsl⟩ := run_slice_from (P := Tryd.prog) 22 5 pb (po + d) r c m Tryd.underlying22 (by kernel_rfl) hmr
      have cW : W.cell? ⟨b, 72, none⟩ = some (.int .u64 n) := by rw [rW.cell (by omega), if_neg (by omega), hashV_count]
      have zW := rW.frozen 72
      have HO : Hid (m < c → o' = po + d + m) := ho'
      clear ho'
      have rW' : hashIs W b v (addF f p d n m) n := rW.congr fun i hi => by
        unfold hashV addF
        by_cases e : i < 8
        · rw [if_neg (by omega), if_pos e, if_pos e]
        · by_cases e2 : i < 72
          · rw [if_neg e, if_pos e2, if_neg e, if_pos e2]
            by_cases e3 : n % 64 ≤ i - 8 ∧ i - 8 < n % 64 + m
            · rw [if_pos (by omega), if_pos e3, show i - (8 + ((n : Int) % 64).toNat) = i - 8 - n % 64 by omega]
            · rw [if_neg (by omega), if_neg e3]
          · rw [if_neg (by omega), if_neg e, if_neg e2, if_neg e, if_neg e2]
      have r2 : hashIs (W.setCell ⟨b, 72, none⟩ (.int .u64 ((n : Int) + m))) b v (addF f p d n m) ((n + m : Nat) : Int) := (rW'.set 72 _).congr fun i hi => by
        unfold hashV
        by_cases e : i = 72
        · rw [if_pos e, if_neg (by omega), if_neg (by omega), Int.natCast_add]
        · rw [if_neg e]
          by_cases e1 : i < 8
          · rw [if_pos e1, if_pos e1]
          · rw [if_neg e1, if_neg e1, if_pos (by omega), if_pos (by omega)]
      have hb2 := hbW.set 72 (.int .u64 ((n : Int) + m))
      have HR : Hid (But w.heap.size b w W ∧ hashIs W b v (addF f p d n m) n) := ⟨hbW, rW'⟩
      clear rW rW' hbW
      by_cases hfull : (n + m) % 64 = 0
      · have hdb : (((n : Int) + (m : Int)) % 64 == 0) = true := by simp; omega
        go_wp2
        revert r2 hb2
        generalize W.setCell ⟨b, 72, none⟩ (.int .u64 ((n : Int) + m)) = W2
        intro r2 hb2
        obtain ⟨cs, hcl, hcr, Hcs⟩ := hash_range r2
        have hu := Tryd.underlying35
        have hi : (Tryd.prog.info? 35).map (·.size) = some cs.length := by rw [hcl]; kernel_rfl
        have hk2 : ∀ i, i < 64 → W2.cell? ⟨0, i, none⟩ = some (.int .u32 (kAt i)) := fun i hi => by rw [hb2.cell (by omega) (Ne.symm hb0)]; exact hk i hi
        go_region_held3 (fun w' => w'.rangeAt b 8 cs) (first | exact hrng | exact hcr) (first | (go_at_call 17; refine (take_hash b v (addF f p d n m) _ cs _ Hcs r2.drew hk2).mono ?_; rintro e w3 ⟨rfl, hb3, r3, hrng⟩))
        go_wp2
        go_light
        exact ⟨⟨d + m, r - m, c - m, o', by omega, by omega, by omega, by omega, fun h => by have := HO.out (by omega); omega, rfl, hb2.drew.trans (hb3.mono hb2.size), hash_full (by omega) HN.out (by omega) hfl hf hbyte hv r3⟩, by simp [sliceLen]; omega⟩
      · have hdb : (((n : Int) + (m : Int)) % 64 == 0) = false := by simp; omega
        go_wp2
        go_light
        have hm2 : m = r := by have := HM.out; omega
        exact ⟨⟨d + m, r - m, c - m, o', by omega, by omega, by omega, by omega, fun h => by have := HO.out (by omega); omega, rfl, hb2, hash_more (by omega) HN.out (by omega) hfl hf hbyte hv r2⟩, by simp [sliceLen]; omega⟩
    · obtain rfl : r = 0 := by omega
      go_wp2
      go_end0
      have hpl : d = p.length := by omega
      subst hpl
      refine ⟨rfl, hbut, v, f, ?_⟩
      rw [List.take_length] at hv hfl
      have e2 : (l ++ p).length = n := by rw [List.length_append, HN.out]
      rw [e2]
      exact ⟨h, hv, hf, hfl⟩
end Go.Proofs.YtknglaiobbmoaaaDoor

namespace Go.Proofs.YtknglaiobbmoaaaDoor
open Go.RowKit Go.Deep

section
variable {P : Program}
/-- a[m:] of an array behind a pointer, its elements of one cell. -/
theorem run_sliceAt_arr (t e : TypeId) (b o len m : Nat) (x : Int) (hx : x = m) (hu : P.underlying t = some (.array len e)) (hs : (P.info? e).map (·.size) = some 1) (hm : m ≤ len) :
    ∃ o', (m < len → o' = o + m) ∧ ∀ w : World, (Instr.sliceAt t (.pointer (some ⟨b, o, none⟩)) (some (.int .i64 x)) none none).run P w = .ok (.slice (some ⟨b, o', none⟩) (len - m) (len - m)) w := by
  subst hx
  cases hq : P.info? e with
  | none => simp [hq] at hs
  | some i =>
    have hi : i.size = 1 := by simpa [hq] using hs
    have h0 : (0 : Int) ≤ (m : Int) ∧ (m : Int) ≤ (len : Int) := by omega
    by_cases hc : len = m
    · refine ⟨o, fun h => by omega, fun w => ?_⟩
      simp [Instr.sliceAt, Instr.sliceBounds, Instr.sliceBound, asIntOf, Instr.sureAddr, run_underlying hu, sizeOf, typeInfo, hq, h0, hc]
    · refine ⟨o + m, fun _ => rfl, fun w => ?_⟩
      simp [Instr.sliceAt, Instr.sliceBounds, Instr.sliceBound, asIntOf, Instr.sureAddr, run_underlying hu, sizeOf, typeInfo, hq, hi, h0, hc, hm, Addr.add_mid]
/-- clear, of any number of elements of one cell each in a row. -/
theorem run_clear_seg (w : World) (t e ty : TypeId) (z : Value) (ht : P.underlying t = some (.slice e)) (hv : ∀ w, (zeroValue e).run P w = .ok z w) (hz : z.cells = #[z]) (h1 : z.oneCell' = true) (b o n c T N : Nat) (F : Nat → Value)
    (hr : w.rowIs b T N F) (hn : 0 < n → o + n ≤ N) :
    (Builtin.clear_ #[t] ty #[.slice (some ⟨b, o, none⟩) n c]).run P w = .ok (.tuple #[]) (w.setCells b o (List.replicate n z)) := by
  by_cases h : 0 < n
  · exact Lib.run_clear_slice w t e ty z ht hv hz h1 b o n c h (fun j hj => by rw [hr.cell (by omega)]; rfl) (fun j _ => hr.frozen _)
  · obtain rfl : n = 0 := by omega
    simp [Builtin.clear_, run_underlying ht, World.setCells]
end

/-- a block's bytes behind the message's end. -/
def padF (f : Nat → Int) (q i : Nat) : Int := if i < q then f i else if i = q then 128 else 0
/-- the length's bytes at a block's end. -/
def lenF (f : Nat → Int) (n i : Nat) : Int := if i < 56 then f i else (8 * (n : Int)) / 2 ^ (56 - 8 * (i - 56)) % 256
/-- the words of a whole message. -/
def padW (v f : Nat → Int) (n : Nat) : Nat → Int :=
  if n % 64 < 56 then takeI v (lenF (padF f (n % 64)) n) else takeI (takeI v (padF f (n % 64))) (lenF (fun _ => 0) n)
theorem padF_byte {f : Nat → Int} {q : Nat} (hf : ∀ i, 0 ≤ f i ∧ f i ≤ 255) (i : Nat) : 0 ≤ padF f q i ∧ padF f q i ≤ 255 := by
  unfold padF; split
  · exact hf _
  · split <;> omega
theorem lenF_byte {f : Nat → Int} {n : Nat} (hf : ∀ i, 0 ≤ f i ∧ f i ≤ 255) (i : Nat) : 0 ≤ lenF f n i ∧ lenF f n i ≤ 255 := by
  unfold lenF; split
  · exact hf _
  · omega

theorem hashV_set_byte (v f : Nat → Int) (c : Int) (q : Nat) (x : Int) (hq : q < 64) (j : Nat) : (if j = 8 + q then Value.int .u8 x else hashV v f c j) = hashV v (fun i => if i = q then x else f i) c j := by
  unfold hashV
  dsimp only
  by_cases e : j = 8 + q
  · subst e; rw [if_pos rfl, if_neg (by omega), if_pos (by omega), if_pos (by omega)]
  · rw [if_neg e]
    by_cases e1 : j < 8
    · rw [if_pos e1, if_pos e1]
    · rw [if_neg e1, if_neg e1]
      by_cases e2 : j < 72
      · rw [if_pos e2, if_pos e2, if_neg (by omega)]
      · rw [if_neg e2, if_neg e2]
/-- one byte of a hash's block is stored. -/
theorem hash_set {w : World} {b : Nat} {v f : Nat → Int} {c : Int} (h : hashIs w b v f c) (q : Nat) (hq : q < 64) (x : Int) : hashIs (w.setCell ⟨b, 8 + q, none⟩ (.int .u8 x)) b v (fun i => if i = q then x else f i) c :=
  (h.set (8 + q) (.int .u8 x)).congr fun j _ => hashV_set_byte v f c q x hq j
theorem hash_congr {w : World} {b : Nat} {v f g : Nat → Int} {c : Int} (h : hashIs w b v f c) (e : ∀ i, i < 64 → f i = g i) : hashIs w b v g c :=
  h.congr fun j _ => by
    unfold hashV
    by_cases e1 : j < 8
    · rw [if_pos e1, if_pos e1]
    · rw [if_neg e1, if_neg e1]
      by_cases e2 : j < 72
      · rw [if_pos e2, if_pos e2, e _ (by omega)]
      · rw [if_neg e2, if_neg e2]
/-- noughts behind the byte q. -/
theorem hash_clear {w : World} {b o' : Nat} {v f : Nat → Int} {c : Int} (h : hashIs w b v f c) (q : Nat) (hq : q < 64) (ho : q + 1 < 64 → o' = 8 + (q + 1)) :
    hashIs (w.setCells b o' (List.replicate (63 - q) (.int .u8 0))) b v (fun i => if q < i then 0 else f i) c :=
  (rowIs_setCells _ _ h).congr fun j hj => by
    rw [List.length_replicate]
    unfold hashV
    dsimp only
    by_cases e : o' ≤ j ∧ j < o' + (63 - q)
    · have := ho (by omega)
      rw [if_pos e, if_neg (by omega), if_pos (by omega), if_pos (by omega), List.getD_eq_getElem?_getD, List.getElem?_replicate, if_pos (by omega)]; rfl
    · rw [if_neg e]
      by_cases e1 : j < 8
      · rw [if_pos e1, if_pos e1]
      · rw [if_neg e1, if_neg e1]
        by_cases e2 : j < 72
        · have h3 : ¬ q < j - 8 := fun h2 => by have := ho (by omega); omega
          rw [if_pos e2, if_pos e2, if_neg h3]
        · rw [if_neg e2, if_neg e2]
theorem zero_byte : ∀ w : World, (zeroValue 5).run Tryd.prog w = .ok (.int .u8 0) w := fun w => by kernel_rfl

set_option maxHeartbeats 1000000 in
set_option maxRecDepth 100000 in
theorem pad_short (b : Nat) (v f : Nat → Int) (n : Nat) (w : World) (h : hashIs w b v f n) (hn : n < 1099511627776) (hq : n % 64 < 56)
    (hk : ∀ i, i < 64 → w.cell? ⟨0, i, none⟩ = some (.int .u32 (kAt i))) (hb0 : b ≠ 0) :
    Calls Tryd.prog 13 #[.pointer (some ⟨b, 0, none⟩)] w fun e w' => e = .returned (.tuple #[]) ∧ But w.heap.size b w w' ∧ ∃ f', hashIs w' b (padW v f n) f' n := by
  have hlt := h.lt
  obtain ⟨q, hqn⟩ : ∃ q, q = n % 64 := ⟨_, rfl⟩
  have hq56 : q < 56 := by omega
  have q1 : (q : Int) < 56 := by omega
  have q0 : (0 : Int) ≤ (q : Int) := by omega
  have q2 : (q : Int) < 64 := by omega
  have hw := waiting_any b v f n w h
  rw [show (n : Int) % 64 = (q : Int) by omega] at hw
  have cq : w.cell? ⟨b, 8 + q, none⟩ = some (.int .u8 (f q)) := by rw [h.cell (by omega), hashV_byte _ _ _ _ (by omega)]
  have zq := h.frozen (8 + q)
  have HQ : Hid (q = n % 64) := hqn
  clear hqn hq
  have rA := hash_set h q (by omega) 128
  obtain ⟨o', ho', hsl⟩ := run_sliceAt_arr (P := Tryd.prog) 35 5 b 8 64 (q + 1) ((q : Int) + 1) (by omega) Tryd.underlying35 (by kernel_rfl) (by omega)
  have hcl := run_clear_seg (P := Tryd.prog) (w.setCell ⟨b, 8 + q, none⟩ (.int .u8 128)) 22 5 0 (.int .u8 0) Tryd.underlying22 zero_byte rfl rfl b o' (63 - q) (63 - q) _ _ _ rA (fun h => by have := ho' (by omega); omega)
  have rW := hash_clear rA q (by omega) ho'
  have hbW : But w.heap.size b w ((w.setCell ⟨b, 8 + q, none⟩ (.int .u8 128)).setCells b o' (List.replicate (63 - q) (.int .u8 0))) := but_setCells _ _ ((But.refl _ _ _).set _ _)
  revert hcl rW hbW
  generalize (w.setCell ⟨b, 8 + q, none⟩ (.int .u8 128)).setCells b o' (List.replicate (63 - q) (.int .u8 0)) = W
  intro hcl rW hbW
  have rW' : hashIs W b v (padF f q) n := hash_congr rW fun i _ => by
    unfold padF
    by_cases e : q < i
    · rw [if_pos e, if_neg (by omega), if_neg (by omega)]
    · rw [if_neg e]
      by_cases e2 : i = q
      · rw [if_pos e2, if_neg (by omega), if_pos e2]
      · rw [if_neg e2, if_pos (by omega)]
  have cW : W.cell? ⟨b, 72, none⟩ = some (.int .u64 n) := rW.cell (by omega)
  clear rW ho' rA
  go_enter Tryd.func13, Tryd.ntmps13
  go_wp2_with fail
  refine hw.mono ?_
  rintro e w' ⟨rfl, hww⟩
  obtain rfl := hww.symm
  clear hw hww
  go_wp2
  clear hcl hsl cW cq zq
  go_loopw [37] (fun i wr => ∃ k : Nat, k ≤ 8 ∧ i = .int .i64 k ∧ But w.heap.size b w wr ∧ hashIs wr b v (fun j => if j < 56 + k then lenF (padF f q) n j else (padF f q) j) n) (fun i _ => 8 - (intOf i).toNat)
  case atStart => exact ⟨0, by omega, rfl, hbW, hash_congr rW' fun i _ => by
    by_cases e : i < 56
    · rw [if_pos (by omega), lenF, if_pos e]
    · rw [if_neg (by omega)]⟩
  case round =>
    clear hbW rW'
    obtain ⟨k, hk8, rfl, hb, r⟩ := hrel
    by_cases hlt8 : k < 8
    · have b0 : (0 : Int) ≤ (k : Int) := by omega
      have b1 : (k : Int) < 8 := by omega
      have b2 : (0 : Int) ≤ 56 + (k : Int) := by omega
      have b3 : 56 + (k : Int) < 64 := by omega
      have b4 : (0 : Int) ≤ 56 - 8 * (k : Int) := by omega
      have b5 : 56 - 8 * (k : Int) ≤ 64 := by omega
      have e1 : IntKind.i64.wrap (56 + (k : Int)) = 56 + (k : Int) := IntWalk.i64_in _ (by omega)
      have e2 : IntKind.i64.wrap (8 * (k : Int)) = 8 * (k : Int) := IntWalk.i64_in _ (by omega)
      have e3 : IntKind.i64.wrap (56 - 8 * (k : Int)) = 56 - 8 * (k : Int) := IntWalk.i64_in _ (by omega)
      obtain ⟨x, c2⟩ : ∃ x, wr.cell? ⟨b, 8 + (56 + k), none⟩ = some x := ⟨_, r.cell (by omega)⟩
      have c1 : wr.cell? ⟨b, 8 + (56 + (k : Int)).toNat, none⟩ = some x := by
        rw [show (56 + (k : Int)).toNat = 56 + k by omega]; exact c2
      have z1 := r.frozen (8 + (56 + (k : Int)).toNat)
      have z2 := r.frozen (8 + (56 + k))
      go_wp2
      go_region
      go_wp2
      go_light
      refine ⟨⟨k + 1, by omega, by go_num, (hb.set _ _).drew, hash_congr (hash_set r (56 + k) (by omega) _) fun i _ => ?_⟩, by simp [intOf]; omega⟩
      by_cases e : i = 56 + k
      · subst e; rw [if_pos rfl, if_pos (by omega), lenF, if_neg (by omega), show 56 + k - 56 = k by omega]
      · rw [if_neg e]
        by_cases e2 : i < 56 + k
        · rw [if_pos e2, if_pos (by omega)]
        · rw [if_neg e2, if_neg (by omega)]
    · obtain rfl : k = 8 := by omega
      have r2 : hashIs wr b v (lenF (padF f q) n) n := hash_congr r fun i hi => by rw [if_pos (by omega)]
      clear r
      go_wp2
      obtain ⟨cs, hcl, hcr, Hcs⟩ := hash_range r2
      have hu := Tryd.underlying35
      have hi : (Tryd.prog.info? 35).map (·.size) = some cs.length := by rw [hcl]; kernel_rfl
      have hk2 : ∀ i, i < 64 → wr.cell? ⟨0, i, none⟩ = some (.int .u32 (kAt i)) := fun i hi => by rw [hb.cell (by omega) (Ne.symm hb0)]; exact hk i hi
      go_region_held3 (fun w' => w'.rangeAt b 8 cs) (first | exact hrng | exact hcr) (first | (go_at_call 17; refine (take_hash b v (lenF (padF f q) n) _ cs _ Hcs r2.drew hk2).mono ?_; rintro e w3 ⟨rfl, hb3, r3, hrng⟩))
      go_wp2
      go_end0
      exact ⟨rfl, hb.drew.trans (hb3.mono hb.size), _, by rw [padW, ← HQ.out, if_pos hq56]; exact r3⟩

set_option maxHeartbeats 1000000 in
set_option maxRecDepth 100000 in
theorem pad_long (b : Nat) (v f : Nat → Int) (n : Nat) (w : World) (h : hashIs w b v f n) (hn : n < 1099511627776) (hq : 56 ≤ n % 64)
    (hk : ∀ i, i < 64 → w.cell? ⟨0, i, none⟩ = some (.int .u32 (kAt i))) (hb0 : b ≠ 0) :
    Calls Tryd.prog 13 #[.pointer (some ⟨b, 0, none⟩)] w fun e w' => e = .returned (.tuple #[]) ∧ But w.heap.size b w w' ∧ ∃ f', hashIs w' b (padW v f n) f' n := by
  have hlt := h.lt
  obtain ⟨q, hqn⟩ : ∃ q, q = n % 64 := ⟨_, rfl⟩
  have hq56 : 56 ≤ q := by omega
  have hq64 : q < 64 := by omega
  have q1 : (56 : Int) ≤ (q : Int) := by omega
  have q0 : (0 : Int) ≤ (q : Int) := by omega
  have q2 : (q : Int) < 64 := by omega
  have hw := waiting_any b v f n w h
  rw [show (n : Int) % 64 = (q : Int) by omega] at hw
  have cq : w.cell? ⟨b, 8 + q, none⟩ = some (.int .u8 (f q)) := by rw [h.cell (by omega), hashV_byte _ _ _ _ (by omega)]
  have zq := h.frozen (8 + q)
  have HQ : Hid (q = n % 64) := hqn
  clear hqn hq
  have rA := hash_set h q (by omega) 128
  obtain ⟨o', ho', hsl⟩ := run_sliceAt_arr (P := Tryd.prog) 35 5 b 8 64 (q + 1) ((q : Int) + 1) (by omega) Tryd.underlying35 (by kernel_rfl) (by omega)
  have hcl := run_clear_seg (P := Tryd.prog) (w.setCell ⟨b, 8 + q, none⟩ (.int .u8 128)) 22 5 0 (.int .u8 0) Tryd.underlying22 zero_byte rfl rfl b o' (63 - q) (63 - q) _ _ _ rA (fun h => by have := ho' (by omega); omega)
  have rW := hash_clear rA q (by omega) ho'
  have hbW : But w.heap.size b w ((w.setCell ⟨b, 8 + q, none⟩ (.int .u8 128)).setCells b o' (List.replicate (63 - q) (.int .u8 0))) := but_setCells _ _ ((But.refl _ _ _).set _ _)
  revert hcl rW hbW
  generalize (w.setCell ⟨b, 8 + q, none⟩ (.int .u8 128)).setCells b o' (List.replicate (63 - q) (.int .u8 0)) = W
  intro hcl rW hbW
  have rW' : hashIs W b v (padF f q) n := hash_congr rW fun i _ => by
    unfold padF
    by_cases e : q < i
    · rw [if_pos e, if_neg (by omega), if_neg (by omega)]
    · rw [if_neg e]
      by_cases e2 : i = q
      · rw [if_pos e2, if_neg (by omega), if_pos e2]
      · rw [if_neg e2, if_pos (by omega)]
  have cW : W.cell? ⟨b, 72, none⟩ = some (.int .u64 n) := rW.cell (by omega)
  clear rW ho' rA
  go_enter Tryd.func13, Tryd.ntmps13
  go_wp2_with fail
  refine hw.mono ?_
  rintro e w' ⟨rfl, hww⟩
  obtain rfl := hww.symm
  clear hw hww
  have hz0 := zero_block
  have hi64 : (Tryd.prog.info? 35).map (·.size) = some 64 := by kernel_rfl
  go_wp2
  clear hcl hsl cW cq zq
  obtain ⟨cs, hcl, hcr, Hcs⟩ := hash_range rW'
  have hu := Tryd.underlying35
  have hi : (Tryd.prog.info? 35).map (·.size) = some cs.length := by rw [hcl]; kernel_rfl
  have hk2 : ∀ i, i < 64 → W.cell? ⟨0, i, none⟩ = some (.int .u32 (kAt i)) := fun i hi => by rw [hbW.cell (by omega) (Ne.symm hb0)]; exact hk i hi
  go_region_held3 (fun w' => w'.rangeAt b 8 cs) (first | exact hrng | exact hcr) (first | (go_at_call 17; refine (take_hash b v (padF f q) _ cs _ Hcs rW'.drew hk2).mono ?_; rintro e w3 ⟨rfl, hb3, r3, hrng⟩))
  have hb3' := hbW.drew.trans (hb3.mono hbW.size)
  clear hb3 hbW rW' hcl hcr Hcs hi hk2 hrng
  go_wp2_with (first | (refine wpList_store_row rfl 35 _ _ rfl rfl b 8 64 _ rfl rfl hi64 (fun _ _ => rfl) _ _ _ r3 (by omega) ?_; intro W4 r4 hz4 hb4; have cW : W4.cell? ⟨b, 72, none⟩ = some (.int .u64 n) := (by rw [r4.cell (by omega), if_neg (by omega), hashV_count])))
  have hb5 := hb3'.trans (hb4.mono hb3'.size)
  have r5 : hashIs W4 b (takeI v (padF f q)) (fun _ => 0) n := r4.congr fun j hj => by
    unfold hashV
    by_cases e1 : j < 8
    · rw [if_neg (by omega), if_pos e1, if_pos e1]
    · by_cases e2 : j < 72
      · rw [if_pos (by omega), if_neg e1, if_pos e2]
      · rw [if_neg (by omega), if_neg e1, if_neg e2, if_neg e1, if_neg e2]
  clear hb3' hb4 r4 r3 hz4 cW
  go_loopw [37] (fun i wr => ∃ k : Nat, k ≤ 8 ∧ i = .int .i64 k ∧ But w.heap.size b w wr ∧ hashIs wr b (takeI v (padF f q)) (fun j => if j < 56 + k then lenF (fun _ => 0) n j else (fun _ => 0) j) n) (fun i _ => 8 - (intOf i).toNat)
  case atStart => exact ⟨0, by omega, rfl, hb5, hash_congr r5 fun i _ => by
    by_cases e : i < 56
    · rw [if_pos (by omega), lenF, if_pos e]
    · rw [if_neg (by omega)]⟩
  case round =>
    clear hb5 r5
    obtain ⟨k, hk8, rfl, hb, r⟩ := hrel
    by_cases hlt8 : k < 8
    · have b0 : (0 : Int) ≤ (k : Int) := by omega
      have b1 : (k : Int) < 8 := by omega
      have b2 : (0 : Int) ≤ 56 + (k : Int) := by omega
      have b3 : 56 + (k : Int) < 64 := by omega
      have b4 : (0 : Int) ≤ 56 - 8 * (k : Int) := by omega
      have b5 : 56 - 8 * (k : Int) ≤ 64 := by omega
      have e1 : IntKind.i64.wrap (56 + (k : Int)) = 56 + (k : Int) := IntWalk.i64_in _ (by omega)
      have e2 : IntKind.i64.wrap (8 * (k : Int)) = 8 * (k : Int) := IntWalk.i64_in _ (by omega)
      have e3 : IntKind.i64.wrap (56 - 8 * (k : Int)) = 56 - 8 * (k : Int) := IntWalk.i64_in _ (by omega)
      obtain ⟨x, c2⟩ : ∃ x, wr.cell? ⟨b, 8 + (56 + k), none⟩ = some x := ⟨_, r.cell (by omega)⟩
      have c1 : wr.cell? ⟨b, 8 + (56 + (k : Int)).toNat, none⟩ = some x := by
        rw [show (56 + (k : Int)).toNat = 56 + k by omega]; exact c2
      have z1 := r.frozen (8 + (56 + (k : Int)).toNat)
      have z2 := r.frozen (8 + (56 + k))
      go_wp2
      go_region
      go_wp2
      go_light
      refine ⟨⟨k + 1, by omega, by go_num, (hb.set _ _).drew, hash_congr (hash_set r (56 + k) (by omega) _) fun i _ => ?_⟩, by simp [intOf]; omega⟩
      by_cases e : i = 56 + k
      · subst e; rw [if_pos rfl, if_pos (by omega), lenF, if_neg (by omega), show 56 + k - 56 = k by omega]
      · rw [if_neg e]
        by_cases e2 : i < 56 + k
        · rw [if_pos e2, if_pos (by omega)]
        · rw [if_neg e2, if_neg (by omega)]
    · obtain rfl : k = 8 := by omega
      have r2 : hashIs wr b (takeI v (padF f q)) (lenF (fun _ => 0) n) n := hash_congr r fun i hi => by rw [if_pos (by omega)]
      clear r
      go_wp2
      obtain ⟨cs, hcl, hcr, Hcs⟩ := hash_range r2
      have hu := Tryd.underlying35
      have hi : (Tryd.prog.info? 35).map (·.size) = some cs.length := by rw [hcl]; kernel_rfl
      have hk2 : ∀ i, i < 64 → wr.cell? ⟨0, i, none⟩ = some (.int .u32 (kAt i)) := fun i hi => by rw [hb.cell (by omega) (Ne.symm hb0)]; exact hk i hi
      go_region_held3 (fun w' => w'.rangeAt b 8 cs) (first | exact hrng | exact hcr) (first | (go_at_call 17; refine (take_hash b (takeI v (padF f q)) (lenF (fun _ => 0) n) _ cs _ Hcs r2.drew hk2).mono ?_; rintro e w3 ⟨rfl, hb3, r3, hrng⟩))
      go_wp2
      go_end0
      exact ⟨rfl, hb.drew.trans (hb3.mono hb.size), _, by rw [padW, ← HQ.out, if_neg (by omega)]; exact r3⟩

end Go.Proofs.YtknglaiobbmoaaaDoor

namespace Go.Proofs.YtknglaiobbmoaaaDoor
open Go.RowKit Go.Deep

/-- eight times a number, in eight bytes. -/
def lenBytes (n : Nat) : List Int := (List.range 8).map fun k => (8 * (n : Int)) / 2 ^ (56 - 8 * k) % 256
/-- the message of some bytes. -/
def msg (l : List Int) : List Int := l ++ ((128 :: List.replicate ((119 - l.length % 64) % 64) 0) ++ lenBytes l.length)
/-- the words behind the whole message, and the sum's bytes. -/
def finalW (l : List Int) : Nat → Int := wordsAt (msg l) ((msg l).length / 64)
def sumI (l : List Int) (i : Nat) : Int := sumByte (finalW l) i

theorem lenBytes_length (n : Nat) : (lenBytes n).length = 8 := by simp [lenBytes]
theorem lenBytes_get (n k : Nat) (h : k < 8) : (lenBytes n).getD k 0 = (8 * (n : Int)) / 2 ^ (56 - 8 * k) % 256 := by
  rw [List.getD_eq_getElem?_getD, lenBytes, List.getElem?_map, List.getElem?_range h]; rfl
theorem msg_length (l : List Int) : (msg l).length = l.length + (1 + (119 - l.length % 64) % 64 + 8) := by
  simp [msg, lenBytes_length]; omega
theorem msg_head (l : List Int) (j : Nat) (h : j < l.length) : (msg l).getD j 0 = l.getD j 0 := by
  rw [List.getD_eq_getElem?_getD, List.getD_eq_getElem?_getD, msg, List.getElem?_append_left h]
theorem msg_one (l : List Int) : (msg l).getD l.length 0 = 128 := by
  rw [List.getD_eq_getElem?_getD, msg, List.getElem?_append_right (Nat.le_refl _), Nat.sub_self]; rfl
theorem msg_zero (l : List Int) (j : Nat) (h0 : l.length < j) (h1 : j < l.length + 1 + (119 - l.length % 64) % 64) : (msg l).getD j 0 = 0 := by
  obtain ⟨m, rfl⟩ : ∃ m, j = l.length + (m + 1) := ⟨j - l.length - 1, by omega⟩
  rw [List.getD_eq_getElem?_getD, msg, List.getElem?_append_right (by omega), show l.length + (m + 1) - l.length = m + 1 by omega, List.getElem?_append_left (by simp; omega), List.getElem?_cons_succ, List.getElem?_replicate, if_pos (by omega)]; rfl
theorem msg_len (l : List Int) (k : Nat) (hk : k < 8) : (msg l).getD (l.length + 1 + (119 - l.length % 64) % 64 + k) 0 = (8 * (l.length : Int)) / 2 ^ (56 - 8 * k) % 256 := by
  rw [← lenBytes_get _ _ hk, List.getD_eq_getElem?_getD, List.getD_eq_getElem?_getD, msg, List.getElem?_append_right (by omega), List.getElem?_append_right (by simp; omega)]
  congr 2
  simp; omega

theorem padW_msg {l : List Int} {v f : Nat → Int} (hv : ∀ i, i < 8 → v i = wordsAt l (l.length / 64) i) (hfl : ∀ i, i < l.length % 64 → f i = l.getD (l.length / 64 * 64 + i) 0) (i : Nat) (hi : i < 8) : padW v f l.length i = finalW l i := by
  have hl := msg_length l
  have hpre : ∀ i, i < 8 → v i = wordsAt (msg l) (l.length / 64) i := fun i hi => by
    rw [hv i hi, msg, wordsAt_append l _ _ (by omega) i hi]
  unfold padW finalW
  by_cases hq : l.length % 64 < 56
  · rw [if_pos hq, show (msg l).length / 64 = l.length / 64 + 1 by omega, wordsAt]
    refine takeI_congr hpre (fun j hj => ?_) i hi
    unfold lenF padF
    by_cases e : j < 56
    · rw [if_pos e]
      by_cases e1 : j < l.length % 64
      · rw [if_pos e1, hfl j e1, msg_head l _ (by omega), Nat.mul_comm]
      · rw [if_neg e1]
        by_cases e2 : j = l.length % 64
        · rw [if_pos e2, show 64 * (l.length / 64) + j = l.length by omega, msg_one]
        · rw [if_neg e2, msg_zero l _ (by omega) (by omega)]
    · rw [if_neg e, show 64 * (l.length / 64) + j = l.length + 1 + (119 - l.length % 64) % 64 + (j - 56) by omega, msg_len l _ (by omega)]
  · rw [if_neg hq, show (msg l).length / 64 = l.length / 64 + 1 + 1 by omega, wordsAt]
    refine takeI_congr (fun j hj => ?_) (fun j hj => ?_) i hi
    · rw [wordsAt]
      refine takeI_congr hpre (fun k hk => ?_) j hj
      unfold padF
      by_cases e1 : k < l.length % 64
      · rw [if_pos e1, hfl k e1, msg_head l _ (by omega), Nat.mul_comm]
      · rw [if_neg e1]
        by_cases e2 : k = l.length % 64
        · rw [if_pos e2, show 64 * (l.length / 64) + k = l.length by omega, msg_one]
        · rw [if_neg e2, msg_zero l _ (by omega) (by omega)]
    · unfold lenF
      by_cases e : j < 56
      · rw [if_pos e, msg_zero l _ (by omega) (by omega)]
      · rw [if_neg e, show 64 * (l.length / 64 + 1) + j = l.length + 1 + (119 - l.length % 64) % 64 + (j - 56) by omega, msg_len l _ (by omega)]
end Go.Proofs.YtknglaiobbmoaaaDoor

namespace Go.Proofs.YtknglaiobbmoaaaDoor
open Go.RowKit Go.Deep

/-- A HASH TO WHICH THESE BYTES CAME; its words need not be begun as long as there are none. -/
def hashAny (w : World) (b : Nat) (l : List Int) : Prop :=
  ∃ v f : Nat → Int, hashIs w b v f l.length ∧ (0 < l.length → ∀ i, i < 8 → v i = wordsAt l (l.length / 64) i) ∧ (∀ i, 0 ≤ f i ∧ f i ≤ 255) ∧ ∀ i, i < l.length % 64 → f i = l.getD (l.length / 64 * 64 + i) 0
theorem hashOf.any {w : World} {b : Nat} {l : List Int} (h : hashOf w b l) : hashAny w b l := by
  obtain ⟨v, f, h1, h2, h3, h4⟩ := h; exact ⟨v, f, h1, fun _ => h2, h3, h4⟩
theorem hashAny.lt {w : World} {b : Nat} {l : List Int} (h : hashAny w b l) : b < w.heap.size := by
  obtain ⟨v, f, h1, _⟩ := h; exact World.rowIs.lt h1
theorem hashOf.lt {w : World} {b : Nat} {l : List Int} (h : hashOf w b l) : b < w.heap.size := h.any.lt

theorem begin_any (b : Nat) (l : List Int) (w : World) (h : hashAny w b l) :
    Calls Tryd.prog 10 #[.pointer (some ⟨b, 0, none⟩)] w fun e w' => e = .returned (.tuple #[]) ∧ But w.heap.size b w w' ∧ hashOf w' b l := by
  obtain ⟨v, f, h1, h2, h3, h4⟩ := h
  by_cases e : 0 < l.length
  · refine (begin_some b v f l.length e w h1).mono ?_
    rintro e w' ⟨rfl, rfl⟩
    exact ⟨rfl, But.refl _ _ _, v, f, h1, h2 (by assumption), h3, h4⟩
  · have hl : l = [] := List.eq_nil_of_length_eq_zero (by omega)
    subst hl
    refine (begin_zero b v f w h1).mono ?_
    rintro e w' ⟨rfl, hb, hr⟩
    exact ⟨rfl, hb, _, f, hr, fun _ _ => rfl, h3, fun i hi => by simp at hi⟩
theorem pad_any (b : Nat) (l : List Int) (w : World) (h : hashOf w b l) (hn : l.length < 1099511627776) (hk : ∀ i, i < 64 → w.cell? ⟨0, i, none⟩ = some (.int .u32 (kAt i))) (hb0 : b ≠ 0) :
    Calls Tryd.prog 13 #[.pointer (some ⟨b, 0, none⟩)] w fun e w' => e = .returned (.tuple #[]) ∧ But w.heap.size b w w' ∧ ∃ v' f', hashIs w' b v' f' l.length ∧ ∀ i, i < 8 → v' i = finalW l i := by
  obtain ⟨v, f, h1, h2, h3, h4⟩ := h
  have key : Calls Tryd.prog 13 #[.pointer (some ⟨b, 0, none⟩)] w fun e w' => e = .returned (.tuple #[]) ∧ But w.heap.size b w w' ∧ ∃ f', hashIs w' b (padW v f l.length) f' l.length := by
    by_cases e : l.length % 64 < 56
    · exact pad_short b v f l.length w h1 hn e hk hb0
    · exact pad_long b v f l.length w h1 hn (by omega) hk hb0
  refine key.mono ?_
  rintro e w' ⟨rfl, hb, f', hr⟩
  exact ⟨rfl, hb, _, f', hr, fun i hi => padW_msg h2 h4 i hi⟩

set_option maxHeartbeats 1000000 in
set_option maxRecDepth 100000 in
theorem sum_any (b : Nat) (l : List Int) (w : World) (h : hashAny w b l) (hn : l.length < 1099511627776) (hk : ∀ i, i < 64 → w.cell? ⟨0, i, none⟩ = some (.int .u32 (kAt i))) :
    Calls Tryd.prog 9 #[.pointer (some ⟨b, 0, none⟩)] w fun e w' => e = .returned (.agg (rowV 32 fun i => .int .u8 (sumI l i))) ∧ Below w.heap.size w w' := by
  have hlt := h.lt
  obtain ⟨v, f, h1, h2, h3, h4⟩ := h
  have hi73 : (Tryd.prog.info? 38).map (·.size) = some 73 := by kernel_rfl
  have hi32 : (Tryd.prog.info? 28).map (·.size) = some 32 := by kernel_rfl
  have hz0 := zero_hash
  have r0 := rowIs_zero w (Array.replicate 32 (.int .u8 0)) 28 32 (.int .u8 0) rfl
  have hh : (w.alloc (.cells (Array.replicate 32 (.int .u8 0)) 28)).rowIs b 38 73 (hashV v f l.length) := World.rowIs.alloc h1 _
  have z1 := rowIs_box (w.alloc (.cells (Array.replicate 32 (.int .u8 0)) 28)) 38 73 (hashV (fun _ => 0) (fun _ => 0) 0)
  simp only [nblk_alloc] at z1
  go_enter Tryd.func9, Tryd.ntmps9
  go_wp2_with (first | (refine wpList_load_seg rfl 38 _ rfl b 0 73 _ rfl _ Tryd.underlying38 rfl hi73 (fun i hi => by rw [Nat.zero_add]; exact hh.cell hi) ?_) | (refine wpList_store_row rfl 38 _ _ rfl rfl (w.heap.size + 1) 0 73 _ rfl rfl hi73 (fun i _ => by unfold hashV; split <;> (try split) <;> rfl) _ _ _ z1 (by omega) ?_; intro W rW hzW hbut))
  have hbW : Below w.heap.size w W := (((Below.refl w.heap.size w).alloc (Nat.le_refl _) _).alloc (by simp) _).trans ((hbut.mono (by simp; omega)).below (by omega))
  have r0W : W.rowIs w.heap.size 28 32 (fun _ => .int .u8 0) := hbut.row (r0.alloc _) (by simp; omega) (by omega)
  have hszW : W.heap.size = w.heap.size + 2 := by rw [hzW]; simp
  have hW : hashAny W (w.heap.size + 1) l := ⟨v, f, rW.congr (fun i hi => by rw [if_pos (by omega), Nat.sub_zero]), h2, h3, h4⟩
  clear rW hzW hbut z1 hh r0
  refine (begin_any _ l _ hW).mono ?_
  rintro e w1 ⟨rfl, hb1, ho1⟩
  clear hW
  have hb1' : But (w.heap.size + 1) (w.heap.size + 1) W w1 := hb1.mono (by omega)
  have hB1 : Below w.heap.size w w1 := hbW.trans ((hb1'.mono (by omega)).below (by omega))
  have r01 := hb1'.row r0W (by omega) (by omega)
  have hs1 := hb1.size
  clear hb1 hb1' hbW r0W
  go_wp2_with fail
  refine (pad_any _ l _ ho1 hn (fun i hi => by rw [hB1.cell (p := ⟨0, i, none⟩) (by show 0 < _; omega)]; exact hk i hi) (by omega)).mono ?_
  rintro e w2 ⟨rfl, hb2, v', f', hr2, hv2⟩
  have hb2' : But (w.heap.size + 1) (w.heap.size + 1) w1 w2 := hb2.mono (by omega)
  have hB2 : Below w.heap.size w w2 := hB1.trans ((hb2'.mono (by omega)).below (by omega))
  have r02 := hb2'.row r01 (by omega) (by omega)
  have hs2 := hb2.size
  clear hb2 hb2' hB1 r01 ho1
  go_wp2_with fail
  refine (bytes_any (w.heap.size + 1) _ 73 _ v' _ (fun i hi => hashV_word _ _ _ _ hi) (by omega) hr2).mono ?_
  rintro e w3 ⟨rfl, hb3⟩
  have hB3 : Below w.heap.size w w3 := hB2.trans (hb3.mono (by omega))
  have r03 := hb3.row r02 (by omega)
  clear hb3 hB2 r02
  go_wp2_with (first | (refine wpList_store_row rfl 28 _ _ rfl rfl w.heap.size 0 32 _ rfl rfl hi32 (fun _ _ => rfl) _ _ _ r03 (by omega) ?_; intro W4 r4 hz4 hb4))
  refine bodyPost_ret (results_cell_seg rfl _ _ w.heap.size 28 32 (fun i => .int .u8 (sumI l i)) _ rfl Tryd.underlying28 rfl hi32 (r4.congr fun i hi => ?_)) rfl ⟨rfl, hB3.trans ((hb4.mono (by have := hB3.size; omega)).below (Nat.le_refl _))⟩
  rw [if_pos (by omega), Nat.sub_zero, sumI, sumByte, sumByte, hv2 _ (by omega)]
end Go.Proofs.YtknglaiobbmoaaaDoor

namespace Go.Proofs.YtknglaiobbmoaaaDoor
open Go.RowKit Go.Deep

/-- THE VALUE v IS A SLICE OF THESE BYTES, of which none lies in block b. -/
def bytesAt (w : World) (b : Nat) (v : Value) (l : List Int) : Prop :=
  (v = .slice none 0 0 ∧ l = []) ∨ (∃ pb po cap : Nat, v = .slice (some ⟨pb, po, none⟩) l.length cap ∧ l.length ≤ cap ∧ cap ≤ maxLen ∧ pb < w.heap.size ∧ pb ≠ b ∧
    (∀ i, i < l.length → w.cell? ⟨pb, po + i, none⟩ = some (.int .u8 (l.getD i 0))) ∧ ∀ i, 0 ≤ l.getD i 0 ∧ l.getD i 0 ≤ 255) ∨ ((∃ a, v = .slice a 0 0) ∧ l = [])
theorem bytesAt.but {w w' : World} {b B : Nat} {v : Value} {l : List Int} (h : bytesAt w b v l) (hb : But B b w w') (hB : w.heap.size ≤ B) : bytesAt w' b v l := by
  rcases h with h | ⟨pb, po, cap, h1, h2, h3, h4, h5, h6, h7⟩ | h
  · exact Or.inl h
  · exact Or.inr (Or.inl ⟨pb, po, cap, h1, h2, h3, Nat.lt_of_lt_of_le h4 hb.size, h5, fun i hi => by rw [hb.cell (by omega) h5]; exact h6 i hi, h7⟩)
  · exact Or.inr (Or.inr h)

set_option maxHeartbeats 1000000 in
theorem add_nil (b : Nat) (a : Option Addr) (w : World) :
    Calls Tryd.prog 11 #[.pointer (some ⟨b, 0, none⟩), .slice a 0 0] w fun e w' => e = .returned (.tuple #[]) ∧ w' = w := by
  go_enter Tryd.func11, Tryd.ntmps11
  go_wp2
  go_loop [1] (fun s => s = .slice a 0 0) (fun _ => 0)
  case atStart => rfl
  case round =>
    subst hrel
    go_wp2
    go_end0
    exact ⟨rfl, rfl⟩
theorem add_bytes (b : Nat) (l p : List Int) (v : Value) (w : World) (h : hashOf w b l) (hp : bytesAt w b v p) (hbig : l.length + p.length < 1099511627776)
    (hk : ∀ i, i < 64 → w.cell? ⟨0, i, none⟩ = some (.int .u32 (kAt i))) (hb0 : b ≠ 0) :
    Calls Tryd.prog 11 #[.pointer (some ⟨b, 0, none⟩), v] w fun e w' => e = .returned (.tuple #[]) ∧ But w.heap.size b w w' ∧ hashOf w' b (l ++ p) := by
  rcases hp with ⟨rfl, rfl⟩ | ⟨pb, po, cap, rfl, h2, h3, h4, h5, h6, h7⟩ | ⟨⟨a, rfl⟩, rfl⟩
  · refine (add_nil b none w).mono ?_
    rintro e w' ⟨rfl, rfl⟩
    exact ⟨rfl, But.refl _ _ _, by rw [List.append_nil]; exact h⟩
  · exact add_any b l p pb po cap w h h5 h4 h2 hbig h6 h7 hk hb0 h3
  · refine (add_nil b a w).mono ?_
    rintro e w' ⟨rfl, rfl⟩
    exact ⟨rfl, But.refl _ _ _, by rw [List.append_nil]; exact h⟩

set_option maxHeartbeats 1000000 in
set_option maxRecDepth 100000 in
theorem write_any (b : Nat) (l : List Int) (n qb qo cap : Nat) (sv : Nat → Value) (ps : Nat → List Int) (w : World) (h : hashAny w b l) (hqb : qb ≠ b) (hql : qb < w.heap.size)
    (hcell : ∀ i, i < n → w.cell? ⟨qb, qo + i, none⟩ = some (sv i)) (hps : ∀ i, i < n → bytesAt w b (sv i) (ps i)) (hbig : ∀ i, i ≤ n → l.length + (flatTo ps i).length < 1099511627776) (hn : n ≤ maxLen)
    (hk : ∀ i, i < 64 → w.cell? ⟨0, i, none⟩ = some (.int .u32 (kAt i))) (hb0 : b ≠ 0) :
    Calls Tryd.prog 5 #[.pointer (some ⟨b, 0, none⟩), .slice (some ⟨qb, qo, none⟩) n cap] w fun e w' => e = .returned (.tuple #[]) ∧ But w.heap.size b w w' ∧ hashOf w' b (l ++ flatTo ps n) := by
  unfold maxLen at hn
  have hlt := h.lt
  go_enter Tryd.func5, Tryd.ntmps5
  go_wp2_with fail
  refine (begin_any b l w h).mono ?_
  rintro e w1 ⟨rfl, hb1, ho1⟩
  go_wp2
  go_loopw [12] (fun i wr => ∃ k : Nat, k ≤ n ∧ i = .int .i64 k ∧ But w.heap.size b w wr ∧ hashOf wr b (l ++ flatTo ps k)) (fun i _ => n - (intOf i).toNat)
  case atStart => exact ⟨0, by omega, rfl, hb1, by rw [flatTo, List.append_nil]; exact ho1⟩
  case round =>
    clear hb1 ho1
    obtain ⟨k, hkn, rfl, hb, ho⟩ := hrel
    by_cases hlt2 : k < n
    · have c0 : wr.cell? ⟨qb, qo + k, none⟩ = some (sv k) := by rw [hb.cell hql hqb]; exact hcell k hlt2
      have b0 : (0 : Int) ≤ (k : Int) := by omega
      have b1 : (k : Int) < (n : Int) := by omega
      have hbk := hbig (k + 1) (by omega)
      have HB : Hid (l.length + (flatTo ps (k + 1)).length < 1099511627776) := hbk
      clear hbk
      go_wp2_with fail
      refine (add_bytes b (l ++ flatTo ps k) (ps k) (sv k) _ ho ((hps k hlt2).but hb (Nat.le_refl _)) ?_ ?_ hb0).mono ?_
      · have := HB.out; rw [flatTo, List.length_append] at this; rw [List.length_append]; omega
      · intro i hi; rw [hb.cell (by omega) (Ne.symm hb0)]; exact hk i hi
      rintro e w2 ⟨rfl, hb2, ho2⟩
      go_wp2
      go_light
      exact ⟨⟨k + 1, by omega, by go_num, hb.trans (hb2.mono hb.size), by rw [flatTo, ← List.append_assoc]; exact ho2⟩, by simp [intOf]; omega⟩
    · obtain rfl : k = n := by omega
      go_wp2
      go_end0
      exact ⟨rfl, hb, ho⟩

set_option maxHeartbeats 1000000 in
theorem write_none (b : Nat) (l : List Int) (w : World) (h : hashAny w b l) :
    Calls Tryd.prog 5 #[.pointer (some ⟨b, 0, none⟩), .slice none 0 0] w fun e w' => e = .returned (.tuple #[]) ∧ But w.heap.size b w w' ∧ hashOf w' b l := by
  go_enter Tryd.func5, Tryd.ntmps5
  go_wp2_with fail
  refine (begin_any b l w h).mono ?_
  rintro e w1 ⟨rfl, hb1, ho1⟩
  go_wp2
  go_loop [12] (fun i => i = .int .i64 0) (fun _ => 0)
  case atStart => rfl
  case round =>
    subst hrel
    go_wp2
    go_end0
    exact ⟨rfl, hb1, ho1⟩
set_option maxHeartbeats 1000000 in
theorem write_nil (v : Value) (w : World) :
    Calls Tryd.prog 5 #[.pointer none, v] w fun e w' => e = .returned (.tuple #[]) ∧ w' = w := by
  go_enter Tryd.func5, Tryd.ntmps5
  go_wp2
  exact bodyPost_ret (results_none rfl _ _ _) rfl ⟨rfl, rfl⟩
end Go.Proofs.YtknglaiobbmoaaaDoor

namespace Go.Proofs.YtknglaiobbmoaaaDoor
open Go.RowKit Go.Deep

theorem isBytes.at {w : World} {v : Value} {l : List Int} (h : isBytes w v l) {b : Nat} (hb : w.heap.size ≤ b) : bytesAt w b v l := by
  rcases h with h | ⟨pb, po, cap, h1, h2, h3, h4, h6, h7⟩
  · exact Or.inl h
  · exact Or.inr (Or.inl ⟨pb, po, cap, h1, h2, h3, h4, by omega, h6, h7⟩)
theorem anyBytes.at {w : World} {v : Value} {l : List Int} (h : anyBytes w v l) {b : Nat} (hb : w.heap.size ≤ b) : bytesAt w b v l := by
  rcases h with h | h
  · exact h.at hb
  · exact Or.inr (Or.inr h)
/-- the table of the rounds' constants lies in block 0. -/
def tabIs (w : World) : Prop := 0 < w.heap.size ∧ ∀ i, i < 64 → w.cell? ⟨0, i, none⟩ = some (.int .u32 (kAt i))
theorem tabIs.below {w w' : World} {B : Nat} (h : tabIs w) (hb : Below B w w') (hB : 0 < B) : tabIs w' := ⟨Nat.lt_of_lt_of_le h.1 hb.size, fun i hi => by rw [hb.cell (p := ⟨0, i, none⟩) hB]; exact h.2 i hi⟩
theorem tabIs.but {w w' : World} {B b : Nat} (h : tabIs w) (hb : But B b w w') (hB : 0 < B) (hb0 : b ≠ 0) : tabIs w' := ⟨Nat.lt_of_lt_of_le h.1 hb.size, fun i hi => by rw [hb.cell hB (Ne.symm hb0)]; exact h.2 i hi⟩

/-- Write, whatever the parts, if they lie below the hash's block, or elsewhere. -/
theorem write_parts (b : Nat) (l : List Int) (n : Nat) (v : Value) (ps : Nat → List Int) (w w0 : World) (h : hashAny w b l) (hp : isParts w0 v n ps) (hw : Below w0.heap.size w0 w) (hb : w0.heap.size ≤ b)
    (hbig : ∀ i, i ≤ n → l.length + (flatTo ps i).length < 1099511627776) (ht : tabIs w) (hb0 : b ≠ 0) :
    Calls Tryd.prog 5 #[.pointer (some ⟨b, 0, none⟩), v] w fun e w' => e = .returned (.tuple #[]) ∧ But w.heap.size b w w' ∧ hashOf w' b (l ++ flatTo ps n) := by
  rcases hp with ⟨rfl, rfl⟩ | ⟨qb, qo, cap, sv, rfl, h2, h3, h4⟩
  · refine (write_none b l w h).mono ?_
    rintro e w' ⟨rfl, h1, h2⟩
    exact ⟨rfl, h1, by rw [flatTo, List.append_nil]; exact h2⟩
  · refine write_any b l n qb qo cap sv ps w h (by omega) (Nat.lt_of_lt_of_le h2 hw.size) (fun i hi => by rw [hw.cell (p := ⟨qb, qo + i, none⟩) h2]; exact (h4 i hi).1) (fun i hi => ?_) hbig h3 ht.2 hb0
    rcases (h4 i hi).2 with (h | ⟨pb, po, cap, h1, h2, h3, h4, h6, h7⟩) | h
    · exact Or.inl h
    · exact Or.inr (Or.inl ⟨pb, po, cap, h1, h2, h3, Nat.lt_of_lt_of_le h4 hw.size, by omega, fun i hi => by rw [hw.cell (p := ⟨pb, po + i, none⟩) h4]; exact h6 i hi, h7⟩)
    · exact Or.inr (Or.inr h)

theorem hashAny_zero {w : World} {b : Nat} (h : hashIs w b (fun _ => 0) (fun _ => 0) 0) : hashAny w b [] :=
  ⟨_, _, h, fun h => by simp at h, fun _ => ⟨by omega, by omega⟩, fun i hi => by simp at hi⟩

set_option maxHeartbeats 1000000 in
set_option maxRecDepth 100000 in
/-- sha.Sum, OF ANY PARTS. -/
theorem shaSum_any (n : Nat) (v : Value) (ps : Nat → List Int) (w : World) (hp : isParts w v n ps) (hbig : ∀ i, i ≤ n → (flatTo ps i).length < 1099511627776) (ht : tabIs w) :
    Calls Tryd.prog 8 #[v] w fun e w' => e = .returned (.agg (rowV 32 fun i => .int .u8 (sumI (flatTo ps n) i))) ∧ Below w.heap.size w w' := by
  have hi32 : (Tryd.prog.info? 28).map (·.size) = some 32 := by kernel_rfl
  have r0 := rowIs_zero w (Array.replicate 32 (.int .u8 0)) 28 32 (.int .u8 0) rfl
  have hb0 : Below w.heap.size w (w.alloc (.cells (Array.replicate 32 (.int .u8 0)) 28)) := (Below.refl w.heap.size w).alloc (Nat.le_refl _) _
  have hs0 : (w.alloc (.cells (Array.replicate 32 (.int .u8 0)) 28)).heap.size = w.heap.size + 1 := by simp
  have ht0 := ht.1
  go_enter Tryd.func8, Tryd.ntmps8
  go_wp2_with fail
  refine (new_any _).mono ?_
  rintro e w1 ⟨rfl, hb1, hs1, hh1⟩
  change w1.heap.size = (w.alloc (.cells (Array.replicate 32 (.int .u8 0)) 28)).heap.size + 1 at hs1
  change Below (w.alloc (.cells (Array.replicate 32 (.int .u8 0)) 28)).heap.size (w.alloc (.cells (Array.replicate 32 (.int .u8 0)) 28)) w1 at hb1
  change hashIs w1 (w.alloc (.cells (Array.replicate 32 (.int .u8 0)) 28)).heap.size (fun _ => 0) (fun _ => 0) 0 at hh1
  rw [hs0] at hs1 hb1 hh1
  have hB1 : Below w.heap.size w w1 := hb0.trans (hb1.mono (by omega))
  have r1 : w1.rowIs w.heap.size 28 32 (fun _ => .int .u8 0) := hb1.row r0 (by omega)
  clear hb0 hb1 r0 hs0
  go_wp2_with fail
  refine (write_parts (w.heap.size + 1) [] n v ps w1 w (hashAny_zero hh1) hp hB1 (by omega) (fun i hi => by rw [List.length_nil, Nat.zero_add]; exact hbig i hi) (ht.below hB1 ht0) (by omega)).mono ?_
  rintro e w2 ⟨rfl, hb2, ho2⟩
  rw [List.nil_append] at ho2
  have hB2 : Below w.heap.size w w2 := hB1.trans ((hb2.mono (by omega)).below (by omega))
  have r2 := hb2.row r1 (by omega) (by omega)
  have hs2 := hb2.size
  clear hb2 r1 hB1 hh1
  go_wp2_with fail
  refine (sum_any (w.heap.size + 1) (flatTo ps n) w2 ho2.any (hbig n (Nat.le_refl _)) (ht.below hB2 ht0).2).mono ?_
  rintro e w3 ⟨rfl, hb3⟩
  have hB3 : Below w.heap.size w w3 := hB2.trans (hb3.mono (by omega))
  have r3 := hb3.row r2 (by omega)
  clear hb3 r2 hB2 ho2
  go_wp2_with (first | (refine wpList_store_row rfl 28 _ _ rfl rfl w.heap.size 0 32 _ rfl rfl hi32 (fun _ _ => rfl) _ _ _ r3 (by omega) ?_; intro W4 r4 hz4 hb4))
  refine bodyPost_ret (results_cell_seg rfl _ _ w.heap.size 28 32 (fun i => .int .u8 (sumI (flatTo ps n) i)) _ rfl Tryd.underlying28 rfl hi32 (r4.congr fun i hi => ?_)) rfl ⟨rfl, hB3.trans ((hb4.mono (by have := hB3.size; omega)).below (Nat.le_refl _))⟩
  rw [if_pos (by omega), Nat.sub_zero]

set_option maxHeartbeats 1000000 in
set_option maxRecDepth 100000 in
/-- Sum, of a nil hash. -/
theorem sum_nil (w : World) (ht : tabIs w) :
    Calls Tryd.prog 9 #[.pointer none] w fun e w' => e = .returned (.agg (rowV 32 fun i => .int .u8 (sumI [] i))) ∧ Below w.heap.size w w' := by
  have hi32 : (Tryd.prog.info? 28).map (·.size) = some 32 := by kernel_rfl
  have r0 := rowIs_zero w (Array.replicate 32 (.int .u8 0)) 28 32 (.int .u8 0) rfl
  have hb0 : Below w.heap.size w (w.alloc (.cells (Array.replicate 32 (.int .u8 0)) 28)) := (Below.refl w.heap.size w).alloc (Nat.le_refl _) _
  have hs0 : (w.alloc (.cells (Array.replicate 32 (.int .u8 0)) 28)).heap.size = w.heap.size + 1 := by simp
  have ht0 := ht.1
  go_enter Tryd.func9, Tryd.ntmps9
  go_wp2_with fail
  refine (new_any _).mono ?_
  rintro e w1 ⟨rfl, hb1, hs1, hh1⟩
  change w1.heap.size = (w.alloc (.cells (Array.replicate 32 (.int .u8 0)) 28)).heap.size + 1 at hs1
  change Below (w.alloc (.cells (Array.replicate 32 (.int .u8 0)) 28)).heap.size (w.alloc (.cells (Array.replicate 32 (.int .u8 0)) 28)) w1 at hb1
  change hashIs w1 (w.alloc (.cells (Array.replicate 32 (.int .u8 0)) 28)).heap.size (fun _ => 0) (fun _ => 0) 0 at hh1
  rw [hs0] at hs1 hb1 hh1
  have hB1 : Below w.heap.size w w1 := hb0.trans (hb1.mono (by omega))
  have r1 : w1.rowIs w.heap.size 28 32 (fun _ => .int .u8 0) := hb1.row r0 (by omega)
  clear hb0 hb1 r0 hs0
  go_wp2_with fail
  refine (sum_any (w.heap.size + 1) [] w1 (hashAny_zero hh1) (by decide) (ht.below hB1 ht0).2).mono ?_
  rintro e w3 ⟨rfl, hb3⟩
  have hB3 : Below w.heap.size w w3 := hB1.trans (hb3.mono (by omega))
  have r3 := hb3.row r1 (by omega)
  clear hb3 r1 hB1 hh1
  go_wp2_with (first | (refine wpList_store_row rfl 28 _ _ rfl rfl w.heap.size 0 32 _ rfl rfl hi32 (fun _ _ => rfl) _ _ _ r3 (by omega) ?_; intro W4 r4 hz4 hb4))
  refine bodyPost_ret (results_cell_seg rfl _ _ w.heap.size 28 32 (fun i => .int .u8 (sumI [] i)) _ rfl Tryd.underlying28 rfl hi32 (r4.congr fun i hi => ?_)) rfl ⟨rfl, hB3.trans ((hb4.mono (by have := hB3.size; omega)).below (Nat.le_refl _))⟩
  rw [if_pos (by omega), Nat.sub_zero]
end Go.Proofs.YtknglaiobbmoaaaDoor

namespace Go.Proofs.YtknglaiobbmoaaaDoor
open Go.RowKit Go.Deep

/-- a half byte's digit. -/
def hexI (x : Int) : Int := if x < 10 then 48 + x else 87 + x
/-- the digit j of 32 bytes. -/
def printI (f : Nat → Int) (j : Nat) : Int := if j % 2 = 0 then hexI (f (j / 2) / 16) else hexI (f (j / 2) % 16)
theorem digit_run (k : Int) (h0 : 0 ≤ k) (h1 : k < 16) (w : World) : (Instr.index 9 (.string { data := #[48, 49, 50, 51, 52, 53, 54, 55, 56, 57, 97, 98, 99, 100, 101, 102] }) (.int .u8 k)).run Tryd.prog w = .ok (.int .u8 (hexI k)) w := by
  obtain ⟨m, rfl⟩ := Int.eq_ofNat_of_zero_le h0
  have hm : m = 0 ∨ m = 1 ∨ m = 2 ∨ m = 3 ∨ m = 4 ∨ m = 5 ∨ m = 6 ∨ m = 7 ∨ m = 8 ∨ m = 9 ∨ m = 10 ∨ m = 11 ∨ m = 12 ∨ m = 13 ∨ m = 14 ∨ m = 15 := by omega
  rcases hm with rfl | rfl | rfl | rfl | rfl | rfl | rfl | rfl | rfl | rfl | rfl | rfl | rfl | rfl | rfl | rfl <;> (show (_ : Result Value) = _; kernel_rfl)

set_option maxHeartbeats 1000000 in
set_option maxRecDepth 100000 in
theorem print_any (f : Nat → Int) (hf : ∀ i, 0 ≤ f i ∧ f i ≤ 255) (w : World) :
    Calls Tryd.prog 7 #[.agg (rowV 32 fun i => .int .u8 (f i))] w fun e w' => e = .returned (.string (strOf ((List.range 64).map (printI f)))) ∧ Below w.heap.size w w' := by
  have hi32 : (Tryd.prog.info? 28).map (·.size) = some 32 := by kernel_rfl
  have hcv := fun (wx : World) (hc : ∀ i, i < 64 → wx.cell? ⟨w.heap.size + 1, 0 + i, none⟩ = some (.int .u8 (printI f i))) => run_convert_row_string (P := Tryd.prog) wx 22 9 5 (w.heap.size + 1) 0 64 64 (printI f) Tryd.underlying22 Tryd.underlying5 Tryd.underlying9 hc
  have HC : Hid _ := hcv
  clear hcv
  go_enter Tryd.func7, Tryd.ntmps7
  go_wp2_with (first | (refine wpList_load_seg rfl 28 _ rfl w.heap.size 0 32 _ rfl _ Tryd.underlying28 rfl hi32 (fun i hi => by rw [Nat.zero_add]; exact ((rowIs_box w 28 32 _).alloc _).cell hi) ?_))
  go_loopw [7] (fun i wr => ∃ k : Nat, k ≤ 32 ∧ i = .int .i64 k ∧ Below w.heap.size w wr ∧ wr.rowIs (w.heap.size + 1) 34 64 (fun j => .int .u8 (if j < 2 * k then printI f j else 0))) (fun i _ => 32 - (intOf i).toNat)
  case atStart =>
    refine ⟨0, by omega, rfl, ((Below.refl _ _).alloc (Nat.le_refl _) _).alloc (by simp) _, ?_⟩
    have := rowIs_zero (w.alloc (.cells (rowV 32 fun i => .int .u8 (f i)) 28)) (Array.replicate 64 (.int .u8 0)) 34 64 (.int .u8 0) rfl
    simp only [nblk_alloc] at this
    exact this
  case round =>
    obtain ⟨k, hk, rfl, hb, r⟩ := hrel
    by_cases hlt : k < 32
    · have b0 : (0 : Int) ≤ (k : Int) := by omega
      have b1 : (k : Int) < 32 := by omega
      have b2 : 2 * (k : Int) < 64 := by omega
      have b3 : 2 * (k : Int) + 1 < 64 := by omega
      have hix := fun wx => run_index_agg (P := Tryd.prog) wx 28 5 32 _ k _ Tryd.underlying28 (by kernel_rfl) (by kernel_rfl) hlt (rowV_get 32 (fun i => .int .u8 (f i)) k hlt)
      have hfk := hf k
      have h16 : f k / 16 < 16 := by omega
      have h160 : 0 ≤ f k / 16 := by omega
      have hand : bits .and .u8 (f k) 15 = f k % 16 := by
        rw [u8_and _ _ (by omega) (by omega) (by omega) (by omega)]; show (((f k).toNat &&& 15 : Nat) : Int) = _; rw [nat_mask4]; omega
      have d1 := digit_run (f k / 16) h160 h16
      have d2 := digit_run (f k % 16) (by omega) (by omega)
      have c1 := r.cell (i := 2 * k) (by omega)
      have c2 := r.cell (i := 2 * k + 1) (by omega)
      have z1 := r.frozen (2 * k)
      have z2 := r.frozen (2 * k + 1)
      go_wp2
      go_light
      refine ⟨⟨k + 1, by omega, by go_num, (hb.setCell (by simp) _).setCell (by simp) _, ((r.set (2 * k) _).set (2 * k + 1) _).congr fun i _ => ?_⟩, by simp [intOf]; omega⟩
      by_cases e : i = 2 * k + 1
      · subst e; rw [if_pos rfl, if_pos (by omega), printI, if_neg (by omega), show (2 * k + 1) / 2 = k by omega]
      · rw [if_neg e]
        by_cases e1 : i = 2 * k
        · subst e1; rw [if_pos rfl, if_pos (by omega), printI, if_pos (by omega), show 2 * k / 2 = k by omega]
        · rw [if_neg e1]
          by_cases e2 : i < 2 * k
          · rw [if_pos e2, if_pos (by omega)]
          · rw [if_neg e2, if_neg (by omega)]
    · obtain rfl : k = 32 := by omega
      have hcv := HC.out wr (fun i hi => by rw [Nat.zero_add, r.cell hi, if_pos (by omega)])
      go_wp2
      go_ret
      exact ⟨rfl, hb⟩
end Go.Proofs.YtknglaiobbmoaaaDoor
