import Derived.Lib.DecodeNEq
import Derived.Lib.Strings
import Derived.WalkKit
import Derived.WalkSpells
import Derived.Deep.OwnRows
import Derived.Deep.MidRow
import Derived.Deep.Draws
import Derived.Deep.AppendLies
import Derived.Test.YthjfalbchkbdfaaDoorRows
import Derived.Laws.BytesString
import Derived.Lib.SliceRun
import Derived.Deep.AppendSrc
import Derived.Deep.Light
import Derived.Test.YthjfalbchkbdfaaDoorChecked
import Derived.Shelf.Unicode.DecodeAny
import Derived.Deep.RegionHeld3
import Derived.BigRegion
import Derived.WalkMore
import Derived.ScopeJumps
import Derived.Lib.ConvBytes
set_option linter.unusedVariables false
set_option linter.unusedSimpArgs false
/- Layer 8, pure: which code point stands at a byte; up to where a text is right. -/
namespace Go.Proofs.YthjfalbchkbdfaaDoor
open Go.Lib (decodeN)
set_option linter.unusedVariables false

theorem get_ok (s : ByteArray) (k : Nat) (h : k < s.size) : s.get! k = s[k]'h := by
  cases s with
  | mk d => exact getElem!_pos d k h
theorem get_out (s : ByteArray) (k : Nat) (h : ¬ k < s.size) : s.get! k = 0 := by
  cases s with
  | mk d => exact getElem!_neg d k h
/-- the byte at a place; 0 behind the end. -/
def bt (s : ByteArray) (i : Nat) : Nat := (s.get! i).toNat
theorem bt_lt (s : ByteArray) (i : Nat) : bt s i < 256 := (s.get! i).toNat_lt
/-- strictly: of n bytes that begin so. -/
def nxN (n b0 b1 b2 b3 : Nat) : Nat × Nat := if n = 0 then (0, 0) else if decodeN n b0 b1 b2 b3 = (65533, 1) then (0, 0) else decodeN n b0 b1 b2 b3
/-- the code point at a byte, and how many bytes it has. -/
def nx (s : ByteArray) (k : Nat) : Nat × Nat := nxN (s.size - k) (bt s k) (bt s (k + 1)) (bt s (k + 2)) (bt s (k + 3))
def nxI (s : ByteArray) (k : Int) : Nat × Nat := if k < 0 ∨ (s.size : Int) ≤ k then (0, 0) else nx s k.toNat

set_option maxHeartbeats 4000000 in
set_option maxRecDepth 100000 in
/-- what is told, outright. -/
theorem nxN_is (n b0 b1 b2 b3 : Nat) : nxN n b0 b1 b2 b3 =
    if n = 0 then (0, 0) else if b0 < 128 then (b0, 1)
    else if 194 ≤ b0 ∧ b0 < 224 ∧ 1 < n ∧ b1 / 64 = 2 then (b0 % 32 * 64 + b1 % 64, 2)
    else if b0 / 16 = 14 ∧ 2 < n ∧ b1 / 64 = 2 ∧ b2 / 64 = 2 ∧ 2048 ≤ b0 % 16 * 4096 + b1 % 64 * 64 + b2 % 64 ∧ ¬ (55296 ≤ b0 % 16 * 4096 + b1 % 64 * 64 + b2 % 64 ∧ b0 % 16 * 4096 + b1 % 64 * 64 + b2 % 64 < 57344) then (b0 % 16 * 4096 + b1 % 64 * 64 + b2 % 64, 3)
    else if b0 / 8 = 30 ∧ 3 < n ∧ b1 / 64 = 2 ∧ b2 / 64 = 2 ∧ b3 / 64 = 2 ∧ 65536 ≤ b0 % 8 * 262144 + b1 % 64 * 4096 + b2 % 64 * 64 + b3 % 64 ∧ b0 % 8 * 262144 + b1 % 64 * 4096 + b2 % 64 * 64 + b3 % 64 ≤ 1114111 then (b0 % 8 * 262144 + b1 % 64 * 4096 + b2 % 64 * 64 + b3 % 64, 4)
    else (0, 0) := by
  unfold nxN decodeN
  by_cases h0 : n = 0
  · simp [h0]
  by_cases a1 : b0 < 128
  · have e : b0 ≠ 65533 := by omega
    simp [h0, a1, e]
  simp only [h0, a1, if_false]
  by_cases a2 : b0 / 32 = 6 ∧ (1 < n ∧ b1 / 64 = 2)
  · rw [if_pos a2]
    have n3 : ¬ (b0 / 16 = 14) := by omega
    have n4 : ¬ (b0 / 8 = 30) := by omega
    by_cases hc : b0 % 32 * 64 + b1 % 64 ≥ 128
    · have hb : 194 ≤ b0 ∧ b0 < 224 ∧ 1 < n ∧ b1 / 64 = 2 := by omega
      simp [hc, hb]
    · have hb : ¬ (194 ≤ b0 ∧ b0 < 224 ∧ 1 < n ∧ b1 / 64 = 2) := by omega
      rw [if_neg hc, if_pos rfl, if_neg hb, if_neg (by omega), if_neg (by omega)]
  · rw [if_neg a2]
    have hb : ¬ (194 ≤ b0 ∧ b0 < 224 ∧ 1 < n ∧ b1 / 64 = 2) := by omega
    rw [if_neg hb]
    by_cases a3 : b0 / 16 = 14 ∧ (1 < n ∧ b1 / 64 = 2) ∧ (2 < n ∧ b2 / 64 = 2)
    · rw [if_pos a3]
      by_cases hc : b0 % 16 * 4096 + b1 % 64 * 64 + b2 % 64 ≥ 2048 ∧ (b0 % 16 * 4096 + b1 % 64 * 64 + b2 % 64 < 55296 ∨ (57344 ≤ b0 % 16 * 4096 + b1 % 64 * 64 + b2 % 64 ∧ b0 % 16 * 4096 + b1 % 64 * 64 + b2 % 64 ≤ 1114111))
      · rw [if_pos hc, if_neg (by simp), if_pos (by omega)]
      · rw [if_neg hc, if_pos rfl, if_neg (by omega), if_neg (by omega)]
    · rw [if_neg a3]
      by_cases a4 : b0 / 8 = 30 ∧ (1 < n ∧ b1 / 64 = 2) ∧ (2 < n ∧ b2 / 64 = 2) ∧ (3 < n ∧ b3 / 64 = 2)
      · rw [if_pos a4]
        by_cases hc : b0 % 8 * 262144 + b1 % 64 * 4096 + b2 % 64 * 64 + b3 % 64 ≥ 65536 ∧ (b0 % 8 * 262144 + b1 % 64 * 4096 + b2 % 64 * 64 + b3 % 64 < 55296 ∨ (57344 ≤ b0 % 8 * 262144 + b1 % 64 * 4096 + b2 % 64 * 64 + b3 % 64 ∧ b0 % 8 * 262144 + b1 % 64 * 4096 + b2 % 64 * 64 + b3 % 64 ≤ 1114111))
        · rw [if_pos hc, if_neg (by simp), if_neg (by omega), if_pos (by omega)]
        · rw [if_neg hc, if_pos rfl, if_neg (by omega), if_neg (by omega)]
      · rw [if_neg a4, if_pos rfl, if_neg (by omega), if_neg (by omega)]
/-- its size fits. -/
theorem nxN_size (n b0 b1 b2 b3 : Nat) : (nxN n b0 b1 b2 b3).2 ≤ n ∧ (nxN n b0 b1 b2 b3).2 ≤ 4 ∧ ((nxN n b0 b1 b2 b3).2 = 0 → (nxN n b0 b1 b2 b3).1 = 0) ∧ (nxN n b0 b1 b2 b3).1 ≤ 1114111 := by
  rw [nxN_is]
  repeat' split
  all_goals (refine ⟨?_, ?_, ?_, ?_⟩ <;> first | omega | (intro h; exact absurd h (by decide)) | rfl | simp)
theorem nx_size (s : ByteArray) (k : Nat) : k + (nx s k).2 ≤ s.size ∨ (nx s k).2 = 0 := by
  have := (nxN_size (s.size - k) (bt s k) (bt s (k + 1)) (bt s (k + 2)) (bt s (k + 3))).1
  unfold nx; omega
theorem nx_four (s : ByteArray) (k : Nat) : (nx s k).2 ≤ 4 := (nxN_size _ _ _ _ _).2.1
theorem nx_none {s : ByteArray} {k : Nat} (h : (nx s k).2 = 0) : nx s k = (0, 0) := Prod.ext ((nxN_size _ _ _ _ _).2.2.1 h) h
theorem nx_end {s : ByteArray} {k : Nat} (h : s.size ≤ k) : nx s k = (0, 0) := by
  unfold nx nxN; rw [if_pos (by omega)]
/-- up to which byte a text is right. -/
def flF (s : ByteArray) : Nat → Nat → Nat
  | 0, k => k
  | f + 1, k => if (nx s k).2 = 0 then k else flF s f (k + (nx s k).2)
theorem flF_more (s : ByteArray) : ∀ f g k, s.size ≤ k + f → s.size ≤ k + g → flF s f k = flF s g k
  | 0, 0, k, _, _ => rfl
  | 0, g + 1, k, h, _ => by rw [flF, flF, nx_end (by omega)]; rfl
  | f + 1, 0, k, _, h => by rw [flF, flF, nx_end (by omega)]; rfl
  | f + 1, g + 1, k, h1, h2 => by
    rw [flF, flF]
    by_cases e : (nx s k).2 = 0
    · rw [if_pos e, if_pos e]
    · rw [if_neg e, if_neg e]; exact flF_more s f g _ (by omega) (by omega)
def flAt (s : ByteArray) (k : Nat) : Nat := flF s s.size k
def fl (s : ByteArray) : Nat := flAt s 0
theorem flAt_stop {s : ByteArray} {k : Nat} (h : (nx s k).2 = 0) : flAt s k = k := by
  unfold flAt
  cases s.size with
  | zero => rfl
  | succ f => rw [flF, if_pos h]
theorem flAt_step {s : ByteArray} {k : Nat} (h : (nx s k).2 ≠ 0) : flAt s k = flAt s (k + (nx s k).2) := by
  unfold flAt
  rw [flF_more s s.size (s.size + 1) k (by omega) (by omega), flF, if_neg h]
end Go.Proofs.YthjfalbchkbdfaaDoor

/- Rows of memory, said by the index: what a load of a whole array or struct gives, what a store of one leaves. -/
namespace Go.Proofs.YthjfalbchkbdfaaDoor
open Go.RowKit Go.Deep

/-- n values as an array, by the index. -/
def rowV (n : Nat) (f : Nat → Value) : Array Value := Array.ofFn (n := n) (fun i => f i.val)
theorem rowV_size (n : Nat) (f : Nat → Value) : (rowV n f).size = n := by simp [rowV]
theorem rowV_get (n : Nat) (f : Nat → Value) (i : Nat) (h : i < n) : (rowV n f)[i]? = some (f i) := by simp [rowV, h]
theorem rowV_eq {n : Nat} {f : Nat → Value} {c : Array Value} (hs : c.size = n) (hc : ∀ i, i < n → c[i]? = some (f i)) : c = rowV n f := by
  apply Array.ext_getElem?
  intro i
  by_cases h : i < n
  · rw [hc i h, rowV_get n f i h]
  · rw [Array.getElem?_eq_none (by omega), Array.getElem?_eq_none (by rw [rowV_size]; omega)]
theorem rowV_congr {n : Nat} {f g : Nat → Value} (h : ∀ i, i < n → f i = g i) : rowV n f = rowV n g :=
  rowV_eq (rowV_size _ _) fun i hi => by rw [rowV_get _ _ _ hi, h i hi]
theorem rowV_inj {n : Nat} {f g : Nat → Value} (h : rowV n f = rowV n g) (i : Nat) (hi : i < n) : f i = g i := by
  have := rowV_get n f i hi
  rw [h, rowV_get n g i hi] at this
  exact (Option.some.inj this).symm

theorem rowIs_block {w : World} {b : Nat} {t : TypeId} {n : Nat} {f : Nat → Value} (h : w.rowIs b t n f) : w.heap[b]? = some (.cells (rowV n f) t (0, 0)) := by
  obtain ⟨c, hb, hs, hc⟩ := h
  rw [hb, rowV_eq hs hc]
/-- A new block whose cells are written out. -/
theorem rowIs_new (w : World) (c : Array Value) (t : TypeId) (n : Nat) (f : Nat → Value) (hs : c.size = n) (hc : ∀ i, i < n → c[i]? = some (f i)) : (w.alloc (.cells c t)).rowIs w.heap.size t n f := by
  subst hs; exact World.rowIs_alloc w c t f hc

/-- A new block of n like cells. -/
theorem rowIs_zero (w : World) (c : Array Value) (t : TypeId) (n : Nat) (z : Value) (hc : c = Array.replicate n z) : (w.alloc (.cells c t)).rowIs w.heap.size t n (fun _ => z) := by
  subst hc
  exact rowIs_new w _ t n _ (by simp) fun i hi => by simp [hi]
/-- A new block that is a row by the index. -/
theorem rowIs_box (w : World) (t : TypeId) (n : Nat) (f : Nat → Value) : (w.alloc (.cells (rowV n f) t)).rowIs w.heap.size t n f := rowIs_new w _ t n f (rowV_size _ _) fun i hi => rowV_get n f i hi

theorem size_setCells (b : Nat) : ∀ (vs : List Value) (o : Nat) (w : World), (w.setCells b o vs).heap.size = w.heap.size
  | [], _, _ => rfl
  | v :: r, o, w => by rw [World.setCells, size_setCells b r (o + 1)]; exact nblk_setCell _ _ _
theorem below_setCells {B : Nat} (b : Nat) (hb : B ≤ b) : ∀ (vs : List Value) (o : Nat) {a w : World}, Below B a w → Below B a (w.setCells b o vs)
  | [], _, _, _, h => h
  | v :: r, o, _, _, h => by rw [World.setCells]; exact below_setCells b hb r (o + 1) (h.setCell hb v)
theorem rowIs_setCells {b : Nat} {t : TypeId} {n : Nat} : ∀ (vs : List Value) (o : Nat) {w : World} {f : Nat → Value}, w.rowIs b t n f → (w.setCells b o vs).rowIs b t n (fun j => if o ≤ j ∧ j < o + vs.length then vs.getD (j - o) undef else f j)
  | [], o, w, f, h => h.congr fun i _ => by rw [if_neg (by simp)]
  | v :: r, o, w, f, h => by
    rw [World.setCells]
    refine (rowIs_setCells r (o + 1) (h.set o v)).congr fun i _ => ?_
    simp only [List.length_cons]
    by_cases h1 : o + 1 ≤ i ∧ i < o + 1 + r.length
    · rw [if_pos h1, if_pos (by omega)]
      obtain ⟨m, rfl⟩ : ∃ m, i = o + 1 + m := ⟨i - (o + 1), by omega⟩
      rw [show o + 1 + m - (o + 1) = m by omega, show o + 1 + m - o = m + 1 by omega, List.getD_cons_succ]
    · rw [if_neg h1]
      by_cases h2 : i = o
      · subst h2; rw [if_pos rfl, if_pos (by omega)]; simp
      · rw [if_neg h2, if_neg (by omega)]
/-- A row stored into a row. -/
theorem rowIs_splice {b o m : Nat} {t : TypeId} {n : Nat} {f g : Nat → Value} {w : World} (h : w.rowIs b t n f) : (w.setCells b o (rowV m g).toList).rowIs b t n (fun j => if o ≤ j ∧ j < o + m then g (j - o) else f j) := by
  refine (rowIs_setCells (rowV m g).toList o h).congr fun i _ => ?_
  simp only [Array.length_toList, rowV_size]
  by_cases h1 : o ≤ i ∧ i < o + m
  · rw [if_pos h1, if_pos h1, List.getD_eq_getElem?_getD, Array.getElem?_toList, rowV_get _ _ _ (by omega)]; rfl
  · rw [if_neg h1, if_neg h1]

theorem there_of_row {w : World} {b o m : Nat} {t : TypeId} {n : Nat} {f : Nat → Value} (h : w.rowIs b t n f) (hm : o + m ≤ n) : w.there b o m := fun j hj => ⟨by rw [h.cell (by omega)]; rfl, h.frozen _⟩
theorem range_of_cells {w : World} {b o m : Nat} {g : Nat → Value} (hc : ∀ i, i < m → w.cell? ⟨b, o + i, none⟩ = some (g i)) : w.rangeAt b o (rowV m g).toList := fun j v hv => by
  rw [Array.getElem?_toList] at hv
  by_cases h : j < m
  · rw [rowV_get _ _ _ h] at hv; rw [hc j h, ← hv]
  · rw [Array.getElem?_eq_none (by rw [rowV_size]; omega)] at hv; cases hv

end Go.Proofs.YthjfalbchkbdfaaDoor
namespace Go.RowKit
theorem Below.drewN {B : Nat} {a w : World} (h : Below B a w) (n : Nat) : Below B a (w.drewN n) := ⟨h.os, h.tape, h.output, h.size, h.block⟩
theorem Below.row {B : Nat} {w w' : World} (h : Below B w w') {k : Nat} {t : TypeId} {n : Nat} {f : Nat → Value} (hr : w.rowIs k t n f) (hk : k < B) : w'.rowIs k t n f := hr.of_block (h.block k hk)
end Go.RowKit
namespace Go
theorem World.rowIs.drewN {w : World} {b : Nat} {t : TypeId} {n : Nat} {f : Nat → Value} (h : w.rowIs b t n f) (k : Nat) : (w.drewN k).rowIs b t n f := h
end Go
namespace Go.Proofs.YthjfalbchkbdfaaDoor
open Go.RowKit Go.Deep
/-- NOTHING BELOW B HAS TURNED BUT BLOCK b. -/
structure But (B b : Nat) (w w' : World) : Prop where
  os : w'.os = w.os
  tape : w'.tape = w.tape
  output : w'.output = w.output
  size : w.heap.size ≤ w'.heap.size
  block : ∀ k, k < B → k ≠ b → w'.heap[k]? = w.heap[k]?
namespace But
variable {B b : Nat} {w w' w'' : World}
theorem refl (B b : Nat) (w : World) : But B b w w := ⟨rfl, rfl, rfl, Nat.le_refl _, fun _ _ _ => rfl⟩
theorem trans (h : But B b w w') (k : But B b w' w'') : But B b w w'' :=
  ⟨k.os.trans h.os, k.tape.trans h.tape, k.output.trans h.output, Nat.le_trans h.size k.size, fun i hi hb => (k.block i hi hb).trans (h.block i hi hb)⟩
theorem mono {B' : Nat} (h : But B b w w') (hB : B' ≤ B) : But B' b w w' := ⟨h.os, h.tape, h.output, h.size, fun i hi hb => h.block i (Nat.lt_of_lt_of_le hi hB) hb⟩
theorem of_below (h : Below B w w') (b : Nat) : But B b w w' := ⟨h.os, h.tape, h.output, h.size, fun i hi _ => h.block i hi⟩
theorem below (h : But B b w w') (hb : B ≤ b) : Below B w w' := ⟨h.os, h.tape, h.output, h.size, fun i hi => h.block i hi (by omega)⟩
theorem drew (h : But B b w w') : But B b w w'.drew := ⟨h.os, h.tape, h.output, h.size, h.block⟩
theorem drewN (h : But B b w w') (n : Nat) : But B b w (w'.drewN n) := ⟨h.os, h.tape, h.output, h.size, h.block⟩
theorem alloc (h : But B b w w') (hB : B ≤ w'.heap.size) (o : Obj) : But B b w (w'.alloc o) := h.trans (of_below ((Below.refl B w').alloc hB o) b)
theorem set (h : But B b w w') (i : Nat) (v : Value) : But B b w (w'.setCell ⟨b, i, none⟩ v) :=
  ⟨h.os, h.tape, h.output, by rw [nblk_setCell]; exact h.size, fun k hk hb => (blk_setCell_other _ _ _ _ hb).trans (h.block k hk hb)⟩
theorem cell (h : But B b w w') {k i : Nat} (hk : k < B) (hb : k ≠ b) : w'.cell? ⟨k, i, none⟩ = w.cell? ⟨k, i, none⟩ := World.cell?_of_block (w := w) (h.block k hk hb)
theorem frozen (h : But B b w w') {k i : Nat} (hk : k < B) (hb : k ≠ b) : w'.frozen? ⟨k, i, none⟩ = w.frozen? ⟨k, i, none⟩ := World.frozen?_of_block (w := w) (h.block k hk hb)
theorem row (h : But B b w w') {k : Nat} {t : TypeId} {n : Nat} {f : Nat → Value} (hr : w.rowIs k t n f) (hk : k < B) (hb : k ≠ b) : w'.rowIs k t n f := hr.of_block (h.block k hk hb)
end But
theorem but_setCells {B b : Nat} : ∀ (vs : List Value) (o : Nat) {a w : World}, But B b a w → But B b a (w.setCells b o vs)
  | [], _, _, _, h => h
  | v :: r, o, _, _, h => by rw [World.setCells]; exact but_setCells r (o + 1) (h.set o v)

/-- A cell beside the one that was stored into. -/
theorem cell_keep {w : World} {n b i j : Nat} {v u : Value} (h : i ≠ j) (hc : w.cell? ⟨b, j, none⟩ = some u) : ((w.drewN n).setCell ⟨b, i, none⟩ v).cell? ⟨b, j, none⟩ = some u := by
  rw [World.cell?_setCell_other]
  · exact hc
  · intro e; injection e; contradiction

section
variable {P : Program}
/-- A LOAD OF A WHOLE ARRAY OR STRUCT, out of wherever its cells lie. -/
theorem wpList_load_seg {ops : Array Oper} {rest : List Oper} {op : Oper} {a : Act} {w : World} {Q : Exit → Act → World → Prop} (hgd : op.guard = none) (ty : TypeId) (x : Operand) (ho : op.op = .load ty x)
    (b o m : Nat) (g : Nat → Value) (hx : a.eval x = .pointer (some ⟨b, o, none⟩)) (d : TypeDesc) (hu : P.underlying ty = some d) (hd : d.isRow = true) (hi : (P.info? ty).map (·.size) = some m)
    (hc : ∀ i, i < m → w.cell? ⟨b, o + i, none⟩ = some (g i))
    (h : wpList P ops Q rest (a.put op.dst (.agg (rowV m g))) w) : wpList P ops Q (op :: rest) a w := by
  refine wpList_load_mid hgd ty x ho b o hx (rowV m g).toList d (range_of_cells hc) hu hd ?_ ?_
  · rw [hi, Array.length_toList, rowV_size]
  · rw [Array.toArray_toList]; exact h
/-- A STORE OF A WHOLE ARRAY OR STRUCT INTO A ROW. -/
theorem wpList_store_seg {ops : Array Oper} {rest : List Oper} {op : Oper} {a : Act} {w : World} {Q : Exit → Act → World → Prop} (hgd : op.guard = none) (ty : TypeId) (x y : Operand) (ho : op.op = .store ty x y)
    (b o m : Nat) (g : Nat → Value) (hx : a.eval x = .pointer (some ⟨b, o, none⟩)) (hy : a.eval y = .agg (rowV m g)) (hi : (P.info? ty).map (·.size) = some m) (h1 : ∀ i, i < m → (g i).oneCell' = true)
    (ht : w.there b o m)
    (h : wpList P ops Q rest (a.put op.dst undef) (w.setCells b o (rowV m g).toList)) : wpList P ops Q (op :: rest) a w := by
  refine wpList_store_mid hgd ty x y ho b o (rowV m g) hx hy (by rw [rowV_size]; exact ht) (by rw [hi, rowV_size]) ?_ h
  rw [Array.all_eq_true_iff_forall_mem]
  intro v hv
  obtain ⟨i, hi', rfl⟩ := Array.mem_iff_getElem.1 hv
  have hlt : i < m := by rw [rowV_size] at hi'; exact hi'
  have := rowV_get m g i hlt
  rw [Array.getElem?_eq_getElem hi'] at this
  rw [Option.some.inj this]; exact h1 i hlt
/-- THE SAME, the world behind it under a name. -/
theorem wpList_store_row {ops : Array Oper} {rest : List Oper} {op : Oper} {a : Act} {w : World} {Q : Exit → Act → World → Prop} (hgd : op.guard = none) (ty : TypeId) (x y : Operand) (ho : op.op = .store ty x y) (hdst : op.dst = none)
    (b o m : Nat) (g : Nat → Value) (hx : a.eval x = .pointer (some ⟨b, o, none⟩)) (hy : a.eval y = .agg (rowV m g)) (hi : (P.info? ty).map (·.size) = some m) (h1 : ∀ i, i < m → (g i).oneCell' = true)
    (t n : Nat) (f : Nat → Value) (hr : w.rowIs b t n f) (hm : o + m ≤ n)
    (h : ∀ w', w'.rowIs b t n (fun j => if o ≤ j ∧ j < o + m then g (j - o) else f j) → w'.heap.size = w.heap.size → But w.heap.size b w w' → wpList P ops Q rest a w') : wpList P ops Q (op :: rest) a w := by
  refine wpList_store_seg hgd ty x y ho b o m g hx hy hi h1 (there_of_row hr hm) ?_
  rw [hdst]
  exact h _ (rowIs_splice hr) (size_setCells _ _ _ _) (but_setCells _ _ (But.refl _ _ _))
/-- An array's element by an index that is a letter. -/
theorem run_index_agg (w : World) (t e : TypeId) (n : Nat) (cs : Array Value) (k : Nat) (v : Value) (h : P.underlying t = some (.array n e)) (he : (match P.underlying e with | some (.struct _) => false | some (.array _ _) => false | some _ => true | none => false) = true) (hi : (P.info? e).map (·.size) = some 1) (hk : k < n) (hv : cs[k]? = some v) :
    (Instr.index t (.agg cs) (.int .i64 k)).run P w = .ok v w := by
  cases hq : P.info? e with
  | none => simp [hq] at hi
  | some i =>
    have hs : i.size = 1 := by simpa [hq] using hi
    have hagg : (isAgg e).run P w = .ok false w := by
      unfold isAgg
      cases hd : P.underlying e with
      | none => simp [hd] at he
      | some d =>
        rw [Sem.run_bind, run_underlying hd w]
        rw [hd] at he
        cases d <;> simp_all
    have h1 : (0 : Int) ≤ (k : Int) ∧ (k : Int) < n := by omega
    simp [Instr.index, Sem.run_bind, asIntOf, run_underlying h w, h1, sizeOf, typeInfo, hq, hs, part, hagg, hv]
    intro hk2; omega
/-- A RESULT THAT LIES IN MEMORY. -/
theorem results_cell_seg {fn : Func} {p : Tmp} {ty : TypeId} (h : fn.results = #[.cell p ty]) (tmps : Array Value) (w : World) (g : Nat) (t : TypeId) (n : Nat) (f : Nat → Value) (d : TypeDesc)
    (hp : tmps.getD p undef = .pointer (some ⟨g, 0, none⟩)) (hu : P.underlying ty = some d) (hd : (match d with | .struct _ | .array _ _ => true | _ => false) = true) (hi : (P.info? ty).map (·.size) = some n)
    (hg : w.rowIs g t n f) : (results fn tmps).run P w = .ok (.agg (rowV n f)) w :=
  results_cell_row h tmps w g t (rowV n f) (0, 0) d hp (rowIs_block hg) hu hd (by rw [hi, rowV_size])
end
end Go.Proofs.YthjfalbchkbdfaaDoor

/- Slices that the call itself makes: what append leaves. -/
namespace Go.Proofs.YthjfalbchkbdfaaDoor
open Go.RowKit Go.Deep

/-- v is a slice of the elements xs, of one cell each, in a block of its own from B on. -/
def owns (w : World) (B : Nat) (e : TypeId) (v : Value) (xs : List Value) : Prop := w.ownsRow B e 1 v xs.length xs
theorem owns_nil (w : World) (B : Nat) (e : TypeId) : owns w B e (.slice none 0 0) [] := ⟨rfl, Or.inl ⟨rfl, rfl⟩⟩
theorem owns.block {w : World} {B : Nat} {e : TypeId} {v : Value} {xs : List Value} (h : owns w B e v xs) (k : Nat) (hk : v.ownBlock = some k) : B ≤ k ∧ k < w.heap.size := by
  obtain ⟨_, h | ⟨g, cap, cur, rfl, hB, hb, _⟩⟩ := h
  · rw [h.1] at hk; cases hk
  · obtain rfl : g = k := by simpa [Value.ownBlock] using hk
    exact ⟨hB, (Array.getElem?_eq_some_iff.1 hb).1⟩
/-- a slice that is not the one that grew is as it was. -/
theorem owns.far {w w' : World} {B : Nat} {e : TypeId} {v : Value} {xs : List Value} (h : owns w B e v xs) (hk : ∀ k, v.ownBlock = some k → w'.heap[k]? = w.heap[k]?) : owns w' B e v xs := by
  obtain ⟨hl, h | ⟨g, cap, cur, rfl, hB, hb, hr⟩⟩ := h
  · exact ⟨hl, Or.inl h⟩
  · exact ⟨hl, Or.inr ⟨g, cap, cur, rfl, hB, by rw [hk g rfl]; exact hb, hr⟩⟩
theorem owns.below {w w' : World} {B C : Nat} {e : TypeId} {v : Value} {xs : List Value} (h : owns w B e v xs) (hb : Below C w w') (hC : w.heap.size ≤ C) : owns w' B e v xs :=
  h.far fun k hk => hb.block k (Nat.lt_of_lt_of_le (h.block k hk).2 hC)
theorem owns.grown {w w' : World} {B : Nat} {e : TypeId} {v : Value} {xs : List Value} {row : Option Nat} (h : owns w B e v xs) (hg : w.grownBy w' row) (hne : ∀ k, v.ownBlock = some k → row ≠ some k) : owns w' B e v xs :=
  h.far fun k hk => hg.block k (h.block k hk).2 (fun e => hne k hk e.symm)
theorem owns.alloc {w : World} {B : Nat} {e : TypeId} {v : Value} {xs : List Value} (h : owns w B e v xs) (o : Obj) : owns (w.alloc o) B e v xs :=
  h.far fun k hk => blk_alloc_lt _ _ _ (h.block k hk).2
theorem owns.drew {w : World} {B : Nat} {e : TypeId} {v : Value} {xs : List Value} (h : owns w B e v xs) : owns w.drew B e v xs := h
theorem owns.drewN {w : World} {B : Nat} {e : TypeId} {v : Value} {xs : List Value} (h : owns w B e v xs) (n : Nat) : owns (w.drewN n) B e v xs := h
/-- its shape, and its cells. -/
theorem owns.shape {w : World} {B : Nat} {e : TypeId} {v : Value} {xs : List Value} (h : owns w B e v xs) (hn : 0 < xs.length) :
    ∃ g cap, v = .slice (some ⟨g, 0, none⟩) xs.length cap ∧ B ≤ g ∧ g < w.heap.size ∧ xs.length ≤ cap ∧ cap ≤ maxLen ∧ (∀ i u, xs[i]? = some u → w.cell? ⟨g, i, none⟩ = some u) ∧ ∀ i, w.frozen? ⟨g, i, none⟩ = false := by
  obtain ⟨hl, h | ⟨g, cap, cur, rfl, hB, hb, hc, hm, hs, ht⟩⟩ := h
  · omega
  · refine ⟨g, cap, rfl, hB, (Array.getElem?_eq_some_iff.1 hb).1, hc, hm, fun i u hu => ?_, fun i => by simp [World.frozen?, hb]⟩
    rw [cell_of_row _ _ _ _ _ _ hb]
    rw [Nat.mul_one] at ht
    have hi : i < xs.length := by rw [List.getElem?_eq_some_iff] at hu; exact hu.1
    rw [← ht, List.getElem?_take, if_pos hi, Array.getElem?_toList] at hu
    exact hu

section
variable {P : Program}
/-- WHAT append LEAVES: the elements behind one another; nothing old but the slice's own block has turned. -/
theorem run_append (w : World) (t ty : TypeId) (B : Nat) (e : TypeId) (z : Value) (bytes : Nat) (ht : P.underlying t = some (.slice e)) (hi : (P.info? e).map (fun i => (i.zero, i.size, i.bytes)) = some (some z, 1, bytes)) (hz1 : z.cells.size = 1)
    (v : Value) (xs : List Value) (hown : owns w B e v xs) (sb so m c : Nat) (news : List Value) (hl : news.length = m) (hnews : ∀ j u, news[j]? = some u → w.cell? ⟨sb, so + j, none⟩ = some u) (h1 : ∀ u ∈ news, u.oneCell' = true)
    (hm : 0 < m) (h63 : xs.length + m ≤ maxLen) (hbytes : (xs.length + m) * bytes ≤ 140737488355328) (hB : B ≤ w.heap.size) :
    ∃ g cap w', (Builtin.append_ #[t, t] ty #[v, .slice (some ⟨sb, so, none⟩) m c]).run P w = .ok (.slice (some ⟨g, 0, none⟩) (xs.length + m) cap) w' ∧
      owns w' B e (.slice (some ⟨g, 0, none⟩) (xs.length + m) cap) (xs ++ news) ∧ w.grownBy w' v.ownBlock ∧ (v.ownBlock = some g ∨ g = w.heap.size) ∧ g < w'.heap.size := by
  cases hq : P.info? e with
  | none => simp [hq] at hi
  | some i =>
    simp only [hq, Option.map_some, Option.some.injEq, Prod.mk.injEq] at hi
    obtain ⟨hz, hs, hb⟩ := hi
    obtain ⟨g, cap, w', hr, ho, hg, hw, hlt⟩ := run_append_lies (P := P) w t ty B e i z 1 bytes ht hq hz hs hb hz1 (by omega) v xs.length xs hown ⟨sb, so, none⟩ m c news (by omega) (fun j u hu => by rw [Addr.add_mid]; exact hnews j u hu) h1 hm h63 hbytes hB w.heap.size rfl
    refine ⟨g, cap, w', hr, ?_, hg, hw, hlt⟩
    unfold owns
    rw [List.length_append, hl]; exact ho
/-- append, by what its run comes to. -/
theorem wp_append_run {o : Oper} {a : Act} {w w' : World} {K : Act → World → Prop} {Q : Exit → Act → World → Prop} {v y r : Value} (s x : Operand) (t : TypeId)
    (ho : o.op = .call { callee := .builtin .append, args := #[s, x], argTypes := #[t, t] }) (hs : a.eval s = v) (hx : a.eval x = y)
    (hr : (Builtin.append_ #[t, t] o.type #[v, y]).run P w = .ok r w') (h : K (a.put o.dst r) w') : o.wp P a w K Q := by
  unfold Oper.wp execOp
  simp only [ho, resolve, invoke, builtin, Sem.run_bind, Sem.run_pure, Result.andThen_ok, List.map_toArray, List.map_cons, List.map_nil, hs, hx, hr]
  exact h
theorem wpList_append_run {ops : Array Oper} {rest : List Oper} {o : Oper} {a : Act} {w w' : World} {Q : Exit → Act → World → Prop} {v y r : Value} (hgd : o.guard = none) (s x : Operand) (t : TypeId)
    (ho : o.op = .call { callee := .builtin .append, args := #[s, x], argTypes := #[t, t] }) (hs : a.eval s = v) (hx : a.eval x = y)
    (hr : (Builtin.append_ #[t, t] o.type #[v, y]).run P w = .ok r w') (h : wpList P ops Q rest (a.put o.dst r) w') : wpList P ops Q (o :: rest) a w :=
  wpList_plain hgd fun _ hK => wp_append_run s x t ho hs hx hr (hK _ _ h)
end
end Go.Proofs.YthjfalbchkbdfaaDoor

/- Slices of bytes, and of others, wherever they lie. -/
namespace Go.Proofs.YthjfalbchkbdfaaDoor
set_option linter.unusedSimpArgs false
open Go.RowKit Go.Deep

/-- the bytes of the parts ahead of place k. -/
def flatTo (ps : Nat → List Int) : Nat → List Int
  | 0 => []
  | k + 1 => flatTo ps k ++ ps k
/-- THE VALUE v IS A SLICE OF THESE BYTES. -/
def isBytes (w : World) (v : Value) (l : List Int) : Prop :=
  (v = .slice none 0 0 ∧ l = []) ∨ ∃ pb po cap : Nat, v = .slice (some ⟨pb, po, none⟩) l.length cap ∧ l.length ≤ cap ∧ cap ≤ maxLen ∧ pb < w.heap.size ∧
    (∀ i, i < l.length → w.cell? ⟨pb, po + i, none⟩ = some (.int .u8 (l.getD i 0))) ∧ ∀ i, 0 ≤ l.getD i 0 ∧ l.getD i 0 ≤ 255
theorem isBytes.below {w w' : World} {B : Nat} {v : Value} {l : List Int} (h : isBytes w v l) (hb : Below B w w') (hB : w.heap.size ≤ B) : isBytes w' v l := by
  rcases h with h | ⟨pb, po, cap, h1, h2, h3, h4, h6, h7⟩
  · exact Or.inl h
  · exact Or.inr ⟨pb, po, cap, h1, h2, h3, Nat.lt_of_lt_of_le h4 hb.size, fun i hi => by rw [hb.cell (p := ⟨pb, po + i, none⟩) (Nat.lt_of_lt_of_le h4 hB)]; exact h6 i hi, h7⟩
/-- .. OR ONE OF NONE, wherever it says that it lies. -/
def anyBytes (w : World) (v : Value) (l : List Int) : Prop := isBytes w v l ∨ ((∃ a, v = .slice a 0 0) ∧ l = [])
theorem anyBytes.below {w w' : World} {B : Nat} {v : Value} {l : List Int} (h : anyBytes w v l) (hb : Below B w w') (hB : w.heap.size ≤ B) : anyBytes w' v l := by
  rcases h with h | h
  · exact Or.inl (h.below hb hB)
  · exact Or.inr h
/-- THE VALUE v IS A SLICE OF n SLICES OF BYTES. -/
def isParts (w : World) (v : Value) (n : Nat) (ps : Nat → List Int) : Prop :=
  (v = .slice none 0 0 ∧ n = 0) ∨ ∃ (qb qo cap : Nat) (sv : Nat → Value), v = .slice (some ⟨qb, qo, none⟩) n cap ∧ qb < w.heap.size ∧ n ≤ maxLen ∧ ∀ i, i < n → w.cell? ⟨qb, qo + i, none⟩ = some (sv i) ∧ anyBytes w (sv i) (ps i)
theorem isParts.below {w w' : World} {B : Nat} {v : Value} {n : Nat} {ps : Nat → List Int} (h : isParts w v n ps) (hb : Below B w w') (hB : w.heap.size ≤ B) : isParts w' v n ps := by
  rcases h with h | ⟨qb, qo, cap, sv, h1, h2, h3, h4⟩
  · exact Or.inl h
  · exact Or.inr ⟨qb, qo, cap, sv, h1, Nat.lt_of_lt_of_le h2 hb.size, h3, fun i hi => ⟨by rw [hb.cell (p := ⟨qb, qo + i, none⟩) (Nat.lt_of_lt_of_le h2 hB)]; exact (h4 i hi).1, (h4 i hi).2.below hb hB⟩⟩
theorem isBytes.slice {w : World} {v : Value} {l : List Int} (h : isBytes w v l) : ∃ a c, v = .slice a l.length c ∧ l.length ≤ maxLen := by
  rcases h with ⟨rfl, rfl⟩ | ⟨pb, po, cap, rfl, h2, h3, _⟩
  · exact ⟨_, _, rfl, Nat.zero_le _⟩
  · exact ⟨_, _, rfl, by omega⟩
theorem anyBytes.slice {w : World} {v : Value} {l : List Int} (h : anyBytes w v l) : ∃ a c, v = .slice a l.length c ∧ l.length ≤ maxLen := by
  rcases h with h | ⟨⟨a, rfl⟩, rfl⟩
  · exact h.slice
  · exact ⟨a, 0, rfl, Nat.zero_le _⟩
theorem isBytes.byte {w : World} {v : Value} {l : List Int} (h : isBytes w v l) (i : Nat) : 0 ≤ l.getD i 0 ∧ l.getD i 0 ≤ 255 := by
  rcases h with ⟨_, rfl⟩ | ⟨pb, po, cap, _, _, _, _, _, h7⟩
  · exact ⟨by simp, by simp⟩
  · exact h7 i
theorem isBytes.under {w : World} {pb o n cap : Nat} {l : List Int} (h : isBytes w (.slice (some ⟨pb, o, none⟩) n cap) l) : pb < w.heap.size := by
  rcases h with ⟨h, _⟩ | ⟨pb', po, cap', h1, _, _, h4, _⟩
  · cases h
  · have e : pb = pb' := by injection h1 with h1 _ _; injection h1 with h1; injection h1
    omega
theorem isBytes.of_block {w w' : World} {pb o n cap : Nat} {l : List Int} (h : isBytes w (.slice (some ⟨pb, o, none⟩) n cap) l) (hb : w'.heap[pb]? = w.heap[pb]?) (hs : w.heap.size ≤ w'.heap.size) : isBytes w' (.slice (some ⟨pb, o, none⟩) n cap) l := by
  rcases h with ⟨h, _⟩ | ⟨pb', po, cap', h1, h2, h3, h4, h6, h7⟩
  · cases h
  · have e : pb = pb' := by injection h1 with h1 _ _; injection h1 with h1; injection h1
    subst e
    exact Or.inr ⟨pb, po, cap', h1, h2, h3, by omega, fun i hi => by rw [World.cell?_of_block (w := w) hb]; exact h6 i hi, h7⟩
/-- a slice of bytes of which nothing was written is as it was. -/
theorem isBytes.far {w w' : World} {v : Value} {l : List Int} (h : isBytes w v l) (hb : ∀ k, v.ownBlock = some k → w'.heap[k]? = w.heap[k]?) (hs : w.heap.size ≤ w'.heap.size) : isBytes w' v l := by
  rcases h with h | ⟨pb, po, cap, rfl, h2, h3, h4, h6, h7⟩
  · exact Or.inl h
  · exact Or.inr ⟨pb, po, cap, rfl, h2, h3, by omega, fun i hi => by rw [World.cell?_of_block (w := w) (hb pb rfl)]; exact h6 i hi, h7⟩
theorem isBytes.block {w : World} {v : Value} {l : List Int} (h : isBytes w v l) (k : Nat) (hk : v.ownBlock = some k) : k < w.heap.size := by
  rcases h with ⟨rfl, _⟩ | ⟨pb, po, cap, rfl, h2, h3, h4, h6, h7⟩
  · cases hk
  · simp [Value.ownBlock] at hk; omega
theorem hi8 : (Tryd.prog.info? 5).map (fun i => (i.zero, i.size, i.bytes)) = some (some (.int .u8 0), 1, 1) := by kernel_rfl
/-- bytes of the call's own. -/
def newBytes (w : World) (B : Nat) (v : Value) (l : List Int) : Prop := owns w B 5 v (l.map (Value.int .u8)) ∧ ∀ i, 0 ≤ l.getD i 0 ∧ l.getD i 0 ≤ 255
theorem getElem?_u8 {l : List Int} {i : Nat} (hi : i < l.length) : (l.map (Value.int .u8))[i]? = some (Value.int .u8 (l.getD i 0)) := by
  rw [List.getElem?_map, List.getElem?_eq_getElem hi, List.getD_eq_getElem?_getD, List.getElem?_eq_getElem hi]; rfl
theorem newBytes.is {w : World} {B : Nat} {v : Value} {l : List Int} (h : newBytes w B v l) : isBytes w v l := by
  obtain ⟨ho, hb⟩ := h
  obtain ⟨_, h | ⟨g, cap, cur, rfl, hB, hg, hc, hm, hs, ht⟩⟩ := ho
  · obtain ⟨rfl, hl⟩ := h
    rw [List.length_map] at hl
    exact Or.inl ⟨rfl, List.length_eq_zero_iff.1 hl⟩
  · rw [List.length_map] at hc ⊢
    refine Or.inr ⟨g, 0, cap, rfl, hc, hm, (Array.getElem?_eq_some_iff.1 hg).1, fun i hi => ?_, hb⟩
    rw [Nat.zero_add, cell_of_row _ _ _ _ _ _ hg, ← Array.getElem?_toList]
    have h2 := getElem?_u8 hi
    rw [← ht, List.getElem?_take, List.length_map] at h2
    by_cases hh : i < l.length * 1
    · rw [if_pos hh] at h2; exact h2
    · omega
theorem newBytes.block {w : World} {B : Nat} {v : Value} {l : List Int} (h : newBytes w B v l) (k : Nat) (hk : v.ownBlock = some k) : B ≤ k ∧ k < w.heap.size := h.1.block k hk
theorem newBytes.nil (w : World) (B : Nat) : newBytes w B (.slice none 0 0) [] := ⟨owns_nil _ _ _, fun i => by simp⟩
theorem newBytes.below {w w' : World} {B C : Nat} {v : Value} {l : List Int} (h : newBytes w B v l) (hb : Below C w w') (hC : w.heap.size ≤ C) : newBytes w' B v l := ⟨h.1.below hb hC, h.2⟩
theorem newBytes.mono {w : World} {B C : Nat} {v : Value} {l : List Int} (h : newBytes w B v l) (hC : C ≤ B) : newBytes w C v l := by
  obtain ⟨⟨hl, h1⟩, hb⟩ := h
  refine ⟨⟨hl, ?_⟩, hb⟩
  rcases h1 with h1 | ⟨g, cap, cur, h1, h2, h3⟩
  · exact Or.inl h1
  · exact Or.inr ⟨g, cap, cur, h1, by omega, h3⟩
section
variable {P : Program}
theorem run_append_nil (w : World) (t ty e : TypeId) (ht : P.underlying t = some (.slice e)) (hi : (P.info? e).isSome = true) (b : Option Addr) (n c : Nat) (hn : n ≤ c) (sa : Option Addr) (d : Nat) :
    (Builtin.append_ #[t, t] ty #[.slice b n c, .slice sa 0 d]).run P w = .ok (.slice b n c) w := by
  cases hq : P.info? e with
  | none => rw [hq] at hi; cases hi
  | some i => cases b <;> cases sa <;> simp [Builtin.append_, run_underlying ht, sizeOf, typeInfo, hq, hn, storeCells, loadCells, Builtin.lenOf, Builtin.firstCells, loadCellsFrom]
end
section
variable {P : Program}
/-- x[m:], x a slice of elements of one cell. -/
theorem run_slice_from (t e : TypeId) (b o len cap m : Nat) (hu : P.underlying t = some (.slice e)) (hs : (P.info? e).map (·.size) = some 1) (hm : m ≤ len) :
    ∃ o', (m < cap → o' = o + m) ∧ ∀ w : World, (Instr.slice t (.slice (some ⟨b, o, none⟩) len cap) (some (.int .i64 m)) none none).run P w = .ok (.slice (some ⟨b, o', none⟩) (len - m) (cap - m)) w := by
  cases hq : P.info? e with
  | none => simp [hq] at hs
  | some i =>
    have hi : i.size = 1 := by simpa [hq] using hs
    have h0 : (0 : Int) ≤ (m : Int) ∧ (m : Int) ≤ (len : Int) := by omega
    by_cases hc : cap = m
    · refine ⟨o, fun h => by omega, fun w => ?_⟩
      simp [Instr.slice, Instr.sliceBounds, Instr.sliceBound, asIntOf, run_underlying hu, sizeOf, typeInfo, hq, h0, hc, hm]
    · refine ⟨o + m, fun _ => rfl, fun w => ?_⟩
      simp [Instr.slice, Instr.sliceBounds, Instr.sliceBound, asIntOf, run_underlying hu, sizeOf, typeInfo, hq, hi, h0, hc, hm, Addr.add_mid]
end
theorem getD_append_byte {l m : List Int} (hl : ∀ i, 0 ≤ l.getD i 0 ∧ l.getD i 0 ≤ 255) (hm : ∀ i, 0 ≤ m.getD i 0 ∧ m.getD i 0 ≤ 255) (i : Nat) : 0 ≤ (l ++ m).getD i 0 ∧ (l ++ m).getD i 0 ≤ 255 := by
  rw [List.getD_eq_getElem?_getD, List.getElem?_append]
  split
  · rw [← List.getD_eq_getElem?_getD]; exact hl i
  · rw [← List.getD_eq_getElem?_getD]; exact hm _
/-- append(v, u...), v of the call's own, u any bytes. -/
theorem bytes_append_run (w : World) (B : Nat) (v u : Value) (l m : List Int) (hv : newBytes w B v l) (hu : isBytes w u m) (hs : l.length + m.length ≤ 1099511627776) (hB : B ≤ w.heap.size) :
    ∃ v' w', (Builtin.append_ #[57, 57] 57 #[v, u]).run Tryd.prog w = .ok v' w' ∧ newBytes w' B v' (l ++ m) ∧ w.grownBy w' v.ownBlock ∧ (v'.ownBlock = v.ownBlock ∨ v'.ownBlock = some w.heap.size) := by
  have hgrow : w.grownBy w v.ownBlock := ⟨rfl, rfl, rfl, Nat.le_refl _, fun _ _ _ => rfl⟩
  by_cases h0 : m.length = 0
  · obtain rfl : m = [] := List.length_eq_zero_iff.1 h0
    obtain ⟨a, c, rfl, _⟩ := hu.slice
    have hsh : ∃ a n c, v = .slice a n c ∧ n ≤ c := by
      obtain ⟨⟨_, h | ⟨g, cap, cur, rfl, _, _, hc, _⟩⟩, _⟩ := hv
      · exact ⟨_, _, _, h.1, Nat.le_refl _⟩
      · exact ⟨_, _, _, rfl, hc⟩
    obtain ⟨a', n', c', rfl, hc⟩ := hsh
    exact ⟨_, w, run_append_nil w _ _ _ Tryd.underlying57 (by kernel_rfl) a' n' c' hc a c, by rw [List.append_nil]; exact hv, hgrow, Or.inl rfl⟩
  · rcases hu with ⟨_, rfl⟩ | ⟨pb, po, cap, rfl, h2, h3, h4, h6, h7⟩
    · exact absurd rfl h0
    · obtain ⟨g, cp, w2, hr, ho, hg, hat, hlt⟩ := run_append (P := Tryd.prog) w 57 57 B 5 (.int .u8 0) 1 Tryd.underlying57 hi8 rfl v _ hv.1 pb po m.length cap (m.map (Value.int .u8)) (by simp)
        (fun j u hu => by
          have hj : j < m.length := by
            by_cases hj : j < m.length
            · exact hj
            · rw [List.getElem?_eq_none (by simp; omega)] at hu; cases hu
          rw [getElem?_u8 hj] at hu
          rw [h6 j hj, ← hu])
        (fun v hv => by obtain ⟨x, _, rfl⟩ := List.mem_map.1 hv; rfl) (by omega) (by simp; unfold maxLen; omega) (by simp; omega) hB
      rw [List.length_map] at hr ho
      refine ⟨_, w2, hr, ⟨?_, getD_append_byte hv.2 h7⟩, hg, ?_⟩
      · rw [List.map_append]; exact ho
      · rcases hat with h | h
        · exact Or.inl h.symm
        · exact Or.inr (by rw [h]; rfl)
/-- .. u any bytes, or none. -/
theorem any_append_run (w : World) (B : Nat) (v u : Value) (l m : List Int) (hv : newBytes w B v l) (hu : anyBytes w u m) (hs : l.length + m.length ≤ 1099511627776) (hB : B ≤ w.heap.size) :
    ∃ v' w', (Builtin.append_ #[57, 57] 57 #[v, u]).run Tryd.prog w = .ok v' w' ∧ newBytes w' B v' (l ++ m) ∧ w.grownBy w' v.ownBlock ∧ (v'.ownBlock = v.ownBlock ∨ v'.ownBlock = some w.heap.size) := by
  rcases hu with hu | ⟨⟨a, rfl⟩, rfl⟩
  · exact bytes_append_run w B v u l m hv hu hs hB
  · have hsh : ∃ a n c, v = .slice a n c ∧ n ≤ c := by
      obtain ⟨⟨_, h | ⟨g, cap, cur, rfl, _, _, hc, _⟩⟩, _⟩ := hv
      · exact ⟨_, _, _, h.1, Nat.le_refl _⟩
      · exact ⟨_, _, _, rfl, hc⟩
    obtain ⟨a', n', c', rfl, hc⟩ := hsh
    exact ⟨_, w, run_append_nil w _ _ _ Tryd.underlying57 (by kernel_rfl) a' n' c' hc a 0, by rw [List.append_nil]; exact hv, ⟨rfl, rfl, rfl, Nat.le_refl _, fun _ _ _ => rfl⟩, Or.inl rfl⟩
theorem below_grown {w w' : World} {B : Nat} {v : Value} (hg : w.grownBy w' v.ownBlock) (hv : ∀ k, v.ownBlock = some k → B ≤ k) (hB : B ≤ w.heap.size) : Below B w w' :=
  ⟨hg.os, hg.tape, hg.output, hg.size, fun k hk => hg.block k (by omega) (fun e => by have := hv k e.symm; omega)⟩
/-- append([]byte{}, u...): new bytes, the same. -/
theorem bytes_copy_run (w : World) (u : Value) (l : List Int) (hu : isBytes w u l) (hl : l.length ≤ 1099511627776) :
    ∃ v' w', (Builtin.append_ #[57, 57] 57 #[.slice (some ⟨w.heap.size, 0, none⟩) 0 0, u]).run Tryd.prog (w.alloc (.cells #[] 5)) = .ok v' w' ∧ newBytes w' w.heap.size v' l ∧ Below w.heap.size w w' := by
  have hb1 : Below w.heap.size w (w.alloc (.cells #[] 5)) := (Below.refl _ _).alloc (Nat.le_refl _) _
  have hO : newBytes (w.alloc (.cells #[] 5)) w.heap.size (.slice (some ⟨w.heap.size, 0, none⟩) 0 0) [] :=
    ⟨⟨rfl, Or.inr ⟨w.heap.size, 0, #[], rfl, Nat.le_refl _, blk_alloc_new _ _, Nat.le_refl _, by unfold maxLen; omega, rfl, rfl⟩⟩, fun i => by simp⟩
  obtain ⟨v', w', hr, hn, hg, _⟩ := bytes_append_run _ w.heap.size _ u [] l hO (hu.below hb1 (Nat.le_refl _)) (by simp; omega) (by simp)
  exact ⟨v', w', hr, hn, hb1.trans (below_grown hg (fun k hk => (hO.block k hk).1) (by simp))⟩

/-- bytes as a string. -/
def strOf (l : List Int) : ByteArray := ⟨(l.map fun n => UInt8.ofNat n.toNat).toArray⟩
theorem strOf_fold (l : List Int) : ∀ s : ByteArray, l.foldl (fun r n => r.push (UInt8.ofNat n.toNat)) s = ⟨(s.data.toList ++ l.map fun n => UInt8.ofNat n.toNat).toArray⟩ := by
  induction l with
  | nil => intro s; simp
  | cons n l ih => intro s; rw [List.foldl_cons, ih]; simp [ByteArray.push]
theorem strOf_size (l : List Int) : (strOf l).size = l.length := by simp [strOf, ByteArray.size]
theorem rowV_map (n : Nat) (f : Nat → Int) : rowV n (fun i => .int .u8 (f i)) = (((List.range n).map f).map (Value.int .u8)).toArray := by
  symm
  apply rowV_eq
  · simp
  · intro i hi; simp [hi]
section
variable {P : Program}
/-- string(b), b a slice over a row of bytes. -/
theorem run_convert_row_string (w : World) (src dst e : TypeId) (b o n c : Nat) (f : Nat → Int) (hs : P.underlying src = some (.slice e)) (he : P.underlying e = some (.int .u8)) (hd : P.underlying dst = some .string)
    (hc : ∀ i, i < n → w.cell? ⟨b, o + i, none⟩ = some (.int .u8 (f i))) :
    (convert src dst (.slice (some ⟨b, o, none⟩) n c)).run P w = .ok (.string (strOf ((List.range n).map f))) w := by
  rw [run_convert_bytes_string w src dst e _ _ _ hs he hd]
  have hl := run_loadCells_list (P := P) w ⟨b, o, none⟩ (rowV n fun i => .int .u8 (f i)).toList (fun j v hv => by rw [Addr.add_mid]; exact range_of_cells hc j v hv)
  rw [Array.length_toList, rowV_size, Array.toArray_toList, rowV_map] at hl
  rw [run_bytesToString w ⟨b, o, none⟩ n c _ hl, strOf_fold]
  simp [strOf]
theorem range_getD (l : List Int) : (List.range l.length).map (fun i => l.getD i 0) = l := by
  apply List.ext_getElem?
  intro i
  rw [List.getElem?_map]
  by_cases h : i < l.length
  · rw [List.getElem?_range h, List.getElem?_eq_getElem h, Option.map_some, List.getD_eq_getElem?_getD, List.getElem?_eq_getElem h]; rfl
  · rw [List.getElem?_eq_none (by simp; omega), List.getElem?_eq_none (by omega)]; rfl
/-- string(b), b any bytes. -/
theorem run_convert_bytes (w : World) (src dst e : TypeId) (v : Value) (l : List Int) (hs : P.underlying src = some (.slice e)) (he : P.underlying e = some (.int .u8)) (hd : P.underlying dst = some .string)
    (h : isBytes w v l) : (convert src dst v).run P w = .ok (.string (strOf l)) w := by
  rcases h with ⟨rfl, rfl⟩ | ⟨pb, po, cap, rfl, h2, h3, h4, h6, h7⟩
  · rw [run_convert_bytes_string w src dst e _ _ _ hs he hd]
    simp [Conv.bytesToString, strOf]
    rfl
  · rw [run_convert_row_string w src dst e pb po l.length cap (fun i => l.getD i 0) hs he hd h6, range_getD]
theorem run_convert_any (w : World) (src dst e : TypeId) (v : Value) (l : List Int) (hs : P.underlying src = some (.slice e)) (he : P.underlying e = some (.int .u8)) (hd : P.underlying dst = some .string)
    (h : anyBytes w v l) : (convert src dst v).run P w = .ok (.string (strOf l)) w := by
  rcases h with h | ⟨⟨a, rfl⟩, rfl⟩
  · exact run_convert_bytes w src dst e v l hs he hd h
  · rw [run_convert_bytes_string w src dst e _ _ _ hs he hd]
    cases a with
    | none => simp [Conv.bytesToString, strOf]; rfl
    | some a => rw [run_bytesToString w a 0 0 [] (by simp [loadCells, loadCellsFrom]), strOf_fold]; simp [strOf]
theorem wp_convert_run {o : Oper} {a : Act} {w w' : World} {K : Act → World → Prop} {Q : Exit → Act → World → Prop} {v r : Value} (s t : TypeId) (x : Operand)
    (ho : o.op = .convert s t x) (hx : a.eval x = v) (hr : (convert s t v).run P w = .ok r w') (h : K (a.put o.dst r) w') : o.wp P a w K Q := by
  unfold Oper.wp execOp
  simp only [ho, hx, Sem.run_bind, hr, Result.andThen_ok, Sem.run_pure]
  exact h
theorem wpList_convert_run {ops : Array Oper} {rest : List Oper} {o : Oper} {a : Act} {w w' : World} {Q : Exit → Act → World → Prop} {v r : Value} (hgd : o.guard = none) (s t : TypeId) (x : Operand)
    (ho : o.op = .convert s t x) (hx : a.eval x = v) (hr : (convert s t v).run P w = .ok r w') (h : wpList P ops Q rest (a.put o.dst r) w') : wpList P ops Q (o :: rest) a w :=
  wpList_plain hgd fun _ hK => wp_convert_run s t x ho hx hr (hK _ _ h)
end
theorem strOf_inj {l m : List Int} (hl : ∀ i, 0 ≤ l.getD i 0 ∧ l.getD i 0 ≤ 255) (hm : ∀ i, 0 ≤ m.getD i 0 ∧ m.getD i 0 ≤ 255) (h : strOf l = strOf m) : l = m := by
  have hlen : l.length = m.length := by rw [← strOf_size l, ← strOf_size m, h]
  have h' : l.map (fun n => UInt8.ofNat n.toNat) = m.map (fun n => UInt8.ofNat n.toNat) := by
    have := congrArg (fun s : ByteArray => s.data.toList) h
    simpa [strOf] using this
  apply List.ext_getElem hlen
  intro i h1 h2
  have e := congrArg (fun q => q[i]?) h'
  simp only [List.getElem?_map, List.getElem?_eq_getElem h1, List.getElem?_eq_getElem h2, Option.map_some, Option.some.injEq] at e
  have a1 := hl i
  have a2 := hm i
  rw [List.getD_eq_getElem?_getD, List.getElem?_eq_getElem h1] at a1
  rw [List.getD_eq_getElem?_getD, List.getElem?_eq_getElem h2] at a2
  simp only [Option.getD_some] at a1 a2
  have e2 := congrArg UInt8.toNat e
  rw [UInt8.toNat_ofNat', UInt8.toNat_ofNat'] at e2
  omega
end Go.Proofs.YthjfalbchkbdfaaDoor

/- append of a string to bytes of the call's own. -/
namespace Go.Proofs.YthjfalbchkbdfaaDoor
open Go.RowKit Go.Deep

/-- a string's bytes. -/
def sBytes (s : ByteArray) : List Int := s.data.toList.map fun c => (c.toNat : Int)
theorem sBytes_length (s : ByteArray) : (sBytes s).length = s.size := by
  unfold sBytes; rw [List.length_map, Array.length_toList]; rfl
theorem sBytes_byte (s : ByteArray) (i : Nat) : 0 ≤ (sBytes s).getD i 0 ∧ (sBytes s).getD i 0 ≤ 255 := by
  rw [List.getD_eq_getElem?_getD, sBytes, List.getElem?_map]
  cases h : s.data.toList[i]? with
  | none => exact ⟨by simp, by simp⟩
  | some c => have := c.toNat_lt; simp; omega
section
variable {P : Program}
theorem wp_append2_run {o : Oper} {a : Act} {w w' : World} {K : Act → World → Prop} {Q : Exit → Act → World → Prop} {v y r : Value} (s x : Operand) (t t' : TypeId)
    (ho : o.op = .call { callee := .builtin .append, args := #[s, x], argTypes := #[t, t'] }) (hs : a.eval s = v) (hx : a.eval x = y)
    (hr : (Builtin.append_ #[t, t'] o.type #[v, y]).run P w = .ok r w') (h : K (a.put o.dst r) w') : o.wp P a w K Q := by
  unfold Oper.wp execOp
  simp only [ho, resolve, invoke, builtin, Sem.run_bind, Sem.run_pure, Result.andThen_ok, List.map_toArray, List.map_cons, List.map_nil, hs, hx, hr]
  exact h
theorem wpList_append2_run {ops : Array Oper} {rest : List Oper} {o : Oper} {a : Act} {w w' : World} {Q : Exit → Act → World → Prop} {v y r : Value} (hgd : o.guard = none) (s x : Operand) (t t' : TypeId)
    (ho : o.op = .call { callee := .builtin .append, args := #[s, x], argTypes := #[t, t'] }) (hs : a.eval s = v) (hx : a.eval x = y)
    (hr : (Builtin.append_ #[t, t'] o.type #[v, y]).run P w = .ok r w') (h : wpList P ops Q rest (a.put o.dst r) w') : wpList P ops Q (o :: rest) a w :=
  wpList_plain hgd fun _ hK => wp_append2_run s x t t' ho hs hx hr (hK _ _ h)
end
end Go.Proofs.YthjfalbchkbdfaaDoor

/- The document's code points, pure. -/
namespace Go.Proofs.YthjfalbchkbdfaaDoor
set_option linter.unusedVariables false
open Go.RowKit Go.Deep

def ptP (c : Int) : Prop := 0 ≤ c ∧ c < 55296 ∨ 57343 < c ∧ c < 1114112
instance (c : Int) : Decidable (ptP c) := by unfold ptP; infer_instance
/-- a code point's bytes. -/
def encI (c : Int) : List Int :=
  if c < 128 then [c] else if c < 2048 then [192 + c / 64, 128 + c % 64]
  else if c < 65536 then [224 + c / 4096, 128 + c / 64 % 64, 128 + c % 64] else [240 + c / 262144, 128 + c / 4096 % 64, 128 + c / 64 % 64, 128 + c % 64]
theorem encI_byte {c : Int} (h : ptP c) (i : Nat) : 0 ≤ (encI c).getD i 0 ∧ (encI c).getD i 0 ≤ 255 := by
  unfold ptP at h
  unfold encI
  repeat' split
  all_goals
    match i with
    | 0 => simp; omega
    | 1 => simp; try omega
    | 2 => simp; try omega
    | 3 => simp; try omega
    | i + 4 => simp
/-- the number that n bytes would have. -/
def firstsI (n : Nat) : Int := if n = 1 then 0 else if n = 2 then 192 else if n = 3 then 224 else 240
def accI (s : ByteArray) (k n : Nat) : Nat → Int
  | 0 => (bt s k : Int) - firstsI n
  | i + 1 => 64 * accI s k n i + (bt s (k + (i + 1)) : Int) - 128
def bsI (s : ByteArray) (k n : Nat) : List Int := (List.range n).map fun i => (bt s (k + i) : Int)
theorem bsI_byte (s : ByteArray) (k n i : Nat) : 0 ≤ (bsI s k n).getD i 0 ∧ (bsI s k n).getD i 0 ≤ 255 := by
  rw [List.getD_eq_getElem?_getD, bsI, List.getElem?_map]
  cases h : (List.range n)[i]? with
  | none => exact ⟨by simp, by simp⟩
  | some c => have := bt_lt s (k + c); simp; omega
theorem accI_bound (s : ByteArray) (k n : Nat) : ∀ i : Nat, i ≤ 3 → -((i : Int) * 100000000) - 1000 ≤ accI s k n i ∧ accI s k n i ≤ (i : Int) * 100000000 + 1000 := by
  intro i hi
  have h0 := bt_lt s k
  have h1 := bt_lt s (k + 1)
  have h2 := bt_lt s (k + 2)
  have h3 := bt_lt s (k + 3)
  have hf : 0 ≤ firstsI n ∧ firstsI n ≤ 240 := by unfold firstsI; repeat' split <;> omega
  have : i = 0 ∨ i = 1 ∨ i = 2 ∨ i = 3 := by omega
  rcases this with rfl | rfl | rfl | rfl
  · simp only [accI]; omega
  · simp only [accI, Nat.zero_add, Nat.reduceAdd]; omega
  · simp only [accI, Nat.zero_add, Nat.reduceAdd]; omega
  · simp only [accI, Nat.zero_add, Nat.reduceAdd]; omega
/-- n bytes are a code point's. -/
def hitP (s : ByteArray) (k n : Nat) : Prop := ptP (accI s k n (n - 1)) ∧ encI (accI s k n (n - 1)) = bsI s k n
set_option maxHeartbeats 2000000 in
theorem hit_nx (s : ByteArray) (k n : Nat) (h1 : 1 ≤ n) (h4 : n ≤ 4) (hn : k + n ≤ s.size) (h : hitP s k n) : ((nx s k).1 : Int) = accI s k n (n - 1) ∧ (nx s k).2 = n := by
  obtain ⟨hp, he⟩ := h
  unfold nx
  rw [Go.Proofs.YthjfalbchkbdfaaDoor.nxN_is, if_neg (by omega)]
  have b0 := bt_lt s k
  have b1 := bt_lt s (k + 1)
  have b2 := bt_lt s (k + 2)
  have b3 := bt_lt s (k + 3)
  have : n = 1 ∨ n = 2 ∨ n = 3 ∨ n = 4 := by omega
  rcases this with rfl | rfl | rfl | rfl
  · simp only [accI, firstsI, Nat.sub_self, if_true, Int.sub_zero] at hp he ⊢
    simp only [bsI, show List.range 1 = [0] from rfl, List.map_cons, List.map_nil, Nat.add_zero] at he
    unfold ptP at hp
    unfold encI at he
    repeat' split at he
    all_goals simp at he
    rw [if_pos (by omega)]
    exact ⟨rfl, rfl⟩
  · simp only [accI, firstsI, Nat.reduceSub, Nat.zero_add, if_true, if_false, show ¬ (2 = 1) by omega] at hp he ⊢
    simp only [bsI, show List.range 2 = [0, 1] from rfl, List.map_cons, List.map_nil, Nat.add_zero] at he
    unfold ptP at hp
    generalize hc : 64 * ((bt s k : Int) - 192) + (bt s (k + 1) : Int) - 128 = c at hp he ⊢
    unfold encI at he
    repeat' split at he
    all_goals simp at he
    rw [if_neg (by omega), if_pos (by omega)]
    exact ⟨by simp only; omega, rfl⟩
  · simp only [accI, firstsI, Nat.reduceSub, Nat.zero_add, if_true, if_false, show ¬ (3 = 1) by omega, show ¬ (3 = 2) by omega] at hp he ⊢
    simp only [bsI, show List.range 3 = [0, 1, 2] from rfl, List.map_cons, List.map_nil, Nat.add_zero] at he
    unfold ptP at hp
    simp only [Nat.reduceAdd] at hp he ⊢
    generalize hc : 64 * (64 * ((bt s k : Int) - 224) + (bt s (k + 1) : Int) - 128) + (bt s (k + 2) : Int) - 128 = c at hp he ⊢
    unfold encI at he
    repeat' split at he
    all_goals simp at he
    rw [if_neg (by omega), if_neg (by omega), if_pos (by omega)]
    exact ⟨by simp only; omega, rfl⟩
  · simp only [accI, firstsI, Nat.reduceSub, Nat.zero_add, if_true, if_false, show ¬ (4 = 1) by omega, show ¬ (4 = 2) by omega, show ¬ (4 = 3) by omega] at hp he ⊢
    simp only [bsI, show List.range 4 = [0, 1, 2, 3] from rfl, List.map_cons, List.map_nil, Nat.add_zero] at he
    unfold ptP at hp
    simp only [Nat.reduceAdd] at hp he ⊢
    generalize hc : 64 * (64 * (64 * ((bt s k : Int) - 240) + (bt s (k + 1) : Int) - 128) + (bt s (k + 2) : Int) - 128) + (bt s (k + 3) : Int) - 128 = c at hp he ⊢
    unfold encI at he
    repeat' split at he
    all_goals simp at he
    rw [if_neg (by omega), if_neg (by omega), if_neg (by omega), if_pos (by omega)]
    exact ⟨by simp only; omega, rfl⟩
set_option maxHeartbeats 2000000 in
theorem nx_hit (s : ByteArray) (k n : Nat) (hn : (nx s k).2 = n) (h0 : 0 < n) : hitP s k n := by
  unfold nx at hn
  rw [Go.Proofs.YthjfalbchkbdfaaDoor.nxN_is] at hn
  have b0 := bt_lt s k
  have b1 := bt_lt s (k + 1)
  have b2 := bt_lt s (k + 2)
  have b3 := bt_lt s (k + 3)
  unfold hitP
  repeat' split at hn
  all_goals simp only at hn
  all_goals subst hn
  · omega
  · simp only [accI, firstsI, Nat.sub_self, if_true, Int.sub_zero, bsI, show List.range 1 = [0] from rfl, List.map_cons, List.map_nil, Nat.add_zero]
    refine ⟨by unfold ptP; omega, ?_⟩
    unfold encI
    rw [if_pos (by omega)]
  · simp only [accI, firstsI, Nat.reduceSub, Nat.zero_add, if_true, if_false, show ¬ (2 = 1) by omega, bsI, show List.range 2 = [0, 1] from rfl, List.map_cons, List.map_nil, Nat.add_zero]
    refine ⟨by unfold ptP; omega, ?_⟩
    unfold encI
    rw [if_neg (by omega), if_pos (by omega)]
    simp only [List.cons.injEq, and_true]
    omega
  · simp only [accI, firstsI, Nat.reduceSub, Nat.zero_add, Nat.reduceAdd, if_true, if_false, show ¬ (3 = 1) by omega, show ¬ (3 = 2) by omega, bsI, show List.range 3 = [0, 1, 2] from rfl, List.map_cons, List.map_nil, Nat.add_zero]
    refine ⟨by unfold ptP; omega, ?_⟩
    unfold encI
    rw [if_neg (by omega), if_neg (by omega), if_pos (by omega)]
    simp only [List.cons.injEq, and_true]
    omega
  · simp only [accI, firstsI, Nat.reduceSub, Nat.zero_add, Nat.reduceAdd, if_true, if_false, show ¬ (4 = 1) by omega, show ¬ (4 = 2) by omega, show ¬ (4 = 3) by omega, bsI, show List.range 4 = [0, 1, 2, 3] from rfl, List.map_cons, List.map_nil, Nat.add_zero]
    refine ⟨by unfold ptP; omega, ?_⟩
    unfold encI
    rw [if_neg (by omega), if_neg (by omega), if_neg (by omega)]
    simp only [List.cons.injEq, and_true]
    omega
  · omega
/-- a part of a text. -/
theorem extract_bs (s : ByteArray) (k n : Nat) (h : k + n ≤ s.size) : s.extract k (k + n) = strOf (bsI s k n) := by
  apply ByteArray.ext
  apply Array.ext'
  rw [Lib.extract_data]
  unfold strOf bsI
  simp only [List.map_map]
  rw [show k + n - k = n by omega]
  apply List.ext_getElem?
  intro i
  rw [List.getElem?_take, List.getElem?_map, List.getElem?_drop]
  by_cases hi : i < n
  · have hl : k + i < s.data.toList.length := by rw [Array.length_toList]; show k + i < s.size; omega
    rw [if_pos hi, List.getElem?_range hi, List.getElem?_eq_getElem hl]
    have hg : bt s (k + i) = (s.data.toList[k + i]).toNat := by
      unfold bt
      rw [get_ok s (k + i) (by omega)]
      rfl
    simp [hg]
  · rw [if_neg hi, List.getElem?_eq_none (by simp; omega)]; rfl
theorem bs_eq {c : Int} (h : ptP c) (s : ByteArray) (k n : Nat) : ((strOf (encI c)).toList == (strOf (bsI s k n)).toList) = decide (encI c = bsI s k n) := by
  rw [Bool.eq_iff_iff, beq_iff_eq, decide_eq_true_iff]
  constructor
  · intro e
    refine strOf_inj (encI_byte h) (bsI_byte s k n) ?_
    rw [Lib.toList_data, Lib.toList_data] at e
    exact ByteArray.ext (Array.ext' e)
  · intro e; rw [e]
end Go.Proofs.YthjfalbchkbdfaaDoor

/- The document's Point, Bytes. -/
namespace Go.Proofs.YthjfalbchkbdfaaDoor
set_option linter.unusedSimpArgs false
set_option linter.unusedVariables false
open Go.RowKit Go.Deep

set_option maxHeartbeats 2000000 in
theorem rpoint_any (c : Int) (hc : -1000000000 ≤ c ∧ c ≤ 1000000000) (w : World) :
    Calls Tryd.prog 51 #[.int .i64 c] w fun e w' => e = .returned (.bool (decide (ptP c))) ∧ w' = w := by
  have hp : decide (ptP c) = ((decide (c ≥ 0) && decide (c < 55296)) || (decide (c > 57343) && decide (c < 1114112))) := by
    rw [Bool.eq_iff_iff, decide_eq_true_iff, Bool.or_eq_true, Bool.and_eq_true, Bool.and_eq_true]
    simp only [decide_eq_true_iff]
    exact Iff.rfl
  rw [hp]
  clear hp
  by_cases h1 : c ≥ 0
  · by_cases h2 : c < 55296
    · rw [decide_eq_true h1, decide_eq_true h2]
      go_enter Tryd.func51, Tryd.ntmps51
      go_wp2
      go_ret
      exact ⟨rfl, rfl⟩
    · rw [decide_eq_true h1, decide_eq_false h2]
      by_cases h3 : c > 57343
      · by_cases h4 : c < 1114112
        · rw [decide_eq_true h3, decide_eq_true h4]
          go_enter Tryd.func51, Tryd.ntmps51
          go_wp2
          go_ret
          exact ⟨rfl, rfl⟩
        · rw [decide_eq_true h3, decide_eq_false h4]
          go_enter Tryd.func51, Tryd.ntmps51
          go_wp2
          go_ret
          exact ⟨rfl, rfl⟩
      · rw [decide_eq_false h3]
        go_enter Tryd.func51, Tryd.ntmps51
        go_wp2
        go_ret
        exact ⟨rfl, rfl⟩
  · have h3 : ¬ c > 57343 := by omega
    rw [decide_eq_false h1, decide_eq_false h3]
    go_enter Tryd.func51, Tryd.ntmps51
    go_wp2
    go_ret
    exact ⟨rfl, rfl⟩
theorem conv_lit (w : World) (b n c : Nat) (f : Nat → Int) (hc : ∀ i, i < n → w.cell? ⟨b, 0 + i, none⟩ = some (.int .u8 (f i))) :
    (convert 57 9 (.slice (some ⟨b, 0, none⟩) n c)).run Tryd.prog w = .ok (.string (strOf ((List.range n).map f))) w :=
  run_convert_row_string (P := Tryd.prog) w 57 9 5 b 0 n c f Tryd.underlying57 Tryd.underlying5 Tryd.underlying9 hc
set_option maxHeartbeats 4000000 in
set_option maxRecDepth 100000 in
theorem rbytes_any (c : Int) (hc : ptP c) (w : World) :
    Calls Tryd.prog 52 #[.int .i64 c] w fun e w' => e = .returned (.string (strOf (encI c))) ∧ Below w.heap.size w w' := by
  have h0 : 0 ≤ c ∧ c < 1114112 := by unfold ptP at hc; omega
  clear hc
  obtain ⟨c0, c1⟩ := h0
  have hq : ∀ m : Int, 0 ≤ m → Int.tdiv c m = c / m := fun m hm => Int.tdiv_eq_ediv_of_nonneg c0
  have q64 : Int.tdiv c 64 = c / 64 := hq 64 (by omega)
  have q4096 : Int.tdiv c 4096 = c / 4096 := hq 4096 (by omega)
  have q262144 : Int.tdiv c 262144 = c / 262144 := hq 262144 (by omega)
  have r64 : Int.tmod c 64 = c % 64 := Int.tmod_eq_emod_of_nonneg c0
  have r64a : Int.tmod (c / 64) 64 = c / 64 % 64 := Int.tmod_eq_emod_of_nonneg (by omega)
  have r64b : Int.tmod (c / 4096) 64 = c / 4096 % 64 := Int.tmod_eq_emod_of_nonneg (by omega)
  clear hq
  by_cases h1 : c < 128
  · have e : encI c = (List.range 1).map fun _ => c := by unfold encI; rw [if_pos h1]; rfl
    have hcv := conv_lit (w.alloc (.cells #[.int .u8 c] 5)) w.heap.size 1 1 (fun _ => c) (fun i hi => by
      obtain rfl : i = 0 := by omega
      rw [cell_of_row _ _ _ _ _ _ (blk_alloc_new w _)]; rfl)
    rw [e]
    clear e
    generalize strOf ((List.range 1).map fun _ => c) = S at hcv ⊢
    go_enter Tryd.func52, Tryd.ntmps52
    go_wp2
    go_ret
    exact ⟨rfl, (Below.refl _ _).alloc (Nat.le_refl _) _⟩
  by_cases h2 : c < 2048
  · have e : encI c = (List.range 2).map fun i => if i = 0 then 192 + c / 64 else 128 + c % 64 := by unfold encI; rw [if_neg h1, if_pos h2]; rfl
    have hcv := conv_lit (w.alloc (.cells #[.int .u8 (192 + c / 64), .int .u8 (128 + c % 64)] 5)) w.heap.size 2 2 (fun i => if i = 0 then 192 + c / 64 else 128 + c % 64) (fun i hi => by
      have : i = 0 ∨ i = 1 := by omega
      rcases this with rfl | rfl <;> (rw [cell_of_row _ _ _ _ _ _ (blk_alloc_new w _)]; rfl))
    rw [e]
    clear e
    generalize strOf ((List.range 2).map fun i => if i = 0 then 192 + c / 64 else 128 + c % 64) = S at hcv ⊢
    have g1 : 0 ≤ c / 64 ∧ c / 64 < 32 := by omega
    have g2 : 0 ≤ c % 64 ∧ c % 64 < 64 := by omega
    obtain ⟨g3, g4⟩ := g1
    obtain ⟨g5, g6⟩ := g2
    go_enter Tryd.func52, Tryd.ntmps52
    go_wp2
    go_ret
    exact ⟨rfl, (Below.refl _ _).alloc (Nat.le_refl _) _⟩
  by_cases h3 : c < 65536
  · have e : encI c = (List.range 3).map fun i => if i = 0 then 224 + c / 4096 else if i = 1 then 128 + c / 64 % 64 else 128 + c % 64 := by unfold encI; rw [if_neg h1, if_neg h2, if_pos h3]; rfl
    have hcv := conv_lit (w.alloc (.cells #[.int .u8 (224 + c / 4096), .int .u8 (128 + c / 64 % 64), .int .u8 (128 + c % 64)] 5)) w.heap.size 3 3 (fun i => if i = 0 then 224 + c / 4096 else if i = 1 then 128 + c / 64 % 64 else 128 + c % 64) (fun i hi => by
      have : i = 0 ∨ i = 1 ∨ i = 2 := by omega
      rcases this with rfl | rfl | rfl <;> (rw [cell_of_row _ _ _ _ _ _ (blk_alloc_new w _)]; rfl))
    rw [e]
    clear e
    generalize strOf ((List.range 3).map fun i => if i = 0 then 224 + c / 4096 else if i = 1 then 128 + c / 64 % 64 else 128 + c % 64) = S at hcv ⊢
    have g1 : 0 ≤ c / 4096 ∧ c / 4096 < 16 := by omega
    have g2 : 0 ≤ c % 64 ∧ c % 64 < 64 := by omega
    have g7 : 0 ≤ c / 64 % 64 ∧ c / 64 % 64 < 64 := by omega
    have g10 : 0 ≤ c / 64 := by omega
    obtain ⟨g3, g4⟩ := g1
    obtain ⟨g5, g6⟩ := g2
    obtain ⟨g8, g9⟩ := g7
    go_enter Tryd.func52, Tryd.ntmps52
    go_wp2
    go_ret
    exact ⟨rfl, (Below.refl _ _).alloc (Nat.le_refl _) _⟩
  · have e : encI c = (List.range 4).map fun i => if i = 0 then 240 + c / 262144 else if i = 1 then 128 + c / 4096 % 64 else if i = 2 then 128 + c / 64 % 64 else 128 + c % 64 := by unfold encI; rw [if_neg h1, if_neg h2, if_neg h3]; rfl
    have hcv := conv_lit (w.alloc (.cells #[.int .u8 (240 + c / 262144), .int .u8 (128 + c / 4096 % 64), .int .u8 (128 + c / 64 % 64), .int .u8 (128 + c % 64)] 5)) w.heap.size 4 4 (fun i => if i = 0 then 240 + c / 262144 else if i = 1 then 128 + c / 4096 % 64 else if i = 2 then 128 + c / 64 % 64 else 128 + c % 64) (fun i hi => by
      have : i = 0 ∨ i = 1 ∨ i = 2 ∨ i = 3 := by omega
      rcases this with rfl | rfl | rfl | rfl <;> (rw [cell_of_row _ _ _ _ _ _ (blk_alloc_new w _)]; rfl))
    rw [e]
    clear e
    generalize strOf ((List.range 4).map fun i => if i = 0 then 240 + c / 262144 else if i = 1 then 128 + c / 4096 % 64 else if i = 2 then 128 + c / 64 % 64 else 128 + c % 64) = S at hcv ⊢
    have g1 : 0 ≤ c / 262144 ∧ c / 262144 < 8 := by omega
    have g2 : 0 ≤ c % 64 ∧ c % 64 < 64 := by omega
    have g7 : 0 ≤ c / 64 % 64 ∧ c / 64 % 64 < 64 := by omega
    have g11 : 0 ≤ c / 4096 % 64 ∧ c / 4096 % 64 < 64 := by omega
    have g10 : 0 ≤ c / 64 := by omega
    have g14 : 0 ≤ c / 4096 := by omega
    obtain ⟨g3, g4⟩ := g1
    obtain ⟨g5, g6⟩ := g2
    obtain ⟨g8, g9⟩ := g7
    obtain ⟨g12, g13⟩ := g11
    go_enter Tryd.func52, Tryd.ntmps52
    go_wp2
    go_ret
    exact ⟨rfl, (Below.refl _ _).alloc (Nat.le_refl _) _⟩
end Go.Proofs.YthjfalbchkbdfaaDoor

/- unicode/utf8.DecodeRuneInString of this program: the library's contract, laid at its numbers. -/
namespace Go.Proofs.YthjfalbchkbdfaaDoor
open Go.Shelf Go.RowKit

def uRen : Ren :=
  ⟨fun | 197 => 63 | 260 => 77 | n => n,
   fun | 0 => 0 | 3 => 3 | 4 => 4 | 5 => 5 | 9 => 9 | 21 => 21 | 46 => 92 | 105 => 93 | 119 => 118 | 138 => 120 | 139 => 121 | n => n,
   fun | 3 => 1 | 4 => 2 | n => n⟩
set_option maxRecDepth 100000 in
theorem uLays : Lays.n197 Tryd.prog uRen where
  mixed := by kernel_rfl
  f197 := Tryd.func63.trans (congrArg some (by kernel_rfl))
  f260 := Tryd.func77.trans (congrArg some (by kernel_rfl))
  t0 := Tryd.underlying0
  a0 := Tryd.isAgg0
  z0 := Tryd.sizeOf0
  v0 := Tryd.zeroValue0
  t3 := Tryd.underlying3
  a3 := Tryd.isAgg3
  z3 := Tryd.sizeOf3
  v3 := Tryd.zeroValue3
  t4 := Tryd.underlying4
  a4 := Tryd.isAgg4
  z4 := Tryd.sizeOf4
  v4 := Tryd.zeroValue4
  t5 := Tryd.underlying5
  a5 := Tryd.isAgg5
  z5 := Tryd.sizeOf5
  v5 := Tryd.zeroValue5
  t9 := Tryd.underlying9
  a9 := Tryd.isAgg9
  z9 := Tryd.sizeOf9
  v9 := Tryd.zeroValue9
  t21 := Tryd.underlying21
  a21 := Tryd.isAgg21
  z21 := Tryd.sizeOf21
  v21 := Tryd.zeroValue21
  t46 := Tryd.underlying92
  a46 := Tryd.isAgg92
  z46 := Tryd.sizeOf92
  v46 := Tryd.zeroValue92
  t105 := Tryd.underlying93
  a105 := Tryd.isAgg93
  z105 := Tryd.sizeOf93
  v105 := Tryd.zeroValue93
  t119 := Tryd.underlying118
  a119 := Tryd.isAgg118
  z119 := Tryd.sizeOf118
  t138 := Tryd.underlying120
  a138 := Tryd.isAgg120
  z138 := Tryd.sizeOf120
  v138 := Tryd.zeroValue120
  t139 := Tryd.underlying121
  a139 := Tryd.isAgg121
  z139 := Tryd.sizeOf121
  v139 := Tryd.zeroValue121
  g3 := by kernel_rfl
  g4 := by kernel_rfl
/-- THE STRICT DECODER, at every string. -/
theorem decode_any (s : ByteArray) (w : World) (hT : Lib.Utf8Tabs 1 2 w) :
    Calls Tryd.prog 63 #[.string s] w fun e w' => e = .returned (.tuple #[.int .i32 (Lib.decodeGo s).1, .int .i64 (Lib.decodeGo s).2]) ∧ Below w.heap.size w w' :=
  Any.utf8_DecodeRuneInString uLays s w hT
end Go.Proofs.YthjfalbchkbdfaaDoor

/- utf.Next. -/
namespace Go.Proofs.YthjfalbchkbdfaaDoor
set_option linter.unusedSimpArgs false
set_option linter.unusedVariables false
open Go.RowKit Go.Deep

/-- the decoder's two tables. -/
def u8T (w : World) : Prop := Lib.Utf8Tabs 1 2 w
theorem cell_lt {w : World} {p : Addr} {v : Value} (h : w.cell? p = some v) : p.block < w.heap.size := block_lt_of_cell h
theorem u8T.below {w w' : World} (h : u8T w) (hb : Below w.heap.size w w') : u8T w' :=
  ⟨fun c hc => (hb.cell (p := ⟨_, c, none⟩) (cell_lt (h.1 c hc))).trans (h.1 c hc), fun i hi => ⟨(hb.cell (p := ⟨_, 2 * i, none⟩) (cell_lt (h.2 i hi).1)).trans (h.2 i hi).1, (hb.cell (p := ⟨_, 2 * i + 1, none⟩) (cell_lt (h.2 i hi).2)).trans (h.2 i hi).2⟩⟩
theorem get_extract (s : ByteArray) (k j : Nat) : (s.extract k s.size).get! j = s.get! (k + j) := by
  by_cases h : k + j < s.size
  · have h1 : j < (s.extract k s.size).size := by rw [ByteArray.size_extract]; omega
    rw [get_ok _ _ h1, get_ok _ _ h, ByteArray.getElem_extract]
  · rw [get_out _ _ h, get_out _ _ (by rw [ByteArray.size_extract]; omega)]
theorem decodeGo_at (s : ByteArray) (k : Nat) (h : k < s.size) : Lib.decodeGo (s.extract k s.size) = Lib.decodeN (s.size - k) (bt s k) (bt s (k + 1)) (bt s (k + 2)) (bt s (k + 3)) := by
  unfold Lib.decodeGo
  rw [if_neg (by rw [ByteArray.size_extract]; omega), Lib.decode_at]
  simp only [get_extract, Nat.zero_add, Nat.add_zero, ByteArray.size_extract, Nat.min_self, Nat.sub_zero]
  rfl
theorem decodeN_small (n b0 b1 b2 b3 : Nat) : (Lib.decodeN n b0 b1 b2 b3).1 ≤ 1114111 + b0 ∧ (Lib.decodeN n b0 b1 b2 b3).2 ≤ 4 := by
  unfold Lib.decodeN
  repeat' split
  all_goals (simp only; omega)
set_option maxHeartbeats 2000000 in
set_option maxRecDepth 100000 in
theorem next_any (s : ByteArray) (k : Int) (hk : -9223372036854775808 ≤ k ∧ k ≤ 9223372036854775807) (w : World) (hT : u8T w) :
    Calls Tryd.prog 50 #[.string s, .int .i64 k] w fun e w' => e = .returned (.tuple #[.int .i64 (nxI s k).1, .int .i64 (nxI s k).2]) ∧ Below w.heap.size w w' := by
  by_cases h0 : k < 0
  · have e : nxI s k = (0, 0) := by unfold nxI; rw [if_pos (Or.inl h0)]
    rw [e]
    clear hT e
    go_enter Tryd.func50, Tryd.ntmps50
    go_wp2
    go_ret2
    exact ⟨rfl, Below.refl _ _⟩
  by_cases h1 : (s.size : Int) ≤ k
  · have e : nxI s k = (0, 0) := by unfold nxI; rw [if_pos (Or.inr h1)]
    rw [e]
    have h1' : k ≥ (s.size : Int) := h1
    clear hT e
    go_enter Tryd.func50, Tryd.ntmps50
    go_wp2
    go_ret2
    exact ⟨rfl, Below.refl _ _⟩
  obtain ⟨m, rfl⟩ : ∃ m : Nat, k = (m : Int) := ⟨k.toNat, by omega⟩
  have hm : m < s.size := by omega
  have X := decode_any (s.extract m s.size) w hT
  rw [decodeGo_at s m hm] at X
  have e : nxI s (m : Int) = if Lib.decodeN (s.size - m) (bt s m) (bt s (m + 1)) (bt s (m + 2)) (bt s (m + 3)) = (65533, 1) then (0, 0) else Lib.decodeN (s.size - m) (bt s m) (bt s (m + 1)) (bt s (m + 2)) (bt s (m + 3)) := by
    unfold nxI nx nxN
    rw [if_neg (by omega), Int.toNat_natCast, if_neg (by omega)]
  have hs := decodeN_small (s.size - m) (bt s m) (bt s (m + 1)) (bt s (m + 2)) (bt s (m + 3))
  have hb := bt_lt s m
  rw [e]
  generalize Lib.decodeN (s.size - m) (bt s m) (bt s (m + 1)) (bt s (m + 2)) (bt s (m + 3)) = d at X hs
  obtain ⟨r, z⟩ := d
  simp only at hs X
  have m0 : (0 : Int) ≤ (m : Int) := by omega
  have m1 : (m : Int) < (s.size : Int) := by omega
  have m2 : (m : Int) ≤ (s.size : Int) := by omega
  have r1 : (r : Int) < 9223372036854775807 := by omega
  have z1 : (z : Int) < 9223372036854775807 := by omega
  have r0 : (0 : Int) ≤ (r : Int) := by omega
  have hr0 : IntKind.wrap .i64 (r : Int) = (r : Int) := IntWalk.i64_in _ ⟨by omega, by omega⟩
  clear hT e hs hb
  obtain ⟨q, hq⟩ : ∃ q : Int, q = (r : Int) := ⟨_, rfl⟩
  obtain ⟨y, hy⟩ : ∃ y : Int, y = (z : Int) := ⟨_, rfl⟩
  rw [← hq, ← hy] at X
  rw [← hq] at r1 r0 hr0
  rw [← hy] at z1
  by_cases hr : r = 65533
  · have hq1 : q = 65533 := by omega
    by_cases hz : z = 1
    · have hy1 : y = 1 := by omega
      rw [if_pos (by rw [hr, hz])]
      clear hq hy hr hz
      subst hq1
      subst hy1
      go_enter Tryd.func50, Tryd.ntmps50
      go_wp2_with fail
      refine X.mono ?_
      rintro e w1 ⟨rfl, b1⟩
      clear X
      go_wp2
      go_ret2
      exact ⟨rfl, b1⟩
    · rw [if_neg (by simp [hz])]
      simp only
      rw [← hq, ← hy]
      have hz' : ¬ y = 1 := by omega
      clear hq hy hr hz
      subst hq1
      go_enter Tryd.func50, Tryd.ntmps50
      go_wp2_with fail
      refine X.mono ?_
      rintro e w1 ⟨rfl, b1⟩
      clear X
      go_wp2
      go_ret2
      exact ⟨rfl, b1⟩
  · rw [if_neg (by simp [hr])]
    simp only
    rw [← hq, ← hy]
    have hr' : ¬ q = 65533 := by omega
    clear hq hy hr
    go_enter Tryd.func50, Tryd.ntmps50
    go_wp2_with fail
    refine X.mono ?_
    rintro e w1 ⟨rfl, b1⟩
    clear X
    go_wp2
    go_ret2
    exact ⟨rfl, b1⟩
end Go.Proofs.YthjfalbchkbdfaaDoor

/- A region that draws its order, walked by hand: operations that are fixed under S are taken first; a whole row is loaded by its fact; a call is met by its contract. -/
namespace Go.Proofs.YthjfalbchkbdfaaDoor
open Go.RowKit Go.Deep

section
variable {P : Program}
end
section
variable {P : Program} {md : Region.Mode} {l : List Oper} {Q : Exit → Act → World → Prop} {S : World → Prop}
theorem list_toArray_get (l : List Oper) (i : Nat) : l.toArray[i]? = l[i]? := by simp
theorem take_op {i : Nat} {oi : Oper} {v : Value} {fuel : Nat} {listed : Array Bool} {a : Act} {w : World} (hi : l[i]? = some oi)
    (hs : Region.noSelect l.toArray = true) (hf : Region.free md l.toArray listed i = true) (hr : (Region.ready md l.toArray listed).contains i = true)
    (hQ : ∀ c a w, Q (.panic c) (a.put oi.dst v) w → Q (.panic c) a w) (hw : Region.wanted oi (yielded l.toArray a.tmps) = true) (hS : S w) (hy : ∀ w, S w → (execOp a.eval oi).run P w = .ok (.value v) w)
    (h : wpAnyH P md l.toArray Q S fuel (listed.setIfInBounds i true) (a.put oi.dst v) w) : wpAnyH P md l.toArray Q S (fuel + 1) listed a w :=
  wpAnyH_take ((list_toArray_get l i).trans hi) hs hf hr hQ (Or.inl ⟨hw, hy⟩) hS h
/-- an operation whose guard says no. -/
theorem take_not {i : Nat} {oi : Oper} {fuel : Nat} {listed : Array Bool} {a : Act} {w : World} (hi : l[i]? = some oi)
    (hs : Region.noSelect l.toArray = true) (hf : Region.free md l.toArray listed i = true) (hr : (Region.ready md l.toArray listed).contains i = true)
    (hQ : ∀ c a w, Q (.panic c) (a.put oi.dst undef) w → Q (.panic c) a w) (hw : Region.wanted oi (yielded l.toArray a.tmps) = false) (hS : S w)
    (h : wpAnyH P md l.toArray Q S fuel (listed.setIfInBounds i true) (a.put oi.dst undef) w) : wpAnyH P md l.toArray Q S (fuel + 1) listed a w :=
  wpAnyH_take ((list_toArray_get l i).trans hi) hs hf hr hQ (Or.inr ⟨hw, rfl⟩) hS h
theorem take_load {i : Nat} {oi : Oper} {fuel : Nat} {listed : Array Bool} {a : Act} {w : World} (hi : l[i]? = some oi)
    (hs : Region.noSelect l.toArray = true) (hf : Region.free md l.toArray listed i = true) (hr : (Region.ready md l.toArray listed).contains i = true)
    (ty : TypeId) (x : Operand) (ho : oi.op = .load ty x) (b o m : Nat) (g : Nat → Value) (hx : a.eval x = .pointer (some ⟨b, o, none⟩)) (d : TypeDesc) (hu : P.underlying ty = some d) (hd : d.isRow = true) (hn : (P.info? ty).map (·.size) = some m)
    (hQ : ∀ c a w, Q (.panic c) (a.put oi.dst (.agg (rowV m g))) w → Q (.panic c) a w) (hw : Region.wanted oi (yielded l.toArray a.tmps) = true) (hS : S w)
    (hrow : ∀ w, S w → ∀ i, i < m → w.cell? ⟨b, o + i, none⟩ = some (g i))
    (h : wpAnyH P md l.toArray Q S fuel (listed.setIfInBounds i true) (a.put oi.dst (.agg (rowV m g))) w) : wpAnyH P md l.toArray Q S (fuel + 1) listed a w := by
  refine wpAnyH_take ((list_toArray_get l i).trans hi) hs hf hr hQ ?_ hS h
  have e : (rowV m g) = (rowV m g).toList.toArray := by rw [Array.toArray_toList]
  rw [e]
  exact yieldsIf_load_mid hw ty x ho b o hx (rowV m g).toList d (fun w hw => range_of_cells (hrow w hw)) hu hd (by rw [hn, Array.length_toList, rowV_size])
/-- the one operation that is left to come up. -/
theorem take_one {i : Nat} {oi : Oper} {fuel : Nat} {listed : Array Bool} {a : Act} {w : World} (hi : l[i]? = some oi) (hr : Region.ready md l.toArray listed = [i]) (hw : Region.wanted oi (yielded l.toArray a.tmps) = true)
    (h : ∀ K' : Act → World → Prop, Shut (∀ a w, S w → (S w → wpAnyH P md l.toArray Q S fuel (listed.setIfInBounds i true) a w) → K' a w) → Oper.wp P oi a w K' Q) : wpAnyH P md l.toArray Q S (fuel + 1) listed a w :=
  wpAnyH_ready hr (by simp) (AllReadyH.cons ((list_toArray_get l i).trans hi) (fun K' hK => by rw [if_pos hw]; exact h K' hK) AllReadyH.nil)
end
end Go.Proofs.YthjfalbchkbdfaaDoor

/- A region that draws its order: two reads that may come in either order. -/
namespace Go.Proofs.YthjfalbchkbdfaaDoor
open Go.RowKit Go.Deep

section
variable {P : Program} {md : Region.Mode} {l : List Oper} {Q : Exit → Act → World → Prop} {S : World → Prop}
/-- an operation, by what its run comes to. -/
theorem wp_of_run {o : Oper} {a : Act} {w w' : World} {K : Act → World → Prop} {v : Value} (hr : (execOp a.eval o).run P w = .ok (.value v) w') (h : K (a.put o.dst v) w') : Oper.wp P o a w K Q := by
  unfold Oper.wp
  rw [hr]; exact h
/-- the one operation that is left to come up, by what its run comes to. -/
theorem take_run {i : Nat} {oi : Oper} {v : Value} {fuel : Nat} {listed : Array Bool} {a : Act} {w w' : World} (hi : l[i]? = some oi) (hr : Region.ready md l.toArray listed = [i]) (hw : Region.wanted oi (yielded l.toArray a.tmps) = true)
    (hy : (execOp a.eval oi).run P w = .ok (.value v) w') (hS : S w') (h : wpAnyH P md l.toArray Q S fuel (listed.setIfInBounds i true) (a.put oi.dst v) w') : wpAnyH P md l.toArray Q S (fuel + 1) listed a w :=
  take_one hi hr hw fun _ hK => wp_of_run hy (hK.out _ _ hS fun _ => h)
/-- two operations that may come up in either order. -/
theorem take_two {i j : Nat} {oi oj : Oper} {u v : Value} {fuel : Nat} {listed : Array Bool} {a : Act} {w : World} (hi : l[i]? = some oi) (hj : l[j]? = some oj) (hr : Region.ready md l.toArray listed = [i, j]) (hw : Region.wanted oi (yielded l.toArray a.tmps) = true) (hv : Region.wanted oj (yielded l.toArray a.tmps) = true) (hS : S w)
    (hy : (execOp a.eval oi).run P w = .ok (.value u) w) (hz : (execOp a.eval oj).run P w = .ok (.value v) w)
    (h1 : wpAnyH P md l.toArray Q S fuel (listed.setIfInBounds i true) (a.put oi.dst u) w) (h2 : wpAnyH P md l.toArray Q S fuel (listed.setIfInBounds j true) (a.put oj.dst v) w) : wpAnyH P md l.toArray Q S (fuel + 1) listed a w :=
  wpAnyH_ready hr (by simp) (AllReadyH.cons ((list_toArray_get l i).trans hi) (fun K' hK => by rw [if_pos hw]; exact wp_of_run hy (hK.out _ _ hS fun _ => h1))
    (AllReadyH.cons ((list_toArray_get l j).trans hj) (fun K' hK => by rw [if_pos hv]; exact wp_of_run hz (hK.out _ _ hS fun _ => h2)) AllReadyH.nil))
end
end Go.Proofs.YthjfalbchkbdfaaDoor

/- The document's Next. -/
namespace Go.Proofs.YthjfalbchkbdfaaDoor
set_option linter.unusedSimpArgs false
set_option linter.unusedVariables false
open Go.RowKit Go.Deep

/-- the firsts' row. -/
def fsObj : Obj := .cells #[.int .i64 0, .int .i64 192, .int .i64 224, .int .i64 240] 3
theorem fs_cell (w : World) (q : Nat) (hq : q < 4) : (w.alloc fsObj).cell? ⟨w.heap.size, q, none⟩ = some (.int .i64 (firstsI (q + 1))) := by
  have : q = 0 ∨ q = 1 ∨ q = 2 ∨ q = 3 := by omega
  rcases this with rfl | rfl | rfl | rfl <;> (unfold fsObj; rw [cell_of_row _ _ _ _ _ _ (blk_alloc_new w _)]; rfl)
theorem bt_get (s : ByteArray) (k : Nat) (h : k < s.size) : (s[k]'h).toNat = bt s k := by unfold bt; rw [get_ok s k h]
set_option maxHeartbeats 4000000 in
set_option maxRecDepth 100000 in
theorem rnext_any (s : ByteArray) (hs : s.size ≤ maxLen) (k : Int) (hk : -9223372036854775808 ≤ k ∧ k ≤ 9223372036854775807) (w : World) :
    Calls Tryd.prog 40 #[.string s, .int .i64 k] w fun e w' => e = .returned (.tuple #[.int .i64 (nxI s k).1, .int .i64 (nxI s k).2]) ∧ Below w.heap.size w w' := by
  have hsz : (s.size : Int) ≤ 9223372036854775807 := by unfold maxLen at hs; omega
  by_cases h0 : k < 0
  · have e : nxI s k = (0, 0) := by unfold nxI; rw [if_pos (Or.inl h0)]
    rw [e]
    clear e
    go_enter Tryd.func40, Tryd.ntmps40
    go_wp2
    go_ret2
    exact ⟨rfl, Below.refl _ _⟩
  by_cases h1 : (s.size : Int) ≤ k
  · have e : nxI s k = (0, 0) := by unfold nxI; rw [if_pos (Or.inr h1)]
    rw [e]
    have h1' : k ≥ (s.size : Int) := h1
    clear e
    go_enter Tryd.func40, Tryd.ntmps40
    go_wp2
    go_ret2
    exact ⟨rfl, Below.refl _ _⟩
  obtain ⟨m, rfl⟩ : ∃ m : Nat, k = (m : Int) := ⟨k.toNat, by omega⟩
  have hm : m < s.size := by omega
  have e : nxI s (m : Int) = nx s m := by unfold nxI; rw [if_neg (by omega), Int.toNat_natCast]
  rw [e]
  have m0 : (0 : Int) ≤ (m : Int) := by omega
  have m1 : (m : Int) < (s.size : Int) := by omega
  obtain ⟨w1, hw1⟩ : ∃ w1, w1 = w.alloc fsObj := ⟨_, rfl⟩
  have b1 : Below w.heap.size w w1 := by rw [hw1]; exact (Below.refl _ _).alloc (Nat.le_refl _) _
  have hfc : ∀ q, q < 4 → w1.cell? ⟨w.heap.size, q, none⟩ = some (.int .i64 (firstsI (q + 1))) := fun q hq => by rw [hw1]; exact fs_cell w q hq
  obtain ⟨fb, hfb⟩ : ∃ fb, fb = w.heap.size := ⟨_, rfl⟩
  rw [← hfb] at hfc
  have FC : Hid (∀ wz, Below w1.heap.size w1 wz → ∀ q, q < 4 → wz.cell? ⟨fb, q, none⟩ = some (.int .i64 (firstsI (q + 1)))) := (show _ from fun wz hz q hq => (hz.cell (p := ⟨fb, q, none⟩) (block_lt_of_cell (hfc q hq))).trans (hfc q hq))
  have B1 : Hid (Below w.heap.size w w1) := (show Below w.heap.size w w1 from b1)
  have hfs : w.alloc (.cells #[.int .i64 0, .int .i64 192, .int .i64 224, .int .i64 240] 3) = w1 := hw1.symm
  clear e h0 h1 hk hs b1 hfc hw1
  go_enter Tryd.func40, Tryd.ntmps40
  go_upto_region 4 with fail
  rw [← hfb]
  rw [show decide (s.size ≤ m) = false from decide_eq_false (by omega), show decide ((m : Int) < 0) = false from decide_eq_false (by omega)]
  simp only [Bool.or_self]
  clear hfs hfb
  go_wp2_with fail
  go_loopw [7] (fun i wr => ∃ q : Nat, q ≤ 4 ∧ m + q ≤ s.size ∧ i = .int .i64 ((q : Int) + 1) ∧ (∀ t, 1 ≤ t → t ≤ q → ¬ hitP s m t) ∧ Below w1.heap.size w1 wr) (fun i _ => 5 - (intOf i).toNat)
  case atStart => exact ⟨0, by omega, by omega, rfl, fun t h1 h2 => by omega, Below.refl _ _⟩
  case round =>
    obtain ⟨q, hq4, hqs, rfl, hmiss, hb⟩ := hrel
    have q0 : (0 : Int) ≤ (q : Int) := by omega
    have q1 : (q : Int) ≤ 4 := by omega
    have HM : Hid (∀ t, 1 ≤ t → t ≤ q → ¬ hitP s m t) := (show _ from hmiss)
    have HB : Hid (Below w1.heap.size w1 wr) := (show Below w1.heap.size w1 wr from hb)
    clear hmiss
    by_cases hin : q < 4 ∧ m + q < s.size
    · obtain ⟨hin1, hin2⟩ := hin
      have i1 : (q : Int) + 1 ≤ 4 := by omega
      have i2 : (q : Int) + 1 ≤ (s.size : Int) - (m : Int) := by omega
      have i3 : (s.size : Int) - (m : Int) ≤ 9223372036854775807 := by omega
      have cf := FC.out wr hb q hin1
      have hb0 := bt_get s m hm
      have hbl := bt_lt s m
      have hbl' : (bt s m : Int) ≤ 255 := by omega
      have hf0 : 0 ≤ firstsI (q + 1) ∧ firstsI (q + 1) ≤ 240 := by unfold firstsI; repeat' split <;> omega
      obtain ⟨hf1, hf2⟩ := hf0
      clear hb
      go_upto_region 7 with fail
      go_region
      have HB2 : Hid (Below w1.heap.size w1 wr.drew) := (show Below w1.heap.size w1 wr.drew from HB.out.drew)
      generalize wr.drew = w2 at HB2 ⊢
      have HI1 : Hid (m + q < s.size) := (show m + q < s.size from hin2)
      obtain ⟨c, hc⟩ : ∃ c, c = (bt s m : Int) - firstsI (q + 1) := ⟨_, rfl⟩
      rw [← hc]
      have HC : Hid (c = accI s m (q + 1) 0) := (show c = accI s m (q + 1) 0 from hc)
      clear cf hb0 hbl hbl' hf1 hf2 hc
      go_wp2_with fail
      go_loopw [8, 9] (fun x i wz => ∃ j : Nat, j ≤ q ∧ i = .int .i64 ((j : Int) + 1) ∧ x = .int .i64 (accI s m (q + 1) j) ∧ wz = w2) (fun _ i _ => 5 - (intOf i).toNat)
      case atStart => exact ⟨0, by omega, rfl, by rw [← HC.out], rfl⟩
      case round =>
        obtain ⟨j, hj, rfl, rfl, hwz⟩ := hrel
        obtain rfl := hwz.symm
        have j0 : (0 : Int) ≤ (j : Int) := by omega
        have hbd := accI_bound s m (q + 1) j (by omega)
        have j3 : (j : Int) ≤ 3 := by omega
        obtain ⟨d1, d2⟩ : -400000000 ≤ accI s m (q + 1) j ∧ accI s m (q + 1) j ≤ 400000000 := by omega
        by_cases hjq : j < q
        · have k1 : (j : Int) + 1 < (q : Int) + 1 := by omega
          have k2 : (m : Int) + ((j : Int) + 1) < (s.size : Int) := by have := HI1.out; omega
          have k3 : m + (j + 1) < s.size := by have := HI1.out; omega
          have hb1 := bt_get s (m + (j + 1)) k3
          have hbl := bt_lt s (m + (j + 1))
          have hbl' : (bt s (m + (j + 1)) : Int) ≤ 255 := by omega
          have hnx : accI s m (q + 1) (j + 1) = 64 * accI s m (q + 1) j + (bt s (m + (j + 1)) : Int) - 128 := rfl
          have HN : Hid (accI s m (q + 1) (j + 1) = 64 * accI s m (q + 1) j + (bt s (m + (j + 1)) : Int) - 128) := (show _ = _ from hnx)
          generalize accI s m (q + 1) j = x at d1 d2 HN ⊢
          clear hnx hbd hbl
          go_wp2
          go_light
          exact ⟨⟨j + 1, by omega, by go_num, by rw [HN.out], trivial⟩, by simp [intOf]; omega⟩
        · obtain rfl : j = q := by omega
          have k1 : ¬ (j : Int) + 1 < (j : Int) + 1 := by omega
          obtain ⟨c, hcq⟩ : ∃ c, c = accI s m (j + 1) j := ⟨_, rfl⟩
          rw [← hcq] at d1 d2 ⊢
          have HCQ : Hid (c = accI s m (j + 1) j) := (show c = accI s m (j + 1) j from hcq)
          clear hbd hcq
          have e1 : (m : Int) + ((j : Int) + 1) ≤ (s.size : Int) := by have := HI1.out; omega
          have e2 : m + (j + 1) ≤ s.size := by have := HI1.out; omega
          have e3 : IntKind.wrap .i64 ((m : Int) + ((j : Int) + 1)) = (m : Int) + ((j : Int) + 1) := IntWalk.i64_in _ ⟨by omega, by omega⟩
          have e4 : (0 : Int) ≤ (m : Int) + ((j : Int) + 1) := by omega
          have e5 : (m : Int) ≤ (m : Int) + ((j : Int) + 1) := by omega
          have e6 : ((m : Int) + ((j : Int) + 1)).toNat = m + (j + 1) := by omega
          by_cases hp : ptP c
          · obtain ⟨S1, hS1⟩ : ∃ S1, strOf (encI c) = S1 := ⟨_, rfl⟩
            obtain ⟨S2, hS2⟩ : ∃ S2, S2 = s.extract m (m + (j + 1)) := ⟨_, rfl⟩
            have hSS : (S1.toList == S2.toList) = decide (encI c = bsI s m (j + 1)) := by rw [← hS1, hS2, extract_bs s m (j + 1) e2]; exact bs_eq hp s m (j + 1)
            by_cases he : encI c = bsI s m (j + 1)
            · rw [decide_eq_true he] at hSS
              have XP := rpoint_any c (by omega) w2.drew
              rw [decide_eq_true hp] at XP
              go_upto_region 12 with fail
              refine wp_region_noPanic ?_
              refine wp_region_held_drew (S := fun w' => Below w1.heap.size w1 w') (by kernel_rfl) HB2.out.drew (fun hHeld => ?_)
              refine take_op (i := 0) (v := ?va0) rfl (by kernel_rfl) (by kernel_rfl) (by kernel_rfl) (fun _ _ _ h => h) rfl hHeld ?ya0 ?ra0
              case ya0 => (intro wz hz; go_simp; first | done | with_reducible rfl)
              try simp only [Act.put, List.setIfInBounds_toArray, List.set_cons_zero, List.set_cons_succ]
              refine take_one (i := 1) rfl (by kernel_rfl) rfl (fun K hK => ?_)
              go_simp
              refine Calls.mono XP ?_
              rintro e w3 ⟨rfl, rfl⟩
              refine hK.out _ _ HB2.out.drew (fun hHeld => ?_)
              clear hK K XP
              try simp only [Act.put, List.setIfInBounds_toArray, List.set_cons_zero, List.set_cons_succ]
              refine take_op (i := 2) (v := ?va2) rfl (by kernel_rfl) (by kernel_rfl) (by kernel_rfl) (fun _ _ _ h => h) rfl hHeld ?ya2 ?ra2
              case ya2 => (intro wz hz; go_simp; first | done | with_reducible rfl)
              try simp only [Act.put, List.setIfInBounds_toArray, List.set_cons_zero, List.set_cons_succ]
              refine take_op (i := 3) (v := ?va3) rfl (by kernel_rfl) (by kernel_rfl) (by kernel_rfl) (fun _ _ _ h => h) rfl hHeld ?ya3 ?ra3
              case ya3 => (intro wz hz; go_simp; first | done | with_reducible rfl)
              try simp only [Act.put, List.setIfInBounds_toArray, List.set_cons_zero, List.set_cons_succ]
              refine take_op (i := 5) (v := ?va5) rfl (by kernel_rfl) (by kernel_rfl) (by kernel_rfl) (fun _ _ _ h => h) rfl hHeld ?ya5 ?ra5
              case ya5 => (intro wz hz; go_simp; first | done | with_reducible rfl)
              try simp only [Act.put, List.setIfInBounds_toArray, List.set_cons_zero, List.set_cons_succ]
              refine take_op (i := 6) (v := ?va6) rfl (by kernel_rfl) (by kernel_rfl) (by kernel_rfl) (fun _ _ _ h => h) rfl hHeld ?ya6 ?ra6
              case ya6 => (intro wz hz; go_simp; first | done | with_reducible rfl)
              try simp only [Act.put, List.setIfInBounds_toArray, List.set_cons_zero, List.set_cons_succ]
              refine take_op (i := 7) (v := ?va7) rfl (by kernel_rfl) (by kernel_rfl) (by kernel_rfl) (fun _ _ _ h => h) rfl hHeld ?ya7 ?ra7
              case ya7 => (intro wz hz; go_simp; first | done | with_reducible rfl)
              try simp only [Act.put, List.setIfInBounds_toArray, List.set_cons_zero, List.set_cons_succ]
              refine take_op (i := 8) (v := ?va8) rfl (by kernel_rfl) (by kernel_rfl) (by kernel_rfl) (fun _ _ _ h => h) rfl hHeld ?ya8 ?ra8
              case ya8 => (intro wz hz; go_simp; first | done | with_reducible rfl)
              try simp only [Act.put, List.setIfInBounds_toArray, List.set_cons_zero, List.set_cons_succ]
              refine take_op (i := 9) (v := ?va9) rfl (by kernel_rfl) (by kernel_rfl) (by kernel_rfl) (fun _ _ _ h => h) rfl hHeld ?ya9 ?ra9
              case ya9 => (intro wz hz; go_simp; first | done | with_reducible rfl)
              try simp only [Act.put, List.setIfInBounds_toArray, List.set_cons_zero, List.set_cons_succ]
              refine take_op (i := 10) (v := .string S2) rfl (by kernel_rfl) (by kernel_rfl) (by kernel_rfl) (fun _ _ _ h => h) rfl hHeld ?ya10 ?_
              case ya10 => (intro wz hz; go_simp; first | done | rw [← hS2])
              try simp only [Act.put, List.setIfInBounds_toArray, List.set_cons_zero, List.set_cons_succ]
              have XB := rbytes_any c hp w2.drew
              rw [hS1] at XB
              refine take_one (i := 4) rfl (by kernel_rfl) rfl (fun K hK => ?_)
              go_simp
              refine Calls.mono XB ?_
              rintro e w3 ⟨rfl, hb3⟩
              have HBE : Hid (Below w1.heap.size w1 w3) := (show Below w1.heap.size w1 w3 from HB2.out.drew.trans (hb3.mono HB2.out.size))
              refine hK.out _ _ HBE.out (fun hHeld => ?_)
              clear hK K XB hb3
              try simp only [Act.put, List.setIfInBounds_toArray, List.set_cons_zero, List.set_cons_succ]
              refine take_op (i := 11) (v := .bool true) rfl (by kernel_rfl) (by kernel_rfl) (by kernel_rfl) (fun _ _ _ h => h) rfl hHeld ?ya11 ?_
              case ya11 => (intro wz hz; have hSP := hSS; rw [hS2] at hSP; clear hSS hS2; go_simp; first | done | simpa using hSP)
              try simp only [Act.put, List.setIfInBounds_toArray, List.set_cons_zero, List.set_cons_succ]
              refine take_op (i := 12) (v := ?va12) rfl (by kernel_rfl) (by kernel_rfl) (by kernel_rfl) (fun _ _ _ h => h) rfl hHeld ?ya12 ?ra12
              case ya12 => (intro wz hz; go_simp; first | done | with_reducible rfl)
              try simp only [Act.put, List.setIfInBounds_toArray, List.set_cons_zero, List.set_cons_succ]
              refine wpAnyH_done (by kernel_rfl) ?_ _
              refine NoPanic.normal ?_
              have hh := hit_nx s m (j + 1) (by omega) (by omega) e2 ⟨by rw [Nat.add_sub_cancel, ← HCQ.out]; exact hp, by rw [Nat.add_sub_cancel, ← HCQ.out]; exact he⟩
              rw [Nat.add_sub_cancel, ← HCQ.out] at hh
              have HH : Hid (((nx s m).1 : Int) = c ∧ (nx s m).2 = j + 1) := (show _ ∧ _ from hh)
              clear hh hSS hS1 hS2 he hp hHeld
              go_wp2
              go_ret2
              exact ⟨by rw [HH.out.1, HH.out.2]; rfl, B1.out.trans (HBE.out.mono B1.out.size)⟩
            · rw [decide_eq_false he] at hSS
              have XP := rpoint_any c (by omega) w2.drew
              rw [decide_eq_true hp] at XP
              go_upto_region 12 with fail
              refine wp_region_noPanic ?_
              refine wp_region_held_drew (S := fun w' => Below w1.heap.size w1 w') (by kernel_rfl) HB2.out.drew (fun hHeld => ?_)
              refine take_op (i := 0) (v := ?vb0) rfl (by kernel_rfl) (by kernel_rfl) (by kernel_rfl) (fun _ _ _ h => h) rfl hHeld ?yb0 ?rb0
              case yb0 => (intro wz hz; go_simp; first | done | with_reducible rfl)
              try simp only [Act.put, List.setIfInBounds_toArray, List.set_cons_zero, List.set_cons_succ]
              refine take_one (i := 1) rfl (by kernel_rfl) rfl (fun K hK => ?_)
              go_simp
              refine Calls.mono XP ?_
              rintro e w3 ⟨rfl, rfl⟩
              refine hK.out _ _ HB2.out.drew (fun hHeld => ?_)
              clear hK K XP
              try simp only [Act.put, List.setIfInBounds_toArray, List.set_cons_zero, List.set_cons_succ]
              refine take_op (i := 2) (v := ?vb2) rfl (by kernel_rfl) (by kernel_rfl) (by kernel_rfl) (fun _ _ _ h => h) rfl hHeld ?yb2 ?rb2
              case yb2 => (intro wz hz; go_simp; first | done | with_reducible rfl)
              try simp only [Act.put, List.setIfInBounds_toArray, List.set_cons_zero, List.set_cons_succ]
              refine take_op (i := 3) (v := ?vb3) rfl (by kernel_rfl) (by kernel_rfl) (by kernel_rfl) (fun _ _ _ h => h) rfl hHeld ?yb3 ?rb3
              case yb3 => (intro wz hz; go_simp; first | done | with_reducible rfl)
              try simp only [Act.put, List.setIfInBounds_toArray, List.set_cons_zero, List.set_cons_succ]
              refine take_op (i := 5) (v := ?vb5) rfl (by kernel_rfl) (by kernel_rfl) (by kernel_rfl) (fun _ _ _ h => h) rfl hHeld ?yb5 ?rb5
              case yb5 => (intro wz hz; go_simp; first | done | with_reducible rfl)
              try simp only [Act.put, List.setIfInBounds_toArray, List.set_cons_zero, List.set_cons_succ]
              refine take_op (i := 6) (v := ?vb6) rfl (by kernel_rfl) (by kernel_rfl) (by kernel_rfl) (fun _ _ _ h => h) rfl hHeld ?yb6 ?rb6
              case yb6 => (intro wz hz; go_simp; first | done | with_reducible rfl)
              try simp only [Act.put, List.setIfInBounds_toArray, List.set_cons_zero, List.set_cons_succ]
              refine take_op (i := 7) (v := ?vb7) rfl (by kernel_rfl) (by kernel_rfl) (by kernel_rfl) (fun _ _ _ h => h) rfl hHeld ?yb7 ?rb7
              case yb7 => (intro wz hz; go_simp; first | done | with_reducible rfl)
              try simp only [Act.put, List.setIfInBounds_toArray, List.set_cons_zero, List.set_cons_succ]
              refine take_op (i := 8) (v := ?vb8) rfl (by kernel_rfl) (by kernel_rfl) (by kernel_rfl) (fun _ _ _ h => h) rfl hHeld ?yb8 ?rb8
              case yb8 => (intro wz hz; go_simp; first | done | with_reducible rfl)
              try simp only [Act.put, List.setIfInBounds_toArray, List.set_cons_zero, List.set_cons_succ]
              refine take_op (i := 9) (v := ?vb9) rfl (by kernel_rfl) (by kernel_rfl) (by kernel_rfl) (fun _ _ _ h => h) rfl hHeld ?yb9 ?rb9
              case yb9 => (intro wz hz; go_simp; first | done | with_reducible rfl)
              try simp only [Act.put, List.setIfInBounds_toArray, List.set_cons_zero, List.set_cons_succ]
              refine take_op (i := 10) (v := .string S2) rfl (by kernel_rfl) (by kernel_rfl) (by kernel_rfl) (fun _ _ _ h => h) rfl hHeld ?yb10 ?_
              case yb10 => (intro wz hz; go_simp; first | done | rw [← hS2])
              try simp only [Act.put, List.setIfInBounds_toArray, List.set_cons_zero, List.set_cons_succ]
              have XB := rbytes_any c hp w2.drew
              rw [hS1] at XB
              refine take_one (i := 4) rfl (by kernel_rfl) rfl (fun K hK => ?_)
              go_simp
              refine Calls.mono XB ?_
              rintro e w3 ⟨rfl, hb3⟩
              have HBE : Hid (Below w1.heap.size w1 w3) := (show Below w1.heap.size w1 w3 from HB2.out.drew.trans (hb3.mono HB2.out.size))
              refine hK.out _ _ HBE.out (fun hHeld => ?_)
              clear hK K XB hb3
              try simp only [Act.put, List.setIfInBounds_toArray, List.set_cons_zero, List.set_cons_succ]
              refine take_op (i := 11) (v := .bool false) rfl (by kernel_rfl) (by kernel_rfl) (by kernel_rfl) (fun _ _ _ h => h) rfl hHeld ?yb11 ?_
              case yb11 => (intro wz hz; have hSP := hSS; rw [hS2] at hSP; clear hSS hS2; go_simp; first | done | simpa using hSP)
              try simp only [Act.put, List.setIfInBounds_toArray, List.set_cons_zero, List.set_cons_succ]
              refine take_op (i := 12) (v := ?vb12) rfl (by kernel_rfl) (by kernel_rfl) (by kernel_rfl) (fun _ _ _ h => h) rfl hHeld ?yb12 ?rb12
              case yb12 => (intro wz hz; go_simp; first | done | with_reducible rfl)
              try simp only [Act.put, List.setIfInBounds_toArray, List.set_cons_zero, List.set_cons_succ]
              refine wpAnyH_done (by kernel_rfl) ?_ _
              refine NoPanic.normal ?_
              have HM2 : Hid (∀ t, 1 ≤ t → t ≤ j + 1 → ¬ hitP s m t) := (show _ from fun t h1 h2 hh => by
                by_cases e : t = j + 1
                · subst e
                  rw [hitP, Nat.add_sub_cancel, ← HCQ.out] at hh
                  exact he hh.2
                · exact HM.out t h1 (by omega) hh)
              clear hSS hS1 hS2 he hp hHeld
              go_wp2
              go_light
              refine ⟨⟨j + 1, by omega, e2, by go_num, HM2.out, HBE.out⟩, by simp [intOf]; omega⟩
          · skip
            have XP := rpoint_any c (by omega) w2.drew
            rw [decide_eq_false hp] at XP
            go_upto_region 12 with fail
            refine wp_region_noPanic ?_
            refine wp_region_held_drew (S := fun w' => Below w1.heap.size w1 w') (by kernel_rfl) HB2.out.drew (fun hHeld => ?_)
            refine take_op (i := 0) (v := ?vc0) rfl (by kernel_rfl) (by kernel_rfl) (by kernel_rfl) (fun _ _ _ h => h) rfl hHeld ?yc0 ?rc0
            case yc0 => (intro wz hz; go_simp; first | done | with_reducible rfl)
            try simp only [Act.put, List.setIfInBounds_toArray, List.set_cons_zero, List.set_cons_succ]
            refine take_one (i := 1) rfl (by kernel_rfl) rfl (fun K hK => ?_)
            go_simp
            refine Calls.mono XP ?_
            rintro e w3 ⟨rfl, rfl⟩
            refine hK.out _ _ HB2.out.drew (fun hHeld => ?_)
            clear hK K XP
            try simp only [Act.put, List.setIfInBounds_toArray, List.set_cons_zero, List.set_cons_succ]
            refine take_op (i := 2) (v := ?vc2) rfl (by kernel_rfl) (by kernel_rfl) (by kernel_rfl) (fun _ _ _ h => h) rfl hHeld ?yc2 ?rc2
            case yc2 => (intro wz hz; go_simp; first | done | with_reducible rfl)
            try simp only [Act.put, List.setIfInBounds_toArray, List.set_cons_zero, List.set_cons_succ]
            refine take_not (i := 3) rfl (by kernel_rfl) (by kernel_rfl) (by kernel_rfl) (fun _ _ _ h => h) rfl hHeld ?_
            try simp only [Act.put, List.setIfInBounds_toArray, List.set_cons_zero, List.set_cons_succ]
            refine take_not (i := 4) rfl (by kernel_rfl) (by kernel_rfl) (by kernel_rfl) (fun _ _ _ h => h) rfl hHeld ?_
            try simp only [Act.put, List.setIfInBounds_toArray, List.set_cons_zero, List.set_cons_succ]
            refine take_not (i := 5) rfl (by kernel_rfl) (by kernel_rfl) (by kernel_rfl) (fun _ _ _ h => h) rfl hHeld ?_
            try simp only [Act.put, List.setIfInBounds_toArray, List.set_cons_zero, List.set_cons_succ]
            refine take_not (i := 6) rfl (by kernel_rfl) (by kernel_rfl) (by kernel_rfl) (fun _ _ _ h => h) rfl hHeld ?_
            try simp only [Act.put, List.setIfInBounds_toArray, List.set_cons_zero, List.set_cons_succ]
            refine take_not (i := 7) rfl (by kernel_rfl) (by kernel_rfl) (by kernel_rfl) (fun _ _ _ h => h) rfl hHeld ?_
            try simp only [Act.put, List.setIfInBounds_toArray, List.set_cons_zero, List.set_cons_succ]
            refine take_not (i := 8) rfl (by kernel_rfl) (by kernel_rfl) (by kernel_rfl) (fun _ _ _ h => h) rfl hHeld ?_
            try simp only [Act.put, List.setIfInBounds_toArray, List.set_cons_zero, List.set_cons_succ]
            refine take_not (i := 9) rfl (by kernel_rfl) (by kernel_rfl) (by kernel_rfl) (fun _ _ _ h => h) rfl hHeld ?_
            try simp only [Act.put, List.setIfInBounds_toArray, List.set_cons_zero, List.set_cons_succ]
            refine take_not (i := 10) rfl (by kernel_rfl) (by kernel_rfl) (by kernel_rfl) (fun _ _ _ h => h) rfl hHeld ?_
            try simp only [Act.put, List.setIfInBounds_toArray, List.set_cons_zero, List.set_cons_succ]
            refine take_not (i := 11) rfl (by kernel_rfl) (by kernel_rfl) (by kernel_rfl) (fun _ _ _ h => h) rfl hHeld ?_
            try simp only [Act.put, List.setIfInBounds_toArray, List.set_cons_zero, List.set_cons_succ]
            refine take_op (i := 12) (v := ?vc12) rfl (by kernel_rfl) (by kernel_rfl) (by kernel_rfl) (fun _ _ _ h => h) rfl hHeld ?yc12 ?rc12
            case yc12 => (intro wz hz; go_simp; first | done | with_reducible rfl)
            try simp only [Act.put, List.setIfInBounds_toArray, List.set_cons_zero, List.set_cons_succ]
            refine wpAnyH_done (by kernel_rfl) ?_ _
            refine NoPanic.normal ?_
            have HBE : Hid (Below w1.heap.size w1 w2.drew) := (show Below w1.heap.size w1 w2.drew from HB2.out.drew)
            have HM2 : Hid (∀ t, 1 ≤ t → t ≤ j + 1 → ¬ hitP s m t) := (show _ from fun t h1 h2 hh => by
              by_cases e : t = j + 1
              · subst e
                rw [hitP, Nat.add_sub_cancel, ← HCQ.out] at hh
                exact hp hh.1
              · exact HM.out t h1 (by omega) hh)
            clear hp hHeld
            go_wp2
            go_light
            refine ⟨⟨j + 1, by omega, e2, by go_num, HM2.out, HBE.out⟩, by simp [intOf]; omega⟩
    · have hz : (nx s m).2 = 0 := by
        rcases Nat.eq_zero_or_pos (nx s m).2 with e | e
        · exact e
        · have h4 := nx_four s m
          have hh := nx_hit s m _ rfl e
          rcases nx_size s m with h5 | h5
          · exact absurd hh (HM.out _ e (by omega))
          · omega
      have HE : Hid (nx s m = (0, 0)) := (show nx s m = (0, 0) from nx_none hz)
      clear hz hb
      by_cases h4 : q < 4
      · have i1 : (q : Int) + 1 ≤ 4 := by omega
        have i2 : ¬ (q : Int) + 1 ≤ (s.size : Int) - (m : Int) := by omega
        have i3 : (s.size : Int) - (m : Int) ≤ 9223372036854775807 := by omega
        go_wp2
        go_ret2
        exact ⟨by rw [HE.out]; rfl, B1.out.trans (HB.out.mono B1.out.size)⟩
      · have i1 : ¬ (q : Int) + 1 ≤ 4 := by omega
        go_wp2
        go_ret2
        exact ⟨by rw [HE.out]; rfl, B1.out.trans (HB.out.mono B1.out.size)⟩
end Go.Proofs.YthjfalbchkbdfaaDoor

/- utf.Fault, utf.May. -/
namespace Go.Proofs.YthjfalbchkbdfaaDoor
set_option linter.unusedSimpArgs false
set_option linter.unusedVariables false
open Go.RowKit Go.Deep

theorem nxI_nat (s : ByteArray) (k : Nat) : nxI s (k : Int) = nx s k := by
  unfold nxI
  by_cases h : s.size ≤ k
  · rw [if_pos (by omega), nx_end h]
  · rw [if_neg (by omega), Int.toNat_natCast]
set_option maxHeartbeats 2000000 in
set_option maxRecDepth 100000 in
theorem fault_any (s : ByteArray) (hs : s.size ≤ maxLen) (w : World) (hT : u8T w) :
    Calls Tryd.prog 35 #[.string s] w fun e w' => e = .returned (.int .i64 (fl s)) ∧ Below w.heap.size w w' := by
  have hm : (s.size : Int) ≤ 9223372036854775807 := by unfold maxLen at hs; omega
  have HT : Hid (u8T w) := (show u8T w from hT)
  have X0 := next_any s ((0 : Nat) : Int) (by omega) w hT
  rw [nxI_nat] at X0
  obtain ⟨c, hc⟩ : ∃ c, c = nx s 0 := ⟨_, rfl⟩
  rw [← hc] at X0
  obtain ⟨r, z⟩ := c
  simp only [Int.natCast_zero] at X0
  clear hT hs
  go_enter Tryd.func35, Tryd.ntmps35
  go_wp2
  refine wp_scope_jumps 0 (fun a' w' => ∃ (m : Nat) (u1 u4 u5 u6 u7 u8 u9 u10 u11 u12 u13 u14 u15 u16 u17 : Value), a' = { tmps := #[.string s, u1, .int .i64 0, .int .i64 m, u4, u5, u6, u7, u8, u9, u10, u11, u12, u13, u14, u15, u16, u17], defers := [] } ∧ flAt s m = fl s ∧ m ≤ s.size ∧ Below w.heap.size w w') (fun a' _ => s.size - (intOf (a'.tmps.getD 3 undef)).toNat) rfl ?_ ?_
  · go_wp2
    go_step3
    go_wp2_with fail
    refine X0.mono ?_
    rintro e w1 ⟨rfl, b1⟩
    have B1 : Hid (Below w.heap.size w w1) := b1
    have hz1 : z ≤ s.size ∧ (z = 0 → fl s = 0) ∧ (z ≠ 0 → flAt s z = fl s) := by
      have h1 := nx_size s 0
      have h2 : z = (nx s 0).2 := by rw [← hc]
      refine ⟨by omega, fun h => flAt_stop (by omega), fun h => ?_⟩
      have := flAt_step (s := s) (k := 0) (by omega)
      rw [Nat.zero_add, ← h2] at this
      exact this.symm
    have HZ : Hid _ := hz1
    have z0 : (z : Int) ≤ (s.size : Int) := by omega
    clear X0 b1 hz1 hc
    by_cases hz : z = 0
    · have hz' : ¬ (z : Int) > 0 := by omega
      subst hz
      go_wp2
      simp only [Exit.jump]
      go_ret
      exact ⟨by rw [HZ.out.2.1 trivial]; rfl, B1.out⟩
    · have hz' : (z : Int) > 0 := by omega
      go_wp2
      go_step3
      refine ⟨rfl, z, _, _, _, _, _, _, _, _, _, _, _, _, _, _, _, rfl, HZ.out.2.2 hz, HZ.out.1, B1.out⟩
  · rintro a' w' ⟨m, u1, u4, u5, u6, u7, u8, u9, u10, u11, u12, u13, u14, u15, u16, u17, rfl, hf, hmm, hb⟩
    have HB : Hid (Below w.heap.size w w') := hb
    have X := next_any s ((m : Nat) : Int) (by omega) w' (HT.out.below hb)
    rw [nxI_nat] at X
    have h1 := nx_size s m
    have h2 := flAt_stop (s := s) (k := m)
    have h3 := flAt_step (s := s) (k := m)
    generalize nx s m = c at X h1 h2 h3
    obtain ⟨r, z⟩ := c
    simp only at X h1 h2 h3
    have HZ : Hid ((z = 0 → fl s = m) ∧ (z ≠ 0 → flAt s (m + z) = fl s)) := (show _ from ⟨fun h => by rw [← hf, h2 h], fun h => by rw [← hf, h3 h]⟩)
    have z0 : (m : Int) + (z : Int) ≤ (s.size : Int) := by omega
    clear h1 h2 h3 hb X0 hf
    go_wp2_with fail
    refine X.mono ?_
    rintro e w1 ⟨rfl, b1⟩
    have B1 : Hid (Below w.heap.size w w1) := (show Below w.heap.size w w1 from HB.out.trans (b1.mono HB.out.size))
    clear X b1
    by_cases hz : z = 0
    · have hz' : ¬ (z : Int) > 0 := by omega
      subst hz
      go_wp2
      simp only [Exit.jump]
      go_ret
      exact ⟨by rw [HZ.out.1 trivial]; rfl, B1.out⟩
    · have hz' : (z : Int) > 0 := by omega
      go_wp2
      go_step3
      refine ⟨rfl, ⟨m + z, _, _, _, _, _, _, _, _, _, _, _, _, _, _, _, by rw [Int.natCast_add], HZ.out.2 hz, by omega, B1.out⟩, ?_⟩
      simp [intOf]
      omega
theorem may_any (s : ByteArray) (hs : s.size ≤ maxLen) (w : World) (hT : u8T w) :
    Calls Tryd.prog 25 #[.string s] w fun e w' => e = .returned (.bool (decide (fl s = s.size))) ∧ Below w.heap.size w w' := by
  have X := fault_any s hs w hT
  have e : (decide (fl s = s.size)) = (decide ((fl s : Int) = (s.size : Int))) := decide_eq_decide.2 (by omega)
  rw [e]
  clear hT e
  go_enter Tryd.func25, Tryd.ntmps25
  go_wp2_with fail
  refine X.mono ?_
  rintro e w1 ⟨rfl, b1⟩
  clear X
  go_wp2
  go_ret
  exact ⟨rfl, b1⟩
end Go.Proofs.YthjfalbchkbdfaaDoor

/- utf.Letter. -/
namespace Go.Proofs.YthjfalbchkbdfaaDoor
set_option linter.unusedSimpArgs false
set_option linter.unusedVariables false
open Go.RowKit Go.Deep

/-- the spans of letters. -/
def ltL : List (Int × Int) := [(48, 57), (65, 90), (97, 122), (170, 170), (181, 181), (186, 186), (192, 214), (216, 246), (248, 687), (768, 879), (880, 883), (886, 887), (891, 893), (895, 895), (902, 902), (904, 906), (908, 908), (910, 929), (931, 1153), (1162, 1327), (1329, 1366), (1377, 1414), (1488, 1514), (1568, 1610), (1632, 1641), (1646, 1747), (1776, 1785), (2308, 2361), (2406, 2415), (3585, 3632), (3648, 3654), (4256, 4293), (4304, 4346), (7680, 8124), (12353, 12438), (12449, 12538), (13312, 19903), (19968, 40959), (44032, 55203), (65296, 65305), (65313, 65338), (65345, 65370), (131072, 173791)]
def ltA (i : Nat) : Int := (ltL.getD i (0, 0)).1
def ltB (i : Nat) : Int := (ltL.getD i (0, 0)).2
/-- the program's table of them. -/
def ltT (w : World) : Prop := ∀ i, i < 43 → w.cell? ⟨0, i * 2, none⟩ = some (.int .i64 (ltA i)) ∧ w.cell? ⟨0, i * 2 + 1, none⟩ = some (.int .i64 (ltB i))
theorem ltT.below {w w' : World} (h : ltT w) (hb : Below w.heap.size w w') : ltT w' := fun i hi =>
  ⟨(hb.cell (p := ⟨_, i * 2, none⟩) (block_lt_of_cell (h i hi).1)).trans (h i hi).1, (hb.cell (p := ⟨_, i * 2 + 1, none⟩) (block_lt_of_cell (h i hi).2)).trans (h i hi).2⟩
set_option maxHeartbeats 1000000 in
set_option maxRecDepth 100000 in
theorem letter1_any (j b : Nat) (c : Int) (hj : j < 43) (w : World) (hT : ltT w) (hc : w.cell? ⟨b, 0, none⟩ = some (.int .i64 c)) :
    Calls Tryd.prog 49 #[.int .i64 (j : Int), .pointer (some ⟨b, 0, none⟩)] w fun e w' => e = .returned (.bool (decide (c ≤ ltB j))) ∧ Below w.heap.size w w' := by
  have h1 := (hT j hj).2
  have j0 : (0 : Int) ≤ (j : Int) := by omega
  have j1 : (j : Int) < 43 := by omega
  generalize ltB j = y at h1 ⊢
  clear hT
  go_enter Tryd.func49, Tryd.ntmps49
  go_upto_region 1 with fail
  go_region
  go_wp2
  go_ret
  exact ⟨rfl, (Below.refl _ _).drew⟩
theorem ltB_mono : ∀ i : Fin 43, ∀ j : Fin 43, i.val < j.val → ltB i.val < ltB j.val := by decide +kernel
theorem ltB_ltA : ∀ i : Fin 43, ∀ j : Fin 43, i.val < j.val → ltB i.val < ltA j.val := by decide +kernel
/-- where a number's span would stand. -/
def ltPos (c : Int) (p : Nat) : Prop := p ≤ 43 ∧ (∀ t, t < p → ltB t < c) ∧ ∀ t, p ≤ t → t < 43 → c ≤ ltB t
/-- is a number a letter? -/
def letB (c : Int) : Bool := ltL.any fun x => decide (x.1 ≤ c) && decide (c ≤ x.2)
theorem letB_is (c : Int) : letB c = true ↔ ∃ i, i < 43 ∧ ltA i ≤ c ∧ c ≤ ltB i := by
  unfold letB
  rw [List.any_eq_true]
  constructor
  · rintro ⟨x, hx, h⟩
    obtain ⟨i, hi, rfl⟩ := List.getElem_of_mem hx
    have hl : ltL.length = 43 := rfl
    rw [hl] at hi
    refine ⟨i, hi, ?_⟩
    have hg : ltL.getD i (0, 0) = ltL[i] := by rw [List.getD_eq_getElem?_getD, List.getElem?_eq_getElem (by rw [hl]; exact hi)]; rfl
    rw [ltA, ltB, hg]
    rw [Bool.and_eq_true, decide_eq_true_iff, decide_eq_true_iff] at h
    exact h
  · rintro ⟨i, hi, h1, h2⟩
    have hl : ltL.length = 43 := rfl
    have hg : ltL.getD i (0, 0) = ltL[i]'(by rw [hl]; exact hi) := by rw [List.getD_eq_getElem?_getD, List.getElem?_eq_getElem (by rw [hl]; exact hi)]; rfl
    refine ⟨_, List.getElem_mem (by rw [hl]; exact hi), ?_⟩
    rw [← hg]
    simpa using ⟨h1, h2⟩
theorem letB_pos {c : Int} {p : Nat} (h : ltPos c p) : (decide (p < 43) && decide (ltA p ≤ c)) = letB c := by
  obtain ⟨h0, h1, h2⟩ := h
  rw [Bool.eq_iff_iff, letB_is, Bool.and_eq_true, decide_eq_true_iff, decide_eq_true_iff]
  constructor
  · rintro ⟨a, b⟩
    exact ⟨p, a, b, h2 p (Nat.le_refl _) a⟩
  · rintro ⟨i, hi, a, b⟩
    by_cases e : i < p
    · have := h1 i e; omega
    · by_cases e2 : p < i
      · have := ltB_ltA ⟨p, by omega⟩ ⟨i, hi⟩ e2
        have h3 := h2 p (Nat.le_refl _) (by omega)
        simp only at this
        omega
      · obtain rfl : i = p := by omega
        exact ⟨hi, a⟩
set_option maxHeartbeats 4000000 in
set_option maxRecDepth 100000 in
theorem lsearch_any (c : Int) (b : Nat) (w : World) (hT : ltT w) (hc : w.cell? ⟨b, 0, none⟩ = some (.int .i64 c)) :
    Calls Tryd.prog 48 #[.int .i64 43, .func (.func 49) #[] #[.pointer (some ⟨b, 0, none⟩)]] w fun e w' => ∃ p, ltPos c p ∧ e = .returned (.int .i64 (p : Int)) ∧ Below w.heap.size w w' := by
  have HT : Hid (ltT w) := hT
  have HC : Hid (w.cell? ⟨b, 0, none⟩ = some (.int .i64 c)) := (show w.cell? ⟨b, 0, none⟩ = some (.int .i64 c) from hc)
  clear hT hc
  go_enter Tryd.func48, Tryd.ntmps48
  go_wp2_with fail
  go_loopw [5, 6] (fun i j wr => ∃ m n : Nat, m ≤ n ∧ n ≤ 43 ∧ i = .int .i64 (m : Int) ∧ j = .int .i64 (n : Int) ∧ (∀ t, t < m → ltB t < c) ∧ (∀ t, n ≤ t → t < 43 → c ≤ ltB t) ∧ Below w.heap.size w wr) (fun i j _ => (intOf j).toNat - (intOf i).toNat)
  case atStart => exact ⟨0, 43, by omega, Nat.le_refl _, rfl, rfl, fun t ht => by omega, fun t h1 h2 => by omega, Below.refl _ _⟩
  case round =>
    obtain ⟨m, n, hmn, hn, rfl, rfl, hlo, hhi, hb⟩ := hrel
    have m0 : (0 : Int) ≤ (m : Int) := by omega
    have n0 : (0 : Int) ≤ (n : Int) := by omega
    have n1 : (n : Int) ≤ 43 := by omega
    have HLO : Hid ((∀ t, t < m → ltB t < c) ∧ (∀ t, n ≤ t → t < 43 → c ≤ ltB t)) := (show _ ∧ _ from ⟨hlo, hhi⟩)
    have HB : Hid (Below w.heap.size w wr) := hb
    by_cases hlt : m < n
    · have p1 : (m : Int) < (n : Int) := by omega
      obtain ⟨h, hh⟩ : ∃ h, h = (m + n) / 2 := ⟨_, rfl⟩
      have hmh : m ≤ h := by omega
      have hhn : h < n := by omega
      have hdiv : ((m : Int) + (n : Int)) / 2 = (h : Int) := by omega
      have hs1 : IntKind.wrap .i64 ((m : Int) + (n : Int)) = (m : Int) + (n : Int) := IntWalk.i64_in _ ⟨by omega, by omega⟩
      have hs2 : IntKind.wrap .u64 ((m : Int) + (n : Int)) = (m : Int) + (n : Int) := by
        have e : IntKind.u64.wrap ((m : Int) + (n : Int)) = ((m : Int) + (n : Int)) % 18446744073709551616 := by simp [IntKind.wrap, IntKind.bits, IntKind.signed]
        rw [e]; omega
      have hs3 : IntKind.wrap .i64 (h : Int) = (h : Int) := IntWalk.i64_in _ ⟨by omega, by omega⟩
      have hs4 : IntKind.wrap .i64 ((h : Int) + 1) = (h : Int) + 1 := IntWalk.i64_in _ ⟨by omega, by omega⟩
      have X := letter1_any h b c (by omega) wr (HT.out.below hb) ((hb.cell (p := ⟨b, 0, none⟩) (block_lt_of_cell HC.out)).trans HC.out)
      have hq : (h : Int) < 43 := by omega
      have h0 : (0 : Int) ≤ (h : Int) := by omega
      clear hlo hhi hb hh
      by_cases hf : c ≤ ltB h
      · rw [decide_eq_true hf] at X
        have HF : Hid (c ≤ ltB h) := hf
        clear hf
        go_wp2_with fail
        refine X.mono ?_
        rintro e w' ⟨rfl, hb2⟩
        have HB2 : Hid (Below w.heap.size w w') := (show Below w.heap.size w w' from HB.out.trans (hb2.mono HB.out.size))
        clear X hb2
        go_wp2
        go_light
        refine ⟨⟨m, h, hmh, by omega, rfl, rfl, HLO.out.1, fun t h1 h2 => ?_, HB2.out⟩, by simp [intOf]; omega⟩
        by_cases e : t = h
        · rw [e]; exact HF.out
        · have := ltB_mono ⟨h, by omega⟩ ⟨t, h2⟩ (by simp only; omega)
          have := HF.out
          simp only at *
          omega
      · rw [decide_eq_false hf] at X
        have HF : Hid (ltB h < c) := (show ltB h < c from by omega)
        clear hf
        go_wp2_with fail
        refine X.mono ?_
        rintro e w' ⟨rfl, hb2⟩
        have HB2 : Hid (Below w.heap.size w w') := (show Below w.heap.size w w' from HB.out.trans (hb2.mono HB.out.size))
        clear X hb2
        go_wp2
        go_light
        refine ⟨⟨h + 1, n, by omega, by omega, by go_num, rfl, fun t ht => ?_, HLO.out.2, HB2.out⟩, by simp [intOf]; omega⟩
        by_cases e : t = h
        · rw [e]; exact HF.out
        · have := ltB_mono ⟨t, by omega⟩ ⟨h, by omega⟩ (by simp only; omega)
          have := HF.out
          simp only at *
          omega
    · obtain rfl : m = n := by omega
      have p1 : ¬ (m : Int) < (m : Int) := by omega
      clear hlo hhi hb
      go_wp2
      go_ret
      exact ⟨m, ⟨hn, HLO.out.1, HLO.out.2⟩, rfl, HB.out⟩
set_option maxHeartbeats 2000000 in
set_option maxRecDepth 100000 in
theorem letter_any (c : Int) (w : World) (hT : ltT w) :
    Calls Tryd.prog 34 #[.int .i64 c] w fun e w' => e = .returned (.bool (letB c)) ∧ Below w.heap.size w w' := by
  obtain ⟨w1, hw1⟩ : ∃ w1, w1 = w.alloc (.cells #[.int .i64 c] 3) := ⟨_, rfl⟩
  have b1 : Below w.heap.size w w1 := by rw [hw1]; exact (Below.refl _ _).alloc (Nat.le_refl _) _
  have hc : w1.cell? ⟨w.heap.size, 0, none⟩ = some (.int .i64 c) := by rw [hw1]; rw [cell_of_row _ _ _ _ _ _ (blk_alloc_new w _)]; rfl
  have X := lsearch_any c w.heap.size w1 (hT.below b1) hc
  have HT : Hid (ltT w1) := (show ltT w1 from hT.below b1)
  have HC : Hid (w1.cell? ⟨w.heap.size, 0, none⟩ = some (.int .i64 c)) := (show w1.cell? ⟨w.heap.size, 0, none⟩ = some (.int .i64 c) from hc)
  have B1 : Hid (Below w.heap.size w w1) := (show Below w.heap.size w w1 from b1)
  clear hT b1 hc
  go_enter Tryd.func34, Tryd.ntmps34
  go_wp2_with fail
  rw [← hw1]
  clear hw1
  refine X.mono ?_
  rintro e w2 ⟨p, hp, rfl, b2⟩
  have HL : Hid ((decide (p < 43) && decide (ltA p ≤ c)) = letB c) := (show (decide (p < 43) && decide (ltA p ≤ c)) = letB c from letB_pos hp)
  have B2 : Hid (Below w.heap.size w w2) := (show Below w.heap.size w w2 from B1.out.trans (b2.mono B1.out.size))
  have c2 : w2.cell? ⟨w.heap.size, 0, none⟩ = some (.int .i64 c) := (b2.cell (p := ⟨w.heap.size, 0, none⟩) (block_lt_of_cell HC.out)).trans HC.out
  have p0 : (0 : Int) ≤ (p : Int) := by omega
  by_cases h : p < 43
  · have p1 : (p : Int) < 43 := by omega
    have c3 := ((HT.out.below b2) p h).1
    have HE : Hid (decide (ltA p ≤ c) = letB c) := (show decide (ltA p ≤ c) = letB c from by have := HL.out; rwa [decide_eq_true h, Bool.true_and] at this)
    generalize ltA p = y at c3 HE
    have hd : decide ((p : Int) < 43) = true := decide_eq_true p1
    clear X b2 hp HL
    go_upto_region 2 with fail
    go_region
    go_wp2
    go_ret
    exact ⟨by rw [← HE.out]; rfl, B2.out.drew⟩
  · have p1 : ¬ (p : Int) < 43 := by omega
    have HE : Hid (false = letB c) := (show false = letB c from by have := HL.out; rwa [decide_eq_false h, Bool.false_and] at this)
    have hd : decide ((p : Int) < 43) = false := decide_eq_false p1
    clear X b2 hp HL
    go_upto_region 2 with fail
    go_region
    go_wp2
    go_ret
    exact ⟨by rw [← HE.out]; rfl, B2.out.drew⟩
end Go.Proofs.YthjfalbchkbdfaaDoor

/- utf.Small. -/
namespace Go.Proofs.YthjfalbchkbdfaaDoor
set_option linter.unusedSimpArgs false
set_option linter.unusedVariables false
open Go.RowKit Go.Deep

/-- a row that a conversion made: of its first N cells. -/
def rowZ (w : World) (b : Nat) (t : TypeId) (N : Nat) (f : Nat → Value) : Prop := ∃ c : Array Value, w.heap[b]? = some (.cells c t (c.size, c.size + 1)) ∧ N ≤ c.size ∧ ∀ i, i < N → c[i]? = some (f i)
theorem rowZ.cell {w : World} {b : Nat} {t : TypeId} {N : Nat} {f : Nat → Value} (h : rowZ w b t N f) {i : Nat} (hi : i < N) : w.cell? ⟨b, i, none⟩ = some (f i) := by
  obtain ⟨c, hb, _, hc⟩ := h
  simp [World.cell?, hb, hc i hi]
theorem rowZ.frozen {w : World} {b : Nat} {t : TypeId} {N : Nat} {f : Nat → Value} (h : rowZ w b t N f) {i : Nat} (hi : i < N) : w.frozen? ⟨b, i, none⟩ = false := by
  obtain ⟨c, hb, hn, _⟩ := h
  simp [World.frozen?, hb]
  omega
theorem rowZ.congr {w : World} {b : Nat} {t : TypeId} {N : Nat} {f g : Nat → Value} (h : rowZ w b t N f) (e : ∀ i, i < N → f i = g i) : rowZ w b t N g := by
  obtain ⟨c, hb, hn, hc⟩ := h
  exact ⟨c, hb, hn, fun i hi => by rw [hc i hi, e i hi]⟩
theorem rowZ.set {w : World} {b : Nat} {t : TypeId} {N : Nat} {f : Nat → Value} (h : rowZ w b t N f) (i : Nat) (v : Value) : rowZ (w.setCell ⟨b, i, none⟩ v) b t N (fun j => if j = i then v else f j) := by
  obtain ⟨c, hb, hn, hc⟩ := h
  refine ⟨c.setIfInBounds i v, ?_, by simpa using hn, fun j hj => ?_⟩
  · simp [World.setCell, Array.getElem?_modify, hb]
  · rw [Array.getElem?_setIfInBounds]
    by_cases e : j = i
    · subst e
      simp
      omega
    · rw [if_neg (fun h => e h.symm)]
      show c[j]? = some (if j = i then v else f j)
      rw [if_neg e]
      exact hc j hj
/-- []byte(s), one's own. -/
theorem string_bytes_own (w : World) (s : ByteArray) :
    ∃ cap w', (convert 9 57 (.string s)).run Tryd.prog w = .ok (.slice (some ⟨w.heap.size, 0, none⟩) s.size cap) w' ∧ s.size ≤ cap ∧ rowZ w' w.heap.size 5 s.size (fun i => .int .u8 ((sBytes s).getD i 0)) ∧ Below w.heap.size w w' := by
  have hge := grownCap_ge w s.size 0 5
  refine ⟨_, _, Go.Lib.run_convert_string_bytes w 9 57 5 s Tryd.underlying9 Tryd.underlying57 Tryd.underlying5, hge, ⟨_, Go.Lib.bytesWorld_at_new w _ s, ?_, fun i hi => ?_⟩, rfl, rfl, rfl, by rw [Go.Lib.bytesWorld_size]; omega, fun k hk => Go.Lib.bytesWorld_at_old w _ s k hk⟩
  · unfold Go.Lib.bytesCells; rw [Array.size_append, Array.size_map]; show s.size ≤ s.size + _; omega
  · have hi' : i < s.data.size := hi
    show _ = some (Value.int IntKind.u8 ((sBytes s).getD i 0))
    unfold Go.Lib.bytesCells
    rw [Array.getElem?_append_left (by rw [Array.size_map]; exact hi'), Array.getElem?_map, Array.getElem?_eq_getElem hi', sBytes, List.getD_eq_getElem?_getD, List.getElem?_map, Array.getElem?_toList, Array.getElem?_eq_getElem hi']
    rfl
/-- a great letter of the first 128, small. -/
def smI (x : Int) : Int := if 65 ≤ x ∧ x ≤ 90 then x + 32 else x
def smS (s : ByteArray) : ByteArray := strOf ((sBytes s).map smI)
theorem smS_range (s : ByteArray) : strOf ((List.range s.size).map fun i => smI ((sBytes s).getD i 0)) = smS s := by
  unfold smS
  congr 1
  apply List.ext_getElem?
  intro i
  rw [List.getElem?_map, List.getElem?_map]
  by_cases h : i < s.size
  · have h' : i < (sBytes s).length := by rw [sBytes_length]; exact h
    rw [List.getElem?_range h, List.getElem?_eq_getElem h']
    simp [List.getD_eq_getElem?_getD, List.getElem?_eq_getElem h']
  · rw [List.getElem?_eq_none (by simp; omega), List.getElem?_eq_none (by rw [sBytes_length]; omega)]
    rfl
set_option maxHeartbeats 2000000 in
set_option maxRecDepth 100000 in
theorem small_any (s : ByteArray) (hs : s.size ≤ maxLen) (w : World) :
    Calls Tryd.prog 23 #[.string s] w fun e w' => e = .returned (.string (smS s)) ∧ Below w.heap.size w w' := by
  obtain ⟨cap, w1, hr, hcap, hz, hb1⟩ := string_bytes_own w s
  have hm : (s.size : Int) ≤ 9223372036854775807 := by unfold maxLen at hs; omega
  have hsz := sBytes_byte s
  have HZ : Hid (rowZ w1 w.heap.size 5 s.size (fun i => .int .u8 ((sBytes s).getD i 0))) := hz
  have HB1 : Hid (Below w.heap.size w w1) := hb1
  have HBY : Hid _ := hsz
  obtain ⟨b, hb⟩ : ∃ b, b = w.heap.size := ⟨_, rfl⟩
  rw [← hb] at hr
  have hcv := fun (wx : World) (hc : ∀ i, i < s.size → wx.cell? ⟨b, 0 + i, none⟩ = some (.int .u8 (smI ((sBytes s).getD i 0)))) => run_convert_row_string (P := Tryd.prog) wx 57 9 5 b 0 s.size cap (fun i => smI ((sBytes s).getD i 0)) Tryd.underlying57 Tryd.underlying5 Tryd.underlying9 hc
  have HC : Hid _ := hcv
  have HEQ : Hid (b = w.heap.size) := hb
  clear hcv hz hb1 hsz hs hb
  go_enter Tryd.func23, Tryd.ntmps23
  go_wp2
  clear hr
  go_loopw [10] (fun i wr => ∃ k : Nat, k ≤ s.size ∧ i = .int .i64 k ∧ Below w.heap.size w wr ∧ rowZ wr b 5 s.size (fun j => .int .u8 (if j < k then smI ((sBytes s).getD j 0) else (sBytes s).getD j 0))) (fun i _ => s.size - (intOf i).toNat)
  case atStart =>
    exact ⟨0, by omega, rfl, HB1.out, by rw [HEQ.out]; exact HZ.out.congr fun i _ => by rw [if_neg (by omega)]⟩
  case round =>
    obtain ⟨k, hk, rfl, hb, r⟩ := hrel
    by_cases hlt : k < s.size
    · have k0 : (0 : Int) ≤ (k : Int) := by omega
      have k1 : (k : Int) < (s.size : Int) := by omega
      have c1 := r.cell hlt
      rw [if_neg (by omega)] at c1
      have z1 := r.frozen hlt
      obtain ⟨x, hx⟩ : ∃ x, x = (sBytes s).getD k 0 := ⟨_, rfl⟩
      have hxb := HBY.out k
      rw [← hx] at c1 hxb
      have HX : Hid _ := hx
      obtain ⟨x0, x1⟩ := hxb
      have R : Hid (rowZ wr b 5 s.size (fun j => .int .u8 (if j < k then smI ((sBytes s).getD j 0) else (sBytes s).getD j 0))) := r
      have B : Hid (Below w.heap.size w wr) := hb
      clear hx r hb
      by_cases h1 : (65 : Int) ≤ x
      · by_cases h2 : x ≤ 90
        · go_wp2
          go_light
          refine ⟨⟨k + 1, by omega, by go_num, B.out.setCell (by rw [HEQ.out]; exact Nat.le_refl _) _, (R.out.set k _).congr fun i _ => ?_⟩, by simp [intOf]; omega⟩
          by_cases e : i = k
          · subst e
            rw [if_pos rfl, if_pos (by omega), ← HX.out, smI, if_pos ⟨h1, h2⟩]
            congr 1
            go_num
          · rw [if_neg e]
            by_cases e2 : i < k
            · rw [if_pos e2, if_pos (by omega)]
            · rw [if_neg e2, if_neg (by omega)]
        · go_wp2
          go_light
          refine ⟨⟨k + 1, by omega, by go_num, B.out, R.out.congr fun i _ => ?_⟩, by simp [intOf]; omega⟩
          by_cases e : i = k
          · subst e
            rw [if_neg (by omega), if_pos (by omega), ← HX.out, smI, if_neg (by omega)]
          · by_cases e2 : i < k
            · rw [if_pos e2, if_pos (by omega)]
            · rw [if_neg e2, if_neg (by omega)]
      · go_wp2
        go_light
        refine ⟨⟨k + 1, by omega, by go_num, B.out, R.out.congr fun i _ => ?_⟩, by simp [intOf]; omega⟩
        by_cases e : i = k
        · subst e
          rw [if_neg (by omega), if_pos (by omega), ← HX.out, smI, if_neg (by omega)]
        · by_cases e2 : i < k
          · rw [if_pos e2, if_pos (by omega)]
          · rw [if_neg e2, if_neg (by omega)]
    · obtain rfl : k = s.size := by omega
      have hcv := HC.out wr (fun i hi => by rw [Nat.zero_add, r.cell hi, if_pos (by omega)])
      rw [smS_range] at hcv
      have B : Hid (Below w.heap.size w wr) := hb
      clear hb r
      go_wp2
      go_ret
      exact ⟨rfl, B.out⟩
end Go.Proofs.YthjfalbchkbdfaaDoor

/- The document's Fault, May, Letter, Small. -/
namespace Go.Proofs.YthjfalbchkbdfaaDoor
set_option linter.unusedSimpArgs false
set_option linter.unusedVariables false
open Go.RowKit Go.Deep

set_option maxHeartbeats 2000000 in
set_option maxRecDepth 100000 in
theorem rfault_any (s : ByteArray) (hs : s.size ≤ maxLen) (w : World) :
    Calls Tryd.prog 39 #[.string s] w fun e w' => e = .returned (.int .i64 (fl s)) ∧ Below w.heap.size w w' := by
  have hm : (s.size : Int) ≤ 9223372036854775807 := by unfold maxLen at hs; omega
  have HS : Hid (s.size ≤ maxLen) := (show s.size ≤ maxLen from hs)
  clear hs
  go_enter Tryd.func39, Tryd.ntmps39
  go_wp2_with fail
  go_loopw [3] (fun i wr => ∃ m : Nat, i = .int .i64 (m : Int) ∧ flAt s m = fl s ∧ m ≤ s.size ∧ Below w.heap.size w wr) (fun i _ => s.size - (intOf i).toNat)
  case atStart => exact ⟨0, rfl, rfl, by omega, Below.refl _ _⟩
  case round =>
    obtain ⟨m, rfl, hf, hmm, hb⟩ := hrel
    have HB : Hid (Below w.heap.size w wr) := hb
    have X := rnext_any s HS.out ((m : Nat) : Int) (by omega) wr
    rw [nxI_nat] at X
    have h1 := nx_size s m
    have h2 := flAt_stop (s := s) (k := m)
    have h3 := flAt_step (s := s) (k := m)
    generalize nx s m = c at X h1 h2 h3
    obtain ⟨r, z⟩ := c
    simp only at X h1 h2 h3
    have HZ : Hid ((z = 0 → fl s = m) ∧ (z ≠ 0 → flAt s (m + z) = fl s)) := (show _ from ⟨fun h => by rw [← hf, h2 h], fun h => by rw [← hf, h3 h]⟩)
    have z0 : (m : Int) + (z : Int) ≤ (s.size : Int) := by omega
    clear h1 h2 h3 hb hf
    go_wp2_with fail
    refine X.mono ?_
    rintro e w1 ⟨rfl, b1⟩
    have B1 : Hid (Below w.heap.size w w1) := (show Below w.heap.size w w1 from HB.out.trans (b1.mono HB.out.size))
    clear X b1
    by_cases hz : z = 0
    · subst hz
      go_wp2
      go_ret
      exact ⟨by rw [HZ.out.1 trivial]; rfl, B1.out⟩
    · have hz' : ¬ (z : Int) = 0 := by omega
      go_wp2
      go_light
      exact ⟨⟨m + z, by rw [Int.natCast_add], HZ.out.2 hz, by omega, B1.out⟩, by simp [intOf]; omega⟩
theorem rmay_any (s : ByteArray) (hs : s.size ≤ maxLen) (w : World) :
    Calls Tryd.prog 28 #[.string s] w fun e w' => e = .returned (.bool (decide (fl s = s.size))) ∧ Below w.heap.size w w' := by
  have X := rfault_any s hs w
  have e : (decide (fl s = s.size)) = (decide ((fl s : Int) = (s.size : Int))) := decide_eq_decide.2 (by omega)
  rw [e]
  clear e
  go_enter Tryd.func28, Tryd.ntmps28
  go_wp2_with fail
  refine X.mono ?_
  rintro e w1 ⟨rfl, b1⟩
  clear X
  go_wp2
  go_ret
  exact ⟨rfl, b1⟩
theorem wpList_runU {P : Program} {ops : Array Oper} {rest : List Oper} {o : Oper} {a : Act} {w w' : World} {Q : Exit → Act → World → Prop} {v : Value} (hgd : o.guard = none) (hr : (execOp a.eval o).run P w = .ok (.value v) w') (h : wpList P ops Q rest (a.put o.dst v) w') : wpList P ops Q (o :: rest) a w :=
  wpList_plain hgd fun _ hK => wp_of_run hr (hK _ _ h)
/-- the document's row of letters. -/
def lrow : Array Value := (ltL.flatMap fun p => [Value.int .i64 p.1, Value.int .i64 p.2]).toArray
theorem flat2 : ∀ (l : List (Int × Int)) (i : Nat) (x : Int × Int), l[i]? = some x → (l.flatMap fun p => [Value.int .i64 p.1, Value.int .i64 p.2])[i * 2]? = some (.int .i64 x.1) ∧ (l.flatMap fun p => [Value.int .i64 p.1, Value.int .i64 p.2])[i * 2 + 1]? = some (.int .i64 x.2)
  | [], i, x, h => by simp at h
  | y :: t, 0, x, h => by
    simp at h
    subst h
    exact ⟨rfl, rfl⟩
  | y :: t, i + 1, x, h => by
    simp at h
    have := flat2 t i x h
    rw [List.flatMap_cons]
    rw [show (i + 1) * 2 = (i * 2) + 2 by omega, show (i * 2) + 2 + 1 = (i * 2 + 1) + 2 by omega]
    exact this
theorem lrow_cell (w : World) (i : Nat) (hi : i < 43) : (w.alloc (.cells lrow 3)).cell? ⟨w.heap.size, i * 2, none⟩ = some (.int .i64 (ltA i)) ∧ (w.alloc (.cells lrow 3)).cell? ⟨w.heap.size, i * 2 + 1, none⟩ = some (.int .i64 (ltB i)) := by
  have hl : ltL[i]? = some (ltL.getD i (0, 0)) := by
    rw [List.getD_eq_getElem?_getD, List.getElem?_eq_getElem (show i < ltL.length from hi)]; rfl
  have := flat2 ltL i _ hl
  rw [cell_of_row _ _ _ _ _ _ (blk_alloc_new w _), cell_of_row _ _ _ _ _ _ (blk_alloc_new w _)]
  exact ⟨by rw [lrow, List.getElem?_toArray]; exact this.1, by rw [lrow, List.getElem?_toArray]; exact this.2⟩
set_option maxHeartbeats 4000000 in
set_option maxRecDepth 100000 in
theorem rletter_any (c : Int) (w : World) :
    Calls Tryd.prog 41 #[.int .i64 c] w fun e w' => e = .returned (.bool (letB c)) ∧ Below w.heap.size w w' := by
  obtain ⟨w1, hw1⟩ : ∃ w1, w1 = w.alloc (.cells lrow 3) := ⟨_, rfl⟩
  have b1 : Below w.heap.size w w1 := by rw [hw1]; exact (Below.refl _ _).alloc (Nat.le_refl _) _
  obtain ⟨fb, hfb⟩ : ∃ fb, fb = w.heap.size := ⟨_, rfl⟩
  have FC : Hid (∀ i, i < 43 → w1.cell? ⟨fb, i * 2, none⟩ = some (.int .i64 (ltA i)) ∧ w1.cell? ⟨fb, i * 2 + 1, none⟩ = some (.int .i64 (ltB i))) := (show _ from fun i hi => by rw [hw1, hfb]; exact lrow_cell w i hi)
  have B1 : Hid (Below w.heap.size w w1) := (show Below w.heap.size w w1 from b1)
  clear b1
  go_enter Tryd.func41, Tryd.ntmps41
  go_upto_region 1 with fail
  go_wp2_with (first | (refine wpList_runU (v := .slice (some ⟨w.heap.size, 0, none⟩) 86 86) (w' := w1) rfl (by rw [hw1]; kernel_rfl) ?_; rw [← hfb]; clear hw1 hfb))
  go_loopw [4] (fun i wr => ∃ j : Nat, j ≤ 43 ∧ i = .int .i64 ((j : Int) * 2) ∧ (∀ t, t < j → ¬ (ltA t ≤ c ∧ c ≤ ltB t)) ∧ wr = w1) (fun i _ => 86 - (intOf i).toNat)
  case atStart => exact ⟨0, by omega, rfl, fun t ht => by omega, rfl⟩
  case round =>
    obtain ⟨j, hj, rfl, hno, hw⟩ := hrel
    obtain rfl := hw.symm
    have HN : Hid (∀ t, t < j → ¬ (ltA t ≤ c ∧ c ≤ ltB t)) := (show _ from hno)
    have j0 : (0 : Int) ≤ (j : Int) * 2 := by omega
    have j1 : ((j : Int) * 2).toNat = j * 2 := by omega
    have j2 : ((j : Int) * 2 + 1).toNat = j * 2 + 1 := by omega
    clear hno hw
    by_cases hlt : j < 43
    · have j3 : (j : Int) * 2 < 86 := by omega
      have j4 : (j : Int) * 2 + 1 < 86 := by omega
      obtain ⟨c1, c2⟩ := FC.out j hlt
      obtain ⟨a, ha⟩ : ∃ a, a = ltA j := ⟨_, rfl⟩
      obtain ⟨b, hb⟩ : ∃ b, b = ltB j := ⟨_, rfl⟩
      rw [← ha] at c1
      rw [← hb] at c2
      have HA : Hid (a = ltA j ∧ b = ltB j) := (show _ ∧ _ from ⟨ha, hb⟩)
      clear ha hb
      by_cases h1 : a ≤ c
      · by_cases h2 : c ≤ b
        · have HL : Hid (letB c = true) := (show letB c = true from (letB_is c).2 ⟨j, hlt, by rw [← HA.out.1]; exact h1, by rw [← HA.out.2]; exact h2⟩)
          go_wp2
          go_ret
          exact ⟨by rw [HL.out]; rfl, B1.out⟩
        · go_wp2
          go_light
          refine ⟨⟨j + 1, by omega, by go_num, fun t ht => ?_, trivial⟩, by simp [intOf]; omega⟩
          by_cases e : t = j
          · subst e; intro h; rw [← HA.out.2] at h; exact h2 h.2
          · exact HN.out t (by omega)
      · go_wp2
        go_light
        refine ⟨⟨j + 1, by omega, by go_num, fun t ht => ?_, trivial⟩, by simp [intOf]; omega⟩
        by_cases e : t = j
        · subst e; intro h; rw [← HA.out.1] at h; exact h1 h.1
        · exact HN.out t (by omega)
    · obtain rfl : j = 43 := by omega
      have HL : Hid (letB c = false) := (show letB c = false from by
        cases e : letB c with
        | false => rfl
        | true => obtain ⟨i, hi, h⟩ := (letB_is c).1 e; exact absurd h (HN.out i hi))
      go_wp2
      go_ret
      exact ⟨by rw [HL.out]; rfl, B1.out⟩
end Go.Proofs.YthjfalbchkbdfaaDoor

/- The document's Small. -/
namespace Go.Proofs.YthjfalbchkbdfaaDoor
set_option linter.unusedSimpArgs false
set_option linter.unusedVariables false
open Go.RowKit Go.Deep

theorem strOf_append (l m : List Int) : strOf l ++ strOf m = strOf (l ++ m) := by
  unfold strOf
  apply ByteArray.ext
  simp [ByteArray.data_append]
theorem conv_one (w : World) (x : Int) : (convert 57 9 (.slice (some ⟨w.heap.size, 0, none⟩) 1 1)).run Tryd.prog (w.alloc (.cells #[.int .u8 x] 5)) = .ok (.string (strOf [x])) (w.alloc (.cells #[.int .u8 x] 5)) :=
  conv_lit (w.alloc (.cells #[.int .u8 x] 5)) w.heap.size 1 1 (fun _ => x) (fun i hi => by
    obtain rfl : i = 0 := by omega
    rw [cell_of_row _ _ _ _ _ _ (blk_alloc_new w _)]; rfl)
theorem sBytes_bt (s : ByteArray) (k : Nat) : (sBytes s).getD k 0 = (bt s k : Int) := by
  unfold bt
  by_cases h : k < s.size
  · rw [get_ok s k h, sBytes, List.getD_eq_getElem?_getD, List.getElem?_map, Array.getElem?_toList]
    have h' : k < s.data.size := h
    rw [Array.getElem?_eq_getElem h']
    rfl
  · rw [get_out s k h, List.getD_eq_getElem?_getD, List.getElem?_eq_none (by rw [sBytes_length]; omega)]; rfl
set_option maxHeartbeats 4000000 in
set_option maxRecDepth 100000 in
theorem rsmall_any (s : ByteArray) (hs : s.size ≤ maxLen) (w : World) :
    Calls Tryd.prog 42 #[.string s] w fun e w' => e = .returned (.string (smS s)) ∧ Below w.heap.size w w' := by
  have hm : (s.size : Int) ≤ 9223372036854775807 := by unfold maxLen at hs; omega
  have hone := conv_one
  have HO : Hid _ := hone
  clear hs hone
  go_enter Tryd.func42, Tryd.ntmps42
  go_wp2_with fail
  go_loopw [3, 4] (fun z i wr => ∃ j : Nat, j ≤ s.size ∧ i = .int .i64 (j : Int) ∧ z = .string (strOf ((List.range j).map fun i => smI ((sBytes s).getD i 0))) ∧ Below w.heap.size w wr) (fun _ i _ => s.size - (intOf i).toNat)
  case atStart => exact ⟨0, by omega, rfl, rfl, Below.refl _ _⟩
  case round =>
    obtain ⟨j, hj, rfl, rfl, hb⟩ := hrel
    have HB : Hid (Below w.heap.size w wr) := (show Below w.heap.size w wr from hb)
    have j0 : (0 : Int) ≤ (j : Int) := by omega
    have hl : (strOf ((List.range j).map fun i => smI ((sBytes s).getD i 0))).size = j := by rw [strOf_size]; simp
    have hnx : ∀ y, y = smI ((sBytes s).getD j 0) → strOf ((List.range j).map fun i => smI ((sBytes s).getD i 0)) ++ strOf [y] = strOf ((List.range (j + 1)).map fun i => smI ((sBytes s).getD i 0)) := fun y hy => by
      rw [strOf_append, List.range_succ, List.map_append, hy]; rfl
    rw [sBytes_bt s j] at hnx
    clear hb
    by_cases hlt : j < s.size
    · have j1 : (j : Int) < (s.size : Int) := by omega
      have hb0 := bt_get s j hlt
      have hbl := bt_lt s j
      have hbl' : (bt s j : Int) ≤ 255 := by omega
      have hbl0 : (0 : Int) ≤ (bt s j : Int) := by omega
      have HN : Hid (∀ y, y = smI (bt s j : Int) → strOf ((List.range j).map fun i => smI ((sBytes s).getD i 0)) ++ strOf [y] = strOf ((List.range (j + 1)).map fun i => smI ((sBytes s).getD i 0))) := (show _ from hnx)
      generalize strOf ((List.range j).map fun i => smI ((sBytes s).getD i 0)) = Z at hl HN ⊢
      have hZ : (Z.size : Int) + 1 ≤ 9223372036854775807 := by omega
      obtain ⟨x, hx⟩ : ∃ x : Int, (bt s j : Int) = x := ⟨_, rfl⟩
      rw [hx] at hbl' hbl0 HN
      clear hnx hbl hl
      by_cases h1 : x ≥ 65
      · by_cases h2 : x ≤ 90
        · have c1 := HO.out wr (x + 32)
          have hsz : (strOf [x + 32]).size = 1 := rfl
          have HY : Hid (Z ++ strOf [x + 32] = strOf ((List.range (j + 1)).map fun i => smI ((sBytes s).getD i 0))) := (show Z ++ strOf [x + 32] = strOf ((List.range (j + 1)).map fun i => smI ((sBytes s).getD i 0)) from HN.out (x + 32) (by unfold smI; rw [if_pos ⟨h1, h2⟩]))
          generalize strOf [x + 32] = Y at c1 hsz HY
          have hcat : ¬ (9223372036854775807 < Z.size + Y.size) := by omega
          go_wp2
          go_light
          exact ⟨⟨j + 1, by omega, by go_num, by rw [HY.out], HB.out.alloc HB.out.size _⟩, by simp [intOf]; omega⟩
        · have c1 := HO.out wr x
          have hsz : (strOf [x]).size = 1 := rfl
          have HY : Hid (Z ++ strOf [x] = strOf ((List.range (j + 1)).map fun i => smI ((sBytes s).getD i 0))) := (show Z ++ strOf [x] = strOf ((List.range (j + 1)).map fun i => smI ((sBytes s).getD i 0)) from HN.out x (by unfold smI; rw [if_neg (by omega)]))
          generalize strOf [x] = Y at c1 hsz HY
          have hcat : ¬ (9223372036854775807 < Z.size + Y.size) := by omega
          go_wp2
          go_light
          exact ⟨⟨j + 1, by omega, by go_num, by rw [HY.out], HB.out.alloc HB.out.size _⟩, by simp [intOf]; omega⟩
      · have c1 := HO.out wr x
        have hsz : (strOf [x]).size = 1 := rfl
        have HY : Hid (Z ++ strOf [x] = strOf ((List.range (j + 1)).map fun i => smI ((sBytes s).getD i 0))) := (show Z ++ strOf [x] = strOf ((List.range (j + 1)).map fun i => smI ((sBytes s).getD i 0)) from HN.out x (by unfold smI; rw [if_neg (by omega)]))
        generalize strOf [x] = Y at c1 hsz HY
        have hcat : ¬ (9223372036854775807 < Z.size + Y.size) := by omega
        go_wp2
        go_light
        exact ⟨⟨j + 1, by omega, by go_num, by rw [HY.out], HB.out.alloc HB.out.size _⟩, by simp [intOf]; omega⟩
    · obtain rfl : j = s.size := by omega
      rw [smS_range]
      clear hnx hl
      go_wp2
      go_ret
      exact ⟨rfl, HB.out⟩
end Go.Proofs.YthjfalbchkbdfaaDoor
