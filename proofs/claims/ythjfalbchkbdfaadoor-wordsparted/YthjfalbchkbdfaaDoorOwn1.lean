import Derived.Test.YthjfalbchkbdfaaDoorChecked
import Derived.Shelf.Unicode.DecodeAny
import Derived.Lib.DecodeNEq
import Derived.Lib.Strings
import Derived.WalkKit
import Derived.WalkSpells
import Derived.Deep.OwnRows
import Derived.Deep.MidRow
import Derived.Deep.Draws
import Derived.Deep.AppendLies
import Derived.Test.YthjfalbchkbdfaaDoorRows
import Derived.Laws.BytesString
import Derived.Lib.SliceRun
import Derived.Deep.Light
import Derived.BigRegion
import Derived.WalkMore
import Derived.ScopeJumps
import Derived.Deep.RegionHeld3
import Derived.RangeFuncNested
import Derived.RangeFuncBound
import Derived.RangeFuncCalls
import Derived.RangeFuncLeaves
import Derived.Shelf.Abstract
import Derived.Shelf.RegionOpen
import Derived.OwnWalkIn
import Derived.TacticsInMore
import Derived.LoopNIn
import Derived.LoopIn
import Derived.IntWalk
import Derived.OrdersIn
import Derived.RangeFuncOwn
import Derived.Lib.SlicesS
import Derived.BigQuiet
import Derived.KernelRfl
import Derived.Deep.AppendSrc
import Derived.Lib.ConvBytes
set_option linter.unusedVariables false
set_option linter.unusedSimpArgs false
/- unicode/utf8.DecodeRuneInString of this program: the library's contract, laid at its numbers. -/
namespace Go.Proofs.YthjfalbchkbdfaaDoor
open Go.Shelf Go.RowKit

def uRen : Ren :=
  ⟨fun | 197 => 63 | 260 => 77 | n => n,
   fun | 0 => 0 | 3 => 3 | 4 => 4 | 5 => 5 | 9 => 9 | 21 => 21 | 46 => 92 | 105 => 93 | 119 => 118 | 138 => 120 | 139 => 121 | n => n,
   fun | 3 => 1 | 4 => 2 | n => n⟩
set_option maxRecDepth 100000 in
theorem uLays : Lays.n197 Tryd.prog uRen where
  mixed := by kernel_rfl
  f197 := Tryd.func63.trans (congrArg some (by kernel_rfl))
  f260 := Tryd.func77.trans (congrArg some (by kernel_rfl))
  t0 := Tryd.underlying0
  a0 := Tryd.isAgg0
  z0 := Tryd.sizeOf0
  v0 := Tryd.zeroValue0
  t3 := Tryd.underlying3
  a3 := Tryd.isAgg3
  z3 := Tryd.sizeOf3
  v3 := Tryd.zeroValue3
  t4 := Tryd.underlying4
  a4 := Tryd.isAgg4
  z4 := Tryd.sizeOf4
  v4 := Tryd.zeroValue4
  t5 := Tryd.underlying5
  a5 := Tryd.isAgg5
  z5 := Tryd.sizeOf5
  v5 := Tryd.zeroValue5
  t9 := Tryd.underlying9
  a9 := Tryd.isAgg9
  z9 := Tryd.sizeOf9
  v9 := Tryd.zeroValue9
  t21 := Tryd.underlying21
  a21 := Tryd.isAgg21
  z21 := Tryd.sizeOf21
  v21 := Tryd.zeroValue21
  t46 := Tryd.underlying92
  a46 := Tryd.isAgg92
  z46 := Tryd.sizeOf92
  v46 := Tryd.zeroValue92
  t105 := Tryd.underlying93
  a105 := Tryd.isAgg93
  z105 := Tryd.sizeOf93
  v105 := Tryd.zeroValue93
  t119 := Tryd.underlying118
  a119 := Tryd.isAgg118
  z119 := Tryd.sizeOf118
  t138 := Tryd.underlying120
  a138 := Tryd.isAgg120
  z138 := Tryd.sizeOf120
  v138 := Tryd.zeroValue120
  t139 := Tryd.underlying121
  a139 := Tryd.isAgg121
  z139 := Tryd.sizeOf121
  v139 := Tryd.zeroValue121
  g3 := by kernel_rfl
  g4 := by kernel_rfl
/-- THE STRICT DECODER, at every string. -/
theorem decode_any (s : ByteArray) (w : World) (hT : Lib.Utf8Tabs 1 2 w) :
    Calls Tryd.prog 63 #[.string s] w fun e w' => e = .returned (.tuple #[.int .i32 (Lib.decodeGo s).1, .int .i64 (Lib.decodeGo s).2]) ∧ Below w.heap.size w w' :=
  Any.utf8_DecodeRuneInString uLays s w hT
end Go.Proofs.YthjfalbchkbdfaaDoor

/- Layer 8, pure: which code point stands at a byte; up to where a text is right. -/
namespace Go.Proofs.YthjfalbchkbdfaaDoor
open Go.Lib (decodeN)
set_option linter.unusedVariables false

theorem get_ok (s : ByteArray) (k : Nat) (h : k < s.size) : s.get! k = s[k]'h := by
  cases s with
  | mk d => exact getElem!_pos d k h
theorem get_out (s : ByteArray) (k : Nat) (h : ¬ k < s.size) : s.get! k = 0 := by
  cases s with
  | mk d => exact getElem!_neg d k h
/-- the byte at a place; 0 behind the end. -/
def bt (s : ByteArray) (i : Nat) : Nat := (s.get! i).toNat
theorem bt_lt (s : ByteArray) (i : Nat) : bt s i < 256 := (s.get! i).toNat_lt
/-- strictly: of n bytes that begin so. -/
def nxN (n b0 b1 b2 b3 : Nat) : Nat × Nat := if n = 0 then (0, 0) else if decodeN n b0 b1 b2 b3 = (65533, 1) then (0, 0) else decodeN n b0 b1 b2 b3
/-- the code point at a byte, and how many bytes it has. -/
def nx (s : ByteArray) (k : Nat) : Nat × Nat := nxN (s.size - k) (bt s k) (bt s (k + 1)) (bt s (k + 2)) (bt s (k + 3))
def nxI (s : ByteArray) (k : Int) : Nat × Nat := if k < 0 ∨ (s.size : Int) ≤ k then (0, 0) else nx s k.toNat

set_option maxHeartbeats 4000000 in
set_option maxRecDepth 100000 in
/-- what is told, outright. -/
theorem nxN_is (n b0 b1 b2 b3 : Nat) : nxN n b0 b1 b2 b3 =
    if n = 0 then (0, 0) else if b0 < 128 then (b0, 1)
    else if 194 ≤ b0 ∧ b0 < 224 ∧ 1 < n ∧ b1 / 64 = 2 then (b0 % 32 * 64 + b1 % 64, 2)
    else if b0 / 16 = 14 ∧ 2 < n ∧ b1 / 64 = 2 ∧ b2 / 64 = 2 ∧ 2048 ≤ b0 % 16 * 4096 + b1 % 64 * 64 + b2 % 64 ∧ ¬ (55296 ≤ b0 % 16 * 4096 + b1 % 64 * 64 + b2 % 64 ∧ b0 % 16 * 4096 + b1 % 64 * 64 + b2 % 64 < 57344) then (b0 % 16 * 4096 + b1 % 64 * 64 + b2 % 64, 3)
    else if b0 / 8 = 30 ∧ 3 < n ∧ b1 / 64 = 2 ∧ b2 / 64 = 2 ∧ b3 / 64 = 2 ∧ 65536 ≤ b0 % 8 * 262144 + b1 % 64 * 4096 + b2 % 64 * 64 + b3 % 64 ∧ b0 % 8 * 262144 + b1 % 64 * 4096 + b2 % 64 * 64 + b3 % 64 ≤ 1114111 then (b0 % 8 * 262144 + b1 % 64 * 4096 + b2 % 64 * 64 + b3 % 64, 4)
    else (0, 0) := by
  unfold nxN decodeN
  by_cases h0 : n = 0
  · simp [h0]
  by_cases a1 : b0 < 128
  · have e : b0 ≠ 65533 := by omega
    simp [h0, a1, e]
  simp only [h0, a1, if_false]
  by_cases a2 : b0 / 32 = 6 ∧ (1 < n ∧ b1 / 64 = 2)
  · rw [if_pos a2]
    have n3 : ¬ (b0 / 16 = 14) := by omega
    have n4 : ¬ (b0 / 8 = 30) := by omega
    by_cases hc : b0 % 32 * 64 + b1 % 64 ≥ 128
    · have hb : 194 ≤ b0 ∧ b0 < 224 ∧ 1 < n ∧ b1 / 64 = 2 := by omega
      simp [hc, hb]
    · have hb : ¬ (194 ≤ b0 ∧ b0 < 224 ∧ 1 < n ∧ b1 / 64 = 2) := by omega
      rw [if_neg hc, if_pos rfl, if_neg hb, if_neg (by omega), if_neg (by omega)]
  · rw [if_neg a2]
    have hb : ¬ (194 ≤ b0 ∧ b0 < 224 ∧ 1 < n ∧ b1 / 64 = 2) := by omega
    rw [if_neg hb]
    by_cases a3 : b0 / 16 = 14 ∧ (1 < n ∧ b1 / 64 = 2) ∧ (2 < n ∧ b2 / 64 = 2)
    · rw [if_pos a3]
      by_cases hc : b0 % 16 * 4096 + b1 % 64 * 64 + b2 % 64 ≥ 2048 ∧ (b0 % 16 * 4096 + b1 % 64 * 64 + b2 % 64 < 55296 ∨ (57344 ≤ b0 % 16 * 4096 + b1 % 64 * 64 + b2 % 64 ∧ b0 % 16 * 4096 + b1 % 64 * 64 + b2 % 64 ≤ 1114111))
      · rw [if_pos hc, if_neg (by simp), if_pos (by omega)]
      · rw [if_neg hc, if_pos rfl, if_neg (by omega), if_neg (by omega)]
    · rw [if_neg a3]
      by_cases a4 : b0 / 8 = 30 ∧ (1 < n ∧ b1 / 64 = 2) ∧ (2 < n ∧ b2 / 64 = 2) ∧ (3 < n ∧ b3 / 64 = 2)
      · rw [if_pos a4]
        by_cases hc : b0 % 8 * 262144 + b1 % 64 * 4096 + b2 % 64 * 64 + b3 % 64 ≥ 65536 ∧ (b0 % 8 * 262144 + b1 % 64 * 4096 + b2 % 64 * 64 + b3 % 64 < 55296 ∨ (57344 ≤ b0 % 8 * 262144 + b1 % 64 * 4096 + b2 % 64 * 64 + b3 % 64 ∧ b0 % 8 * 262144 + b1 % 64 * 4096 + b2 % 64 * 64 + b3 % 64 ≤ 1114111))
        · rw [if_pos hc, if_neg (by simp), if_neg (by omega), if_pos (by omega)]
        · rw [if_neg hc, if_pos rfl, if_neg (by omega), if_neg (by omega)]
      · rw [if_neg a4, if_pos rfl, if_neg (by omega), if_neg (by omega)]
/-- its size fits. -/
theorem nxN_size (n b0 b1 b2 b3 : Nat) : (nxN n b0 b1 b2 b3).2 ≤ n ∧ (nxN n b0 b1 b2 b3).2 ≤ 4 ∧ ((nxN n b0 b1 b2 b3).2 = 0 → (nxN n b0 b1 b2 b3).1 = 0) ∧ (nxN n b0 b1 b2 b3).1 ≤ 1114111 := by
  rw [nxN_is]
  repeat' split
  all_goals (refine ⟨?_, ?_, ?_, ?_⟩ <;> first | omega | (intro h; exact absurd h (by decide)) | rfl | simp)
/-- what is told hangs on its bytes alone. -/
theorem nxN_same {n n' b0 b1 b2 b3 c0 c1 c2 c3 c z : Nat} (h : nxN n b0 b1 b2 b3 = (c, z)) (hz : 0 < z) (hn : z ≤ n') (h0 : c0 = b0) (h1 : 1 < z → c1 = b1) (h2 : 2 < z → c2 = b2) (h3 : 3 < z → c3 = b3) : nxN n' c0 c1 c2 c3 = (c, z) := by
  subst h0
  rw [nxN_is] at h ⊢
  repeat' split at h
  all_goals simp only [Prod.mk.injEq] at h
  all_goals obtain ⟨rfl, rfl⟩ := h
  · omega
  · rw [if_neg (by omega), if_pos (by assumption)]
  · obtain rfl := h1 (by omega)
    rw [if_neg (by omega), if_neg (by omega), if_pos (by omega)]
  · obtain rfl := h1 (by omega)
    obtain rfl := h2 (by omega)
    rw [if_neg (by omega), if_neg (by omega), if_neg (by omega), if_pos (by omega)]
  · obtain rfl := h1 (by omega)
    obtain rfl := h2 (by omega)
    obtain rfl := h3 (by omega)
    rw [if_neg (by omega), if_neg (by omega), if_neg (by omega), if_neg (by omega), if_pos (by omega)]
  · omega
theorem nx_size (s : ByteArray) (k : Nat) : k + (nx s k).2 ≤ s.size ∨ (nx s k).2 = 0 := by
  have := (nxN_size (s.size - k) (bt s k) (bt s (k + 1)) (bt s (k + 2)) (bt s (k + 3))).1
  unfold nx; omega
theorem nx_four (s : ByteArray) (k : Nat) : (nx s k).2 ≤ 4 := (nxN_size _ _ _ _ _).2.1
theorem nx_none {s : ByteArray} {k : Nat} (h : (nx s k).2 = 0) : nx s k = (0, 0) := Prod.ext ((nxN_size _ _ _ _ _).2.2.1 h) h
theorem nx_end {s : ByteArray} {k : Nat} (h : s.size ≤ k) : nx s k = (0, 0) := by
  unfold nx nxN; rw [if_pos (by omega)]
/-- up to which byte a text is right. -/
def flF (s : ByteArray) : Nat → Nat → Nat
  | 0, k => k
  | f + 1, k => if (nx s k).2 = 0 then k else flF s f (k + (nx s k).2)
theorem flF_more (s : ByteArray) : ∀ f g k, s.size ≤ k + f → s.size ≤ k + g → flF s f k = flF s g k
  | 0, 0, k, _, _ => rfl
  | 0, g + 1, k, h, _ => by rw [flF, flF, nx_end (by omega)]; rfl
  | f + 1, 0, k, _, h => by rw [flF, flF, nx_end (by omega)]; rfl
  | f + 1, g + 1, k, h1, h2 => by
    rw [flF, flF]
    by_cases e : (nx s k).2 = 0
    · rw [if_pos e, if_pos e]
    · rw [if_neg e, if_neg e]; exact flF_more s f g _ (by omega) (by omega)
def flAt (s : ByteArray) (k : Nat) : Nat := flF s s.size k
def fl (s : ByteArray) : Nat := flAt s 0
theorem flAt_stop {s : ByteArray} {k : Nat} (h : (nx s k).2 = 0) : flAt s k = k := by
  unfold flAt
  cases s.size with
  | zero => rfl
  | succ f => rw [flF, if_pos h]
theorem flAt_step {s : ByteArray} {k : Nat} (h : (nx s k).2 ≠ 0) : flAt s k = flAt s (k + (nx s k).2) := by
  unfold flAt
  rw [flF_more s s.size (s.size + 1) k (by omega) (by omega), flF, if_neg h]
theorem flAt_le (s : ByteArray) : ∀ d k, s.size = k + d → k ≤ flAt s k ∧ flAt s k ≤ s.size := by
  intro d
  induction d using Nat.strongRecOn with
  | ind d ih =>
    intro k hk
    by_cases e : (nx s k).2 = 0
    · rw [flAt_stop e]; omega
    · rw [flAt_step e]
      rcases nx_size s k with h | h
      · have := ih (d - (nx s k).2) (by omega) (k + (nx s k).2) (by omega)
        omega
      · exact absurd h e
theorem fl_le (s : ByteArray) : fl s ≤ s.size := (flAt_le s s.size 0 (by omega)).2
end Go.Proofs.YthjfalbchkbdfaaDoor

/- Rows of memory, said by the index: what a load of a whole array or struct gives, what a store of one leaves. -/
namespace Go.Proofs.YthjfalbchkbdfaaDoor
open Go.RowKit Go.Deep

/-- n values as an array, by the index. -/
def rowV (n : Nat) (f : Nat → Value) : Array Value := Array.ofFn (n := n) (fun i => f i.val)
theorem rowV_size (n : Nat) (f : Nat → Value) : (rowV n f).size = n := by simp [rowV]
theorem rowV_get (n : Nat) (f : Nat → Value) (i : Nat) (h : i < n) : (rowV n f)[i]? = some (f i) := by simp [rowV, h]
theorem rowV_eq {n : Nat} {f : Nat → Value} {c : Array Value} (hs : c.size = n) (hc : ∀ i, i < n → c[i]? = some (f i)) : c = rowV n f := by
  apply Array.ext_getElem?
  intro i
  by_cases h : i < n
  · rw [hc i h, rowV_get n f i h]
  · rw [Array.getElem?_eq_none (by omega), Array.getElem?_eq_none (by rw [rowV_size]; omega)]
/-- A new block whose cells are written out. -/
theorem rowIs_new (w : World) (c : Array Value) (t : TypeId) (n : Nat) (f : Nat → Value) (hs : c.size = n) (hc : ∀ i, i < n → c[i]? = some (f i)) : (w.alloc (.cells c t)).rowIs w.heap.size t n f := by
  subst hs; exact World.rowIs_alloc w c t f hc

theorem range_of_cells {w : World} {b o m : Nat} {g : Nat → Value} (hc : ∀ i, i < m → w.cell? ⟨b, o + i, none⟩ = some (g i)) : w.rangeAt b o (rowV m g).toList := fun j v hv => by
  rw [Array.getElem?_toList] at hv
  by_cases h : j < m
  · rw [rowV_get _ _ _ h] at hv; rw [hc j h, ← hv]
  · rw [Array.getElem?_eq_none (by rw [rowV_size]; omega)] at hv; cases hv

end Go.Proofs.YthjfalbchkbdfaaDoor
namespace Go.RowKit
theorem Below.drewN {B : Nat} {a w : World} (h : Below B a w) (n : Nat) : Below B a (w.drewN n) := ⟨h.os, h.tape, h.output, h.size, h.block⟩
theorem Below.row {B : Nat} {w w' : World} (h : Below B w w') {k : Nat} {t : TypeId} {n : Nat} {f : Nat → Value} (hr : w.rowIs k t n f) (hk : k < B) : w'.rowIs k t n f := hr.of_block (h.block k hk)
end Go.RowKit
namespace Go
theorem World.rowIs.drewN {w : World} {b : Nat} {t : TypeId} {n : Nat} {f : Nat → Value} (h : w.rowIs b t n f) (k : Nat) : (w.drewN k).rowIs b t n f := h
end Go
namespace Go.Proofs.YthjfalbchkbdfaaDoor
open Go.RowKit Go.Deep
/-- NOTHING BELOW B HAS TURNED BUT BLOCK b. -/
structure But (B b : Nat) (w w' : World) : Prop where
  os : w'.os = w.os
  tape : w'.tape = w.tape
  output : w'.output = w.output
  size : w.heap.size ≤ w'.heap.size
  block : ∀ k, k < B → k ≠ b → w'.heap[k]? = w.heap[k]?
namespace But
variable {B b : Nat} {w w' w'' : World}
theorem refl (B b : Nat) (w : World) : But B b w w := ⟨rfl, rfl, rfl, Nat.le_refl _, fun _ _ _ => rfl⟩
theorem trans (h : But B b w w') (k : But B b w' w'') : But B b w w'' :=
  ⟨k.os.trans h.os, k.tape.trans h.tape, k.output.trans h.output, Nat.le_trans h.size k.size, fun i hi hb => (k.block i hi hb).trans (h.block i hi hb)⟩
theorem mono {B' : Nat} (h : But B b w w') (hB : B' ≤ B) : But B' b w w' := ⟨h.os, h.tape, h.output, h.size, fun i hi hb => h.block i (Nat.lt_of_lt_of_le hi hB) hb⟩
theorem of_below (h : Below B w w') (b : Nat) : But B b w w' := ⟨h.os, h.tape, h.output, h.size, fun i hi _ => h.block i hi⟩
theorem below (h : But B b w w') (hb : B ≤ b) : Below B w w' := ⟨h.os, h.tape, h.output, h.size, fun i hi => h.block i hi (by omega)⟩
theorem drew (h : But B b w w') : But B b w w'.drew := ⟨h.os, h.tape, h.output, h.size, h.block⟩
theorem drewN (h : But B b w w') (n : Nat) : But B b w (w'.drewN n) := ⟨h.os, h.tape, h.output, h.size, h.block⟩
theorem alloc (h : But B b w w') (hB : B ≤ w'.heap.size) (o : Obj) : But B b w (w'.alloc o) := h.trans (of_below ((Below.refl B w').alloc hB o) b)
theorem set (h : But B b w w') (i : Nat) (v : Value) : But B b w (w'.setCell ⟨b, i, none⟩ v) :=
  ⟨h.os, h.tape, h.output, by rw [nblk_setCell]; exact h.size, fun k hk hb => (blk_setCell_other _ _ _ _ hb).trans (h.block k hk hb)⟩
theorem cell (h : But B b w w') {k i : Nat} (hk : k < B) (hb : k ≠ b) : w'.cell? ⟨k, i, none⟩ = w.cell? ⟨k, i, none⟩ := World.cell?_of_block (w := w) (h.block k hk hb)
theorem frozen (h : But B b w w') {k i : Nat} (hk : k < B) (hb : k ≠ b) : w'.frozen? ⟨k, i, none⟩ = w.frozen? ⟨k, i, none⟩ := World.frozen?_of_block (w := w) (h.block k hk hb)
theorem row (h : But B b w w') {k : Nat} {t : TypeId} {n : Nat} {f : Nat → Value} (hr : w.rowIs k t n f) (hk : k < B) (hb : k ≠ b) : w'.rowIs k t n f := hr.of_block (h.block k hk hb)
end But
section
variable {P : Program}
end
end Go.Proofs.YthjfalbchkbdfaaDoor

/- Slices that the call itself makes: what append leaves. -/
namespace Go.Proofs.YthjfalbchkbdfaaDoor
open Go.RowKit Go.Deep

/-- v is a slice of the elements xs, of one cell each, in a block of its own from B on. -/
def owns (w : World) (B : Nat) (e : TypeId) (v : Value) (xs : List Value) : Prop := w.ownsRow B e 1 v xs.length xs
theorem owns_nil (w : World) (B : Nat) (e : TypeId) : owns w B e (.slice none 0 0) [] := ⟨rfl, Or.inl ⟨rfl, rfl⟩⟩
theorem owns.block {w : World} {B : Nat} {e : TypeId} {v : Value} {xs : List Value} (h : owns w B e v xs) (k : Nat) (hk : v.ownBlock = some k) : B ≤ k ∧ k < w.heap.size := by
  obtain ⟨_, h | ⟨g, cap, cur, rfl, hB, hb, _⟩⟩ := h
  · rw [h.1] at hk; cases hk
  · obtain rfl : g = k := by simpa [Value.ownBlock] using hk
    exact ⟨hB, (Array.getElem?_eq_some_iff.1 hb).1⟩
/-- a slice that is not the one that grew is as it was. -/
theorem owns.far {w w' : World} {B : Nat} {e : TypeId} {v : Value} {xs : List Value} (h : owns w B e v xs) (hk : ∀ k, v.ownBlock = some k → w'.heap[k]? = w.heap[k]?) : owns w' B e v xs := by
  obtain ⟨hl, h | ⟨g, cap, cur, rfl, hB, hb, hr⟩⟩ := h
  · exact ⟨hl, Or.inl h⟩
  · exact ⟨hl, Or.inr ⟨g, cap, cur, rfl, hB, by rw [hk g rfl]; exact hb, hr⟩⟩
theorem owns.below {w w' : World} {B C : Nat} {e : TypeId} {v : Value} {xs : List Value} (h : owns w B e v xs) (hb : Below C w w') (hC : w.heap.size ≤ C) : owns w' B e v xs :=
  h.far fun k hk => hb.block k (Nat.lt_of_lt_of_le (h.block k hk).2 hC)
theorem owns.grown {w w' : World} {B : Nat} {e : TypeId} {v : Value} {xs : List Value} {row : Option Nat} (h : owns w B e v xs) (hg : w.grownBy w' row) (hne : ∀ k, v.ownBlock = some k → row ≠ some k) : owns w' B e v xs :=
  h.far fun k hk => hg.block k (h.block k hk).2 (fun e => hne k hk e.symm)
theorem owns.alloc {w : World} {B : Nat} {e : TypeId} {v : Value} {xs : List Value} (h : owns w B e v xs) (o : Obj) : owns (w.alloc o) B e v xs :=
  h.far fun k hk => blk_alloc_lt _ _ _ (h.block k hk).2
theorem owns.drew {w : World} {B : Nat} {e : TypeId} {v : Value} {xs : List Value} (h : owns w B e v xs) : owns w.drew B e v xs := h
theorem owns.drewN {w : World} {B : Nat} {e : TypeId} {v : Value} {xs : List Value} (h : owns w B e v xs) (n : Nat) : owns (w.drewN n) B e v xs := h
section
variable {P : Program}
end
end Go.Proofs.YthjfalbchkbdfaaDoor

/- Slices of bytes, and of others, wherever they lie. -/
namespace Go.Proofs.YthjfalbchkbdfaaDoor
set_option linter.unusedSimpArgs false
open Go.RowKit Go.Deep

/-- the bytes of the parts ahead of place k. -/
def flatTo (ps : Nat → List Int) : Nat → List Int
  | 0 => []
  | k + 1 => flatTo ps k ++ ps k
/-- THE VALUE v IS A SLICE OF THESE BYTES. -/
def isBytes (w : World) (v : Value) (l : List Int) : Prop :=
  (v = .slice none 0 0 ∧ l = []) ∨ ∃ pb po cap : Nat, v = .slice (some ⟨pb, po, none⟩) l.length cap ∧ l.length ≤ cap ∧ cap ≤ maxLen ∧ pb < w.heap.size ∧
    (∀ i, i < l.length → w.cell? ⟨pb, po + i, none⟩ = some (.int .u8 (l.getD i 0))) ∧ ∀ i, 0 ≤ l.getD i 0 ∧ l.getD i 0 ≤ 255
theorem isBytes.below {w w' : World} {B : Nat} {v : Value} {l : List Int} (h : isBytes w v l) (hb : Below B w w') (hB : w.heap.size ≤ B) : isBytes w' v l := by
  rcases h with h | ⟨pb, po, cap, h1, h2, h3, h4, h6, h7⟩
  · exact Or.inl h
  · exact Or.inr ⟨pb, po, cap, h1, h2, h3, Nat.lt_of_lt_of_le h4 hb.size, fun i hi => by rw [hb.cell (p := ⟨pb, po + i, none⟩) (Nat.lt_of_lt_of_le h4 hB)]; exact h6 i hi, h7⟩
/-- .. OR ONE OF NONE, wherever it says that it lies. -/
def anyBytes (w : World) (v : Value) (l : List Int) : Prop := isBytes w v l ∨ ((∃ a, v = .slice a 0 0) ∧ l = [])
theorem anyBytes.below {w w' : World} {B : Nat} {v : Value} {l : List Int} (h : anyBytes w v l) (hb : Below B w w') (hB : w.heap.size ≤ B) : anyBytes w' v l := by
  rcases h with h | h
  · exact Or.inl (h.below hb hB)
  · exact Or.inr h
/-- THE VALUE v IS A SLICE OF n SLICES OF BYTES. -/
def isParts (w : World) (v : Value) (n : Nat) (ps : Nat → List Int) : Prop :=
  (v = .slice none 0 0 ∧ n = 0) ∨ ∃ (qb qo cap : Nat) (sv : Nat → Value), v = .slice (some ⟨qb, qo, none⟩) n cap ∧ qb < w.heap.size ∧ n ≤ maxLen ∧ ∀ i, i < n → w.cell? ⟨qb, qo + i, none⟩ = some (sv i) ∧ anyBytes w (sv i) (ps i)
theorem isParts.below {w w' : World} {B : Nat} {v : Value} {n : Nat} {ps : Nat → List Int} (h : isParts w v n ps) (hb : Below B w w') (hB : w.heap.size ≤ B) : isParts w' v n ps := by
  rcases h with h | ⟨qb, qo, cap, sv, h1, h2, h3, h4⟩
  · exact Or.inl h
  · exact Or.inr ⟨qb, qo, cap, sv, h1, Nat.lt_of_lt_of_le h2 hb.size, h3, fun i hi => ⟨by rw [hb.cell (p := ⟨qb, qo + i, none⟩) (Nat.lt_of_lt_of_le h2 hB)]; exact (h4 i hi).1, (h4 i hi).2.below hb hB⟩⟩
theorem isBytes.slice {w : World} {v : Value} {l : List Int} (h : isBytes w v l) : ∃ a c, v = .slice a l.length c ∧ l.length ≤ maxLen := by
  rcases h with ⟨rfl, rfl⟩ | ⟨pb, po, cap, rfl, h2, h3, _⟩
  · exact ⟨_, _, rfl, Nat.zero_le _⟩
  · exact ⟨_, _, rfl, by omega⟩
theorem anyBytes.slice {w : World} {v : Value} {l : List Int} (h : anyBytes w v l) : ∃ a c, v = .slice a l.length c ∧ l.length ≤ maxLen := by
  rcases h with h | ⟨⟨a, rfl⟩, rfl⟩
  · exact h.slice
  · exact ⟨a, 0, rfl, Nat.zero_le _⟩
theorem isBytes.byte {w : World} {v : Value} {l : List Int} (h : isBytes w v l) (i : Nat) : 0 ≤ l.getD i 0 ∧ l.getD i 0 ≤ 255 := by
  rcases h with ⟨_, rfl⟩ | ⟨pb, po, cap, _, _, _, _, _, h7⟩
  · exact ⟨by simp, by simp⟩
  · exact h7 i
theorem isBytes.under {w : World} {pb o n cap : Nat} {l : List Int} (h : isBytes w (.slice (some ⟨pb, o, none⟩) n cap) l) : pb < w.heap.size := by
  rcases h with ⟨h, _⟩ | ⟨pb', po, cap', h1, _, _, h4, _⟩
  · cases h
  · have e : pb = pb' := by injection h1 with h1 _ _; injection h1 with h1; injection h1
    omega
theorem isBytes.of_block {w w' : World} {pb o n cap : Nat} {l : List Int} (h : isBytes w (.slice (some ⟨pb, o, none⟩) n cap) l) (hb : w'.heap[pb]? = w.heap[pb]?) (hs : w.heap.size ≤ w'.heap.size) : isBytes w' (.slice (some ⟨pb, o, none⟩) n cap) l := by
  rcases h with ⟨h, _⟩ | ⟨pb', po, cap', h1, h2, h3, h4, h6, h7⟩
  · cases h
  · have e : pb = pb' := by injection h1 with h1 _ _; injection h1 with h1; injection h1
    subst e
    exact Or.inr ⟨pb, po, cap', h1, h2, h3, by omega, fun i hi => by rw [World.cell?_of_block (w := w) hb]; exact h6 i hi, h7⟩
/-- a slice of bytes of which nothing was written is as it was. -/
theorem isBytes.far {w w' : World} {v : Value} {l : List Int} (h : isBytes w v l) (hb : ∀ k, v.ownBlock = some k → w'.heap[k]? = w.heap[k]?) (hs : w.heap.size ≤ w'.heap.size) : isBytes w' v l := by
  rcases h with h | ⟨pb, po, cap, rfl, h2, h3, h4, h6, h7⟩
  · exact Or.inl h
  · exact Or.inr ⟨pb, po, cap, rfl, h2, h3, by omega, fun i hi => by rw [World.cell?_of_block (w := w) (hb pb rfl)]; exact h6 i hi, h7⟩
theorem isBytes.block {w : World} {v : Value} {l : List Int} (h : isBytes w v l) (k : Nat) (hk : v.ownBlock = some k) : k < w.heap.size := by
  rcases h with ⟨rfl, _⟩ | ⟨pb, po, cap, rfl, h2, h3, h4, h6, h7⟩
  · cases hk
  · simp [Value.ownBlock] at hk; omega
/-- bytes of the call's own. -/
def newBytes (w : World) (B : Nat) (v : Value) (l : List Int) : Prop := owns w B 5 v (l.map (Value.int .u8)) ∧ ∀ i, 0 ≤ l.getD i 0 ∧ l.getD i 0 ≤ 255
theorem getElem?_u8 {l : List Int} {i : Nat} (hi : i < l.length) : (l.map (Value.int .u8))[i]? = some (Value.int .u8 (l.getD i 0)) := by
  rw [List.getElem?_map, List.getElem?_eq_getElem hi, List.getD_eq_getElem?_getD, List.getElem?_eq_getElem hi]; rfl
theorem newBytes.is {w : World} {B : Nat} {v : Value} {l : List Int} (h : newBytes w B v l) : isBytes w v l := by
  obtain ⟨ho, hb⟩ := h
  obtain ⟨_, h | ⟨g, cap, cur, rfl, hB, hg, hc, hm, hs, ht⟩⟩ := ho
  · obtain ⟨rfl, hl⟩ := h
    rw [List.length_map] at hl
    exact Or.inl ⟨rfl, List.length_eq_zero_iff.1 hl⟩
  · rw [List.length_map] at hc ⊢
    refine Or.inr ⟨g, 0, cap, rfl, hc, hm, (Array.getElem?_eq_some_iff.1 hg).1, fun i hi => ?_, hb⟩
    rw [Nat.zero_add, cell_of_row _ _ _ _ _ _ hg, ← Array.getElem?_toList]
    have h2 := getElem?_u8 hi
    rw [← ht, List.getElem?_take, List.length_map] at h2
    by_cases hh : i < l.length * 1
    · rw [if_pos hh] at h2; exact h2
    · omega
theorem newBytes.block {w : World} {B : Nat} {v : Value} {l : List Int} (h : newBytes w B v l) (k : Nat) (hk : v.ownBlock = some k) : B ≤ k ∧ k < w.heap.size := h.1.block k hk
theorem newBytes.nil (w : World) (B : Nat) : newBytes w B (.slice none 0 0) [] := ⟨owns_nil _ _ _, fun i => by simp⟩
theorem newBytes.below {w w' : World} {B C : Nat} {v : Value} {l : List Int} (h : newBytes w B v l) (hb : Below C w w') (hC : w.heap.size ≤ C) : newBytes w' B v l := ⟨h.1.below hb hC, h.2⟩
theorem newBytes.mono {w : World} {B C : Nat} {v : Value} {l : List Int} (h : newBytes w B v l) (hC : C ≤ B) : newBytes w C v l := by
  obtain ⟨⟨hl, h1⟩, hb⟩ := h
  refine ⟨⟨hl, ?_⟩, hb⟩
  rcases h1 with h1 | ⟨g, cap, cur, h1, h2, h3⟩
  · exact Or.inl h1
  · exact Or.inr ⟨g, cap, cur, h1, by omega, h3⟩
section
variable {P : Program}
theorem run_append_nil (w : World) (t ty e : TypeId) (ht : P.underlying t = some (.slice e)) (hi : (P.info? e).isSome = true) (b : Option Addr) (n c : Nat) (hn : n ≤ c) (sa : Option Addr) (d : Nat) :
    (Builtin.append_ #[t, t] ty #[.slice b n c, .slice sa 0 d]).run P w = .ok (.slice b n c) w := by
  cases hq : P.info? e with
  | none => rw [hq] at hi; cases hi
  | some i => cases b <;> cases sa <;> simp [Builtin.append_, run_underlying ht, sizeOf, typeInfo, hq, hn, storeCells, loadCells, Builtin.lenOf, Builtin.firstCells, loadCellsFrom]
end
section
variable {P : Program}
end
/-- bytes as a string. -/
def strOf (l : List Int) : ByteArray := ⟨(l.map fun n => UInt8.ofNat n.toNat).toArray⟩
theorem strOf_fold (l : List Int) : ∀ s : ByteArray, l.foldl (fun r n => r.push (UInt8.ofNat n.toNat)) s = ⟨(s.data.toList ++ l.map fun n => UInt8.ofNat n.toNat).toArray⟩ := by
  induction l with
  | nil => intro s; simp
  | cons n l ih => intro s; rw [List.foldl_cons, ih]; simp [ByteArray.push]
theorem strOf_size (l : List Int) : (strOf l).size = l.length := by simp [strOf, ByteArray.size]
theorem rowV_map (n : Nat) (f : Nat → Int) : rowV n (fun i => .int .u8 (f i)) = (((List.range n).map f).map (Value.int .u8)).toArray := by
  symm
  apply rowV_eq
  · simp
  · intro i hi; simp [hi]
section
variable {P : Program}
/-- string(b), b a slice over a row of bytes. -/
theorem run_convert_row_string (w : World) (src dst e : TypeId) (b o n c : Nat) (f : Nat → Int) (hs : P.underlying src = some (.slice e)) (he : P.underlying e = some (.int .u8)) (hd : P.underlying dst = some .string)
    (hc : ∀ i, i < n → w.cell? ⟨b, o + i, none⟩ = some (.int .u8 (f i))) :
    (convert src dst (.slice (some ⟨b, o, none⟩) n c)).run P w = .ok (.string (strOf ((List.range n).map f))) w := by
  rw [run_convert_bytes_string w src dst e _ _ _ hs he hd]
  have hl := run_loadCells_list (P := P) w ⟨b, o, none⟩ (rowV n fun i => .int .u8 (f i)).toList (fun j v hv => by rw [Addr.add_mid]; exact range_of_cells hc j v hv)
  rw [Array.length_toList, rowV_size, Array.toArray_toList, rowV_map] at hl
  rw [run_bytesToString w ⟨b, o, none⟩ n c _ hl, strOf_fold]
  simp [strOf]
end
end Go.Proofs.YthjfalbchkbdfaaDoor

/- utf.Next. -/
namespace Go.Proofs.YthjfalbchkbdfaaDoor
set_option linter.unusedSimpArgs false
set_option linter.unusedVariables false
open Go.RowKit Go.Deep

/-- the decoder's two tables. -/
def u8T (w : World) : Prop := Lib.Utf8Tabs 1 2 w
theorem cell_lt {w : World} {p : Addr} {v : Value} (h : w.cell? p = some v) : p.block < w.heap.size := block_lt_of_cell h
theorem u8T.below {w w' : World} (h : u8T w) (hb : Below w.heap.size w w') : u8T w' :=
  ⟨fun c hc => (hb.cell (p := ⟨_, c, none⟩) (cell_lt (h.1 c hc))).trans (h.1 c hc), fun i hi => ⟨(hb.cell (p := ⟨_, 2 * i, none⟩) (cell_lt (h.2 i hi).1)).trans (h.2 i hi).1, (hb.cell (p := ⟨_, 2 * i + 1, none⟩) (cell_lt (h.2 i hi).2)).trans (h.2 i hi).2⟩⟩
theorem get_extract (s : ByteArray) (k j : Nat) : (s.extract k s.size).get! j = s.get! (k + j) := by
  by_cases h : k + j < s.size
  · have h1 : j < (s.extract k s.size).size := by rw [ByteArray.size_extract]; omega
    rw [get_ok _ _ h1, get_ok _ _ h, ByteArray.getElem_extract]
  · rw [get_out _ _ h, get_out _ _ (by rw [ByteArray.size_extract]; omega)]
theorem decodeGo_at (s : ByteArray) (k : Nat) (h : k < s.size) : Lib.decodeGo (s.extract k s.size) = Lib.decodeN (s.size - k) (bt s k) (bt s (k + 1)) (bt s (k + 2)) (bt s (k + 3)) := by
  unfold Lib.decodeGo
  rw [if_neg (by rw [ByteArray.size_extract]; omega), Lib.decode_at]
  simp only [get_extract, Nat.zero_add, Nat.add_zero, ByteArray.size_extract, Nat.min_self, Nat.sub_zero]
  rfl
theorem decodeN_small (n b0 b1 b2 b3 : Nat) : (Lib.decodeN n b0 b1 b2 b3).1 ≤ 1114111 + b0 ∧ (Lib.decodeN n b0 b1 b2 b3).2 ≤ 4 := by
  unfold Lib.decodeN
  repeat' split
  all_goals (simp only; omega)
set_option maxHeartbeats 2000000 in
set_option maxRecDepth 100000 in
theorem next_any (s : ByteArray) (k : Int) (hk : -9223372036854775808 ≤ k ∧ k ≤ 9223372036854775807) (w : World) (hT : u8T w) :
    Calls Tryd.prog 50 #[.string s, .int .i64 k] w fun e w' => e = .returned (.tuple #[.int .i64 (nxI s k).1, .int .i64 (nxI s k).2]) ∧ Below w.heap.size w w' := by
  by_cases h0 : k < 0
  · have e : nxI s k = (0, 0) := by unfold nxI; rw [if_pos (Or.inl h0)]
    rw [e]
    clear hT e
    go_enter Tryd.func50, Tryd.ntmps50
    go_wp2
    go_ret2
    exact ⟨rfl, Below.refl _ _⟩
  by_cases h1 : (s.size : Int) ≤ k
  · have e : nxI s k = (0, 0) := by unfold nxI; rw [if_pos (Or.inr h1)]
    rw [e]
    have h1' : k ≥ (s.size : Int) := h1
    clear hT e
    go_enter Tryd.func50, Tryd.ntmps50
    go_wp2
    go_ret2
    exact ⟨rfl, Below.refl _ _⟩
  obtain ⟨m, rfl⟩ : ∃ m : Nat, k = (m : Int) := ⟨k.toNat, by omega⟩
  have hm : m < s.size := by omega
  have X := decode_any (s.extract m s.size) w hT
  rw [decodeGo_at s m hm] at X
  have e : nxI s (m : Int) = if Lib.decodeN (s.size - m) (bt s m) (bt s (m + 1)) (bt s (m + 2)) (bt s (m + 3)) = (65533, 1) then (0, 0) else Lib.decodeN (s.size - m) (bt s m) (bt s (m + 1)) (bt s (m + 2)) (bt s (m + 3)) := by
    unfold nxI nx nxN
    rw [if_neg (by omega), Int.toNat_natCast, if_neg (by omega)]
  have hs := decodeN_small (s.size - m) (bt s m) (bt s (m + 1)) (bt s (m + 2)) (bt s (m + 3))
  have hb := bt_lt s m
  rw [e]
  generalize Lib.decodeN (s.size - m) (bt s m) (bt s (m + 1)) (bt s (m + 2)) (bt s (m + 3)) = d at X hs
  obtain ⟨r, z⟩ := d
  simp only at hs X
  have m0 : (0 : Int) ≤ (m : Int) := by omega
  have m1 : (m : Int) < (s.size : Int) := by omega
  have m2 : (m : Int) ≤ (s.size : Int) := by omega
  have r1 : (r : Int) < 9223372036854775807 := by omega
  have z1 : (z : Int) < 9223372036854775807 := by omega
  have r0 : (0 : Int) ≤ (r : Int) := by omega
  have hr0 : IntKind.wrap .i64 (r : Int) = (r : Int) := IntWalk.i64_in _ ⟨by omega, by omega⟩
  clear hT e hs hb
  obtain ⟨q, hq⟩ : ∃ q : Int, q = (r : Int) := ⟨_, rfl⟩
  obtain ⟨y, hy⟩ : ∃ y : Int, y = (z : Int) := ⟨_, rfl⟩
  rw [← hq, ← hy] at X
  rw [← hq] at r1 r0 hr0
  rw [← hy] at z1
  by_cases hr : r = 65533
  · have hq1 : q = 65533 := by omega
    by_cases hz : z = 1
    · have hy1 : y = 1 := by omega
      rw [if_pos (by rw [hr, hz])]
      clear hq hy hr hz
      subst hq1
      subst hy1
      go_enter Tryd.func50, Tryd.ntmps50
      go_wp2_with fail
      refine X.mono ?_
      rintro e w1 ⟨rfl, b1⟩
      clear X
      go_wp2
      go_ret2
      exact ⟨rfl, b1⟩
    · rw [if_neg (by simp [hz])]
      simp only
      rw [← hq, ← hy]
      have hz' : ¬ y = 1 := by omega
      clear hq hy hr hz
      subst hq1
      go_enter Tryd.func50, Tryd.ntmps50
      go_wp2_with fail
      refine X.mono ?_
      rintro e w1 ⟨rfl, b1⟩
      clear X
      go_wp2
      go_ret2
      exact ⟨rfl, b1⟩
  · rw [if_neg (by simp [hr])]
    simp only
    rw [← hq, ← hy]
    have hr' : ¬ q = 65533 := by omega
    clear hq hy hr
    go_enter Tryd.func50, Tryd.ntmps50
    go_wp2_with fail
    refine X.mono ?_
    rintro e w1 ⟨rfl, b1⟩
    clear X
    go_wp2
    go_ret2
    exact ⟨rfl, b1⟩
end Go.Proofs.YthjfalbchkbdfaaDoor

/- utf.Letter. -/
namespace Go.Proofs.YthjfalbchkbdfaaDoor
set_option linter.unusedSimpArgs false
set_option linter.unusedVariables false
open Go.RowKit Go.Deep

/-- the spans of letters. -/
def ltL : List (Int × Int) := [(48, 57), (65, 90), (97, 122), (170, 170), (181, 181), (186, 186), (192, 214), (216, 246), (248, 687), (768, 879), (880, 883), (886, 887), (891, 893), (895, 895), (902, 902), (904, 906), (908, 908), (910, 929), (931, 1153), (1162, 1327), (1329, 1366), (1377, 1414), (1488, 1514), (1568, 1610), (1632, 1641), (1646, 1747), (1776, 1785), (2308, 2361), (2406, 2415), (3585, 3632), (3648, 3654), (4256, 4293), (4304, 4346), (7680, 8124), (12353, 12438), (12449, 12538), (13312, 19903), (19968, 40959), (44032, 55203), (65296, 65305), (65313, 65338), (65345, 65370), (131072, 173791)]
def ltA (i : Nat) : Int := (ltL.getD i (0, 0)).1
def ltB (i : Nat) : Int := (ltL.getD i (0, 0)).2
/-- the program's table of them. -/
def ltT (w : World) : Prop := ∀ i, i < 43 → w.cell? ⟨0, i * 2, none⟩ = some (.int .i64 (ltA i)) ∧ w.cell? ⟨0, i * 2 + 1, none⟩ = some (.int .i64 (ltB i))
theorem ltT.below {w w' : World} (h : ltT w) (hb : Below w.heap.size w w') : ltT w' := fun i hi =>
  ⟨(hb.cell (p := ⟨_, i * 2, none⟩) (block_lt_of_cell (h i hi).1)).trans (h i hi).1, (hb.cell (p := ⟨_, i * 2 + 1, none⟩) (block_lt_of_cell (h i hi).2)).trans (h i hi).2⟩
set_option maxHeartbeats 1000000 in
set_option maxRecDepth 100000 in
theorem letter1_any (j b : Nat) (c : Int) (hj : j < 43) (w : World) (hT : ltT w) (hc : w.cell? ⟨b, 0, none⟩ = some (.int .i64 c)) :
    Calls Tryd.prog 49 #[.int .i64 (j : Int), .pointer (some ⟨b, 0, none⟩)] w fun e w' => e = .returned (.bool (decide (c ≤ ltB j))) ∧ Below w.heap.size w w' := by
  have h1 := (hT j hj).2
  have j0 : (0 : Int) ≤ (j : Int) := by omega
  have j1 : (j : Int) < 43 := by omega
  generalize ltB j = y at h1 ⊢
  clear hT
  go_enter Tryd.func49, Tryd.ntmps49
  go_upto_region 1 with fail
  go_region
  go_wp2
  go_ret
  exact ⟨rfl, (Below.refl _ _).drew⟩
theorem ltB_mono : ∀ i : Fin 43, ∀ j : Fin 43, i.val < j.val → ltB i.val < ltB j.val := by decide +kernel
theorem ltB_ltA : ∀ i : Fin 43, ∀ j : Fin 43, i.val < j.val → ltB i.val < ltA j.val := by decide +kernel
/-- where a number's span would stand. -/
def ltPos (c : Int) (p : Nat) : Prop := p ≤ 43 ∧ (∀ t, t < p → ltB t < c) ∧ ∀ t, p ≤ t → t < 43 → c ≤ ltB t
/-- is a number a letter? -/
def letB (c : Int) : Bool := ltL.any fun x => decide (x.1 ≤ c) && decide (c ≤ x.2)
theorem letB_is (c : Int) : letB c = true ↔ ∃ i, i < 43 ∧ ltA i ≤ c ∧ c ≤ ltB i := by
  unfold letB
  rw [List.any_eq_true]
  constructor
  · rintro ⟨x, hx, h⟩
    obtain ⟨i, hi, rfl⟩ := List.getElem_of_mem hx
    have hl : ltL.length = 43 := rfl
    rw [hl] at hi
    refine ⟨i, hi, ?_⟩
    have hg : ltL.getD i (0, 0) = ltL[i] := by rw [List.getD_eq_getElem?_getD, List.getElem?_eq_getElem (by rw [hl]; exact hi)]; rfl
    rw [ltA, ltB, hg]
    rw [Bool.and_eq_true, decide_eq_true_iff, decide_eq_true_iff] at h
    exact h
  · rintro ⟨i, hi, h1, h2⟩
    have hl : ltL.length = 43 := rfl
    have hg : ltL.getD i (0, 0) = ltL[i]'(by rw [hl]; exact hi) := by rw [List.getD_eq_getElem?_getD, List.getElem?_eq_getElem (by rw [hl]; exact hi)]; rfl
    refine ⟨_, List.getElem_mem (by rw [hl]; exact hi), ?_⟩
    rw [← hg]
    simpa using ⟨h1, h2⟩
theorem letB_pos {c : Int} {p : Nat} (h : ltPos c p) : (decide (p < 43) && decide (ltA p ≤ c)) = letB c := by
  obtain ⟨h0, h1, h2⟩ := h
  rw [Bool.eq_iff_iff, letB_is, Bool.and_eq_true, decide_eq_true_iff, decide_eq_true_iff]
  constructor
  · rintro ⟨a, b⟩
    exact ⟨p, a, b, h2 p (Nat.le_refl _) a⟩
  · rintro ⟨i, hi, a, b⟩
    by_cases e : i < p
    · have := h1 i e; omega
    · by_cases e2 : p < i
      · have := ltB_ltA ⟨p, by omega⟩ ⟨i, hi⟩ e2
        have h3 := h2 p (Nat.le_refl _) (by omega)
        simp only at this
        omega
      · obtain rfl : i = p := by omega
        exact ⟨hi, a⟩
set_option maxHeartbeats 4000000 in
set_option maxRecDepth 100000 in
theorem lsearch_any (c : Int) (b : Nat) (w : World) (hT : ltT w) (hc : w.cell? ⟨b, 0, none⟩ = some (.int .i64 c)) :
    Calls Tryd.prog 48 #[.int .i64 43, .func (.func 49) #[] #[.pointer (some ⟨b, 0, none⟩)]] w fun e w' => ∃ p, ltPos c p ∧ e = .returned (.int .i64 (p : Int)) ∧ Below w.heap.size w w' := by
  have HT : Hid (ltT w) := hT
  have HC : Hid (w.cell? ⟨b, 0, none⟩ = some (.int .i64 c)) := (show w.cell? ⟨b, 0, none⟩ = some (.int .i64 c) from hc)
  clear hT hc
  go_enter Tryd.func48, Tryd.ntmps48
  go_wp2_with fail
  go_loopw [5, 6] (fun i j wr => ∃ m n : Nat, m ≤ n ∧ n ≤ 43 ∧ i = .int .i64 (m : Int) ∧ j = .int .i64 (n : Int) ∧ (∀ t, t < m → ltB t < c) ∧ (∀ t, n ≤ t → t < 43 → c ≤ ltB t) ∧ Below w.heap.size w wr) (fun i j _ => (intOf j).toNat - (intOf i).toNat)
  case atStart => exact ⟨0, 43, by omega, Nat.le_refl _, rfl, rfl, fun t ht => by omega, fun t h1 h2 => by omega, Below.refl _ _⟩
  case round =>
    obtain ⟨m, n, hmn, hn, rfl, rfl, hlo, hhi, hb⟩ := hrel
    have m0 : (0 : Int) ≤ (m : Int) := by omega
    have n0 : (0 : Int) ≤ (n : Int) := by omega
    have n1 : (n : Int) ≤ 43 := by omega
    have HLO : Hid ((∀ t, t < m → ltB t < c) ∧ (∀ t, n ≤ t → t < 43 → c ≤ ltB t)) := (show _ ∧ _ from ⟨hlo, hhi⟩)
    have HB : Hid (Below w.heap.size w wr) := hb
    by_cases hlt : m < n
    · have p1 : (m : Int) < (n : Int) := by omega
      obtain ⟨h, hh⟩ : ∃ h, h = (m + n) / 2 := ⟨_, rfl⟩
      have hmh : m ≤ h := by omega
      have hhn : h < n := by omega
      have hdiv : ((m : Int) + (n : Int)) / 2 = (h : Int) := by omega
      have hs1 : IntKind.wrap .i64 ((m : Int) + (n : Int)) = (m : Int) + (n : Int) := IntWalk.i64_in _ ⟨by omega, by omega⟩
      have hs2 : IntKind.wrap .u64 ((m : Int) + (n : Int)) = (m : Int) + (n : Int) := by
        have e : IntKind.u64.wrap ((m : Int) + (n : Int)) = ((m : Int) + (n : Int)) % 18446744073709551616 := by simp [IntKind.wrap, IntKind.bits, IntKind.signed]
        rw [e]; omega
      have hs3 : IntKind.wrap .i64 (h : Int) = (h : Int) := IntWalk.i64_in _ ⟨by omega, by omega⟩
      have hs4 : IntKind.wrap .i64 ((h : Int) + 1) = (h : Int) + 1 := IntWalk.i64_in _ ⟨by omega, by omega⟩
      have X := letter1_any h b c (by omega) wr (HT.out.below hb) ((hb.cell (p := ⟨b, 0, none⟩) (block_lt_of_cell HC.out)).trans HC.out)
      have hq : (h : Int) < 43 := by omega
      have h0 : (0 : Int) ≤ (h : Int) := by omega
      clear hlo hhi hb hh
      by_cases hf : c ≤ ltB h
      · rw [decide_eq_true hf] at X
        have HF : Hid (c ≤ ltB h) := hf
        clear hf
        go_wp2_with fail
        refine X.mono ?_
        rintro e w' ⟨rfl, hb2⟩
        have HB2 : Hid (Below w.heap.size w w') := (show Below w.heap.size w w' from HB.out.trans (hb2.mono HB.out.size))
        clear X hb2
        go_wp2
        go_light
        refine ⟨⟨m, h, hmh, by omega, rfl, rfl, HLO.out.1, fun t h1 h2 => ?_, HB2.out⟩, by simp [intOf]; omega⟩
        by_cases e : t = h
        · rw [e]; exact HF.out
        · have := ltB_mono ⟨h, by omega⟩ ⟨t, h2⟩ (by simp only; omega)
          have := HF.out
          simp only at *
          omega
      · rw [decide_eq_false hf] at X
        have HF : Hid (ltB h < c) := (show ltB h < c from by omega)
        clear hf
        go_wp2_with fail
        refine X.mono ?_
        rintro e w' ⟨rfl, hb2⟩
        have HB2 : Hid (Below w.heap.size w w') := (show Below w.heap.size w w' from HB.out.trans (hb2.mono HB.out.size))
        clear X hb2
        go_wp2
        go_light
        refine ⟨⟨h + 1, n, by omega, by omega, by go_num, rfl, fun t ht => ?_, HLO.out.2, HB2.out⟩, by simp [intOf]; omega⟩
        by_cases e : t = h
        · rw [e]; exact HF.out
        · have := ltB_mono ⟨t, by omega⟩ ⟨h, by omega⟩ (by simp only; omega)
          have := HF.out
          simp only at *
          omega
    · obtain rfl : m = n := by omega
      have p1 : ¬ (m : Int) < (m : Int) := by omega
      clear hlo hhi hb
      go_wp2
      go_ret
      exact ⟨m, ⟨hn, HLO.out.1, HLO.out.2⟩, rfl, HB.out⟩
set_option maxHeartbeats 2000000 in
set_option maxRecDepth 100000 in
theorem letter_any (c : Int) (w : World) (hT : ltT w) :
    Calls Tryd.prog 34 #[.int .i64 c] w fun e w' => e = .returned (.bool (letB c)) ∧ Below w.heap.size w w' := by
  obtain ⟨w1, hw1⟩ : ∃ w1, w1 = w.alloc (.cells #[.int .i64 c] 3) := ⟨_, rfl⟩
  have b1 : Below w.heap.size w w1 := by rw [hw1]; exact (Below.refl _ _).alloc (Nat.le_refl _) _
  have hc : w1.cell? ⟨w.heap.size, 0, none⟩ = some (.int .i64 c) := by rw [hw1]; rw [cell_of_row _ _ _ _ _ _ (blk_alloc_new w _)]; rfl
  have X := lsearch_any c w.heap.size w1 (hT.below b1) hc
  have HT : Hid (ltT w1) := (show ltT w1 from hT.below b1)
  have HC : Hid (w1.cell? ⟨w.heap.size, 0, none⟩ = some (.int .i64 c)) := (show w1.cell? ⟨w.heap.size, 0, none⟩ = some (.int .i64 c) from hc)
  have B1 : Hid (Below w.heap.size w w1) := (show Below w.heap.size w w1 from b1)
  clear hT b1 hc
  go_enter Tryd.func34, Tryd.ntmps34
  go_wp2_with fail
  rw [← hw1]
  clear hw1
  refine X.mono ?_
  rintro e w2 ⟨p, hp, rfl, b2⟩
  have HL : Hid ((decide (p < 43) && decide (ltA p ≤ c)) = letB c) := (show (decide (p < 43) && decide (ltA p ≤ c)) = letB c from letB_pos hp)
  have B2 : Hid (Below w.heap.size w w2) := (show Below w.heap.size w w2 from B1.out.trans (b2.mono B1.out.size))
  have c2 : w2.cell? ⟨w.heap.size, 0, none⟩ = some (.int .i64 c) := (b2.cell (p := ⟨w.heap.size, 0, none⟩) (block_lt_of_cell HC.out)).trans HC.out
  have p0 : (0 : Int) ≤ (p : Int) := by omega
  by_cases h : p < 43
  · have p1 : (p : Int) < 43 := by omega
    have c3 := ((HT.out.below b2) p h).1
    have HE : Hid (decide (ltA p ≤ c) = letB c) := (show decide (ltA p ≤ c) = letB c from by have := HL.out; rwa [decide_eq_true h, Bool.true_and] at this)
    generalize ltA p = y at c3 HE
    have hd : decide ((p : Int) < 43) = true := decide_eq_true p1
    clear X b2 hp HL
    go_upto_region 2 with fail
    go_region
    go_wp2
    go_ret
    exact ⟨by rw [← HE.out]; rfl, B2.out.drew⟩
  · have p1 : ¬ (p : Int) < 43 := by omega
    have HE : Hid (false = letB c) := (show false = letB c from by have := HL.out; rwa [decide_eq_false h, Bool.false_and] at this)
    have hd : decide ((p : Int) < 43) = false := decide_eq_false p1
    clear X b2 hp HL
    go_upto_region 2 with fail
    go_region
    go_wp2
    go_ret
    exact ⟨by rw [← HE.out]; rfl, B2.out.drew⟩
end Go.Proofs.YthjfalbchkbdfaaDoor

/- The three tables that texts are read by. -/
namespace Go.Proofs.YthjfalbchkbdfaaDoor
open Go.RowKit Go.Deep

/-- the program's three tables. -/
def utT (w : World) : Prop := u8T w ∧ ltT w
theorem utT.below {w w' : World} (h : utT w) (hb : Below w.heap.size w w') : utT w' := ⟨h.1.below hb, h.2.below hb⟩
end Go.Proofs.YthjfalbchkbdfaaDoor

/- utf.Fault, utf.May. -/
namespace Go.Proofs.YthjfalbchkbdfaaDoor
set_option linter.unusedSimpArgs false
set_option linter.unusedVariables false
open Go.RowKit Go.Deep

theorem nxI_nat (s : ByteArray) (k : Nat) : nxI s (k : Int) = nx s k := by
  unfold nxI
  by_cases h : s.size ≤ k
  · rw [if_pos (by omega), nx_end h]
  · rw [if_neg (by omega), Int.toNat_natCast]
set_option maxHeartbeats 2000000 in
set_option maxRecDepth 100000 in
theorem fault_any (s : ByteArray) (hs : s.size ≤ maxLen) (w : World) (hT : u8T w) :
    Calls Tryd.prog 35 #[.string s] w fun e w' => e = .returned (.int .i64 (fl s)) ∧ Below w.heap.size w w' := by
  have hm : (s.size : Int) ≤ 9223372036854775807 := by unfold maxLen at hs; omega
  have HT : Hid (u8T w) := (show u8T w from hT)
  have X0 := next_any s ((0 : Nat) : Int) (by omega) w hT
  rw [nxI_nat] at X0
  obtain ⟨c, hc⟩ : ∃ c, c = nx s 0 := ⟨_, rfl⟩
  rw [← hc] at X0
  obtain ⟨r, z⟩ := c
  simp only [Int.natCast_zero] at X0
  clear hT hs
  go_enter Tryd.func35, Tryd.ntmps35
  go_wp2
  refine wp_scope_jumps 0 (fun a' w' => ∃ (m : Nat) (u1 u4 u5 u6 u7 u8 u9 u10 u11 u12 u13 u14 u15 u16 u17 : Value), a' = { tmps := #[.string s, u1, .int .i64 0, .int .i64 m, u4, u5, u6, u7, u8, u9, u10, u11, u12, u13, u14, u15, u16, u17], defers := [] } ∧ flAt s m = fl s ∧ m ≤ s.size ∧ Below w.heap.size w w') (fun a' _ => s.size - (intOf (a'.tmps.getD 3 undef)).toNat) rfl ?_ ?_
  · go_wp2
    go_step3
    go_wp2_with fail
    refine X0.mono ?_
    rintro e w1 ⟨rfl, b1⟩
    have B1 : Hid (Below w.heap.size w w1) := b1
    have hz1 : z ≤ s.size ∧ (z = 0 → fl s = 0) ∧ (z ≠ 0 → flAt s z = fl s) := by
      have h1 := nx_size s 0
      have h2 : z = (nx s 0).2 := by rw [← hc]
      refine ⟨by omega, fun h => flAt_stop (by omega), fun h => ?_⟩
      have := flAt_step (s := s) (k := 0) (by omega)
      rw [Nat.zero_add, ← h2] at this
      exact this.symm
    have HZ : Hid _ := hz1
    have z0 : (z : Int) ≤ (s.size : Int) := by omega
    clear X0 b1 hz1 hc
    by_cases hz : z = 0
    · have hz' : ¬ (z : Int) > 0 := by omega
      subst hz
      go_wp2
      simp only [Exit.jump]
      go_ret
      exact ⟨by rw [HZ.out.2.1 trivial]; rfl, B1.out⟩
    · have hz' : (z : Int) > 0 := by omega
      go_wp2
      go_step3
      refine ⟨rfl, z, _, _, _, _, _, _, _, _, _, _, _, _, _, _, _, rfl, HZ.out.2.2 hz, HZ.out.1, B1.out⟩
  · rintro a' w' ⟨m, u1, u4, u5, u6, u7, u8, u9, u10, u11, u12, u13, u14, u15, u16, u17, rfl, hf, hmm, hb⟩
    have HB : Hid (Below w.heap.size w w') := hb
    have X := next_any s ((m : Nat) : Int) (by omega) w' (HT.out.below hb)
    rw [nxI_nat] at X
    have h1 := nx_size s m
    have h2 := flAt_stop (s := s) (k := m)
    have h3 := flAt_step (s := s) (k := m)
    generalize nx s m = c at X h1 h2 h3
    obtain ⟨r, z⟩ := c
    simp only at X h1 h2 h3
    have HZ : Hid ((z = 0 → fl s = m) ∧ (z ≠ 0 → flAt s (m + z) = fl s)) := (show _ from ⟨fun h => by rw [← hf, h2 h], fun h => by rw [← hf, h3 h]⟩)
    have z0 : (m : Int) + (z : Int) ≤ (s.size : Int) := by omega
    clear h1 h2 h3 hb X0 hf
    go_wp2_with fail
    refine X.mono ?_
    rintro e w1 ⟨rfl, b1⟩
    have B1 : Hid (Below w.heap.size w w1) := (show Below w.heap.size w w1 from HB.out.trans (b1.mono HB.out.size))
    clear X b1
    by_cases hz : z = 0
    · have hz' : ¬ (z : Int) > 0 := by omega
      subst hz
      go_wp2
      simp only [Exit.jump]
      go_ret
      exact ⟨by rw [HZ.out.1 trivial]; rfl, B1.out⟩
    · have hz' : (z : Int) > 0 := by omega
      go_wp2
      go_step3
      refine ⟨rfl, ⟨m + z, _, _, _, _, _, _, _, _, _, _, _, _, _, _, _, by rw [Int.natCast_add], HZ.out.2 hz, by omega, B1.out⟩, ?_⟩
      simp [intOf]
      omega
theorem may_any (s : ByteArray) (hs : s.size ≤ maxLen) (w : World) (hT : u8T w) :
    Calls Tryd.prog 25 #[.string s] w fun e w' => e = .returned (.bool (decide (fl s = s.size))) ∧ Below w.heap.size w w' := by
  have X := fault_any s hs w hT
  have e : (decide (fl s = s.size)) = (decide ((fl s : Int) = (s.size : Int))) := decide_eq_decide.2 (by omega)
  rw [e]
  clear hT e
  go_enter Tryd.func25, Tryd.ntmps25
  go_wp2_with fail
  refine X.mono ?_
  rintro e w1 ⟨rfl, b1⟩
  clear X
  go_wp2
  go_ret
  exact ⟨rfl, b1⟩
end Go.Proofs.YthjfalbchkbdfaaDoor

/- Layer 9, pure: the runs of a text. -/
namespace Go.Proofs.YthjfalbchkbdfaaDoor
set_option linter.unusedVariables false

/-- here a run of letters (or of what is none) ends. -/
def stopP (s : ByteArray) (b : Bool) (k : Nat) : Prop := (nx s k).2 = 0 ∨ letB ((nx s k).1 : Int) ≠ b
instance (s : ByteArray) (b : Bool) (k : Nat) : Decidable (stopP s b k) := by unfold stopP; infer_instance
def psF (s : ByteArray) (b : Bool) : Nat → Nat → Nat
  | 0, k => k
  | f + 1, k => if stopP s b k then k else psF s b f (k + (nx s k).2)
theorem stop_end {s : ByteArray} {b : Bool} {k : Nat} (h : s.size ≤ k) : stopP s b k := .inl (by rw [nx_end h])
theorem psF_more (s : ByteArray) (b : Bool) : ∀ f g k, s.size ≤ k + f → s.size ≤ k + g → psF s b f k = psF s b g k
  | 0, 0, k, _, _ => rfl
  | 0, g + 1, k, h, _ => by rw [psF, psF, if_pos (stop_end (by omega))]
  | f + 1, 0, k, _, h => by rw [psF, psF, if_pos (stop_end (by omega))]
  | f + 1, g + 1, k, h1, h2 => by
    rw [psF, psF]
    by_cases e : stopP s b k
    · rw [if_pos e, if_pos e]
    · have : (nx s k).2 ≠ 0 := fun h => e (.inl h)
      rw [if_neg e, if_neg e]; exact psF_more s b f g _ (by omega) (by omega)
/-- where it ends, from k on. -/
def ps (s : ByteArray) (b : Bool) (k : Nat) : Nat := psF s b s.size k
theorem ps_stop {s : ByteArray} {b : Bool} {k : Nat} (h : stopP s b k) : ps s b k = k := by
  unfold ps
  cases s.size with
  | zero => rfl
  | succ f => rw [psF, if_pos h]
theorem ps_step {s : ByteArray} {b : Bool} {k : Nat} (h : ¬ stopP s b k) : ps s b k = ps s b (k + (nx s k).2) := by
  unfold ps
  rw [psF_more s b s.size (s.size + 1) k (by omega) (by omega), psF, if_neg h]
theorem ps_go (s : ByteArray) (b : Bool) : ∀ d k, s.size = k + d → (k ≤ ps s b k ∧ ps s b k ≤ s.size) ∧ stopP s b (ps s b k) := by
  intro d
  induction d using Nat.strongRecOn with
  | ind d ih =>
    intro k hk
    by_cases e : stopP s b k
    · rw [ps_stop e]; exact ⟨by omega, e⟩
    · have hz : (nx s k).2 ≠ 0 := fun h => e (.inl h)
      have hs := nx_size s k
      rw [ps_step e]
      have := ih (d - (nx s k).2) (by omega) (k + (nx s k).2) (by omega)
      exact ⟨by omega, this.2⟩
theorem ps_ge {s : ByteArray} {b : Bool} {k : Nat} (h : k ≤ s.size) : k ≤ ps s b k := (ps_go s b (s.size - k) k (by omega)).1.1
theorem ps_le {s : ByteArray} {b : Bool} {k : Nat} (h : k ≤ s.size) : ps s b k ≤ s.size := (ps_go s b (s.size - k) k (by omega)).1.2
theorem go_size {s : ByteArray} {b : Bool} {k : Nat} (h : ¬ stopP s b k) : 0 < (nx s k).2 ∧ k + (nx s k).2 ≤ s.size := by
  have hz : (nx s k).2 ≠ 0 := fun h' => h (.inl h')
  have hs := nx_size s k
  omega
/-- the runs from k on. -/
def rlF (s : ByteArray) : Nat → Nat → List ByteArray
  | 0, _ => []
  | f + 1, k => if ps s true (ps s false k) = ps s false k then [] else s.extract (ps s false k) (ps s true (ps s false k)) :: rlF s f (ps s true (ps s false k))
theorem rlF_end {s : ByteArray} {k : Nat} (h : s.size ≤ k) : ∀ f, rlF s f k = []
  | 0 => rfl
  | f + 1 => by rw [rlF, ps_stop (b := false) (stop_end h), ps_stop (stop_end h), if_pos rfl]
theorem rlF_more (s : ByteArray) : ∀ f g k, s.size ≤ k + f → s.size ≤ k + g → rlF s f k = rlF s g k
  | 0, g, k, h, _ => by rw [rlF_end (by omega), rlF_end (by omega)]
  | f + 1, 0, k, _, h => by rw [rlF_end (by omega), rlF_end (by omega)]
  | f + 1, g + 1, k, h1, h2 => by
    rw [rlF, rlF]
    by_cases e : ps s true (ps s false k) = ps s false k
    · rw [if_pos e, if_pos e]
    · rw [if_neg e, if_neg e]
      by_cases hk : k ≤ s.size
      · have h3 := ps_ge (b := false) hk
        have h4 := ps_le (b := false) hk
        have h5 := ps_ge (b := true) h4
        rw [rlF_more s f g _ (by omega) (by omega)]
      · exact absurd (by rw [ps_stop (b := false) (stop_end (by omega)), ps_stop (stop_end (by omega))]) e
def rlAt (s : ByteArray) (k : Nat) : List ByteArray := rlF s s.size k
def rl (s : ByteArray) : List ByteArray := rlAt s 0
theorem rlAt_end {s : ByteArray} {k : Nat} (h : ps s true (ps s false k) = ps s false k) : rlAt s k = [] := by
  unfold rlAt
  cases s.size with
  | zero => rfl
  | succ f => rw [rlF, if_pos h]
theorem rlAt_next {s : ByteArray} {k : Nat} (h : ps s true (ps s false k) ≠ ps s false k) : rlAt s k = s.extract (ps s false k) (ps s true (ps s false k)) :: rlAt s (ps s true (ps s false k)) := by
  unfold rlAt
  rw [rlF_more s s.size (s.size + 1) k (by omega) (by omega), rlF, if_neg h]
/-- a run, with the place behind it. -/
theorem run_pos {s : ByteArray} {k : Nat} (hk : k ≤ s.size) (h : ps s true (ps s false k) ≠ ps s false k) : k ≤ ps s false k ∧ ps s false k < ps s true (ps s false k) ∧ ps s true (ps s false k) ≤ s.size := by
  have h3 := ps_ge (b := false) hk
  have h4 := ps_le (b := false) hk
  have h5 := ps_ge (b := true) h4
  have h6 := ps_le (b := true) h4
  omega
theorem rlF_size (s : ByteArray) : ∀ f k r, r ∈ rlF s f k → r.size ≤ s.size
  | 0, k, r, h => by cases h
  | f + 1, k, r, h => by
    rw [rlF] at h
    split at h
    · cases h
    · rcases List.mem_cons.1 h with rfl | h
      · rw [ByteArray.size_extract]; omega
      · exact rlF_size s f _ r h
theorem rl_size {s r : ByteArray} (h : r ∈ rl s) : r.size ≤ s.size := rlF_size s s.size 0 r h
end Go.Proofs.YthjfalbchkbdfaaDoor

/- words.past. -/
namespace Go.Proofs.YthjfalbchkbdfaaDoor
set_option linter.unusedSimpArgs false
set_option linter.unusedVariables false
open Go.RowKit Go.Deep

set_option maxHeartbeats 4000000 in
set_option maxRecDepth 100000 in
theorem past_any (s : ByteArray) (hs : s.size ≤ maxLen) (k : Nat) (hk : k ≤ s.size) (b : Bool) (w : World) (hT : utT w) :
    Calls Tryd.prog 37 #[.string s, .int .i64 (k : Int), .bool b] w fun e w' => e = .returned (.int .i64 (ps s b k : Int)) ∧ Below w.heap.size w w' := by
  have hm : (s.size : Int) ≤ 9223372036854775807 := by unfold maxLen at hs; omega
  have HT : Hid (utT w) := (show utT w from hT)
  obtain ⟨R, hR⟩ : ∃ R, R = ps s b k := ⟨_, rfl⟩
  rw [← hR]
  have HR : Hid (R = ps s b k) := (show R = ps s b k from hR)
  clear hT hs hR
  go_enter Tryd.func37, Tryd.ntmps37
  go_wp2_with fail
  go_loopw [1, 7, 8] (fun i c z wr => ∃ m : Nat, m ≤ s.size ∧ i = .int .i64 (m : Int) ∧ ps s b m = R ∧ Below w.heap.size w wr) (fun i _ _ _ => s.size - (intOf i).toNat)
  case atStart => exact ⟨k, hk, rfl, HR.out.symm, Below.refl _ _⟩
  case round =>
    obtain ⟨m, hmm, rfl, hp, hb⟩ := hrel
    have HB : Hid (Below w.heap.size w wr) := (show Below w.heap.size w wr from hb)
    have X := next_any s ((m : Nat) : Int) (by omega) wr (HT.out.below hb).1
    rw [nxI_nat] at X
    have HS := ps_stop (s := s) (b := b) (k := m)
    have HG := ps_step (s := s) (b := b) (k := m)
    have HZ := go_size (s := s) (b := b) (k := m)
    unfold stopP at HS HG HZ
    generalize nx s m = cz at X HS HG HZ
    obtain ⟨c, z⟩ := cz
    simp only at X HS HG HZ
    have HH : Hid ((z = 0 ∨ letB (c : Int) ≠ b → m = R) ∧ (¬ (z = 0 ∨ letB (c : Int) ≠ b) → ps s b (m + z) = R ∧ 0 < z ∧ m + z ≤ s.size)) := (show _ from ⟨fun h => by rw [← hp, HS h], fun h => ⟨by rw [← hp, HG h], HZ h⟩⟩)
    clear HS HG HZ hb hp
    go_wp2_with fail
    refine X.mono ?_
    rintro e w1 ⟨rfl, b1⟩
    have B1 : Hid (Below w.heap.size w w1) := (show Below w.heap.size w w1 from HB.out.trans (b1.mono HB.out.size))
    clear X b1
    by_cases hz : z = 0
    · subst hz
      go_wp2_with fail
      go_wp2
      go_ret
      have e : m = R := HH.out.1 (.inl trivial)
      exact ⟨by rw [← e]; rfl, B1.out⟩
    · have hz' : ¬ (z : Int) = 0 := by omega
      have Y := letter_any (c : Int) w1 (HT.out.below B1.out).2
      go_wp2_with fail
      refine Y.mono ?_
      rintro e w2 ⟨rfl, b2⟩
      have B2 : Hid (Below w.heap.size w w2) := (show Below w.heap.size w w2 from B1.out.trans (b2.mono B1.out.size))
      clear Y b2
      by_cases hl : letB (c : Int) = b
      · have hq := HH.out.2 (fun h => h.elim hz (fun h => h hl))
        have HQ : Hid (ps s b (m + z) = R) := (show ps s b (m + z) = R from hq.1)
        have z1 : (m : Int) + (z : Int) ≤ (s.size : Int) := by omega
        have z2 : 0 < z := hq.2.1
        have hl' : (letB (c : Int) == b) = true := by rw [hl]; cases b <;> rfl
        clear hq
        generalize letB (c : Int) = L at hl hl' ⊢
        go_wp2
        go_light
        exact ⟨⟨m + z, by omega, by rw [Int.natCast_add], HQ.out, B2.out⟩, by simp [intOf]; omega⟩
      · have e : m = R := HH.out.1 (.inr hl)
        have hl' : (letB (c : Int) == b) = false := by simpa using hl
        generalize letB (c : Int) = L at hl hl' ⊢
        clear hl
        go_wp2
        go_ret
        exact ⟨by rw [← e]; rfl, B2.out⟩
end Go.Proofs.YthjfalbchkbdfaaDoor

/- A region that draws its order, walked by hand: operations that are fixed under S are taken first; a whole row is loaded by its fact; a call is met by its contract. -/
namespace Go.Proofs.YthjfalbchkbdfaaDoor
open Go.RowKit Go.Deep

section
variable {P : Program}
end
section
variable {P : Program} {md : Region.Mode} {l : List Oper} {Q : Exit → Act → World → Prop} {S : World → Prop}
end
end Go.Proofs.YthjfalbchkbdfaaDoor

/- A region that draws its order: two reads that may come in either order. -/
namespace Go.Proofs.YthjfalbchkbdfaaDoor
open Go.RowKit Go.Deep

section
variable {P : Program} {md : Region.Mode} {l : List Oper} {Q : Exit → Act → World → Prop} {S : World → Prop}
end
end Go.Proofs.YthjfalbchkbdfaaDoor

/- A region that draws its order: what holds from some operation on may be held from there on. -/
namespace Go.Proofs.YthjfalbchkbdfaaDoor
open Go.RowKit Go.Deep

section
variable {P : Program} {md : Region.Mode} {l : List Oper} {Q : Exit → Act → World → Prop}
variable {S : World → Prop}
end
end Go.Proofs.YthjfalbchkbdfaaDoor

/- A range over a function that hands out a known list, whose rounds always go on. -/
namespace Go.Proofs.YthjfalbchkbdfaaDoor
open Go.RowKit Go.Shelf

/-- an iterator that hands out ys, and turns nothing itself. -/
def hands {α : Type} (n : Nat) (P : Program) (gf : Nat) (lb : Array Value) (encs : α → Array Value) (ys : List α) (w : World) : Prop :=
  ∀ (l : Nat) (J : Nat → World → Prop) (W : World), Below w.heap.size w W → (∀ k W, J k W → J k W.drew) → J 0 W →
    (∀ k (hk : k < ys.length) W1, J k W1 → YieldAt Fence.wide (n - 1) P l (encs ys[k]) W1 fun e W' => e = .returned (.bool true) ∧ J (k + 1) W') →
    CallsIn Fence.wide n P gf (#[.func (.yield l) #[] #[]] ++ lb) W fun e W' => (∃ v, e = .returned v) ∧ J ys.length W'

/-- behind a round's body: it goes on, what is no cells lies as it lay. -/
def goesOn (I : Nat → World → Prop) (k : Nat) (W : World) : Exit → Act → World → Prop
  | .normal, _, W' => KeepsOthers W W' ∧ I k W'
  | _, _, _ => False

end Go.Proofs.YthjfalbchkbdfaaDoor

/- A region in a round of a range over a function, by its plain walk; a range whose body keeps what the call has made. -/
namespace Go.Proofs.YthjfalbchkbdfaaDoor
open Go.RowKit Go.Shelf

/-- Q at the normal end alone. -/
def Calm (Q : Exit → Act → World → Prop) : Exit → Act → World → Prop
  | .normal, a, w => Q .normal a w
  | _, _, _ => False
theorem Calm.no {Q : Exit → Act → World → Prop} (h : LetsOut (Calm Q)) : False := by obtain ⟨_, _, h⟩ := h; exact h
def plainOp (o : Oper) : Bool := match o.op with | .defer _ => false | _ => true
section
variable {P : Program} {ops : Array Oper} {Q : Exit → Act → World → Prop} {S : World → Prop} {md : Region.Mode}
end
/-- append in a fence, by what its run comes to. -/
theorem wpListIn_append_run {F : Fence} {n : Nat} {P : Program} {ops : Array Oper} {rest : List Oper} {o : Oper} {a : Act} {w w' : World} {Q : Exit → Act → World → Prop} {v y r : Value} (hgd : o.guard = none) (s x : Operand) (t : TypeId)
    (ho : o.op = Op.call { callee := Callee.builtin Builtin.append, args := #[s, x], argTypes := #[t, t] }) (hs : a.eval s = v) (hx : a.eval x = y)
    (hr : (Builtin.append_ #[t, t] o.type #[v, y]).run P w = .ok r w') (h : wpListIn F n P ops Q rest (a.put o.dst r) w') : wpListIn F n P ops Q (o :: rest) a w := by
  refine wpListIn_plain hgd fun K hK' => ?_
  unfold Oper.wpIn
  refine ⟨?_, ?_⟩
  · simp [Oper.about, ho, resolve, Target.leads, Sem.run_pure]
  · rw [Oper.semAt_plain F _ _ (by rw [ho]; intro c hc'; cases hc')]
    simp [execOp, ho, resolve, invoke, builtin, hs, hx, hr, Result.andThen]
    exact hK' _ _ h
/-- behind a round's body: it goes on, the loop's two blocks lie as they lay. -/
def goesAt (D : Nat) (I : Nat → World → Prop) (k : Nat) (W : World) : Exit → Act → World → Prop
  | .normal, _, W' => W'.heap[D]? = W.heap[D]? ∧ W'.heap[D + 1]? = W.heap[D + 1]? ∧ I k W'
  | _, _, _ => False
end Go.Proofs.YthjfalbchkbdfaaDoor

/- A range over a function that goes on by itself between its rounds, and whose rounds go on, or leave the function. -/
namespace Go.Proofs.YthjfalbchkbdfaaDoor
set_option linter.unusedSimpArgs false
set_option linter.unusedVariables false
open Go.RowKit Go.Shelf

/-- an iterator that hands out ys, until it is told to stop; between the rounds it makes memory of its own at most. -/
def handsE {α : Type} (n : Nat) (P : Program) (gf : Nat) (lb : Array Value) (encs : α → Array Value) (ys : List α) (R : World → Prop) : Prop :=
  ∀ (l : Nat) (J Jx : Nat → World → Prop) (W : World), (∀ k W, J k W → R W) →
    (∀ k W W', J k W → Below W.heap.size W W' → J k W') → (∀ k W W', Jx k W → Below W.heap.size W W' → Jx k W') → J 0 W →
    (∀ k (hk : k < ys.length) W1, J k W1 → YieldAt Fence.wide (n - 1) P l (encs ys[k]) W1 fun e W' => (e = .returned (.bool true) ∧ J (k + 1) W') ∨ (e = .returned (.bool false) ∧ Jx k W')) →
    CallsIn Fence.wide n P gf (#[.func (.yield l) #[] #[]] ++ lb) W fun e W' => (∃ v, e = .returned v) ∧ (J ys.length W' ∨ ∃ k, k < ys.length ∧ Jx k W')

/-- behind a round's body: it goes on, or leaves the function; the loop's two blocks lie as they lay. -/
def goesX (D : Nat) (I Ix : Nat → World → Prop) (k : Nat) (W : World) : Exit → Act → World → Prop
  | .normal, _, W' => W'.heap[D]? = W.heap[D]? ∧ W'.heap[D + 1]? = W.heap[D + 1]? ∧ I (k + 1) W'
  | .ret, _, W' => W'.heap[D]? = W.heap[D]? ∧ W'.heap[D + 1]? = W.heap[D + 1]? ∧ Ix k W'
  | _, _, _ => False

theorem wpIn_range_stop {α : Type} {n : Nat} {P : Program} {g : Operand} {ps : Array Tmp} {assign body : Code} {Q : Exit → Act → World → Prop} {a : Act} {w : World}
    {gf : Nat} {lb : Array Value} (hg : a.eval g = .func (.func gf) #[] lb) (eg : ∀ args w, (callFunc gf args).run P w = .ok (.enter gf args) w)
    {encs : α → Array Value} {ys : List α} {R : World → Prop} (hseq : handsE (n - 1) P gf lb encs ys R) (hps : ∀ x, (encs x).size = ps.size)
    (I Ix : Nat → World → Prop) (hI : ∀ k W x y, I k W → W.heap[w.heap.size + 1]? = some (.loop x) → I k (W.putObj (w.heap.size + 1) (.loop y))) (hIx : ∀ k W x y, Ix k W → W.heap[w.heap.size + 1]? = some (.loop x) → Ix k (W.putObj (w.heap.size + 1) (.loop y)))
    (hR : ∀ k W, I k W → R W) (hg1 : ∀ k W W', I k W → Below W.heap.size W W' → I k W') (hg2 : ∀ k W W', Ix k W → Below W.heap.size W W' → Ix k W')
    (h0 : ∀ o o', I 0 ((w.alloc o).alloc o')) (a₁ : α → Act)
    (hassign : ∀ (l : Nat) (x : α) (W : World) (K : Act → World → Prop), K (a₁ x) W →
      assign.wpIn (Fence.wide.inRound l) (n - 1 - 1) P (Exit.then K (fun _ _ _ => False)) { tmps := (ps.zip (encs x)).foldl (fun t (p, v) => t.setIfInBounds p v) a.tmps, defers := [] } W)
    (hbody : ∀ (l k : Nat) (hk : k < ys.length) (W : World) (x : Loop), I k W → W.heap[w.heap.size]? = some (.deferred (some [])) → W.heap[w.heap.size + 1]? = some (.loop x) → body.wpIn (Fence.wide.inRound l) (n - 1 - 1) P (goesX w.heap.size I Ix k W) (a₁ ys[k]) W)
    (hdone : ∀ (W : World), I ys.length W → W.heap[w.heap.size]? = some (.deferred (some [])) → Q .normal { a with defers := { target := .collected w.heap.size, args := #[] } :: a.defers } W)
    (hstop : ∀ (k : Nat) (W : World), k < ys.length → Ix k W → W.heap[w.heap.size]? = some (.deferred (some [])) → Q .ret { a with defers := { target := .collected w.heap.size, args := #[] } :: a.defers } W) :
    (Code.rangeFunc g ps assign body).wpIn Fence.wide n P Q a w := by
  refine wpIn_rangeFunc fun fn hfn => ?_
  obtain ⟨mk, hmk⟩ : ∃ mk : LoopState → Option Code → Loop, mk = fun st pe => { state := st, pending := pe, fn, tmps := a.tmps, params := ps, assign, body, defers := w.heap.size } := ⟨_, rfl⟩
  obtain ⟨W1, hW1⟩ : ∃ W1, W1 = (w.alloc (.deferred (some []))).alloc (.loop (mk .ready none)) := ⟨_, rfl⟩
  have b1 : Below w.heap.size w W1 := by rw [hW1]; exact ((Below.refl _ _).alloc (Nat.le_refl _) _).alloc (by simp) _
  have c1 : W1.heap[w.heap.size + 1]? = some (.loop (mk .ready none)) := by
    rw [hW1]; have := World.alloc_heap_new (w.alloc (.deferred (some []))) (.loop (mk .ready none)); rwa [World.size_alloc] at this
  have d1 : W1.heap[w.heap.size]? = some (.deferred (some [])) := by
    rw [hW1]; exact (Below.heap_alloc _ _ _ (by simp)).trans (World.alloc_heap_new w _)
  have i1 : I 0 W1 := by rw [hW1]; exact h0 _ _
  refine ⟨w.heap.size + 1, [{ target := .collected w.heap.size, args := #[] }], W1, { target := .fn (.func gf) lb, args := #[.func (.yield (w.heap.size + 1)) #[] #[]] }, W1, gf, #[.func (.yield (w.heap.size + 1)) #[] #[]] ++ lb, W1, ?_, ?_, ?_, ?_, ?_, ?_⟩
  · rw [hW1, hmk]; exact run_enterLoop_outer _ _ _ _ _
  · simp only [resolve, hg]; simp [go_sem]
  · exact fun _ _ => trivial
  · simp [invoke, go_sem, eg]
  · exact fun h => absurd h (by simp [Fence.wide])
  · refine (hseq (w.heap.size + 1) (fun k W => I k W ∧ W.heap[w.heap.size + 1]? = some (.loop (mk .ready none)) ∧ W.heap[w.heap.size]? = some (.deferred (some [])))
      (fun k W => Ix k W ∧ W.heap[w.heap.size + 1]? = some (.loop (mk .done (some .ret))) ∧ W.heap[w.heap.size]? = some (.deferred (some []))) W1 (fun k W h => hR k W h.1)
      (fun k W W' h hb => ⟨hg1 k W W' h.1 hb, (hb.block _ (Array.getElem?_eq_some_iff.1 h.2.1).1).trans h.2.1, (hb.block _ (Array.getElem?_eq_some_iff.1 h.2.2).1).trans h.2.2⟩)
      (fun k W W' h hb => ⟨hg2 k W W' h.1 hb, (hb.block _ (Array.getElem?_eq_some_iff.1 h.2.1).1).trans h.2.1, (hb.block _ (Array.getElem?_eq_some_iff.1 h.2.2).1).trans h.2.2⟩) ⟨i1, c1, d1⟩ ?_).mono ?_
    · rintro k hk W ⟨hi, hl, hD⟩
      have hlt : w.heap.size + 1 < W.heap.size := (Array.getElem?_eq_some_iff.1 hl).1
      have hy := run_yield (P := P) (args := encs ys[k]) hl (by rw [hmk]; exact hps _)
      have hrec : mk .ready none = { state := .ready, pending := none, fn := fn, tmps := a.tmps, params := ps, assign := assign, body := body, defers := w.heap.size } := by rw [hmk]
      have hrec2 : mk .done (some .ret) = { state := .done, pending := some .ret, fn := fn, tmps := a.tmps, params := ps, assign := assign, body := body, defers := w.heap.size } := by rw [hmk]
      rw [hrec] at hy
      have hbg := run_beginRound (P := P) hl (by rw [hmk])
      obtain ⟨W2, hW2⟩ : ∃ W2, W2 = W.putObj (w.heap.size + 1) (.loop { mk .ready none with state := .busy }) := ⟨_, rfl⟩
      rw [← hW2] at hbg
      have l2 : W2.heap[w.heap.size + 1]? = some (.loop { mk .ready none with state := .busy }) := by rw [hW2]; exact World.putObj_heap_same hlt
      have e2 : W2.heap[w.heap.size]? = some (.deferred (some [])) := by rw [hW2]; exact (World.putObj_heap_other (by omega)).trans hD
      have i2 : I k W2 := by rw [hW2]; exact hI _ _ _ _ hi hl
      refine ⟨fn, _, assign, body, hy, roundIn_of_wpIn hfn (hassign _ ys[k] W _ ⟨W2, hbg, wpIn_mono (hbody _ k hk W2 _ i2 e2 l2) ?_⟩)⟩
      rintro e a3 W3 hp
      cases e with
      | normal =>
        obtain ⟨hkD, hkl, hi3⟩ := hp
        have l3 := hkl.trans l2
        have hen := run_endRound (P := P) none l3
        refine ⟨_, _, hen, .inl ⟨rfl, hI _ _ _ _ hi3 l3, ?_, (World.putObj_heap_other (by omega)).trans (hkD.trans e2)⟩⟩
        rw [World.putObj_heap_same (Array.getElem?_eq_some_iff.1 l3).1, hrec]; rfl
      | ret =>
        obtain ⟨hkD, hkl, hi3⟩ := hp
        have l3 := hkl.trans l2
        have hen := run_endRound (P := P) (some .ret) l3
        refine ⟨_, _, hen, .inr ⟨rfl, hIx _ _ _ _ hi3 l3, ?_, (World.putObj_heap_other (by omega)).trans (hkD.trans e2)⟩⟩
        rw [World.putObj_heap_same (Array.getElem?_eq_some_iff.1 l3).1, hrec, hrec2]; rfl
      | exit id => exact hp.elim
      | goto t => exact hp.elim
      | panic ch => exact hp.elim
      | outgrown => exact hp.elim
    · rintro e W2 ⟨⟨v, rfl⟩, ⟨hi, hl, hD⟩ | ⟨k, hk, hi, hl, hD⟩⟩
      · have hen := run_endLoop (P := P) hl (by rw [hmk]; simp)
        refine ⟨none, _, by rw [hmk] at hen; exact hen, ?_⟩
        exact hdone _ (hI _ _ _ _ hi hl) ((World.putObj_heap_other (by omega)).trans hD)
      · have hen := run_endLoop (P := P) hl (by rw [hmk]; simp)
        refine ⟨some .ret, _, by rw [hmk] at hen; exact hen, ?_⟩
        exact wpIn_ret (hstop k _ hk (hIx _ _ _ _ hi hl) ((World.putObj_heap_other (by omega)).trans hD))
end Go.Proofs.YthjfalbchkbdfaaDoor

/- One value in a block of its own. -/
namespace Go.Proofs.YthjfalbchkbdfaaDoor
open Go.RowKit Go.Deep

/-- a box. -/
def boxAt (w : World) (b : Nat) (t : TypeId) (u : Value) : Prop := w.rowIs b t 1 (fun _ => u)
theorem boxAt.new (w : World) (t : TypeId) (u : Value) : boxAt (w.alloc (.cells #[u] t)) w.heap.size t u := rowIs_new w _ t 1 _ rfl fun i hi => by
  obtain rfl : i = 0 := by omega
  rfl
theorem boxAt.cells {w : World} {b : Nat} {t : TypeId} {u : Value} (h : boxAt w b t u) : w.cell? ⟨b, 0, none⟩ = some u ∧ w.frozen? ⟨b, 0, none⟩ = false := ⟨World.rowIs.cell h (i := 0) (by omega), World.rowIs.frozen h 0⟩
theorem boxAt.lt {w : World} {b : Nat} {t : TypeId} {u : Value} (h : boxAt w b t u) : b < w.heap.size := by
  obtain ⟨c, h, _⟩ := h; exact (Array.getElem?_eq_some_iff.1 h).1
theorem boxAt.same {w w' : World} {b : Nat} {t : TypeId} {u : Value} (h : boxAt w b t u) (hb : w'.heap[b]? = w.heap[b]?) : boxAt w' b t u := World.rowIs.of_block h hb
theorem boxAt.below {w w' : World} {b : Nat} {t : TypeId} {u : Value} (h : boxAt w b t u) (hb : Below w.heap.size w w') : boxAt w' b t u := h.same (hb.block b h.lt)
theorem boxAt.set {w : World} {b : Nat} {t : TypeId} {u : Value} (h : boxAt w b t u) (u' : Value) : boxAt (w.setCell ⟨b, 0, none⟩ u') b t u' := (World.rowIs.set h 0 u').congr fun i hi => by rw [if_pos (by omega)]
theorem boxAt.other {w : World} {b b' : Nat} {t : TypeId} {u : Value} (h : boxAt w b t u) (hne : b ≠ b') (u' : Value) : boxAt (w.setCell ⟨b', 0, none⟩ u') b t u := h.same (blk_setCell_other _ _ _ _ hne)
theorem boxAt.put {w : World} {b b' : Nat} {t : TypeId} {u : Value} {x y : Loop} (h : boxAt w b t u) (hl : w.heap[b']? = some (.loop x)) : boxAt (w.putObj b' (.loop y)) b t u := h.same (World.putObj_heap_other fun e => by
  obtain ⟨c, hc, _⟩ := h; rw [e, hl] at hc; cases hc)
theorem boxAt.notLoop {w : World} {b D : Nat} {t : TypeId} {u : Value} {o : Obj} (h : boxAt w b t u) (hl : w.heap[D]? = some o) (ho : o.isCells = false) : D ≠ b := fun e => by
  obtain ⟨c, hc, _⟩ := h; rw [← e, hl] at hc; obtain rfl := Option.some.inj hc; cases ho
end Go.Proofs.YthjfalbchkbdfaaDoor

/- words.runs and its iterator. -/
namespace Go.Proofs.YthjfalbchkbdfaaDoor
set_option linter.unusedSimpArgs false
set_option linter.unusedVariables false
open Go.RowKit Go.Shelf Go.Deep
attribute [local go_sem] Oper.semAt_some

/-- what a round is handed: a place, and the run. -/
def runV (x : ByteArray × Nat) : Array Value := #[.int .i64 (x.2 : Int), .string x.1]
def runsL (s : ByteArray) : List (ByteArray × Nat) := (rl s).zipIdx
theorem runsL_length (s : ByteArray) : (runsL s).length = (rl s).length := by unfold runsL; rw [List.length_zipIdx]
theorem runsL_get (s : ByteArray) (k : Nat) (h : k < (runsL s).length) (h' : k < (rl s).length) : (runsL s)[k] = ((rl s)[k], k) := by
  show (rl s).zipIdx[k]'(by rw [List.length_zipIdx]; exact h') = _
  rw [List.getElem_zipIdx]; simp
set_option maxHeartbeats 4000000 in
set_option maxRecDepth 100000 in
theorem runs_any (s : ByteArray) (w : World) :
    Calls Tryd.prog 26 #[.string s] w fun e w' => ∃ p, e = .returned (.func (.func 36) #[] #[.pointer (some ⟨p, 0, none⟩)]) ∧ boxAt w' p 9 (.string s) ∧ p = w.heap.size ∧ Below w.heap.size w w' := by
  go_enter Tryd.func26, Tryd.ntmps26
  go_wp2
  go_ret
  exact ⟨w.heap.size, rfl, boxAt.new _ _ _, rfl, (Below.refl _ _).alloc (Nat.le_refl _) _⟩
set_option maxHeartbeats 4000000 in
set_option maxRecDepth 100000 in
theorem runs1_hands (n p : Nat) (s : ByteArray) (hs : s.size ≤ maxLen) :
    handsE n Tryd.prog 36 #[.pointer (some ⟨p, 0, none⟩)] runV (runsL s) (fun W => utT W ∧ W.cell? ⟨p, 0, none⟩ = some (.string s)) := by
  intro l J Jx W hB hJ hJx h0 hY
  have hm : (s.size : Int) ≤ 9223372036854775807 := by unfold maxLen at hs; omega
  have HR : Hid (∀ k W, J k W → utT W ∧ W.cell? ⟨p, 0, none⟩ = some (.string s)) := (show _ from fun k W h => hB k W h)
  have HY : Hid _ := hY
  have HJ : Hid _ := hJ
  have HX : Hid _ := hJx
  have J0 : Hid (J 0 W) := (show J 0 W from h0)
  have HM : Hid (s.size ≤ maxLen) := (show s.size ≤ maxLen from hs)
  clear hB hJ hJx h0 hY hs
  refine callsIn_of_wp Tryd.func36 rfl trivial ?_ rfl
  simp only [Tryd.ntmps36, List.size_toArray, List.length_cons, List.length_nil, Nat.reduceAdd, Nat.reduceSub, Array.replicate_succ, Array.replicate_zero, List.push_toArray, List.append_toArray, List.nil_append, List.cons_append]
  gi_wp2
  gi_loopw [3, 4] (fun x y wr => ∃ (k t : Nat), x = .int .i64 (t : Int) ∧ y = .int .i64 (k : Int) ∧ t ≤ s.size ∧ k ≤ t ∧ k ≤ (rl s).length ∧ (rl s).drop k = rlAt s t ∧ J k wr) (fun x _ _ => s.size - (intOf x).toNat)
  case atStart => exact ⟨0, 0, rfl, rfl, Nat.zero_le _, Nat.le_refl _, Nat.zero_le _, rfl, J0.out⟩
  case round =>
    obtain ⟨k, t, rfl, rfl, ht, hkt, hk, hdr, hj⟩ := hrel
    clear J0
    obtain ⟨hT, hc⟩ := HR.out k wr hj
    have X := past_any s HM.out t ht false wr hT
    have he1 := @rlAt_end s t
    have he2 := @rlAt_next s t
    have he3 := @run_pos s t ht
    obtain ⟨f, hf⟩ : ∃ f, f = ps s false t := ⟨_, rfl⟩
    rw [← hf] at X he1 he2 he3
    have hfl : f ≤ s.size := by rw [hf]; exact ps_le ht
    have HD : Hid ((rl s).drop k = rlAt s t) := (show _ from hdr)
    have HJ1 : Hid (J k wr) := (show J k wr from hj)
    have H1 : Hid _ := he1
    have H2 : Hid _ := he2
    have H3 : Hid _ := he3
    clear hdr hj hf he1 he2 he3 hT
    gi_wp2_with fail
    refine ⟨trivial, fun h => absurd h (by simp [Fence.wide]), (callsIn_wide.2 X).mono ?_⟩
    rintro e w1 ⟨rfl, b1⟩
    have hj1 := HJ.out k wr w1 HJ1.out b1
    obtain ⟨hT, hc⟩ := HR.out k w1 hj1
    have X2 := past_any s HM.out f hfl true w1 hT
    have hul : f ≤ ps s true f ∧ ps s true f ≤ s.size := ⟨ps_ge hfl, ps_le hfl⟩
    generalize ps s true f = u at X2 H1 H2 H3 hul
    have HJ2 : Hid (J k w1) := (show J k w1 from hj1)
    clear X hT b1 hj1 HJ1
    gi_wp2_with fail
    refine ⟨trivial, fun h => absurd h (by simp [Fence.wide]), (callsIn_wide.2 X2).mono ?_⟩
    rintro e w2 ⟨rfl, b2⟩
    have hj2 := HJ.out k w1 w2 HJ2.out b2
    obtain ⟨hT, hc⟩ := HR.out k w2 hj2
    have HJ3 : Hid (J k w2) := (show J k w2 from hj2)
    clear X2 hT b2 hj2 HJ2
    by_cases he : u = f
    · obtain rfl := he
      have hd := H1.out rfl
      have hke : k = (rl s).length := by
        have := List.drop_eq_nil_iff.1 (HD.out.trans hd)
        omega
      have HE : Hid (J (runsL s).length w2) := (show J (runsL s).length w2 from by rw [runsL_length, ← hke]; exact HJ3.out)
      clear hd hke HJ3
      gi_wp2
      refine ⟨fun _ _ => trivial, ?_⟩
      gi_wp2
      refine bodyPost_ret (results_none rfl _ _ _) rfl ?_
      exact ⟨⟨_, rfl⟩, .inl HE.out⟩
    · have hd := HD.out.trans (H2.out he)
      have hpos := H3.out he
      have hlt : k < (rl s).length := by
        by_cases e : k < (rl s).length
        · exact e
        · rw [List.drop_eq_nil_of_le (by omega)] at hd; cases hd
      have hcons := List.drop_eq_getElem_cons hlt
      have hx : (rl s)[k] = s.extract f u := (List.cons.inj (hcons.symm.trans hd)).1
      have htl : (rl s).drop (k + 1) = rlAt s u := (List.cons.inj (hcons.symm.trans hd)).2
      have hlt' : k < (runsL s).length := by rw [runsL_length]; exact hlt
      obtain ⟨fn, tmps, assign, body, hy, hRo⟩ := HY.out k hlt' w2 HJ3.out
      rw [runsL_get s k hlt' hlt, hx] at hy
      have hy' : (Instr.yield l #[.int .i64 (k : Int), .string (s.extract f u)]).run Tryd.prog w2 = .ok (.round l fn tmps assign body) w2 := hy
      have q1 : ¬ (f : Int) = (u : Int) := by omega
      have q2 : (f : Int) ≤ (u : Int) := by omega
      have q3 : (u : Int) ≤ (s.size : Int) := by omega
      have q4 : (0 : Int) ≤ (f : Int) := by omega
      have q5 : (k : Int) + 1 ≤ (s.size : Int) := by omega
      have HTL : Hid ((rl s).drop (k + 1) = rlAt s u) := (show _ from htl)
      have HLE : Hid _ := (show t < u ∧ u ≤ s.size ∧ k + 1 ≤ u ∧ k < (rl s).length from ⟨by omega, by omega, by omega, hlt⟩)
      clear hd hcons hx htl hlt hlt' hy hpos
      gi_wp2
      refine ⟨fun h => absurd h (by simp [Fence.wide]), hRo.mono ?_⟩
      rintro e W3 (⟨rfl, hJ3⟩ | ⟨rfl, hJ3⟩)
      · have HJ4 : Hid (J (k + 1) W3) := (show J (k + 1) W3 from hJ3)
        clear hJ3
        gi_wp2
        go_roundw
        case rel => exact ⟨k + 1, u, rfl, by go_num, HLE.out.2.1, HLE.out.2.2.1, HLE.out.2.2.2, HTL.out, HJ4.out⟩
        case measure => have := HLE.out; simp [intOf]; omega
      · have HJ4 : Hid (Jx k W3) := (show Jx k W3 from hJ3)
        clear hJ3
        gi_wp2
        refine bodyPost_ret (results_none rfl _ _ _) rfl ?_
        exact ⟨⟨_, rfl⟩, .inr ⟨k, by rw [runsL_length]; exact HLE.out.2.2.2, HJ4.out⟩⟩
end Go.Proofs.YthjfalbchkbdfaaDoor

/- Rows of texts. -/
namespace Go.Proofs.YthjfalbchkbdfaaDoor
open Go.RowKit Go.Deep

/-- a row of texts. -/
def strsAt (w : World) (v : Value) (L : List ByteArray) : Prop := (v = .slice none 0 0 ∧ L = []) ∨ ∃ pb po cap : Nat, v = .slice (some ⟨pb, po, none⟩) L.length cap ∧ L.length ≤ cap ∧ cap ≤ maxLen ∧ pb < w.heap.size ∧ ∀ i s, L[i]? = some s → w.cell? ⟨pb, po + i, none⟩ = some (.string s) ∧ s.size ≤ maxLen
theorem strsAt.below {w w' : World} {v : Value} {L : List ByteArray} (h : strsAt w v L) (hb : Below w.heap.size w w') : strsAt w' v L := by
  rcases h with h | ⟨pb, po, cap, e, h1, h2, h3, h4⟩
  · exact .inl h
  · exact .inr ⟨pb, po, cap, e, h1, h2, Nat.lt_of_lt_of_le h3 hb.size, fun i s hi => ⟨(hb.cell (p := ⟨pb, po + i, none⟩) h3).trans (h4 i s hi).1, (h4 i s hi).2⟩⟩
theorem strsAt.slice {w : World} {v : Value} {L : List ByteArray} (h : strsAt w v L) : ∃ a c, v = .slice a L.length c ∧ L.length ≤ c ∧ c ≤ maxLen ∧ L.length ≤ maxLen ∧ (0 < L.length → ∃ pb po, a = some ⟨pb, po, none⟩ ∧ pb < w.heap.size ∧ ∀ i s, L[i]? = some s → w.cell? ⟨pb, po + i, none⟩ = some (.string s) ∧ s.size ≤ maxLen) := by
  rcases h with ⟨rfl, rfl⟩ | ⟨pb, po, cap, e, h1, h2, h3, h4⟩
  · exact ⟨none, 0, rfl, Nat.le_refl _, Nat.zero_le _, Nat.zero_le _, fun h => absurd h (by simp)⟩
  · exact ⟨_, cap, e, h1, h2, Nat.le_trans h1 h2, fun _ => ⟨pb, po, rfl, h3, h4⟩⟩
/-- is a text among others? -/
def inS (l : List ByteArray) (x : ByteArray) : Bool := l.any fun y => y.toList == x.toList
theorem inS_hit {L : List ByteArray} {x y : ByteArray} {j : Nat} (h : L[j]? = some y) (e : (y.toList == x.toList) = true) : inS L x = true :=
  List.any_eq_true.2 ⟨y, List.mem_of_getElem? h, e⟩
theorem inS_none {L : List ByteArray} {x : ByteArray} (h : ∀ (i : Nat) (y : ByteArray), L[i]? = some y → (y.toList == x.toList) = false) : inS L x = false := by
  rw [Bool.eq_false_iff]
  intro hc
  obtain ⟨y, hy, e⟩ := List.any_eq_true.1 hc
  obtain ⟨i, hi⟩ := List.getElem?_of_mem hy
  rw [h i y hi] at e
  cases e
end Go.Proofs.YthjfalbchkbdfaaDoor

/- A text among others. -/
namespace Go.Proofs.YthjfalbchkbdfaaDoor
set_option linter.unusedSimpArgs false
set_option linter.unusedVariables false
open Go.RowKit Go.Deep

set_option maxHeartbeats 4000000 in
set_option maxRecDepth 100000 in
theorem sindex_any (v : Value) (L : List ByteArray) (x : ByteArray) (w : World) (hv : strsAt w v L) :
    Calls Tryd.prog 38 #[v, .string x] w fun e w' => (∃ i : Int, e = .returned (.int .i64 i) ∧ decide (0 ≤ i) = inS L x) ∧ w' = w := by
  obtain ⟨a, c, rfl, hlc, _, hl, hrow⟩ := hv.slice
  have hm : (L.length : Int) ≤ 9223372036854775807 := by unfold maxLen at hl; omega
  have HROW : Hid _ := hrow
  have HV : Hid (∀ (i : Nat) (y : ByteArray), L[i]? = some y → (y.toList == x.toList) = true → inS L x = true) := (show _ from fun i y h e => inS_hit h e)
  have HN : Hid ((∀ (i : Nat) (y : ByteArray), L[i]? = some y → (y.toList == x.toList) = false) → inS L x = false) := (show _ from inS_none)
  generalize inS L x = B at HV HN ⊢
  clear hv hrow hl hlc
  go_enter Tryd.func38, Tryd.ntmps38
  go_wp2
  go_loopw [8] (fun i wr => ∃ j : Nat, j ≤ L.length ∧ i = .int .i64 (j : Int) ∧ (∀ (k : Nat) (y : ByteArray), k < j → L[k]? = some y → (y.toList == x.toList) = false) ∧ wr = w) (fun i _ => L.length - (intOf i).toNat)
  case atStart => exact ⟨0, Nat.zero_le _, rfl, fun k y h => absurd h (Nat.not_lt_zero k), rfl⟩
  case round =>
    obtain ⟨j, hj, rfl, hno, rfl⟩ := hrel
    have HNO : Hid (∀ (k : Nat) (y : ByteArray), k < j → L[k]? = some y → (y.toList == x.toList) = false) := (show _ from hno)
    have j0 : (0 : Int) ≤ (j : Int) := by omega
    clear hno
    by_cases hlt : j < L.length
    · obtain ⟨pb, po, rfl, hpb, hcell⟩ := HROW.out (by omega)
      have hget : L[j]? = some L[j] := List.getElem?_eq_getElem hlt
      obtain ⟨hc, _⟩ := hcell j _ hget
      have HG : Hid (L[j]? = some L[j]) := (show _ from hget)
      generalize L[j] = y at hc HG
      have j1 : (j : Int) < (L.length : Int) := by omega
      have hcl : ∀ z : Nat, z = po + j → wr.cell? ⟨pb, z, none⟩ = some (.string y) := fun z hz => by rw [hz]; exact hc
      clear hcell hget
      cases hq : (y.toList == x.toList) with
      | true =>
        have hr : B = true := HV.out j y HG.out hq
        have hq2 : (x.toList == y.toList) = true := by rw [Lib.bytes_beq_iff] at hq ⊢; exact hq.symm
        clear hq
        go_wp2
        go_ret
        exact ⟨⟨_, rfl, by rw [hr]; simp⟩, rfl⟩
      | false =>
        have HQ : Hid ((y.toList == x.toList) = false) := (show _ from hq)
        have hq2 : (x.toList == y.toList) = false := by rw [Lib.bytes_beq_false_iff] at hq ⊢; exact fun h => hq h.symm
        clear hq
        go_wp2
        go_light
        refine ⟨⟨j + 1, by omega, by go_num, fun k y' hk h => ?_, by first | rfl | trivial⟩, by simp [intOf]; omega⟩
        by_cases hk' : k = j
        · subst hk'
          obtain rfl := Option.some.inj (HG.out.symm.trans h)
          exact HQ.out
        · exact HNO.out k y' (by omega) h
    · obtain rfl : j = L.length := by omega
      have hr : B = false := HN.out fun i y h => HNO.out i y (List.getElem?_eq_some_iff.1 h).1 h
      go_wp2
      go_ret
      exact ⟨⟨_, rfl, by rw [hr]; rfl⟩, rfl⟩
theorem scontains_any (v : Value) (L : List ByteArray) (x : ByteArray) (w : World) (hv : strsAt w v L) :
    Calls Tryd.prog 27 #[v, .string x] w fun e w' => e = .returned (.bool (inS L x)) ∧ w' = w := by
  have X := sindex_any v L x w hv
  clear hv
  go_enter Tryd.func27, Tryd.ntmps27
  go_wp2_with fail
  refine X.mono ?_
  rintro e w' ⟨⟨i, rfl, hi⟩, hw⟩
  obtain rfl := hw.symm
  have HI : Hid (decide (0 ≤ i) = inS L x) := (show _ from hi)
  clear hw X hi
  go_wp2
  go_ret
  exact ⟨by rw [← HI.out]; rfl, rfl⟩
end Go.Proofs.YthjfalbchkbdfaaDoor

/- append of a slice of elements of any size, also of none. -/
namespace Go.Proofs.YthjfalbchkbdfaaDoor
set_option linter.unusedSimpArgs false
set_option linter.unusedVariables false
open Go.RowKit Go.Deep
section
variable {P : Program}
theorem row_append (w : World) (t ty e : TypeId) (z : Value) (size bytes : Nat) (ht : P.underlying t = some (.slice e)) (hi : (P.info? e).map (fun i => (i.zero, i.size, i.bytes)) = some (some z, size, bytes)) (hz : z.cells.size = size) (hsz : 0 < size)
    (B : Nat) (v : Value) (n : Nat) (xs : List Value) (hv : w.ownsRow B e size v n xs) (sv : Value) (m : Nat) (news : List Value) (hl : news.length = m * size)
    (hs : ∃ a c, sv = .slice a m c ∧ (0 < m → ∃ qb qo, a = some ⟨qb, qo, none⟩ ∧ ∀ (j : Nat) (u : Value), news[j]? = some u → w.cell? ⟨qb, qo + j, none⟩ = some u)) (h1 : ∀ u ∈ news, u.oneCell' = true)
    (h63 : n + m ≤ maxLen) (hb : (n + m) * bytes ≤ 140737488355328) (hB : B ≤ w.heap.size) :
    ∃ a c w', (Builtin.append_ #[t, t] ty #[v, sv]).run P w = .ok (.slice a (n + m) c) w' ∧ w'.ownsRow B e size (.slice a (n + m) c) (n + m) (xs ++ news) ∧ w.grownBy w' v.ownBlock ∧
      ((Value.slice a (n + m) c).ownBlock = v.ownBlock ∨ (Value.slice a (n + m) c).ownBlock = some w.heap.size) := by
  cases hq : P.info? e with
  | none => simp [hq] at hi
  | some i =>
    simp only [hq, Option.map_some, Option.some.injEq, Prod.mk.injEq] at hi
    obtain ⟨hz', hs', hb'⟩ := hi
    obtain ⟨a, c, rfl, ha⟩ := hs
    by_cases h0 : m = 0
    · subst h0
      have hn0 : news = [] := List.length_eq_zero_iff.1 (by omega)
      subst hn0
      have hv' := hv
      obtain ⟨hl', h | ⟨g, cap, cur, rfl, hg, hbk, hc, hm, hcs, htk⟩⟩ := hv
      · obtain ⟨rfl, rfl⟩ := h
        exact ⟨none, 0, w, run_append_nil w t ty e ht (by rw [hq]; rfl) none 0 0 (Nat.le_refl _) a c, by simpa using hv', World.grownBy.refl _ _, Or.inl rfl⟩
      · exact ⟨_, cap, w, run_append_nil w t ty e ht (by rw [hq]; rfl) _ n cap hc a c, by simpa using hv', World.grownBy.refl _ _, Or.inl rfl⟩
    · obtain ⟨qb, qo, rfl, hc⟩ := ha (by omega)
      obtain ⟨g, cap, w', hr, ho, hg, hat, hlt⟩ := run_append_lies (P := P) w t ty B e i z size bytes ht hq hz' hs' hb' hz hsz v n xs hv ⟨qb, qo, none⟩ m c news hl (fun j u hu => by rw [Addr.add_mid]; exact hc j u hu) h1 (by omega) h63 hb hB w.heap.size rfl
      exact ⟨_, cap, w', hr, ho, hg, by
        rcases hat with h | h
        · exact Or.inl h.symm
        · exact Or.inr (by rw [h]; rfl)⟩
theorem ownsRow_far {w w' : World} {B e size : Nat} {v : Value} {n : Nat} {xs : List Value} (h : w.ownsRow B e size v n xs) (hb : ∀ k, v.ownBlock = some k → w'.heap[k]? = w.heap[k]?) : w'.ownsRow B e size v n xs := by
  obtain ⟨hl, h | ⟨g, cap, cur, rfl, hg, hbk, hr⟩⟩ := h
  · exact ⟨hl, Or.inl h⟩
  · exact ⟨hl, Or.inr ⟨g, cap, cur, rfl, hg, by rw [hb g rfl]; exact hbk, hr⟩⟩
theorem ownsRow_block {w : World} {B e size : Nat} {v : Value} {n : Nat} {xs : List Value} (h : w.ownsRow B e size v n xs) (k : Nat) (hk : v.ownBlock = some k) : B ≤ k ∧ k < w.heap.size := by
  obtain ⟨_, h | ⟨g, cap, cur, rfl, hB, hb, _⟩⟩ := h
  · rw [h.1] at hk; cases hk
  · obtain rfl : g = k := by simpa [Value.ownBlock] using hk
    exact ⟨hB, (Array.getElem?_eq_some_iff.1 hb).1⟩
theorem ownsRow_lower {w : World} {B C e size : Nat} {v : Value} {n : Nat} {xs : List Value} (h : w.ownsRow B e size v n xs) (hC : C ≤ B) : w.ownsRow C e size v n xs := by
  obtain ⟨hl, h | ⟨g, cap, cur, rfl, hg, hr⟩⟩ := h
  · exact ⟨hl, Or.inl h⟩
  · exact ⟨hl, Or.inr ⟨g, cap, cur, rfl, by omega, hr⟩⟩
theorem ownsRow_slice {w : World} {B e size : Nat} {v : Value} {n : Nat} {xs : List Value} (h : w.ownsRow B e size v n xs) : ∃ a c, v = .slice a n c ∧ n ≤ c ∧ c ≤ maxLen ∧ (0 < n → ∃ g, a = some ⟨g, 0, none⟩ ∧ g < w.heap.size ∧ B ≤ g ∧ ∀ (j : Nat) (u : Value), xs[j]? = some u → w.cell? ⟨g, j, none⟩ = some u) := by
  obtain ⟨hl, h | ⟨g, cap, cur, rfl, hg, hbk, hc, hm, hcs, htk⟩⟩ := h
  · obtain ⟨rfl, rfl⟩ := h
    exact ⟨none, 0, rfl, Nat.le_refl _, by unfold maxLen; omega, fun h => by omega⟩
  · refine ⟨_, cap, rfl, hc, hm, fun _ => ⟨g, rfl, (Array.getElem?_eq_some_iff.1 hbk).1, hg, fun j u hu => ?_⟩⟩
    rw [cell_of_row _ _ _ _ _ _ hbk]
    have hj : j < n * size := by rw [← hl]; exact (List.getElem?_eq_some_iff.1 hu).1
    rw [← htk, List.getElem?_take, if_pos hj, Array.getElem?_toList] at hu
    exact hu
end
end Go.Proofs.YthjfalbchkbdfaaDoor

/- Rows of words of one's own. -/
namespace Go.Proofs.YthjfalbchkbdfaaDoor
set_option linter.unusedSimpArgs false
set_option linter.unusedVariables false
open Go.RowKit Go.Deep

def wCells (x : ByteArray × Nat) : List Value := [.string x.1, .int .i64 (x.2 : Int)]
/-- words, in memory of one's own. -/
def newWords (w : World) (B : Nat) (v : Value) (l : List (ByteArray × Nat)) : Prop := w.ownsRow B 46 2 v l.length (l.flatMap wCells)
theorem wCells_get (l : List (ByteArray × Nat)) : ∀ i x, l[i]? = some x → (l.flatMap wCells)[i * 2]? = some (.string x.1) ∧ (l.flatMap wCells)[i * 2 + 1]? = some (.int .i64 (x.2 : Int)) := by
  induction l with
  | nil => intro i x h; simp at h
  | cons y t ih =>
    intro i x h
    cases i with
    | zero =>
      obtain rfl : y = x := by simpa using h
      exact ⟨rfl, rfl⟩
    | succ i =>
      have := ih i x (by simpa using h)
      have e1 : (i + 1) * 2 = i * 2 + 2 := by omega
      have e2 : (i + 1) * 2 + 1 = i * 2 + 1 + 2 := by omega
      rw [e1, show i * 2 + 2 + 1 = i * 2 + 1 + 2 by omega]
      exact this
/-- what is read of them. -/
def wordsAt (w : World) (v : Value) (l : List (ByteArray × Nat)) : Prop := ∃ a c, v = .slice a l.length c ∧ l.length ≤ c ∧ c ≤ maxLen ∧ (0 < l.length → ∃ g, a = some ⟨g, 0, none⟩ ∧ g < w.heap.size ∧ ∀ i x, l[i]? = some x → w.cell? ⟨g, i * 2, none⟩ = some (.string x.1) ∧ w.cell? ⟨g, i * 2 + 1, none⟩ = some (.int .i64 (x.2 : Int)))
theorem newWords.at {w : World} {B : Nat} {v : Value} {l : List (ByteArray × Nat)} (h : newWords w B v l) : wordsAt w v l := by
  obtain ⟨a, c, rfl, h1, h2, h3⟩ := ownsRow_slice h
  refine ⟨a, c, rfl, h1, h2, fun hl => ?_⟩
  obtain ⟨g, rfl, hg, _, hc⟩ := h3 hl
  exact ⟨g, rfl, hg, fun i x hx => ⟨hc _ _ (wCells_get l i x hx).1, hc _ _ (wCells_get l i x hx).2⟩⟩
theorem wordsAt.below {w w' : World} {v : Value} {l : List (ByteArray × Nat)} (h : wordsAt w v l) (hb : Below w.heap.size w w') : wordsAt w' v l := by
  obtain ⟨a, c, rfl, h1, h2, h3⟩ := h
  refine ⟨a, c, rfl, h1, h2, fun hl => ?_⟩
  obtain ⟨g, rfl, hg, hc⟩ := h3 hl
  exact ⟨g, rfl, Nat.lt_of_lt_of_le hg hb.size, fun i x hx => ⟨(hb.cell (p := ⟨g, i * 2, none⟩) hg).trans (hc i x hx).1, (hb.cell (p := ⟨g, i * 2 + 1, none⟩) hg).trans (hc i x hx).2⟩⟩
theorem newWords.none (w : World) (B : Nat) : newWords w B (.slice none 0 0) [] := ⟨rfl, .inl ⟨rfl, rfl⟩⟩
theorem newWords.far {w w' : World} {B : Nat} {v : Value} {l : List (ByteArray × Nat)} (h : newWords w B v l) (hb : ∀ k, v.ownBlock = some k → w'.heap[k]? = w.heap[k]?) : newWords w' B v l := ownsRow_far h hb
theorem infoWord : (Tryd.prog.info? 46).map (fun i => (i.zero, i.size, i.bytes)) = some (some (.agg #[.string ByteArray.empty, .int .i64 0]), 2, 24) := by kernel_rfl
/-- append of one word. -/
theorem words_append (w : World) (B : Nat) (v : Value) (l : List (ByteArray × Nat)) (hv : newWords w B v l) (x : ByteArray × Nat) (b : Nat) (hb : w.heap[b]? = some (.cells #[.string x.1, .int .i64 (x.2 : Int)] 46 (0, 0))) (hn : l.length < 1000000) (hB : B ≤ w.heap.size) :
    ∃ v' w', (Builtin.append_ #[25, 25] 25 #[v, .slice (some ⟨b, 0, none⟩) 1 1]).run Tryd.prog w = .ok v' w' ∧ newWords w' B v' (l ++ [x]) ∧ w.grownBy w' v.ownBlock := by
  obtain ⟨a', c', w', hr, ho', hg, _⟩ := row_append (P := Tryd.prog) w 25 25 46 _ 2 24 Tryd.underlying25 infoWord (by rfl) (by omega)
    B v _ _ hv (.slice (some ⟨b, 0, none⟩) 1 1) 1 (wCells x) rfl
    ⟨_, _, rfl, fun _ => ⟨b, 0, rfl, fun j u hj => by
      rw [Nat.zero_add, cell_of_row _ _ _ _ _ _ hb]
      match j, hj with
      | 0, hj => exact hj
      | 1, hj => exact hj⟩⟩
    (fun u hu => by
      rcases List.mem_cons.1 hu with rfl | hu
      · rfl
      · rcases List.mem_cons.1 hu with rfl | hu
        · rfl
        · cases hu) (by unfold maxLen; omega) (by omega) hB
  refine ⟨_, w', hr, ?_, hg⟩
  unfold newWords
  rw [List.flatMap_append, List.length_append, show [x].flatMap wCells = wCells x from List.append_nil _]
  exact ho'
section
variable {P : Program}
/-- two results, each of which lies in memory. -/
theorem results_plain2 {fn : Func} {p q : Tmp} {t1 t2 : TypeId} (h : fn.results = #[.cell p t1, .cell q t2]) (tmps : Array Value) (w : World) (g1 g2 : Nat) (v1 v2 : Value) (d1 d2 : TypeDesc)
    (hp : tmps.getD p undef = .pointer (some ⟨g1, 0, none⟩)) (hq : tmps.getD q undef = .pointer (some ⟨g2, 0, none⟩)) (hu1 : P.underlying t1 = some d1) (hu2 : P.underlying t2 = some d2)
    (hd1 : (match d1 with | .struct _ | .array _ _ => true | _ => false) = false) (hd2 : (match d2 with | .struct _ | .array _ _ => true | _ => false) = false)
    (h1 : w.cell? ⟨g1, 0, none⟩ = some v1) (h2 : w.cell? ⟨g2, 0, none⟩ = some v2) : (results fn tmps).run P w = .ok (.tuple #[v1, v2]) w := by
  have hp' : tmps[p]?.getD undef = .pointer (some ⟨g1, 0, none⟩) := by simpa using hp
  have hq' : tmps[q]?.getD undef = .pointer (some ⟨g2, 0, none⟩) := by simpa using hq
  have a1 : (isAgg t1).run P w = .ok false w := by
    unfold isAgg
    rw [Sem.run_bind, run_underlying hu1 w]
    cases d1 <;> simp_all
  have a2 : (isAgg t2).run P w = .ok false w := by
    unfold isAgg
    rw [Sem.run_bind, run_underlying hu2 w]
    cases d2 <;> simp_all
  simp [results, h, hp', hq', asAddr, loadVar, Sem.run_bind, a1, a2, h1, h2, go_sem]
end
end Go.Proofs.YthjfalbchkbdfaaDoor

/- append of a string to bytes of the call's own. -/
namespace Go.Proofs.YthjfalbchkbdfaaDoor
open Go.RowKit Go.Deep

/-- a string's bytes. -/
def sBytes (s : ByteArray) : List Int := s.data.toList.map fun c => (c.toNat : Int)
theorem sBytes_length (s : ByteArray) : (sBytes s).length = s.size := by
  unfold sBytes; rw [List.length_map, Array.length_toList]; rfl
theorem sBytes_byte (s : ByteArray) (i : Nat) : 0 ≤ (sBytes s).getD i 0 ∧ (sBytes s).getD i 0 ≤ 255 := by
  rw [List.getD_eq_getElem?_getD, sBytes, List.getElem?_map]
  cases h : s.data.toList[i]? with
  | none => exact ⟨by simp, by simp⟩
  | some c => have := c.toNat_lt; simp; omega
theorem sBytes_strOf (l : List Int) (h : ∀ i, 0 ≤ l.getD i 0 ∧ l.getD i 0 ≤ 255) : sBytes (strOf l) = l := by
  unfold strOf sBytes
  simp only [List.map_map]
  apply List.ext_getElem?
  intro i
  rw [List.getElem?_map]
  cases hi : l[i]? with
  | none => rfl
  | some x =>
    have := h i
    rw [List.getD_eq_getElem?_getD, hi] at this
    simp at this
    simp
    omega

section
variable {P : Program}
end
end Go.Proofs.YthjfalbchkbdfaaDoor

/- The document's code points, pure. -/
namespace Go.Proofs.YthjfalbchkbdfaaDoor
set_option linter.unusedVariables false
open Go.RowKit Go.Deep

def ptP (c : Int) : Prop := 0 ≤ c ∧ c < 55296 ∨ 57343 < c ∧ c < 1114112
instance (c : Int) : Decidable (ptP c) := by unfold ptP; infer_instance
/-- a code point's bytes. -/
def encI (c : Int) : List Int :=
  if c < 128 then [c] else if c < 2048 then [192 + c / 64, 128 + c % 64]
  else if c < 65536 then [224 + c / 4096, 128 + c / 64 % 64, 128 + c % 64] else [240 + c / 262144, 128 + c / 4096 % 64, 128 + c / 64 % 64, 128 + c % 64]
theorem encI_byte {c : Int} (h : ptP c) (i : Nat) : 0 ≤ (encI c).getD i 0 ∧ (encI c).getD i 0 ≤ 255 := by
  unfold ptP at h
  unfold encI
  repeat' split
  all_goals
    match i with
    | 0 => simp; omega
    | 1 => simp; try omega
    | 2 => simp; try omega
    | 3 => simp; try omega
    | i + 4 => simp
/-- the number that n bytes would have. -/
def firstsI (n : Nat) : Int := if n = 1 then 0 else if n = 2 then 192 else if n = 3 then 224 else 240
def accI (s : ByteArray) (k n : Nat) : Nat → Int
  | 0 => (bt s k : Int) - firstsI n
  | i + 1 => 64 * accI s k n i + (bt s (k + (i + 1)) : Int) - 128
def bsI (s : ByteArray) (k n : Nat) : List Int := (List.range n).map fun i => (bt s (k + i) : Int)
/-- n bytes are a code point's. -/
def hitP (s : ByteArray) (k n : Nat) : Prop := ptP (accI s k n (n - 1)) ∧ encI (accI s k n (n - 1)) = bsI s k n
end Go.Proofs.YthjfalbchkbdfaaDoor

/- The document's Point, Bytes. -/
namespace Go.Proofs.YthjfalbchkbdfaaDoor
set_option linter.unusedSimpArgs false
set_option linter.unusedVariables false
open Go.RowKit Go.Deep

end Go.Proofs.YthjfalbchkbdfaaDoor

/- The document's Next. -/
namespace Go.Proofs.YthjfalbchkbdfaaDoor
set_option linter.unusedSimpArgs false
set_option linter.unusedVariables false
open Go.RowKit Go.Deep

/-- the firsts' row. -/
def fsObj : Obj := .cells #[.int .i64 0, .int .i64 192, .int .i64 224, .int .i64 240] 3
end Go.Proofs.YthjfalbchkbdfaaDoor

/- utf.Small. -/
namespace Go.Proofs.YthjfalbchkbdfaaDoor
set_option linter.unusedSimpArgs false
set_option linter.unusedVariables false
open Go.RowKit Go.Deep

/-- a row that a conversion made: of its first N cells. -/
def rowZ (w : World) (b : Nat) (t : TypeId) (N : Nat) (f : Nat → Value) : Prop := ∃ c : Array Value, w.heap[b]? = some (.cells c t (c.size, c.size + 1)) ∧ N ≤ c.size ∧ ∀ i, i < N → c[i]? = some (f i)
theorem rowZ.cell {w : World} {b : Nat} {t : TypeId} {N : Nat} {f : Nat → Value} (h : rowZ w b t N f) {i : Nat} (hi : i < N) : w.cell? ⟨b, i, none⟩ = some (f i) := by
  obtain ⟨c, hb, _, hc⟩ := h
  simp [World.cell?, hb, hc i hi]
theorem rowZ.frozen {w : World} {b : Nat} {t : TypeId} {N : Nat} {f : Nat → Value} (h : rowZ w b t N f) {i : Nat} (hi : i < N) : w.frozen? ⟨b, i, none⟩ = false := by
  obtain ⟨c, hb, hn, _⟩ := h
  simp [World.frozen?, hb]
  omega
theorem rowZ.congr {w : World} {b : Nat} {t : TypeId} {N : Nat} {f g : Nat → Value} (h : rowZ w b t N f) (e : ∀ i, i < N → f i = g i) : rowZ w b t N g := by
  obtain ⟨c, hb, hn, hc⟩ := h
  exact ⟨c, hb, hn, fun i hi => by rw [hc i hi, e i hi]⟩
theorem rowZ.set {w : World} {b : Nat} {t : TypeId} {N : Nat} {f : Nat → Value} (h : rowZ w b t N f) (i : Nat) (v : Value) : rowZ (w.setCell ⟨b, i, none⟩ v) b t N (fun j => if j = i then v else f j) := by
  obtain ⟨c, hb, hn, hc⟩ := h
  refine ⟨c.setIfInBounds i v, ?_, by simpa using hn, fun j hj => ?_⟩
  · simp [World.setCell, Array.getElem?_modify, hb]
  · rw [Array.getElem?_setIfInBounds]
    by_cases e : j = i
    · subst e
      simp
      omega
    · rw [if_neg (fun h => e h.symm)]
      show c[j]? = some (if j = i then v else f j)
      rw [if_neg e]
      exact hc j hj
/-- []byte(s), one's own. -/
theorem string_bytes_own (w : World) (s : ByteArray) :
    ∃ cap w', (convert 9 57 (.string s)).run Tryd.prog w = .ok (.slice (some ⟨w.heap.size, 0, none⟩) s.size cap) w' ∧ s.size ≤ cap ∧ rowZ w' w.heap.size 5 s.size (fun i => .int .u8 ((sBytes s).getD i 0)) ∧ Below w.heap.size w w' := by
  have hge := grownCap_ge w s.size 0 5
  refine ⟨_, _, Go.Lib.run_convert_string_bytes w 9 57 5 s Tryd.underlying9 Tryd.underlying57 Tryd.underlying5, hge, ⟨_, Go.Lib.bytesWorld_at_new w _ s, ?_, fun i hi => ?_⟩, rfl, rfl, rfl, by rw [Go.Lib.bytesWorld_size]; omega, fun k hk => Go.Lib.bytesWorld_at_old w _ s k hk⟩
  · unfold Go.Lib.bytesCells; rw [Array.size_append, Array.size_map]; show s.size ≤ s.size + _; omega
  · have hi' : i < s.data.size := hi
    show _ = some (Value.int IntKind.u8 ((sBytes s).getD i 0))
    unfold Go.Lib.bytesCells
    rw [Array.getElem?_append_left (by rw [Array.size_map]; exact hi'), Array.getElem?_map, Array.getElem?_eq_getElem hi', sBytes, List.getD_eq_getElem?_getD, List.getElem?_map, Array.getElem?_toList, Array.getElem?_eq_getElem hi']
    rfl
/-- a great letter of the first 128, small. -/
def smI (x : Int) : Int := if 65 ≤ x ∧ x ≤ 90 then x + 32 else x
def smS (s : ByteArray) : ByteArray := strOf ((sBytes s).map smI)
theorem smS_range (s : ByteArray) : strOf ((List.range s.size).map fun i => smI ((sBytes s).getD i 0)) = smS s := by
  unfold smS
  congr 1
  apply List.ext_getElem?
  intro i
  rw [List.getElem?_map, List.getElem?_map]
  by_cases h : i < s.size
  · have h' : i < (sBytes s).length := by rw [sBytes_length]; exact h
    rw [List.getElem?_range h, List.getElem?_eq_getElem h']
    simp [List.getD_eq_getElem?_getD, List.getElem?_eq_getElem h']
  · rw [List.getElem?_eq_none (by simp; omega), List.getElem?_eq_none (by rw [sBytes_length]; omega)]
    rfl
set_option maxHeartbeats 2000000 in
set_option maxRecDepth 100000 in
theorem small_any (s : ByteArray) (hs : s.size ≤ maxLen) (w : World) :
    Calls Tryd.prog 23 #[.string s] w fun e w' => e = .returned (.string (smS s)) ∧ Below w.heap.size w w' := by
  obtain ⟨cap, w1, hr, hcap, hz, hb1⟩ := string_bytes_own w s
  have hm : (s.size : Int) ≤ 9223372036854775807 := by unfold maxLen at hs; omega
  have hsz := sBytes_byte s
  have HZ : Hid (rowZ w1 w.heap.size 5 s.size (fun i => .int .u8 ((sBytes s).getD i 0))) := hz
  have HB1 : Hid (Below w.heap.size w w1) := hb1
  have HBY : Hid _ := hsz
  obtain ⟨b, hb⟩ : ∃ b, b = w.heap.size := ⟨_, rfl⟩
  rw [← hb] at hr
  have hcv := fun (wx : World) (hc : ∀ i, i < s.size → wx.cell? ⟨b, 0 + i, none⟩ = some (.int .u8 (smI ((sBytes s).getD i 0)))) => run_convert_row_string (P := Tryd.prog) wx 57 9 5 b 0 s.size cap (fun i => smI ((sBytes s).getD i 0)) Tryd.underlying57 Tryd.underlying5 Tryd.underlying9 hc
  have HC : Hid _ := hcv
  have HEQ : Hid (b = w.heap.size) := hb
  clear hcv hz hb1 hsz hs hb
  go_enter Tryd.func23, Tryd.ntmps23
  go_wp2
  clear hr
  go_loopw [10] (fun i wr => ∃ k : Nat, k ≤ s.size ∧ i = .int .i64 k ∧ Below w.heap.size w wr ∧ rowZ wr b 5 s.size (fun j => .int .u8 (if j < k then smI ((sBytes s).getD j 0) else (sBytes s).getD j 0))) (fun i _ => s.size - (intOf i).toNat)
  case atStart =>
    exact ⟨0, by omega, rfl, HB1.out, by rw [HEQ.out]; exact HZ.out.congr fun i _ => by rw [if_neg (by omega)]⟩
  case round =>
    obtain ⟨k, hk, rfl, hb, r⟩ := hrel
    by_cases hlt : k < s.size
    · have k0 : (0 : Int) ≤ (k : Int) := by omega
      have k1 : (k : Int) < (s.size : Int) := by omega
      have c1 := r.cell hlt
      rw [if_neg (by omega)] at c1
      have z1 := r.frozen hlt
      obtain ⟨x, hx⟩ : ∃ x, x = (sBytes s).getD k 0 := ⟨_, rfl⟩
      have hxb := HBY.out k
      rw [← hx] at c1 hxb
      have HX : Hid _ := hx
      obtain ⟨x0, x1⟩ := hxb
      have R : Hid (rowZ wr b 5 s.size (fun j => .int .u8 (if j < k then smI ((sBytes s).getD j 0) else (sBytes s).getD j 0))) := r
      have B : Hid (Below w.heap.size w wr) := hb
      clear hx r hb
      by_cases h1 : (65 : Int) ≤ x
      · by_cases h2 : x ≤ 90
        · go_wp2
          go_light
          refine ⟨⟨k + 1, by omega, by go_num, B.out.setCell (by rw [HEQ.out]; exact Nat.le_refl _) _, (R.out.set k _).congr fun i _ => ?_⟩, by simp [intOf]; omega⟩
          by_cases e : i = k
          · subst e
            rw [if_pos rfl, if_pos (by omega), ← HX.out, smI, if_pos ⟨h1, h2⟩]
            congr 1
            go_num
          · rw [if_neg e]
            by_cases e2 : i < k
            · rw [if_pos e2, if_pos (by omega)]
            · rw [if_neg e2, if_neg (by omega)]
        · go_wp2
          go_light
          refine ⟨⟨k + 1, by omega, by go_num, B.out, R.out.congr fun i _ => ?_⟩, by simp [intOf]; omega⟩
          by_cases e : i = k
          · subst e
            rw [if_neg (by omega), if_pos (by omega), ← HX.out, smI, if_neg (by omega)]
          · by_cases e2 : i < k
            · rw [if_pos e2, if_pos (by omega)]
            · rw [if_neg e2, if_neg (by omega)]
      · go_wp2
        go_light
        refine ⟨⟨k + 1, by omega, by go_num, B.out, R.out.congr fun i _ => ?_⟩, by simp [intOf]; omega⟩
        by_cases e : i = k
        · subst e
          rw [if_neg (by omega), if_pos (by omega), ← HX.out, smI, if_neg (by omega)]
        · by_cases e2 : i < k
          · rw [if_pos e2, if_pos (by omega)]
          · rw [if_neg e2, if_neg (by omega)]
    · obtain rfl : k = s.size := by omega
      have hcv := HC.out wr (fun i hi => by rw [Nat.zero_add, r.cell hi, if_pos (by omega)])
      rw [smS_range] at hcv
      have B : Hid (Below w.heap.size w wr) := hb
      clear hb r
      go_wp2
      go_ret
      exact ⟨rfl, B.out⟩
end Go.Proofs.YthjfalbchkbdfaaDoor

/- The document's Fault, May, Letter, Small. -/
namespace Go.Proofs.YthjfalbchkbdfaaDoor
set_option linter.unusedSimpArgs false
set_option linter.unusedVariables false
open Go.RowKit Go.Deep

/-- the document's row of letters. -/
def lrow : Array Value := (ltL.flatMap fun p => [Value.int .i64 p.1, Value.int .i64 p.2]).toArray
end Go.Proofs.YthjfalbchkbdfaaDoor

/- The document's Small. -/
namespace Go.Proofs.YthjfalbchkbdfaaDoor
set_option linter.unusedSimpArgs false
set_option linter.unusedVariables false
open Go.RowKit Go.Deep

theorem strOf_append (l m : List Int) : strOf l ++ strOf m = strOf (l ++ m) := by
  unfold strOf
  apply ByteArray.ext
  simp [ByteArray.data_append]
theorem sBytes_bt (s : ByteArray) (k : Nat) : (sBytes s).getD k 0 = (bt s k : Int) := by
  unfold bt
  by_cases h : k < s.size
  · rw [get_ok s k h, sBytes, List.getD_eq_getElem?_getD, List.getElem?_map, Array.getElem?_toList]
    have h' : k < s.data.size := h
    rw [Array.getElem?_eq_getElem h']
    rfl
  · rw [get_out s k h, List.getD_eq_getElem?_getD, List.getElem?_eq_none (by rw [sBytes_length]; omega)]; rfl
end Go.Proofs.YthjfalbchkbdfaaDoor

/- Layer 8, pure: what is small; one behind the other; a beginning. -/
namespace Go.Proofs.YthjfalbchkbdfaaDoor
set_option linter.unusedVariables false
open Go.RowKit Go.Deep

def smN (b : Nat) : Nat := if 65 ≤ b ∧ b ≤ 90 then b + 32 else b
theorem smS_size (s : ByteArray) : (smS s).size = s.size := by unfold smS; rw [strOf_size, List.length_map, sBytes_length]
/-- as far as the bytes are alike. -/
theorem nx_alike {s t : ByteArray} {k k' : Nat} (hz : 0 < (nx s k).2) (hn : k' + (nx s k).2 ≤ t.size) (hb : ∀ i, i < (nx s k).2 → bt t (k' + i) = bt s (k + i)) : nx t k' = nx s k := by
  have h : nx s k = ((nx s k).1, (nx s k).2) := rfl
  unfold nx at h ⊢
  rw [h]
  refine nxN_same h hz (by have : (nx s k).2 = (nxN (s.size - k) (bt s k) (bt s (k + 1)) (bt s (k + 2)) (bt s (k + 3))).2 := rfl; omega) ?_ ?_ ?_ ?_
  · exact hb 0 hz
  · exact fun h => hb 1 h
  · exact fun h => hb 2 h
  · exact fun h => hb 3 h
theorem bt_app_l (a b : ByteArray) (i : Nat) (h : i < a.size) : bt (a ++ b) i = bt a i := by
  unfold bt
  rw [get_ok _ _ (by rw [ByteArray.size_append]; omega), get_ok _ _ h, ByteArray.getElem_append_left h]
theorem bt_app_r (a b : ByteArray) (i : Nat) : bt (a ++ b) (a.size + i) = bt b i := by
  unfold bt
  by_cases h : i < b.size
  · rw [get_ok _ _ (by rw [ByteArray.size_append]; omega), get_ok _ _ h, ByteArray.getElem_append_right (by omega)]
    simp
  · rw [get_out _ _ (by rw [ByteArray.size_append]; omega), get_out _ _ h]
theorem nx_app_r (a b : ByteArray) (k : Nat) : nx (a ++ b) (a.size + k) = nx b k := by
  unfold nx
  rw [Nat.add_assoc, Nat.add_assoc, Nat.add_assoc, bt_app_r, bt_app_r, bt_app_r, bt_app_r, ByteArray.size_append, show a.size + b.size - (a.size + k) = b.size - k by omega]
theorem flAt_app_r (a b : ByteArray) : ∀ d k, b.size ≤ k + d → flAt (a ++ b) (a.size + k) = a.size + flAt b k := by
  intro d
  induction d using Nat.strongRecOn with
  | ind d ih =>
    intro k hd
    by_cases e : (nx b k).2 = 0
    · rw [flAt_stop e, flAt_stop (by rw [nx_app_r]; exact e)]
    · rw [flAt_step e, flAt_step (s := a ++ b) (by rw [nx_app_r]; exact e), nx_app_r, Nat.add_assoc]
      by_cases hd0 : d = 0
      · rw [nx_end (by omega)] at e; exact absurd rfl e
      · exact ih (d - 1) (by omega) _ (by omega)
end Go.Proofs.YthjfalbchkbdfaaDoor

/- Layer 9, pure: the words of a text; the document's way of going through its runs. -/
namespace Go.Proofs.YthjfalbchkbdfaaDoor
set_option linter.unusedVariables false

/-- the words from place i on, behind those that were found. -/
def wGo (st : List ByteArray) : List (ByteArray × Nat) → Nat → List ByteArray → Nat × List (ByteArray × Nat)
  | acc, _, [] => (0, acc)
  | acc, i, r :: t => if 24 < r.size then (3, []) else if 48 ≤ i then (7, []) else wGo st (if inS st (smS r) then acc else acc ++ [(smS r, i)]) (i + 1) t
/-- the error, and the words. -/
def wordsP (s : ByteArray) (st : List ByteArray) : Nat × List (ByteArray × Nat) := if fl s = s.size then wGo st [] 0 (rl s) else (8, [])
def oneP (s : ByteArray) (st : List ByteArray) : Bool := match wordsP s st with
  | (0, [x]) => x.1.toList == s.toList
  | _ => false
theorem sBytes_append (a b : ByteArray) : sBytes (a ++ b) = sBytes a ++ sBytes b := by
  unfold sBytes; simp [ByteArray.data_append]
theorem smS_append (a b : ByteArray) : smS (a ++ b) = smS a ++ smS b := by
  unfold smS; rw [sBytes_append, List.map_append, strOf_append]
theorem extract_join (s : ByteArray) (i j k : Nat) (h1 : i ≤ j) (h2 : j ≤ k) : s.extract i j ++ s.extract j k = s.extract i k := by
  apply ByteArray.ext
  simp [ByteArray.data_append, ByteArray.data_extract, Array.extract_append_extract, Nat.min_eq_left h1, Nat.max_eq_right h2]
theorem rlAt_gap {s : ByteArray} {k : Nat} (h : ¬ stopP s false k) : rlAt s k = rlAt s (k + (nx s k).2) := by
  have e := ps_step h
  by_cases he : ps s true (ps s false k) = ps s false k
  · rw [rlAt_end he, rlAt_end (by rw [← e]; exact he)]
  · rw [rlAt_next he, rlAt_next (k := k + (nx s k).2) (by rw [← e]; exact he), ← e]
theorem rlAt_run {s : ByteArray} {k : Nat} (h : ¬ stopP s true k) : rlAt s k = s.extract k (ps s true k) :: rlAt s (ps s true k) := by
  have hz := go_size h
  have hs : stopP s false k := .inr (by
    have : letB ((nx s k).1 : Int) = true := by
      rcases hb : letB ((nx s k).1 : Int) with _ | _
      · exact absurd (.inr (by rw [hb]; decide)) h
      · rfl
    rw [this]; decide)
  have e := ps_stop hs
  have h1 := ps_step h
  have h2 := ps_ge (b := true) hz.2
  rw [rlAt_next (by rw [e]; omega), e]
theorem rlAt_last (s : ByteArray) : rlAt s s.size = [] := rlF_end (Nat.le_refl _) _
/-- the document, at byte k: what is out, which run is under way. -/
def midP (s : ByteArray) (out : List ByteArray) (run : ByteArray) (k : Nat) : Prop :=
  k ≤ s.size ∧ flAt s k = s.size ∧ ((run.size = 0 ∧ out ++ (rlAt s k).map smS = (rl s).map smS) ∨
    ∃ b, b < k ∧ run = smS (s.extract b k) ∧ out ++ smS (s.extract b (ps s true k)) :: (rlAt s (ps s true k)).map smS = (rl s).map smS)
theorem midP.start {s : ByteArray} (h : fl s = s.size) : midP s [] ByteArray.empty 0 := ⟨Nat.zero_le _, h, .inl ⟨rfl, rfl⟩⟩
theorem midP.more {s : ByteArray} {out : List ByteArray} {run : ByteArray} {k : Nat} (h : midP s out run k) (hk : k < s.size) : 0 < (nx s k).2 ∧ k + (nx s k).2 ≤ s.size ∧ flAt s (k + (nx s k).2) = s.size := by
  have hz : (nx s k).2 ≠ 0 := fun hz => by have := flAt_stop hz; rw [h.2.1] at this; omega
  have := nx_size s k
  refine ⟨by omega, by omega, ?_⟩
  rw [← flAt_step hz]; exact h.2.1
theorem size_zero {a : ByteArray} (h : a.size = 0) : a = ByteArray.empty := by
  apply ByteArray.ext
  exact Array.eq_empty_of_size_eq_zero h
theorem empty_join (a : ByteArray) : ByteArray.empty ++ a = a := by apply ByteArray.ext; simp [ByteArray.data_append]
theorem midP.letter {s : ByteArray} {out : List ByteArray} {run : ByteArray} {k : Nat} (h : midP s out run k) (hk : k < s.size) (hl : letB ((nx s k).1 : Int) = true) :
    midP s out (run ++ smS (s.extract k (k + (nx s k).2))) (k + (nx s k).2) := by
  obtain ⟨h1, h2, h3⟩ := h.more hk
  have hs : ¬ stopP s true k := fun hs => by
    rcases hs with hs | hs
    · omega
    · exact hs hl
  have e := ps_step hs
  refine ⟨h2, h3, .inr ?_⟩
  obtain ⟨_, _, ⟨hr, ho⟩ | ⟨b, hb, hr, ho⟩⟩ := h
  · refine ⟨k, by omega, by rw [size_zero hr, empty_join], ?_⟩
    rw [← ho, rlAt_run hs, List.map_cons, e]
  · refine ⟨b, by omega, by rw [hr, ← smS_append, extract_join _ _ _ _ (by omega) (by omega)], ?_⟩
    rw [← e]; exact ho
theorem midP.other {s : ByteArray} {out : List ByteArray} {run : ByteArray} {k : Nat} (h : midP s out run k) (hk : k < s.size) (hl : letB ((nx s k).1 : Int) = false) :
    midP s (if run.size = 0 then out else out ++ [run]) ByteArray.empty (k + (nx s k).2) := by
  obtain ⟨h1, h2, h3⟩ := h.more hk
  have hs : ¬ stopP s false k := fun hs => by
    rcases hs with hs | hs
    · omega
    · exact hs hl
  have ht : stopP s true k := .inr (by rw [hl]; decide)
  have e := rlAt_gap hs
  refine ⟨h2, h3, .inl ⟨rfl, ?_⟩⟩
  obtain ⟨hk', _, ⟨hr, ho⟩ | ⟨b, hb, hr, ho⟩⟩ := h
  · rw [if_pos hr, ← ho, e]
  · have hz : run.size ≠ 0 := by rw [hr, smS_size, ByteArray.size_extract]; omega
    rw [if_neg hz, ← ho, ps_stop ht, e, hr]; simp
theorem midP.done {s : ByteArray} {out : List ByteArray} {run : ByteArray} (h : midP s out run s.size) : (if run.size = 0 then out else out ++ [run]) = (rl s).map smS := by
  have ht : stopP s true s.size := stop_end (Nat.le_refl _)
  obtain ⟨hk', _, ⟨hr, ho⟩ | ⟨b, hb, hr, ho⟩⟩ := h
  · rw [if_pos hr, ← ho, rlAt_last]; simp
  · have hz : run.size ≠ 0 := by rw [hr, smS_size, ByteArray.size_extract]; omega
    rw [if_neg hz, ← ho, ps_stop ht, rlAt_last, hr]; simp
end Go.Proofs.YthjfalbchkbdfaaDoor

/- words.Words. -/
namespace Go.Proofs.YthjfalbchkbdfaaDoor
set_option linter.unusedSimpArgs false
set_option linter.unusedVariables false
open Go.RowKit Go.Shelf Go.Deep
attribute [local go_sem] Oper.semAt_some

section
variable {P : Program} {fn : Func} {R : Ending → World → Prop} {a : Act} {w : World} {v : Value} {n : Nat}
theorem bodyPostM_ret (hr : (results fn a.tmps).run P w = .ok v w) (hd : a.defers = []) (hR : R (.returned v) w) : bodyPostM Fence.wide n P fn R .ret a w := by
  show LeavesInM Fence.wide n P fn a.tmps R a.defers .returning w
  rw [hd]
  exact ⟨v, hr, hR⟩
theorem bodyPostM_mark {D : Nat} (hd : a.defers = [{ target := .collected D, args := #[] }]) (hK : w.heap[D]? = some (.deferred (some []))) (hr : (results fn a.tmps).run P (w.putObj D (.deferred none)) = .ok v (w.putObj D (.deferred none))) (hR : R (.returned v) (w.putObj D (.deferred none))) : bodyPostM Fence.wide n P fn R .ret a w := by
  show LeavesInM Fence.wide n P fn a.tmps R a.defers .returning w
  rw [hd]
  exact ⟨by simp, .inl ⟨_, _, rfl, run_takeDeferred hK, ⟨v, hr, hR⟩⟩⟩
end
/-- the three boxes: the stop words, the two results. -/
def boxes3 (v : Value) (w : World) : World := ((w.alloc (.cells #[v] 22)).alloc (.cells #[.slice none 0 0] 25)).alloc (.cells #[.int .i64 0] 26)
theorem boxes3_is (v : Value) (w : World) : (boxes3 v w).heap.size = w.heap.size + 3 ∧ Below w.heap.size w (boxes3 v w) ∧
    boxAt (boxes3 v w) w.heap.size 22 v ∧ boxAt (boxes3 v w) (w.heap.size + 1) 25 (.slice none 0 0) ∧ boxAt (boxes3 v w) (w.heap.size + 1 + 1) 26 (.int .i64 0) := by
  unfold boxes3
  have al : ∀ (w : World) (o : Obj), Below w.heap.size w (w.alloc o) := fun w o => (Below.refl _ _).alloc (Nat.le_refl _) _
  have n1 := boxAt.new w 22 v
  have n2 := boxAt.new (w.alloc (.cells #[v] 22)) 25 (.slice none 0 0)
  have n3 := boxAt.new ((w.alloc (.cells #[v] 22)).alloc (.cells #[.slice none 0 0] 25)) 26 (.int .i64 0)
  refine ⟨by simp, (((Below.refl _ _).alloc (Nat.le_refl _) _).alloc (by simp) _).alloc (by simp; omega) _, (n1.below (al _ _)).below (al _ _), ?_, ?_⟩
  · have := n2.below (al _ (.cells #[.int .i64 0] 26))
    rwa [World.size_alloc] at this
  · rwa [World.size_alloc, World.size_alloc] at n3
/-- the two results, set. -/
theorem two_set {w : World} {b1 b2 : Nat} {t1 t2 : TypeId} {x y : Value} (h1 : boxAt w b1 t1 x) (h2 : boxAt w b2 t2 y) (hne : b1 ≠ b2) (u1 u2 : Value) :
    boxAt ((w.setCell ⟨b1, 0, none⟩ u1).setCell ⟨b2, 0, none⟩ u2) b1 t1 u1 ∧ boxAt ((w.setCell ⟨b1, 0, none⟩ u1).setCell ⟨b2, 0, none⟩ u2) b2 t2 u2 :=
  ⟨(h1.set u1).other hne u2, (h2.other hne.symm u1).set u2⟩
/-- behind k rounds. -/
def wordsI (s : ByteArray) (st : List ByteArray) (v : Value) (w : World) (b3 p D : Nat) (k : Nat) (W : World) : Prop :=
  Below w.heap.size w W ∧ boxAt W p 9 (.string s) ∧ boxAt W w.heap.size 22 v ∧ boxAt W (w.heap.size + 1) 25 (.slice none 0 0) ∧ boxAt W (w.heap.size + 1 + 1) 26 (.int .i64 0) ∧
  ∃ acc lv, boxAt W b3 25 lv ∧ newWords W (D + 2) lv acc ∧ acc.length ≤ k ∧ wGo st acc k ((rl s).drop k) = wGo st [] 0 (rl s)
/-- where a round leaves the function. -/
def wordsX (s : ByteArray) (st : List ByteArray) (w : World) (k : Nat) (W : World) : Prop :=
  Below w.heap.size w W ∧ ∃ e : Nat, boxAt W (w.heap.size + 1) 25 (.slice none 0 0) ∧ boxAt W (w.heap.size + 1 + 1) 26 (.int .i64 (e : Int)) ∧ wGo st [] 0 (rl s) = (e, [])
theorem newWords.notObj {W : World} {B D : Nat} {lv : Value} {acc : List (ByteArray × Nat)} {o : Obj} (h : newWords W B lv acc) (hl : W.heap[D]? = some o) (ho : o.isCells = false) : ∀ k, lv.ownBlock = some k → k ≠ D := by
  intro k hk e
  obtain ⟨_, h | ⟨g, cap, cur, rfl, hg, hbk, _⟩⟩ := h
  · rw [h.1] at hk; cases hk
  · obtain rfl : g = k := by simpa [Value.ownBlock] using hk
    rw [e, hl] at hbk
    obtain rfl := Option.some.inj hbk
    cases ho
theorem below_put {w W : World} {l : Nat} {o : Obj} (h : Below w.heap.size w W) (hl : w.heap.size ≤ l) : Below w.heap.size w (W.putObj l o) :=
  h.trans ⟨rfl, rfl, rfl, by simp [World.putObj], fun j hj => World.putObj_heap_other (by omega)⟩
theorem wordsI.put {s : ByteArray} {st : List ByteArray} {v : Value} {w : World} {b3 p D k : Nat} {W : World} {x y : Loop} (h : wordsI s st v w b3 p D k W) (hD : w.heap.size ≤ D) (hl : W.heap[D + 1]? = some (.loop x)) : wordsI s st v w b3 p D k (W.putObj (D + 1) (.loop y)) := by
  obtain ⟨h1, h2, h3, h4, h5, acc, lv, h6, h7, h8⟩ := h
  exact ⟨below_put h1 (by omega), h2.put hl, h3.put hl, h4.put hl, h5.put hl, acc, lv, h6.put hl, h7.far fun k hk => World.putObj_heap_other fun e => h7.notObj hl rfl k hk e, h8⟩
theorem wordsX.put {s : ByteArray} {st : List ByteArray} {w : World} {D k : Nat} {W : World} {x y : Loop} (h : wordsX s st w k W) (hD : w.heap.size ≤ D) (hl : W.heap[D + 1]? = some (.loop x)) : wordsX s st w k (W.putObj (D + 1) (.loop y)) := by
  obtain ⟨h1, e, h2, h3, h4⟩ := h
  exact ⟨below_put h1 (by omega), e, h2.put hl, h3.put hl, h4⟩
theorem wordsI.below {s : ByteArray} {st : List ByteArray} {v : Value} {w : World} {b3 p D k : Nat} {W W' : World} (h : wordsI s st v w b3 p D k W) (hb : Below W.heap.size W W') : wordsI s st v w b3 p D k W' := by
  obtain ⟨h1, h2, h3, h4, h5, acc, lv, h6, h7, h8⟩ := h
  exact ⟨h1.trans (hb.mono h1.size), h2.below hb, h3.below hb, h4.below hb, h5.below hb, acc, lv, h6.below hb, h7.far fun k hk => hb.block k (ownsRow_block h7 k hk).2, h8⟩
theorem wordsX.below {s : ByteArray} {st : List ByteArray} {w : World} {k : Nat} {W W' : World} (h : wordsX s st w k W) (hb : Below W.heap.size W W') : wordsX s st w k W' := by
  obtain ⟨h1, e, h2, h3, h4⟩ := h
  exact ⟨h1.trans (hb.mono h1.size), e, h2.below hb, h3.below hb, h4⟩
set_option maxHeartbeats 8000000 in
set_option maxRecDepth 100000 in
theorem words_any (s : ByteArray) (hs : s.size ≤ maxLen) (v : Value) (st : List ByteArray) (w : World) (hT : utT w) (hv : strsAt w v st) :
    Calls Tryd.prog 11 #[.string s, v] w fun e w' => ∃ rv, e = .returned (.tuple #[rv, .int .i64 ((wordsP s st).1 : Int)]) ∧ newWords w' w.heap.size rv (wordsP s st).2 ∧ Below w.heap.size w w' := by
  obtain ⟨va, vc, rfl, _⟩ := hv.slice
  obtain ⟨v, hve⟩ : ∃ v, v = Value.slice va st.length vc := ⟨_, rfl⟩
  rw [← hve] at hv
  obtain ⟨s1, b1, r1, r2, r3⟩ := boxes3_is v w
  obtain ⟨w1, hw1⟩ : ∃ w1, w1 = boxes3 v w := ⟨_, rfl⟩
  rw [← hw1] at s1 b1 r1 r2 r3
  have X := may_any s hs w1 (hT.below b1).1
  unfold boxes3 at hw1
  rw [hve] at hw1
  have HVE : Hid (v = Value.slice va st.length vc) := (show _ from hve)
  have HT : Hid (utT w) := (show utT w from hT)
  have HV : Hid (strsAt w v st) := (show strsAt w v st from hv)
  have HS : Hid (s.size ≤ maxLen) := (show _ from hs)
  have B1 : Hid (Below w.heap.size w w1) := (show _ from b1)
  have S1 : Hid (w1.heap.size = w.heap.size + 3) := (show _ from s1)
  have R1 : Hid (boxAt w1 w.heap.size 22 v) := (show _ from r1)
  have R2 : Hid (boxAt w1 (w.heap.size + 1) 25 (.slice none 0 0)) := (show _ from r2)
  have R3 : Hid (boxAt w1 (w.heap.size + 1 + 1) 26 (.int .i64 0)) := (show _ from r3)
  clear hT hv hs b1 s1 r1 r2 r3 hve
  refine (callsIn_wide (n := 3)).1 ?_
  refine callsIn_of_wp_marks Tryd.func11 rfl trivial ?_ rfl
  simp only [Tryd.ntmps11, List.size_toArray, List.length_cons, List.length_nil, Nat.reduceAdd, Nat.reduceSub, Array.replicate_succ, Array.replicate_zero, List.push_toArray, List.append_toArray, List.nil_append, List.cons_append]
  gi_wp2_with fail
  rw [← hw1]
  refine ⟨trivial, (callsIn_wide.2 X).mono ?_⟩
  rintro e w2 ⟨rfl, b2⟩
  clear X hw1
  have B2 : Hid (Below w.heap.size w w2) := (show _ from B1.out.trans (b2.mono B1.out.size))
  have Q1 : Hid (boxAt w2 w.heap.size 22 v) := (show _ from boxAt.below R1.out b2)
  have Q2 : Hid (boxAt w2 (w.heap.size + 1) 25 (.slice none 0 0)) := (show _ from boxAt.below R2.out b2)
  have Q3 : Hid (boxAt w2 (w.heap.size + 1 + 1) 26 (.int .i64 0)) := (show _ from boxAt.below R3.out b2)
  have SZ2 : Hid (w.heap.size + 3 ≤ w2.heap.size) := (show _ from Nat.le_trans (Nat.le_of_eq (Hid.out S1).symm) b2.size)
  clear b2 B1 S1 R1 R2 R3
  by_cases hf : fl s = s.size
  · have hd : decide (fl s = s.size) = true := decide_eq_true hf
    rw [hd]
    obtain ⟨w3, hw3⟩ : ∃ w3, w3 = w2.alloc (.cells #[.slice none 0 0] 25) := ⟨_, rfl⟩
    have XR := runs_any s w3
    gi_wp2_with fail
    rw [← hw3]
    refine ⟨trivial, (callsIn_wide.2 XR).mono ?_⟩
    rintro e w4 ⟨p, rfl, hp, hp3, b4⟩
    clear XR
    have b23 : Below w2.heap.size w2 w3 := by rw [hw3]; exact (Below.refl _ _).alloc (Nat.le_refl _) _
    have n3 : boxAt w3 w2.heap.size 25 (.slice none 0 0) := by rw [hw3]; exact boxAt.new _ _ _
    have b24 : Below w2.heap.size w2 w4 := b23.trans (b4.mono b23.size)
    have S4 : Hid (w2.heap.size + 1 ≤ w4.heap.size) := (show _ from by have h1 := b4.size; rw [hw3, World.size_alloc] at h1; exact h1)
    have B4 : Hid (Below w.heap.size w w4) := (show _ from B2.out.trans (b24.mono B2.out.size))
    have P1 : Hid (boxAt w4 w.heap.size 22 v) := (show _ from Q1.out.below b24)
    have P2 : Hid (boxAt w4 (w.heap.size + 1) 25 (.slice none 0 0)) := (show _ from Q2.out.below b24)
    have P3 : Hid (boxAt w4 (w.heap.size + 1 + 1) 26 (.int .i64 0)) := (show _ from Q3.out.below b24)
    have P4 : Hid (boxAt w4 w2.heap.size 25 (.slice none 0 0)) := (show _ from n3.below b4)
    have P5 : Hid (boxAt w4 p 9 (.string s)) := (show _ from hp)
    have PLT : Hid (p < w4.heap.size) := (show _ from hp.lt)
    have PNE : Hid (p ≠ w2.heap.size) := (show p ≠ w2.heap.size from by
      have h3 : w3.heap.size = w2.heap.size + 1 := by rw [hw3, World.size_alloc]
      omega)
    clear b23 n3 b24 b4 hp hp3 hw3 Q1 Q2 Q3
    have hD : w.heap.size + 3 ≤ w4.heap.size := Nat.le_trans SZ2.out (by have := S4.out; omega)
    have HD : Hid (w.heap.size + 3 ≤ w4.heap.size) := (show _ from hD)
    have hwp : wordsP s st = wGo st [] 0 (rl s) := by unfold wordsP; rw [if_pos hf]
    have HWP : Hid (wordsP s st = wGo st [] 0 (rl s)) := (show _ from hwp)
    clear hwp hD hf hd
    gi_wp2
    refine wpIn_range_stop (gf := 36) (lb := #[.pointer (some ⟨p, 0, none⟩)]) (encs := runV) (ys := runsL s) rfl (enters_of Tryd.func36 (by kernel_rfl) rfl) (runs1_hands 2 p s HS.out) (fun _ => rfl)
      (fun k W => wordsI s st v w w2.heap.size p w4.heap.size k W) (fun k W => wordsX s st w k W)
      (fun k W x y h hl => h.put (by have := HD.out; omega) hl) (fun k W x y h hl => h.put (by have := HD.out; omega) hl)
      (fun k W h => ⟨HT.out.below h.1, h.2.1.cells.1⟩) (fun k W W' h hb => h.below hb) (fun k W W' h hb => h.below hb) (fun o o' => ?start)
      (fun x => { tmps := #[.string s, .slice va st.length vc, undef, .pointer (some ⟨w.heap.size, 0, none⟩), .pointer (some ⟨w.heap.size + 1, 0, none⟩), .pointer (some ⟨w.heap.size + 1 + 1, 0, none⟩), .pointer (some ⟨w2.heap.size, 0, none⟩), .int .i64 (x.2 : Int), .string x.1, undef, .string s,
        .bool true, .bool false, .string s, .func (.func 36) #[] #[.pointer (some ⟨p, 0, none⟩)], .int .i64 (x.2 : Int), .string x.1, undef, undef, undef, undef, undef, undef, undef, undef, undef, undef, undef, undef, undef, undef, undef, undef, undef, undef], defers := [] }) ?assign ?body ?done ?stop
    case start =>
      have bb : Below w4.heap.size w4 ((w4.alloc o).alloc o') := ((Below.refl _ _).alloc (Nat.le_refl _) _).alloc (by simp) _
      exact ⟨B4.out.trans (bb.mono B4.out.size), boxAt.below P5.out bb, boxAt.below P1.out bb, boxAt.below P2.out bb, boxAt.below P3.out bb, [], _, boxAt.below P4.out bb, newWords.none _ _, Nat.le_refl _, rfl⟩
    case assign =>
      intro l x W K hK
      simp only [runV, List.zip_toArray, List.zip_cons_cons, List.zip_nil_left, List.zip_nil_right, List.foldl_toArray, List.foldl_cons, List.foldl_nil, List.setIfInBounds_toArray, List.set_cons_succ, List.set_cons_zero]
      gi_wp2
      exact hK
    case body =>
      rintro l k hk W x hI hDd hDl
      have hk' : k < (rl s).length := by rw [runsL_length] at hk; exact hk
      rw [runsL_get s k hk hk']
      have hcons := List.drop_eq_getElem_cons hk'
      have hmem : (rl s)[k] ∈ rl s := List.getElem_mem hk'
      generalize (rl s)[k] = r at hcons hmem ⊢
      have hrs : r.size ≤ maxLen := Nat.le_trans (rl_size hmem) HS.out
      have hm : (r.size : Int) ≤ 9223372036854775807 := by unfold maxLen at hrs; omega
      have hI2 := hI
      obtain ⟨h1, h2, h3, h4, h5, acc, lv, h6, h7, h8, h9⟩ := hI2
      rw [hcons, wGo] at h9
      obtain ⟨c1, f1⟩ := h4.cells
      obtain ⟨c2, f2⟩ := h5.cells
      have HI : Hid (wordsI s st v w w2.heap.size p w4.heap.size k W) := (show _ from hI)
      have H1 : Hid (Below w.heap.size w W) := (show _ from h1)
      have H4 : Hid (boxAt W (w.heap.size + 1) 25 (.slice none 0 0)) := (show _ from h4)
      have H5 : Hid (boxAt W (w.heap.size + 1 + 1) 26 (.int .i64 0)) := (show _ from h5)
      have HDd : Hid (W.heap[w4.heap.size]? = some (.deferred (some []))) := (show _ from hDd)
      have HDl : Hid (W.heap[w4.heap.size + 1]? = some (.loop x)) := (show _ from hDl)
      have out : ∀ (e : Nat) (a : Act), wGo st [] 0 (rl s) = (e, []) → goesX w4.heap.size (fun k W => wordsI s st v w w2.heap.size p w4.heap.size k W) (fun k W => wordsX s st w k W) k W .ret a ((W.setCell ⟨w.heap.size + 1, 0, none⟩ (.slice none 0 0)).setCell ⟨w.heap.size + 1 + 1, 0, none⟩ (.int .i64 (e : Int))) := fun e _ he => by
        obtain ⟨t1, t2⟩ := two_set h4 h5 (by omega) (.slice none 0 0) (.int .i64 (e : Int))
        have n1 := h4.notLoop hDd rfl
        have n2 := h5.notLoop hDd rfl
        have n3 := h4.notLoop hDl rfl
        have n4 := h5.notLoop hDl rfl
        exact ⟨(blk_setCell_other _ _ _ _ n2).trans (blk_setCell_other _ _ _ _ n1), (blk_setCell_other _ _ _ _ n4).trans (blk_setCell_other _ _ _ _ n3), (h1.setCell (p := ⟨_, 0, none⟩) (Nat.le_succ _) _).setCell (p := ⟨_, 0, none⟩) (Nat.le_trans (Nat.le_succ _) (Nat.le_succ _)) _, e, t1, t2, he⟩
      have OUT : Hid _ := out
      clear out
      by_cases g1 : 24 < r.size
      · rw [if_pos g1] at h9
        have H9 : Hid (wGo st [] 0 (rl s) = (3, [])) := (show _ from h9.symm)
        have g1' : (r.size : Int) > 24 := by omega
        clear h1 h2 h3 h4 h5 h6 h7 h8 h9 hI hDd hDl hcons hmem
        gi_wp2
        exact OUT.out 3 _ H9.out
      · rw [if_neg g1] at h9
        have g1' : ¬ (r.size : Int) > 24 := by omega
        by_cases g2 : 48 ≤ k
        · rw [if_pos g2] at h9
          have H9 : Hid (wGo st [] 0 (rl s) = (7, [])) := (show _ from h9.symm)
          have g2' : (k : Int) ≥ 48 := by omega
          clear h1 h2 h3 h4 h5 h6 h7 h8 h9 hI hDd hDl hcons hmem
          gi_wp2
          exact OUT.out 7 _ H9.out
        · rw [if_neg g2] at h9
          have g2' : ¬ (k : Int) ≥ 48 := by omega
          have XS := small_any r hrs W
          have H9 : Hid (wGo st (if inS st (smS r) then acc else acc ++ [(smS r, k)]) (k + 1) ((rl s).drop (k + 1)) = wGo st [] 0 (rl s)) := (show _ from h9)
          have H8 : Hid (acc.length ≤ k) := (show _ from h8)
          have H2 : Hid (boxAt W p 9 (.string s)) := (show _ from h2)
          have H3 : Hid (boxAt W w.heap.size 22 v) := (show _ from h3)
          have H7 : Hid (newWords W (w4.heap.size + 2) lv acc) := (show _ from h7)
          have H6 : Hid (boxAt W w2.heap.size 25 lv) := (show _ from h6)
          clear OUT h1 h2 h3 h4 h5 h6 h7 h8 h9 hI hDd hDl hcons hmem
          gi_wp2_with fail
          refine ⟨trivial, CallsIn.inRound l ((callsIn_wide.2 XS).mono ?_)⟩
          rintro e W1 ⟨rfl, bs⟩
          have bw : Below w.heap.size w W1 := H1.out.trans (bs.mono H1.out.size)
          have XC := scontains_any v st (smS r) W1 (HV.out.below bw)
          rw [HVE.out] at XC
          have c0 := (boxAt.below H3.out bs).cells.1
          rw [HVE.out] at c0
          have hD1 : W1.heap[w4.heap.size]? = W.heap[w4.heap.size]? := bs.block _ (Array.getElem?_eq_some_iff.1 HDd.out).1
          have hD2 : W1.heap[w4.heap.size + 1]? = W.heap[w4.heap.size + 1]? := bs.block _ (Array.getElem?_eq_some_iff.1 HDl.out).1
          have i2 := boxAt.below H2.out bs
          have i3 := boxAt.below H3.out bs
          have i4 := boxAt.below H4.out bs
          have i5 := boxAt.below H5.out bs
          have i6 := boxAt.below H6.out bs
          have i7 : newWords W1 (w4.heap.size + 2) lv acc := newWords.far H7.out fun k hk => bs.block k (ownsRow_block H7.out k hk).2
          have I2 : Hid (boxAt W1 p 9 (.string s)) := (show _ from i2)
          have I3 : Hid (boxAt W1 w.heap.size 22 v) := (show _ from i3)
          have I4 : Hid (boxAt W1 (w.heap.size + 1) 25 (.slice none 0 0)) := (show _ from i4)
          have I5 : Hid (boxAt W1 (w.heap.size + 1 + 1) 26 (.int .i64 0)) := (show _ from i5)
          have I6 : Hid (boxAt W1 w2.heap.size 25 lv) := (show _ from i6)
          have I7 : Hid (newWords W1 (w4.heap.size + 2) lv acc) := (show _ from i7)
          have BW : Hid (Below w.heap.size w W1) := (show _ from bw)
          have HD1 : Hid _ := hD1
          have HD2 : Hid _ := hD2
          clear XS bs bw hD1 hD2 i2 i3 i4 i5 i6 i7 c1 f1 c2 f2
          gi_wp2_with fail
          refine ⟨trivial, CallsIn.inRound l ((callsIn_wide.2 XC).mono ?_)⟩
          rintro e W2 ⟨rfl, hw⟩
          obtain rfl := hw.symm
          clear XC hw c0
          cases hin : inS st (smS r) with
          | true =>
            have H99 : Hid (wGo st acc (k + 1) ((rl s).drop (k + 1)) = wGo st [] 0 (rl s)) := (show wGo st acc (k + 1) ((rl s).drop (k + 1)) = wGo st [] 0 (rl s) from by have := H9.out; rw [if_pos hin] at this; exact this)
            clear hin
            gi_wp2
            exact ⟨HD1.out, HD2.out, BW.out, I2.out, I3.out, I4.out, I5.out, acc, lv, I6.out, I7.out, Nat.le_succ_of_le H8.out, H99.out⟩
          | false =>
            have H99 : Hid (wGo st (acc ++ [(smS r, k)]) (k + 1) ((rl s).drop (k + 1)) = wGo st [] 0 (rl s)) := (show wGo st (acc ++ [(smS r, k)]) (k + 1) ((rl s).drop (k + 1)) = wGo st [] 0 (rl s) from by have := H9.out; rw [if_neg (by rw [hin]; decide)] at this; exact this)
            clear hin
            generalize smS r = word at H99 ⊢
            obtain ⟨la, lc, rfl, _⟩ := ownsRow_slice I7.out
            have hsz : w4.heap.size + 2 ≤ W1.heap.size := (Array.getElem?_eq_some_iff.1 (HD2.out.trans HDl.out)).1
            obtain ⟨W3, hW3⟩ : ∃ W3, W3 = W1.alloc (.cells #[.string word, .int .i64 (k : Int)] 46) := ⟨_, rfl⟩
            have b3 : Below W1.heap.size W1 W3 := by rw [hW3]; exact (Below.refl _ _).alloc (Nat.le_refl _) _
            have n3 : W3.heap[W1.heap.size]? = some (.cells #[.string word, .int .i64 (k : Int)] 46 (0, 0)) := by rw [hW3]; exact World.alloc_heap_new _ _
            have o3 : newWords W3 (w4.heap.size + 2) (.slice la acc.length lc) acc := newWords.far I7.out fun k hk => b3.block k (ownsRow_block I7.out k hk).2
            obtain ⟨v', w8, hr8, ho8, hg8⟩ := words_append W3 (w4.heap.size + 2) _ acc o3 (word, k) W1.heap.size n3 (by have := H8.out; omega) (Nat.le_trans hsz b3.size)
            have far : ∀ j, j < w4.heap.size + 2 → w8.heap[j]? = W1.heap[j]? := fun j hj => (hg8.block j (by have := b3.size; omega) (fun e => by have := (ownsRow_block o3 j e.symm).1; omega)).trans (b3.block j (by omega))
            have hb3 : w2.heap.size < w4.heap.size := by have := S4.out; omega
            have l6 := boxAt.same I6.out (far w2.heap.size (by omega))
            obtain ⟨c3, f3⟩ := I6.out.cells
            obtain ⟨c8, f8⟩ := l6.cells
            have nl : ∀ j, v'.ownBlock = some j → j ≠ w2.heap.size := fun j hj => by have := (ownsRow_block ho8 j hj).1; omega
            have hw8 : Below w.heap.size w w8 := by
              refine (BW.out.trans (b3.mono BW.out.size)).grown hg8 (by have := BW.out.size; have := b3.size; omega) fun j hj => ?_
              have h1 := (ownsRow_block o3 j hj).1
              have h2 := HD.out
              omega
            have FIN : Hid ((w8.setCell ⟨w2.heap.size, 0, none⟩ v').heap[w4.heap.size]? = W.heap[w4.heap.size]? ∧ (w8.setCell ⟨w2.heap.size, 0, none⟩ v').heap[w4.heap.size + 1]? = W.heap[w4.heap.size + 1]? ∧ wordsI s st v w w2.heap.size p w4.heap.size (k + 1) (w8.setCell ⟨w2.heap.size, 0, none⟩ v')) := (show (w8.setCell ⟨w2.heap.size, 0, none⟩ v').heap[w4.heap.size]? = W.heap[w4.heap.size]? ∧ (w8.setCell ⟨w2.heap.size, 0, none⟩ v').heap[w4.heap.size + 1]? = W.heap[w4.heap.size + 1]? ∧ wordsI s st v w w2.heap.size p w4.heap.size (k + 1) (w8.setCell ⟨w2.heap.size, 0, none⟩ v') from by
              have h2 := SZ2.out
              have pne : p < w4.heap.size := PLT.out
              have q1 : w4.heap.size ≠ w2.heap.size := by omega
              have q2 : w4.heap.size + 1 ≠ w2.heap.size := by omega
              have q3 : w.heap.size ≠ w2.heap.size := by omega
              have q4 : w.heap.size + 1 ≠ w2.heap.size := by omega
              have q5 : w.heap.size + 1 + 1 ≠ w2.heap.size := by omega
              refine ⟨(blk_setCell_other _ _ _ _ q1).trans ((far _ (by omega)).trans HD1.out), (blk_setCell_other _ _ _ _ q2).trans ((far _ (by omega)).trans HD2.out), hw8.setCell (p := ⟨w2.heap.size, 0, none⟩) (by show w.heap.size ≤ w2.heap.size; omega) _,
                (boxAt.same I2.out (far p (by omega))).other PNE.out _, (boxAt.same I3.out (far _ (by omega))).other q3 _, (boxAt.same I4.out (far _ (by omega))).other q4 _, (boxAt.same I5.out (far _ (by omega))).other q5 _,
                acc ++ [(word, k)], v', l6.set v', newWords.far ho8 fun j hj => blk_setCell_other _ _ _ _ (nl j hj), by rw [List.length_append]; have := H8.out; simp; omega, H99.out⟩)
            have hdw : v'.cells = #[v'] := by
              obtain ⟨a', c', rfl, _⟩ := ownsRow_slice ho8
              rfl
            obtain ⟨va', vc', hv', _⟩ := ownsRow_slice ho8
            subst hv'
            clear hsz b3 n3 o3 ho8 hg8 far l6 nl hw8 hdw
            gi_wp2_with (gi_at_builtin; refine wpListIn_append_run rfl _ _ _ rfl rfl rfl (by rw [← hW3]; exact hr8) ?_)
            rw [List.length_append, List.length_singleton] at FIN
            exact FIN.out
    case done =>
      rintro W hI hK
      obtain ⟨h1, h2, h3, h4, h5, acc, lv, h6, h7, h8, h9⟩ := hI
      rw [runsL_length, List.drop_length] at h9
      obtain ⟨c1, f1⟩ := h4.cells
      obtain ⟨c2, f2⟩ := h5.cells
      obtain ⟨la, lc, rfl, _⟩ := ownsRow_slice h7
      obtain ⟨c3, f3⟩ := h6.cells
      have H1 : Hid (Below w.heap.size w W) := (show _ from h1)
      have H4 : Hid (boxAt W (w.heap.size + 1) 25 (.slice none 0 0)) := (show _ from h4)
      have H5 : Hid (boxAt W (w.heap.size + 1 + 1) 26 (.int .i64 0)) := (show _ from h5)
      have H7 : Hid (newWords W (w4.heap.size + 2) (.slice la acc.length lc) acc) := (show _ from h7)
      have HK : Hid (W.heap[w4.heap.size]? = some (.deferred (some []))) := (show _ from hK)
      have H9 : Hid ((0, acc) = wGo st [] 0 (rl s)) := (show _ from h9)
      clear h1 h2 h3 h4 h5 h6 h7 h8 h9 hK
      gi_wp2
      obtain ⟨t1, t2⟩ := two_set H4.out H5.out (by omega) (.slice la acc.length lc) (.int .i64 0)
      have hlt1 := boxAt.notLoop H4.out HK.out rfl
      have hlt2 := boxAt.notLoop H5.out HK.out rfl
      have hK' : ((W.setCell ⟨w.heap.size + 1, 0, none⟩ (.slice la acc.length lc)).setCell ⟨w.heap.size + 1 + 1, 0, none⟩ (.int .i64 0)).heap[w4.heap.size]? = some (.deferred (some [])) := (blk_setCell_other _ _ _ _ hlt2).trans ((blk_setCell_other _ _ _ _ hlt1).trans HK.out)
      have n7 : ∀ k, (Value.slice la acc.length lc).ownBlock = some k → k ≠ w.heap.size + 1 ∧ k ≠ w.heap.size + 1 + 1 := fun k hk => by
        have h1 := (ownsRow_block H7.out k hk).1
        have h2 := HD.out
        omega
      have b7 := (H1.out.setCell (p := ⟨w.heap.size + 1, 0, none⟩) (Nat.le_succ _) (.slice la acc.length lc)).setCell (p := ⟨w.heap.size + 1 + 1, 0, none⟩) (Nat.le_trans (Nat.le_succ _) (Nat.le_succ _)) (.int .i64 0)
      have o7 : newWords ((W.setCell ⟨w.heap.size + 1, 0, none⟩ (.slice la acc.length lc)).setCell ⟨w.heap.size + 1 + 1, 0, none⟩ (.int .i64 0)) (w4.heap.size + 2) (.slice la acc.length lc) acc := newWords.far H7.out fun k hk => (blk_setCell_other _ _ _ _ (n7 k hk).2).trans (blk_setCell_other _ _ _ _ (n7 k hk).1)
      generalize (W.setCell ⟨w.heap.size + 1, 0, none⟩ (.slice la acc.length lc)).setCell ⟨w.heap.size + 1 + 1, 0, none⟩ (.int .i64 0) = W9 at t1 t2 hK' b7 o7 ⊢
      have t1' := t1.same (w' := W9.putObj w4.heap.size (.deferred none)) (World.putObj_heap_other (t1.notLoop hK' rfl).symm)
      have t2' := t2.same (w' := W9.putObj w4.heap.size (.deferred none)) (World.putObj_heap_other (t2.notLoop hK' rfl).symm)
      have o8 : newWords (W9.putObj w4.heap.size (.deferred none)) w.heap.size (.slice la acc.length lc) acc := ownsRow_lower (newWords.far o7 fun k hk => World.putObj_heap_other (o7.notObj hK' rfl k hk)) (by have := HD.out; omega)
      refine bodyPostM_mark rfl hK' (results_plain2 rfl _ _ (w.heap.size + 1) (w.heap.size + 1 + 1) (.slice la acc.length lc) (.int .i64 0) _ _ rfl rfl Tryd.underlying25 Tryd.underlying26 rfl rfl t1'.cells.1 t2'.cells.1) ?_
      have hwp := HWP.out.trans H9.out.symm
      exact ⟨_, by rw [hwp]; rfl, by rw [hwp]; exact o8, below_put b7 (by have := HD.out; omega)⟩
    case stop =>
      rintro k W hk ⟨h1, e, h2, h3, h4⟩ hK
      have h2' := h2.same (w' := W.putObj w4.heap.size (.deferred none)) (World.putObj_heap_other (h2.notLoop hK rfl).symm)
      have h3' := h3.same (w' := W.putObj w4.heap.size (.deferred none)) (World.putObj_heap_other (h3.notLoop hK rfl).symm)
      refine bodyPostM_mark rfl hK (results_plain2 rfl _ _ (w.heap.size + 1) (w.heap.size + 1 + 1) (.slice none 0 0) (.int .i64 (e : Int)) _ _ rfl rfl Tryd.underlying25 Tryd.underlying26 rfl rfl h2'.cells.1 h3'.cells.1) ?_
      have hwp := HWP.out.trans h4
      exact ⟨_, by rw [hwp], by rw [hwp]; exact newWords.none _ _, below_put h1 (by have := HD.out; omega)⟩
  · have hd : decide (fl s = s.size) = false := decide_eq_false hf
    rw [hd]
    obtain ⟨c1, f1⟩ := Q2.out.cells
    obtain ⟨c2, f2⟩ := Q3.out.cells
    gi_wp2
    obtain ⟨t1, t2⟩ := two_set Q2.out Q3.out (by omega) (.slice none 0 0) (.int .i64 8)
    refine bodyPostM_ret (results_plain2 rfl _ _ (w.heap.size + 1) (w.heap.size + 1 + 1) (.slice none 0 0) (.int .i64 8) _ _ rfl rfl Tryd.underlying25 Tryd.underlying26 rfl rfl t1.cells.1 t2.cells.1) rfl ?_
    have hwp : wordsP s st = (8, []) := by unfold wordsP; rw [if_neg hf]
    exact ⟨_, by rw [hwp]; rfl, by rw [hwp]; exact newWords.none _ _, (B2.out.setCell (p := ⟨_, 0, none⟩) (Nat.le_succ _) _).setCell (p := ⟨_, 0, none⟩) (Nat.le_trans (Nat.le_succ _) (Nat.le_succ _)) _⟩
end Go.Proofs.YthjfalbchkbdfaaDoor
