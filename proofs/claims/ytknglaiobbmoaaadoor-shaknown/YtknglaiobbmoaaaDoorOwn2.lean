import Derived.Laws.Externs
import Derived.Lib.SlBytesConst
import Derived.KernelRfl
import Derived.Deep.Light
import Derived.ProofKit
import Derived.OpenShut
import Derived.Test.YtknglaiobbmoaaaDoorRows
import Derived.Test.YtknglaiobbmoaaaDoorCards
import Derived.Deep.DeepHandedRow
import Derived.Lib.LaidTab
import Derived.Test.YtknglaiobbmoaaaDoorOwn1
set_option linter.unusedVariables false
set_option linter.unusedSimpArgs false
namespace Go.Proofs.YtknglaiobbmoaaaDoor
open Go.RowKit Go.Deep

/-- the digits. -/
def digitsS : ByteArray := { data := #[48, 49, 50, 51, 52, 53, 54, 55, 56, 57, 97, 98, 99, 100, 101, 102] }
/-- which half byte a digit is; -1: none. -/
def halfI (c : Int) : Int := if 48 ≤ c ∧ c ≤ 57 then c - 48 else if 97 ≤ c ∧ c ≤ 102 then c - 87 else -1
theorem firstIdx_digits (c : Int) (h0 : 0 ≤ c) (h1 : c ≤ 255) : firstIdx { data := #[48, 49, 50, 51, 52, 53, 54, 55, 56, 57, 97, 98, 99, 100, 101, 102] } c.toNat.toUInt8 = halfI c := by
  have h : ∀ m : Fin 256, firstIdx { data := #[48, 49, 50, 51, 52, 53, 54, 55, 56, 57, 97, 98, 99, 100, 101, 102] } m.val.toUInt8 = halfI m.val := by decide +kernel
  obtain ⟨m, rfl⟩ := Int.eq_ofNat_of_zero_le h0
  exact h ⟨m, by omega⟩
theorem idx_run (c : Int) (h0 : 0 ≤ c) (h1 : c ≤ 255) (w : World) : (callFunc 23 #[.string { data := #[48, 49, 50, 51, 52, 53, 54, 55, 56, 57, 97, 98, 99, 100, 101, 102] }, .int .u8 c]).run Tryd.prog w = .ok (.value (.int .i64 (halfI c))) w := by
  rw [run_callFunc_extern Tryd.func23 (by kernel_rfl) (by kernel_rfl) (by kernel_rfl) (e := Extern.BytealgIndexByte.indexByte) (by kernel_rfl), run_indexByte_string, firstIdx_digits c h0 h1]
  rfl
set_option maxHeartbeats 1000000 in
theorem hexIndex_any (c : Int) (h0 : 0 ≤ c) (h1 : c ≤ 255) (w : World) :
    Calls Tryd.prog 18 #[.string { data := #[48, 49, 50, 51, 52, 53, 54, 55, 56, 57, 97, 98, 99, 100, 101, 102] }, .int .u8 c] w fun e w' => e = .returned (.int .i64 (halfI c)) ∧ w' = w := by
  have hr := idx_run c h0 h1
  go_enter Tryd.func18, Tryd.ntmps18
  go_wp2
  go_ret
  exact ⟨rfl, rfl⟩

section
variable {P : Program}
/-- TWO RESULTS: one that lies in memory, one in a slot. -/
theorem results_cell_tmp {fn : Func} {p q : Tmp} {ty : TypeId} (h : fn.results = #[.cell p ty, .tmp q]) (tmps : Array Value) (w : World) (g : Nat) (t : TypeId) (n : Nat) (f : Nat → Value) (d : TypeDesc) (v : Value)
    (hp : tmps.getD p undef = .pointer (some ⟨g, 0, none⟩)) (hq : tmps.getD q undef = v) (hu : P.underlying ty = some d) (hd : (match d with | .struct _ | .array _ _ => true | _ => false) = true) (hi : (P.info? ty).map (·.size) = some n)
    (hg : w.rowIs g t n f) : (results fn tmps).run P w = .ok (.tuple #[.agg (rowV n f), v]) w := by
  have hl := run_loadVar_row (P := P) w g t ty (rowV n f) (0, 0) d (rowIs_block hg) hu hd (by rw [hi, rowV_size])
  have hp' : tmps[p]?.getD undef = .pointer (some ⟨g, 0, none⟩) := by simpa using hp
  have hq' : tmps[q]?.getD undef = v := by simpa using hq
  simp [results, h, hp', hq', asAddr, hl]
end
/-- a string's byte. -/
def sB (s : ByteArray) (i : Nat) : Int := (s.data.toList.getD i 0).toNat
theorem sB_byte (s : ByteArray) (i : Nat) : 0 ≤ sB s i ∧ sB s i ≤ 255 := by
  unfold sB; have := (s.data.toList.getD i 0).toNat_lt; omega
theorem sB_run (s : ByteArray) (i : Nat) (x : Int) (hx : x = i) (h : i < s.size) (w : World) : (Instr.index 9 (.string s) (.int .i64 x)).run Tryd.prog w = .ok (.int .u8 (sB s i)) w := by
  subst hx
  rw [run_index_string (P := Tryd.prog) (w := w) 9 s .i64 i Tryd.underlying9, dif_pos (by omega)]
  have h2 : i < s.data.size := h
  have e : s.data[i]? = some (s[i]'h) := by rw [Array.getElem?_eq_getElem h2]; rfl
  rw [sB, List.getD_eq_getElem?_getD, Array.getElem?_toList, e]
  rfl
/-- the bytes that 64 digits are; and whether all of them are digits. -/
def readI (s : ByteArray) (i : Nat) : Int := halfI (sB s (2 * i)) * 16 + halfI (sB s (2 * i + 1))
def readTo (s : ByteArray) : Nat → Bool
  | 0 => true
  | k + 1 => readTo s k && decide (0 ≤ halfI (sB s (2 * k))) && decide (0 ≤ halfI (sB s (2 * k + 1)))
def readOk (s : ByteArray) : Bool := decide (s.size = 64) && readTo s 32
/-- what is read. -/
def readV (s : ByteArray) (i : Nat) : Int := if readTo s 32 = true then readI s i else 0
theorem readTo_no (s : ByteArray) (k : Nat) : ∀ n, k ≤ n → readTo s k = false → readTo s n = false
  | 0, h, e => by obtain rfl : k = 0 := by omega
                  exact e
  | n + 1, h, e => by
    by_cases hk : k = n + 1
    · subst hk; exact e
    · rw [readTo, readTo_no s k n (by omega) e]; rfl
theorem join_half (x y : Int) (h0 : 0 ≤ x) (h1 : x ≤ 15) (h2 : 0 ≤ y) (h3 : y ≤ 15) : bits .or .i64 (x * 16) y % 256 = x * 16 + y := by
  have h : ∀ a b : Fin 16, bits .or .i64 ((a.val : Int) * 16) (b.val : Int) % 256 = (a.val : Int) * 16 + (b.val : Int) := by decide +kernel
  obtain ⟨m, rfl⟩ := Int.eq_ofNat_of_zero_le h0
  obtain ⟨n, rfl⟩ := Int.eq_ofNat_of_zero_le h2
  exact h ⟨m, by omega⟩ ⟨n, by omega⟩
theorem halfI_range (c : Int) : -1 ≤ halfI c ∧ halfI c ≤ 15 := by unfold halfI; split <;> (try split) <;> omega

set_option maxHeartbeats 1000000 in
set_option maxRecDepth 100000 in
theorem read_short (s : ByteArray) (w : World) (hs : s.size ≤ maxLen) (h : s.size ≠ 64) :
    Calls Tryd.prog 12 #[.string s] w fun e w' => e = .returned (.tuple #[.agg (rowV 32 fun _ => .int .u8 0), .bool false]) ∧ Below w.heap.size w w' := by
  have hs2 := hs
  unfold maxLen at hs2
  have hi32 : (Tryd.prog.info? 28).map (·.size) = some 32 := by kernel_rfl
  have hne : ((s.size : Int) != 64) = true := by rw [bne_iff_ne]; omega
  have hz : ∀ w : World, (zeroValue 28).run Tryd.prog w = .ok (.agg (rowV 32 (fun _ => .int .u8 0))) w := fun w => by kernel_rfl
  have r0 := rowIs_box w 28 32 (fun _ => .int .u8 0)
  have r1 := r0.alloc (.cells (rowV 32 fun _ => .int .u8 0) 28)
  go_enter Tryd.func12, Tryd.ntmps12
  go_wp2_with (first | (refine wpList_store_row rfl 28 _ _ rfl rfl w.heap.size 0 32 _ rfl rfl hi32 (fun _ _ => rfl) _ _ _ r1 (by omega) ?_; intro W4 r4 hz4 hb4))
  refine bodyPost_ret (results_cell_tmp rfl _ _ w.heap.size 28 32 (fun _ => .int .u8 0) _ _ rfl rfl Tryd.underlying28 rfl hi32 (r4.congr fun i hi => ?_)) rfl ⟨rfl, (((Below.refl _ _).alloc (Nat.le_refl _) _).alloc (by simp) _).trans ((hb4.mono (by simp; omega)).below (Nat.le_refl _))⟩
  rw [if_pos (by omega)]

set_option maxHeartbeats 1000000 in
set_option maxRecDepth 100000 in
theorem read_long (s : ByteArray) (w : World) (h : s.size = 64) :
    Calls Tryd.prog 12 #[.string s] w fun e w' => e = .returned (.tuple #[.agg (rowV 32 fun i => .int .u8 (readV s i)), .bool (readTo s 32)]) ∧ Below w.heap.size w w' := by
  have hi32 : (Tryd.prog.info? 28).map (·.size) = some 32 := by kernel_rfl
  have hne : ((s.size : Int) != 64) = false := by simp; omega
  have hz : ∀ w : World, (zeroValue 28).run Tryd.prog w = .ok (.agg (rowV 32 (fun _ => .int .u8 0))) w := fun w => by kernel_rfl
  have hs1 : s.size ≤ 64 := by omega
  have hs2 : 64 ≤ s.size := by omega
  clear h
  go_enter Tryd.func12, Tryd.ntmps12
  go_wp2
  go_loopw [12] (fun i wr => ∃ k : Nat, k ≤ 32 ∧ i = .int .i64 k ∧ Below w.heap.size w wr ∧ wr.heap.size = w.heap.size + 2 ∧ readTo s k = true ∧ wr.rowIs w.heap.size 28 32 (fun _ => .int .u8 0) ∧ wr.rowIs (w.heap.size + 1) 28 32 (fun j => .int .u8 (if j < k then readI s j else 0))) (fun i _ => 32 - (intOf i).toNat)
  case atStart =>
    refine ⟨0, by omega, rfl, ((Below.refl _ _).alloc (Nat.le_refl _) _).alloc (by simp) _, by simp, rfl, (rowIs_box w _ 32 _).alloc _, ?_⟩
    have := rowIs_box (w.alloc (.cells (rowV 32 fun _ => .int .u8 0) 28)) 28 32 (fun _ => .int .u8 0)
    simp only [nblk_alloc] at this
    exact this
  case round =>
    obtain ⟨k, hk, rfl, hb, hsz, hr, r0, r1⟩ := hrel
    have HR : Hid (readTo s k = true) := hr
    clear hr
    by_cases hlt : k < 32
    · have b0 : (0 : Int) ≤ (k : Int) := by omega
      have b1 : (k : Int) < 32 := by omega
      have hx1 := sB_run s (2 * k) (2 * (k : Int)) (by omega) (by omega)
      have hx2 := sB_run s (2 * k + 1) (2 * (k : Int) + 1) (by omega) (by omega)
      have y1 := sB_byte s (2 * k)
      have y2 := sB_byte s (2 * k + 1)
      have g1 := halfI_range (sB s (2 * k))
      have g2 := halfI_range (sB s (2 * k + 1))
      have HX : Hid (readTo s (k + 1) = (decide (0 ≤ halfI (sB s (2 * k))) && decide (0 ≤ halfI (sB s (2 * k + 1))))) := by show readTo s (k + 1) = _; rw [readTo, HR.out]; rfl
      have HI : Hid (readI s k = halfI (sB s (2 * k)) * 16 + halfI (sB s (2 * k + 1))) := rfl
      revert g1 g2 HX HI y1 y2
      generalize hsa : sB s (2 * k) = ca at *
      generalize hsb : sB s (2 * k + 1) = cb at *
      clear hsa hsb
      intro y1 y2 g1 g2 HX HI
      by_cases hA : halfI ca < 0
      · go_wp2_with (first | (go_at_call 18; refine (hexIndex_any _ ?_ ?_ _).mono ?_; (omega); (omega); rintro e w' ⟨rfl, hww⟩; obtain rfl := hww.symm; clear hww) | (refine wpList_store_row rfl 28 _ _ rfl rfl w.heap.size 0 32 _ rfl rfl hi32 (fun _ _ => rfl) _ _ _ r0 (by omega) ?_; intro W4 r4 hz4 hb4))
        have hno : readTo s 32 = false := readTo_no s (k + 1) 32 (by omega) (by rw [HX.out]; simp; omega)
        refine bodyPost_ret (results_cell_tmp rfl _ _ w.heap.size 28 32 (fun i => .int .u8 (readV s i)) _ _ rfl rfl Tryd.underlying28 rfl hi32 (r4.congr fun i hi => ?_)) rfl ⟨by rw [hno]; rfl, hb.trans ((hb4.mono (by omega)).below (Nat.le_refl _))⟩
        rw [if_pos (by omega), readV, hno, if_neg (by decide)]
      · by_cases hB : halfI cb < 0
        · go_wp2_with (first | (go_at_call 18; refine (hexIndex_any _ ?_ ?_ _).mono ?_; (omega); (omega); rintro e w' ⟨rfl, hww⟩; obtain rfl := hww.symm; clear hww) | (refine wpList_store_row rfl 28 _ _ rfl rfl w.heap.size 0 32 _ rfl rfl hi32 (fun _ _ => rfl) _ _ _ r0 (by omega) ?_; intro W4 r4 hz4 hb4))
          have hno : readTo s 32 = false := readTo_no s (k + 1) 32 (by omega) (by rw [HX.out]; simp; omega)
          refine bodyPost_ret (results_cell_tmp rfl _ _ w.heap.size 28 32 (fun i => .int .u8 (readV s i)) _ _ rfl rfl Tryd.underlying28 rfl hi32 (r4.congr fun i hi => ?_)) rfl ⟨by rw [hno]; rfl, hb.trans ((hb4.mono (by omega)).below (Nat.le_refl _))⟩
          rw [if_pos (by omega), readV, hno, if_neg (by decide)]
        · have c1 := r1.cell (i := k) (by omega)
          have z1 := r1.frozen k
          go_wp2_with (first | (go_at_call 18; refine (hexIndex_any _ ?_ ?_ _).mono ?_; (omega); (omega); rintro e w' ⟨rfl, hww⟩; obtain rfl := hww.symm; clear hww))
          go_light
          refine ⟨⟨k + 1, by omega, by go_num, hb.setCell (by simp) _, by simpa using hsz, by rw [HX.out]; simp; omega, r0.setOther (by simp) _, (r1.set k _).congr fun i _ => ?_⟩, by simp [intOf]; omega⟩
          by_cases e : i = k
          · subst e; rw [if_pos rfl, if_pos (by omega), HI.out, join_half _ _ (by omega) (by omega) (by omega) (by omega)]
          · rw [if_neg e]
            by_cases e2 : i < k
            · rw [if_pos e2, if_pos (by omega)]
            · rw [if_neg e2, if_neg (by omega)]
    · obtain rfl : k = 32 := by omega
      have hyes := HR.out
      clear hlt hk
      go_wp2_with (first | (refine wpList_load_seg rfl 28 _ rfl (w.heap.size + 1) 0 32 _ rfl _ Tryd.underlying28 rfl hi32 (fun i hi => by rw [Nat.zero_add]; exact r1.cell hi) ?_) | (refine wpList_store_row rfl 28 _ _ rfl rfl w.heap.size 0 32 _ rfl rfl hi32 (fun _ _ => rfl) _ _ _ r0 (by omega) ?_; intro W4 r4 hz4 hb4))
      refine bodyPost_ret (results_cell_tmp rfl _ _ w.heap.size 28 32 (fun i => .int .u8 (readV s i)) _ _ rfl rfl Tryd.underlying28 rfl hi32 (r4.congr fun i hi => ?_)) rfl ⟨by rw [HR.out]; rfl, hb.trans ((hb4.mono (by omega)).below (Nat.le_refl _))⟩
      rw [if_pos (by omega), readV, if_pos HR.out, Nat.sub_zero, if_pos (by omega)]
/-- sha.Read, OF ANY TEXT. -/
theorem read_any (s : ByteArray) (w : World) (hs : s.size ≤ maxLen) :
    Calls Tryd.prog 12 #[.string s] w fun e w' => e = .returned (.tuple #[.agg (rowV 32 fun i => .int .u8 (if readOk s = true then readI s i else 0)), .bool (readOk s)]) ∧ Below w.heap.size w w' := by
  by_cases h : s.size = 64
  · have e : readOk s = readTo s 32 := by rw [readOk, h]; rfl
    rw [e]
    exact read_long s w h
  · have e : readOk s = false := by rw [readOk]; simp [h]
    rw [e]
    exact read_short s w hs h
end Go.Proofs.YtknglaiobbmoaaaDoor

namespace Go.Proofs.YtknglaiobbmoaaaDoor
open Go.RowKit Go.Deep
set_option maxRecDepth 1000000
theorem sumI_byte {l : List Int} (i : Nat) : 0 ≤ sumI l i ∧ sumI l i ≤ 255 := by unfold sumI sumByte; omega
/-- the published sum of no bytes, and of abc. -/
theorem known_none : strOf ((List.range 64).map (printI (sumI []))) = { data := #[101, 51, 98, 48, 99, 52, 52, 50, 57, 56, 102, 99, 49, 99, 49, 52, 57, 97, 102, 98, 102, 52, 99, 56, 57, 57, 54, 102, 98, 57, 50, 52, 50, 55, 97, 101, 52, 49, 101, 52, 54, 52, 57, 98, 57, 51, 52, 99, 97, 52, 57, 53, 57, 57, 49, 98, 55, 56, 53, 50, 98, 56, 53, 53] } := by kernel_rfl
theorem known_abc : strOf ((List.range 64).map (printI (sumI [97, 98, 99]))) = { data := #[98, 97, 55, 56, 49, 54, 98, 102, 56, 102, 48, 49, 99, 102, 101, 97, 52, 49, 52, 49, 52, 48, 100, 101, 53, 100, 97, 101, 50, 50, 50, 51, 98, 48, 48, 51, 54, 49, 97, 51, 57, 54, 49, 55, 55, 97, 57, 99, 98, 52, 49, 48, 102, 102, 54, 49, 102, 50, 48, 48, 49, 53, 97, 100] } := by kernel_rfl
end Go.Proofs.YtknglaiobbmoaaaDoor

namespace Go.Proofs.YtknglaiobbmoaaaDoor
open Go.RowKit Go.Deep

def psAbc (i : Nat) : List Int := if i = 0 then [97] else [98, 99]
/-- the world in which the parts of abc were made. -/
def abcW (w : World) : World := ((w.alloc (.cells #[.int .u8 97] 5 (1, 2))).alloc (.cells #[.int .u8 98, .int .u8 99] 5 (2, 3))).alloc (.cells #[.slice (some ⟨w.heap.size, 0, none⟩) 1 1, .slice (some ⟨w.heap.size + 1, 0, none⟩) 2 2] 22)
theorem abcW_size (w : World) : (abcW w).heap.size = w.heap.size + 3 := by simp [abcW]
theorem abcW_below (w : World) : Below w.heap.size w (abcW w) := ((((Below.refl _ _).alloc (Nat.le_refl _) _).alloc (by simp) _).alloc (by simp; omega) _)
theorem abcW_parts (w : World) : isParts (abcW w) (.slice (some ⟨w.heap.size + 1 + 1, 0, none⟩) 2 2) 2 psAbc := by
  have b0 : (abcW w).heap[w.heap.size]? = some (.cells #[.int .u8 97] 5 (1, 2)) := by
    rw [abcW, blk_alloc_lt _ _ _ (by simp; omega), blk_alloc_lt _ _ _ (by simp), blk_alloc_new]
  have b1 : (abcW w).heap[w.heap.size + 1]? = some (.cells #[.int .u8 98, .int .u8 99] 5 (2, 3)) := by
    rw [abcW, blk_alloc_lt _ _ _ (by simp)]
    have := blk_alloc_new (w.alloc (.cells #[.int .u8 97] 5 (1, 2))) (.cells #[.int .u8 98, .int .u8 99] 5 (2, 3))
    rw [nblk_alloc] at this; exact this
  have b2 : (abcW w).heap[w.heap.size + 1 + 1]? = some (.cells #[.slice (some ⟨w.heap.size, 0, none⟩) 1 1, .slice (some ⟨w.heap.size + 1, 0, none⟩) 2 2] 22) := by
    have := blk_alloc_new ((w.alloc (.cells #[.int .u8 97] 5 (1, 2))).alloc (.cells #[.int .u8 98, .int .u8 99] 5 (2, 3))) (.cells #[.slice (some ⟨w.heap.size, 0, none⟩) 1 1, .slice (some ⟨w.heap.size + 1, 0, none⟩) 2 2] 22)
    rw [nblk_alloc, nblk_alloc] at this; exact this
  have hs := abcW_size w
  refine Or.inr ⟨w.heap.size + 1 + 1, 0, 2, fun i => if i = 0 then .slice (some ⟨w.heap.size, 0, none⟩) 1 1 else .slice (some ⟨w.heap.size + 1, 0, none⟩) 2 2, rfl, by omega, by decide, fun i hi => ?_⟩
  have hi' : i = 0 ∨ i = 1 := by omega
  rcases hi' with rfl | rfl
  · refine ⟨by rw [cell_of_row _ _ _ _ _ _ b2]; rfl, Or.inl (Or.inr ⟨w.heap.size, 0, 1, rfl, by decide, by decide, by omega, fun j hj => ?_, fun j => ?_⟩)⟩
    · have : j = 0 := by simpa [psAbc] using hj
      subst this; rw [cell_of_row _ _ _ _ _ _ b0]; rfl
    · match j with
      | 0 => decide
      | j + 1 => simp [psAbc]
  · refine ⟨by rw [cell_of_row _ _ _ _ _ _ b2]; rfl, Or.inl (Or.inr ⟨w.heap.size + 1, 0, 2, rfl, by decide, by decide, by omega, fun j hj => ?_, fun j => ?_⟩)⟩
    · have hj' : j = 0 ∨ j = 1 := by have : j < 2 := by simpa [psAbc] using hj
                                     omega
      rcases hj' with rfl | rfl <;> (rw [cell_of_row _ _ _ _ _ _ b1]; rfl)
    · match j with
      | 0 => decide
      | 1 => decide
      | j + 2 => simp [psAbc]

theorem shaSum_none (w : World) (ht : tabIs w) :
    Calls Tryd.prog 8 #[.slice none 0 0] w fun e w' => e = .returned (.agg (rowV 32 fun i => .int .u8 (sumI [] i))) ∧ Below w.heap.size w w' := by
  refine shaSum_any 0 _ (fun _ => []) w (Or.inl ⟨rfl, rfl⟩) (fun i hi => ?_) ht
  have h : i = 0 := by omega
  rw [h, flatTo, List.length_nil]; omega

set_option maxHeartbeats 1000000 in
set_option maxRecDepth 100000 in
theorem awake_any (w : World) (ht : tabIs w) :
    Calls Tryd.prog 6 #[] w fun e w' => e = .returned (.bool true) ∧ Below w.heap.size w w' := by
  have hi32 : (Tryd.prog.info? 28).map (·.size) = some 32 := by kernel_rfl
  have kc := fun (w : World) (C : Array Value) (n c : Nat) => Lib.run_convert_bytes_const (P := Tryd.prog) w 22 5 C n c Tryd.underlying22 Tryd.underlying5
  have ht0 := ht.1
  go_enter Tryd.func6, Tryd.ntmps6
  go_wp2_with fail
  refine (read_short { data := #[48] } w (by decide) (by decide)).mono ?_
  rintro e w1 ⟨rfl, hb1⟩
  have z1 := rowIs_zero w1 (Array.replicate 32 (.int .u8 0)) 28 32 (.int .u8 0) rfl
  go_wp2_with (first | (refine wpList_store_row rfl 28 _ _ rfl rfl w1.heap.size 0 32 _ rfl rfl hi32 (fun _ _ => rfl) _ _ _ z1 (by omega) ?_; intro w2 r2 hz2 hb2))
  have hB2 : Below w.heap.size w w2 := (hb1.trans ((Below.refl w.heap.size w1).alloc hb1.size _)).trans ((hb2.mono (by rw [nblk_alloc]; have := hb1.size; omega)).below hb1.size)
  clear z1 hb1 hb2 r2 hz2
  refine (shaSum_none w2 (ht.below hB2 ht0)).mono ?_
  rintro e w3 ⟨rfl, hb3⟩
  have hB3 := hB2.trans (hb3.mono hB2.size)
  go_wp2_with fail
  refine (print_any (sumI []) sumI_byte w3).mono ?_
  rintro e w4 ⟨rfl, hb4⟩
  have hB4 := hB3.trans (hb4.mono hB3.size)
  clear hB2 hB3 hb3 hb4
  rw [known_none]
  have kc2 : (convert 22 22 (.slice (some ⟨w4.heap.size + 1, 0, none⟩) 2 2)).run Tryd.prog ((w4.alloc (.cells #[.int .u8 97] 5 (1, 2))).alloc (.cells #[.int .u8 98, .int .u8 99] 5)) = .ok (.slice (some ⟨w4.heap.size + 1, 0, none⟩) 2 2) ((w4.alloc (.cells #[.int .u8 97] 5 (1, 2))).alloc (.cells #[.int .u8 98, .int .u8 99] 5 (2, 3))) := by
    have := kc (w4.alloc (.cells #[.int .u8 97] 5 (1, 2))) #[.int .u8 98, .int .u8 99] 2 2
    simp only [nblk_alloc] at this
    exact this
  go_wp2_with fail
  have hB5 := hB4.trans ((abcW_below w4).mono hB4.size)
  refine (shaSum_any 2 _ psAbc (abcW w4) (abcW_parts w4) (fun i hi => ?_) (ht.below hB5 ht0)).mono ?_
  · have hi' : i = 0 ∨ i = 1 ∨ i = 2 := by omega
    rcases hi' with rfl | rfl | rfl <;> decide
  rintro e w6 ⟨rfl, hb6⟩
  have hB6 := hB5.trans (hb6.mono hB5.size)
  rw [show flatTo psAbc 2 = [97, 98, 99] from rfl]
  clear kc2 hB5 hB4 hb6
  go_wp2_with fail
  refine (print_any (sumI [97, 98, 99]) sumI_byte w6).mono ?_
  rintro e w7 ⟨rfl, hb7⟩
  have hB7 := hB6.trans (hb7.mono hB6.size)
  clear hB6 hb7
  rw [known_abc]
  go_wp2
  go_ret
  exact ⟨rfl, hB7⟩
end Go.Proofs.YtknglaiobbmoaaaDoor

/- The document's Ch and Maj are the program's. Plain mathematics. -/
namespace Go.Proofs.YtknglaiobbmoaaaDoor
set_option linter.unusedSimpArgs false

def bv (x : Int) : BitVec 32 := BitVec.ofInt 32 x
theorem bits_bv_and (x y : Int) : bits .and .u32 x y = ((bv x &&& bv y).toNat : Int) := by
  show IntKind.u32.wrap ((BitVec.ofInt 32 x &&& BitVec.ofInt 32 y).toNat : Int) = _
  rw [IntKind.wrap_u32']
  have := (BitVec.ofInt 32 x &&& BitVec.ofInt 32 y).isLt
  unfold bv; omega
theorem bits_bv_or (x y : Int) : bits .or .u32 x y = ((bv x ||| bv y).toNat : Int) := by
  show IntKind.u32.wrap ((BitVec.ofInt 32 x ||| BitVec.ofInt 32 y).toNat : Int) = _
  rw [IntKind.wrap_u32']
  have := (BitVec.ofInt 32 x ||| BitVec.ofInt 32 y).isLt
  unfold bv; omega
theorem bits_bv_xor (x y : Int) : bits .xor .u32 x y = ((bv x ^^^ bv y).toNat : Int) := by
  show IntKind.u32.wrap ((BitVec.ofInt 32 x ^^^ BitVec.ofInt 32 y).toNat : Int) = _
  rw [IntKind.wrap_u32']
  have := (BitVec.ofInt 32 x ^^^ BitVec.ofInt 32 y).isLt
  unfold bv; omega
theorem bv_nat (a : BitVec 32) : bv (a.toNat : Int) = a := by unfold bv; simp
/-- e & f | (not e) & g. -/
theorem ch_same (e f g : Int) : bits .or .u32 (bits .and .u32 e f) (bits .and .u32 (bits .xor .u32 4294967295 e) g) = bits .xor .u32 (bits .and .u32 e f) (bits .and .u32 (notI e) g) := by
  have hn : notI e = bits .xor .u32 4294967295 e := rfl
  rw [hn]
  simp only [bits_bv_and, bits_bv_or, bits_bv_xor, bv_nat]
  congr 2
  have h1 : bv 4294967295 = BitVec.allOnes 32 := by decide
  rw [h1]
  generalize bv e = a
  generalize bv f = b
  generalize bv g = c
  apply BitVec.eq_of_getLsbD_eq
  intro i hi
  simp only [BitVec.getLsbD_or, BitVec.getLsbD_and, BitVec.getLsbD_xor, BitVec.getLsbD_allOnes, hi, decide_true]
  cases a.getLsbD i <;> cases b.getLsbD i <;> cases c.getLsbD i <;> rfl
/-- a & b | a & c | b & c. -/
theorem maj_same (x y z : Int) : bits .or .u32 (bits .or .u32 (bits .and .u32 x y) (bits .and .u32 x z)) (bits .and .u32 y z) = bits .xor .u32 (bits .xor .u32 (bits .and .u32 x y) (bits .and .u32 x z)) (bits .and .u32 y z) := by
  simp only [bits_bv_and, bits_bv_or, bits_bv_xor, bv_nat]
  congr 2
  generalize bv x = a
  generalize bv y = b
  generalize bv z = c
  apply BitVec.eq_of_getLsbD_eq
  intro i hi
  simp only [BitVec.getLsbD_or, BitVec.getLsbD_and, BitVec.getLsbD_xor]
  cases a.getLsbD i <;> cases b.getLsbD i <;> cases c.getLsbD i <;> rfl
/-- the document's round is the program's. -/
theorem rndT_doc (s : S8) (k w : Int) : ((((s.h + bits .xor .u32 (bits .xor .u32 (rotI s.e 6) (rotI s.e 11)) (rotI s.e 25)) % 4294967296 + bits .or .u32 (bits .and .u32 s.e s.f) (bits .and .u32 (bits .xor .u32 4294967295 s.e) s.g)) % 4294967296 + k) % 4294967296 + w) % 4294967296 = rndT s k w := by
  rw [ch_same, rndT]
  omega
theorem rndU_doc (s : S8) : (bits .xor .u32 (bits .xor .u32 (rotI s.a 2) (rotI s.a 13)) (rotI s.a 22) + bits .or .u32 (bits .or .u32 (bits .and .u32 s.a s.b) (bits .and .u32 s.a s.c)) (bits .and .u32 s.b s.c)) % 4294967296 = rndU s := by
  rw [maj_same, rndU]
end Go.Proofs.YtknglaiobbmoaaaDoor

/- SHA-256's rounds over natural numbers, as the kernel works them out fast. -/
namespace Go.Proofs.YtknglaiobbmoaaaDoor
set_option linter.unusedSimpArgs false
set_option linter.unusedVariables false

def nS1 (y : Nat) : Nat := Nat.xor (Nat.xor (Nat.shiftRight y 6) (Nat.shiftRight y 11)) (Nat.shiftRight y 25)
def nS0 (y : Nat) : Nat := Nat.xor (Nat.xor (Nat.shiftRight y 2) (Nat.shiftRight y 13)) (Nat.shiftRight y 22)
def nT (kw e f g h : Nat) : Nat := Nat.add (Nat.add h (nS1 (Nat.mul e 4294967297))) (Nat.add (Nat.xor (Nat.land e f) (Nat.land (Nat.xor 4294967295 e) g)) kw)
def nU (a b c : Nat) : Nat := Nat.add (nS0 (Nat.mul a 4294967297)) (Nat.xor (Nat.xor (Nat.land a b) (Nat.land a c)) (Nat.land b c))
/-- one round, and what comes behind it. -/
def nR (kw : Nat) (k : Nat → Nat → Nat → Nat → Nat → Nat → Nat → Nat → Nat) (a b c d e f g h : Nat) : Nat :=
  (fun t => k (Nat.mod (Nat.add t (nU a b c)) 4294967296) a b c (Nat.mod (Nat.add d t) 4294967296) e f g) (nT kw e f g h)
/-- behind the last round: eight words as one number. -/
def nF (s a b c d e f g h : Nat) : Nat :=
  Nat.add (Nat.mul (Nat.add (Nat.mul (Nat.add (Nat.mul (Nat.add (Nat.mul (Nat.add (Nat.mul (Nat.add (Nat.mul (Nat.add (Nat.mul
    (Nat.mod (Nat.add (Nat.shiftRight s 224) a) 4294967296) 4294967296) (Nat.mod (Nat.add (Nat.shiftRight s 192) b) 4294967296)) 4294967296) (Nat.mod (Nat.add (Nat.shiftRight s 160) c) 4294967296)) 4294967296) (Nat.mod (Nat.add (Nat.shiftRight s 128) d) 4294967296)) 4294967296)
    (Nat.mod (Nat.add (Nat.shiftRight s 96) e) 4294967296)) 4294967296) (Nat.mod (Nat.add (Nat.shiftRight s 64) f) 4294967296)) 4294967296) (Nat.mod (Nat.add (Nat.shiftRight s 32) g) 4294967296)) 4294967296) (Nat.mod (Nat.add s h) 4294967296)
/-- the rounds of a block of bytes 97, from eight words. -/
def nA (s : Nat) : Nat → Nat → Nat → Nat → Nat → Nat → Nat → Nat → Nat :=
  nR 2750124281 <| nR 3533219314 <| nR 4683095344 <| nR 5554781446 <| nR 2595759036 <| nR 3142742866 <| nR 4087407621 <| nR 4504535094 <| nR 5258152953 <| nR 1944370274 <| nR 2240997151 <| nR 3060653860 <| nR 3558850261 <| nR 3795850079 <| nR 4248659976 <| nR 4881994453 <| nR 7962470397 <| nR 8149304770 <| nR 1109373709 <| nR 1449834259 <| nR 1332383432 <| nR 1811277571 <| nR 5697566716 <| nR 4336890837 <| nR 4651386783 <| nR 7023905028 <| nR 4167673427 <| nR 6075095564 <| nR 3506461443 <| nR 6222891004 <| nR 3100717738 <| nR 957412701 <| nR 3211936012 <| nR 2525724465 <| nR 5192624004 <| nR 2750766458 <| nR 3733122911 <| nR 5785415788 <| nR 5302099131 <| nR 4510137934 <| nR 4494867471 <| nR 3051847127 <| nR 6841751890 <| nR 5493434369 <| nR 5416391400 <| nR 6288792078 <| nR 4206943767 <| nR 1385611443 <| nR 2838015846 <| nR 4615462549 <| nR 2870002303 <| nR 4911289699 <| nR 3868675357 <| nR 5105900214 <| nR 4192983651 <| nR 4114851946 <| nR 2567787456 <| nR 3518289627 <| nR 3043469264 <| nR 3431775655 <| nR 2875437985 <| nR 3700493388 <| nR 7133747437 <| nR 3572068108 <| nF s
def nW (s n : Nat) : Nat := Nat.mod (Nat.shiftRight s n) 4294967296
def nStep (s : Nat) : Nat := nA s (nW s 224) (nW s 192) (nW s 160) (nW s 128) (nW s 96) (nW s 64) (nW s 32) (nW s 0)
/-- n is worked out ahead of what is done with it. -/
def nForce (n : Nat) (k : Nat → Nat) : Nat := match n with
  | 0 => k 0
  | m + 1 => k (Nat.succ m)
def nIter : Nat → Nat → Nat
  | 0, s => s
  | n + 1, s => nForce (nStep s) (nIter n)
end Go.Proofs.YtknglaiobbmoaaaDoor

/- The fast rounds are the program's. -/
namespace Go.Proofs.YtknglaiobbmoaaaDoor
set_option linter.unusedSimpArgs false
set_option linter.unusedVariables false
open Go.RowKit

theorem bvN (a : Nat) : bv (a : Int) = BitVec.ofNat 32 a := by unfold bv; simp
theorem nAnd {a b : Nat} (ha : a < 4294967296) (hb : b < 4294967296) : bits .and .u32 (a : Int) (b : Int) = ((Nat.land a b : Nat) : Int) := by
  rw [bits_bv_and, bvN, bvN, BitVec.toNat_and, BitVec.toNat_ofNat, BitVec.toNat_ofNat, Nat.mod_eq_of_lt (by omega), Nat.mod_eq_of_lt (by omega)]; rfl
theorem nOr {a b : Nat} (ha : a < 4294967296) (hb : b < 4294967296) : bits .or .u32 (a : Int) (b : Int) = ((Nat.lor a b : Nat) : Int) := by
  rw [bits_bv_or, bvN, bvN, BitVec.toNat_or, BitVec.toNat_ofNat, BitVec.toNat_ofNat, Nat.mod_eq_of_lt (by omega), Nat.mod_eq_of_lt (by omega)]; rfl
theorem nXor {a b : Nat} (ha : a < 4294967296) (hb : b < 4294967296) : bits .xor .u32 (a : Int) (b : Int) = ((Nat.xor a b : Nat) : Int) := by
  rw [bits_bv_xor, bvN, bvN, BitVec.toNat_xor, BitVec.toNat_ofNat, BitVec.toNat_ofNat, Nat.mod_eq_of_lt (by omega), Nat.mod_eq_of_lt (by omega)]; rfl
theorem land_lt {a b : Nat} (ha : a < 4294967296) (hb : b < 4294967296) : Nat.land a b < 4294967296 := Nat.and_lt_two_pow a (n := 32) hb
theorem xor_lt {a b : Nat} (ha : a < 4294967296) (hb : b < 4294967296) : Nat.xor a b < 4294967296 := Nat.xor_lt_two_pow (n := 32) ha hb
theorem nRot (x n m : Nat) (hx : x < 4294967296) (hm : m = 32 - n) (h1 : x * 4294967297 / 2 ^ n = x * 2 ^ m + x / 2 ^ n) (h2 : (x * 2 ^ m + x / 2 ^ n) % 4294967296 = 2 ^ m * (x % 2 ^ n) + x / 2 ^ n) (h3 : x * 2 ^ m % 4294967296 = 2 ^ m * (x % 2 ^ n)) (hl : x / 2 ^ n < 2 ^ m) :
    rotI (x : Int) n = ((Nat.mod (Nat.shiftRight (Nat.mul x 4294967297) n) 4294967296 : Nat) : Int) := by
  have e1 : ((x : Int) * 2 ^ (32 - n) % 4294967296) = ((x * 2 ^ m % 4294967296 : Nat) : Int) := by
    subst hm; rw [Int.natCast_emod, Int.natCast_mul, Int.natCast_pow]; rfl
  have e2 : ((x : Int) / 2 ^ n) = ((x / 2 ^ n : Nat) : Int) := by rw [Int.natCast_ediv, Int.natCast_pow]; rfl
  unfold rotI
  rw [e1, e2, nOr (Nat.mod_lt _ (by decide)) (Nat.lt_of_le_of_lt (Nat.div_le_self _ _) hx)]
  have e3 : Nat.lor (x * 2 ^ m % 4294967296) (x / 2 ^ n) = 2 ^ m * (x % 2 ^ n) + x / 2 ^ n := by
    rw [h3]; exact (Nat.two_pow_add_eq_or_of_lt hl _).symm
  have e4 : Nat.shiftRight (Nat.mul x 4294967297) n = x * 4294967297 / 2 ^ n := Nat.shiftRight_eq_div_pow _ _
  have e5 : Nat.mod (x * 4294967297 / 2 ^ n) 4294967296 = 2 ^ m * (x % 2 ^ n) + x / 2 ^ n := by
    show x * 4294967297 / 2 ^ n % 4294967296 = _
    rw [h1, h2]
  rw [e3, e4, e5]
theorem rot6 (x : Nat) (hx : x < 4294967296) : rotI (x : Int) 6 = ((Nat.mod (Nat.shiftRight (Nat.mul x 4294967297) 6) 4294967296 : Nat) : Int) := by
  obtain ⟨q, r, e, hr, hq⟩ : ∃ q r, x = 64 * q + r ∧ r < 64 ∧ q < 67108864 := ⟨x / 64, x % 64, by omega, by omega, by omega⟩
  have a1 : x / 64 = q := by omega
  have a2 : x % 64 = r := by omega
  refine nRot x 6 26 hx rfl ?_ ?_ ?_ ?_
  · show x * 4294967297 / 64 = x * 67108864 + x / 64
    rw [a1]; omega
  · show (x * 67108864 + x / 64) % 4294967296 = 67108864 * (x % 64) + x / 64
    rw [a1, a2]; omega
  · show x * 67108864 % 4294967296 = 67108864 * (x % 64)
    rw [a2]; omega
  · show x / 64 < 67108864
    rw [a1]; exact hq
theorem rot11 (x : Nat) (hx : x < 4294967296) : rotI (x : Int) 11 = ((Nat.mod (Nat.shiftRight (Nat.mul x 4294967297) 11) 4294967296 : Nat) : Int) := by
  obtain ⟨q, r, e, hr, hq⟩ : ∃ q r, x = 2048 * q + r ∧ r < 2048 ∧ q < 2097152 := ⟨x / 2048, x % 2048, by omega, by omega, by omega⟩
  have a1 : x / 2048 = q := by omega
  have a2 : x % 2048 = r := by omega
  refine nRot x 11 21 hx rfl ?_ ?_ ?_ ?_
  · show x * 4294967297 / 2048 = x * 2097152 + x / 2048
    rw [a1]; omega
  · show (x * 2097152 + x / 2048) % 4294967296 = 2097152 * (x % 2048) + x / 2048
    rw [a1, a2]; omega
  · show x * 2097152 % 4294967296 = 2097152 * (x % 2048)
    rw [a2]; omega
  · show x / 2048 < 2097152
    rw [a1]; exact hq
theorem rot25 (x : Nat) (hx : x < 4294967296) : rotI (x : Int) 25 = ((Nat.mod (Nat.shiftRight (Nat.mul x 4294967297) 25) 4294967296 : Nat) : Int) := by
  obtain ⟨q, r, e, hr, hq⟩ : ∃ q r, x = 33554432 * q + r ∧ r < 33554432 ∧ q < 128 := ⟨x / 33554432, x % 33554432, by omega, by omega, by omega⟩
  have a1 : x / 33554432 = q := by omega
  have a2 : x % 33554432 = r := by omega
  refine nRot x 25 7 hx rfl ?_ ?_ ?_ ?_
  · show x * 4294967297 / 33554432 = x * 128 + x / 33554432
    rw [a1]; omega
  · show (x * 128 + x / 33554432) % 4294967296 = 128 * (x % 33554432) + x / 33554432
    rw [a1, a2]; omega
  · show x * 128 % 4294967296 = 128 * (x % 33554432)
    rw [a2]; omega
  · show x / 33554432 < 128
    rw [a1]; exact hq
theorem rot2 (x : Nat) (hx : x < 4294967296) : rotI (x : Int) 2 = ((Nat.mod (Nat.shiftRight (Nat.mul x 4294967297) 2) 4294967296 : Nat) : Int) := by
  obtain ⟨q, r, e, hr, hq⟩ : ∃ q r, x = 4 * q + r ∧ r < 4 ∧ q < 1073741824 := ⟨x / 4, x % 4, by omega, by omega, by omega⟩
  have a1 : x / 4 = q := by omega
  have a2 : x % 4 = r := by omega
  refine nRot x 2 30 hx rfl ?_ ?_ ?_ ?_
  · show x * 4294967297 / 4 = x * 1073741824 + x / 4
    rw [a1]; omega
  · show (x * 1073741824 + x / 4) % 4294967296 = 1073741824 * (x % 4) + x / 4
    rw [a1, a2]; omega
  · show x * 1073741824 % 4294967296 = 1073741824 * (x % 4)
    rw [a2]; omega
  · show x / 4 < 1073741824
    rw [a1]; exact hq
theorem rot13 (x : Nat) (hx : x < 4294967296) : rotI (x : Int) 13 = ((Nat.mod (Nat.shiftRight (Nat.mul x 4294967297) 13) 4294967296 : Nat) : Int) := by
  obtain ⟨q, r, e, hr, hq⟩ : ∃ q r, x = 8192 * q + r ∧ r < 8192 ∧ q < 524288 := ⟨x / 8192, x % 8192, by omega, by omega, by omega⟩
  have a1 : x / 8192 = q := by omega
  have a2 : x % 8192 = r := by omega
  refine nRot x 13 19 hx rfl ?_ ?_ ?_ ?_
  · show x * 4294967297 / 8192 = x * 524288 + x / 8192
    rw [a1]; omega
  · show (x * 524288 + x / 8192) % 4294967296 = 524288 * (x % 8192) + x / 8192
    rw [a1, a2]; omega
  · show x * 524288 % 4294967296 = 524288 * (x % 8192)
    rw [a2]; omega
  · show x / 8192 < 524288
    rw [a1]; exact hq
theorem rot22 (x : Nat) (hx : x < 4294967296) : rotI (x : Int) 22 = ((Nat.mod (Nat.shiftRight (Nat.mul x 4294967297) 22) 4294967296 : Nat) : Int) := by
  obtain ⟨q, r, e, hr, hq⟩ : ∃ q r, x = 4194304 * q + r ∧ r < 4194304 ∧ q < 1024 := ⟨x / 4194304, x % 4194304, by omega, by omega, by omega⟩
  have a1 : x / 4194304 = q := by omega
  have a2 : x % 4194304 = r := by omega
  refine nRot x 22 10 hx rfl ?_ ?_ ?_ ?_
  · show x * 4294967297 / 4194304 = x * 1024 + x / 4194304
    rw [a1]; omega
  · show (x * 1024 + x / 4194304) % 4294967296 = 1024 * (x % 4194304) + x / 4194304
    rw [a1, a2]; omega
  · show x * 1024 % 4294967296 = 1024 * (x % 4194304)
    rw [a2]; omega
  · show x / 4194304 < 1024
    rw [a1]; exact hq
theorem xor3_mod (a b c : Nat) : Nat.xor (Nat.xor (Nat.mod a 4294967296) (Nat.mod b 4294967296)) (Nat.mod c 4294967296) = Nat.xor (Nat.xor a b) c % 4294967296 := by
  have h1 : ((a ^^^ b) ^^^ c) % 2 ^ 32 = (a ^^^ b) % 2 ^ 32 ^^^ c % 2 ^ 32 := Nat.xor_mod_two_pow
  have h2 : (a ^^^ b) % 2 ^ 32 = a % 2 ^ 32 ^^^ b % 2 ^ 32 := Nat.xor_mod_two_pow
  rw [h2] at h1
  exact h1.symm
theorem mod_lt' (x : Nat) : Nat.mod x 4294967296 < 4294967296 := Nat.mod_lt _ (by decide)
theorem nS1_is (e : Nat) (he : e < 4294967296) : bits .xor .u32 (bits .xor .u32 (rotI (e : Int) 6) (rotI (e : Int) 11)) (rotI (e : Int) 25) = ((nS1 (Nat.mul e 4294967297) % 4294967296 : Nat) : Int) := by
  rw [rot6 e he, rot11 e he, rot25 e he, nXor (mod_lt' _) (mod_lt' _), nXor (xor_lt (mod_lt' _) (mod_lt' _)) (mod_lt' _), xor3_mod]; rfl
theorem nS0_is (e : Nat) (he : e < 4294967296) : bits .xor .u32 (bits .xor .u32 (rotI (e : Int) 2) (rotI (e : Int) 13)) (rotI (e : Int) 22) = ((nS0 (Nat.mul e 4294967297) % 4294967296 : Nat) : Int) := by
  rw [rot2 e he, rot13 e he, rot22 e he, nXor (mod_lt' _) (mod_lt' _), nXor (xor_lt (mod_lt' _) (mod_lt' _)) (mod_lt' _), xor3_mod]; rfl
def toS (a b c d e f g h : Nat) : S8 := ⟨a, b, c, d, e, f, g, h⟩
theorem rndT_is {a b c d e f g h kw : Nat} {k w : Int} (he : e < 4294967296) (hf : f < 4294967296) (hg : g < 4294967296) (hk : (kw : Int) = k + w) : rndT (toS a b c d e f g h) k w = ((nT kw e f g h % 4294967296 : Nat) : Int) := by
  have hn : notI (e : Int) = ((Nat.xor 4294967295 e : Nat) : Int) := by
    show bits .xor .u32 ((4294967295 : Nat) : Int) (e : Int) = _
    exact nXor (by decide) he
  unfold rndT toS
  simp only
  rw [nS1_is e he, hn, nAnd he hf, nAnd (xor_lt (by decide) he) hg, nXor (land_lt he hf) (land_lt (xor_lt (by decide) he) hg)]
  unfold nT
  generalize nS1 (Nat.mul e 4294967297) = x
  generalize Nat.xor (Nat.land e f) (Nat.land (Nat.xor 4294967295 e) g) = y
  simp only [Nat.add_eq]
  omega
theorem rndU_is {a b c d e f g h : Nat} (ha : a < 4294967296) (hb : b < 4294967296) (hc : c < 4294967296) : rndU (toS a b c d e f g h) = ((nU a b c % 4294967296 : Nat) : Int) := by
  unfold rndU toS
  simp only
  rw [nS0_is a ha, nAnd ha hb, nAnd ha hc, nAnd hb hc, nXor (land_lt ha hb) (land_lt ha hc), nXor (xor_lt (land_lt ha hb) (land_lt ha hc)) (land_lt hb hc)]
  unfold nU
  generalize nS0 (Nat.mul a 4294967297) = x
  generalize Nat.xor (Nat.xor (Nat.land a b) (Nat.land a c)) (Nat.land b c) = y
  simp only [Nat.add_eq]
  omega
theorem rnd_is {a b c d e f g h kw : Nat} {k w : Int} (ha : a < 4294967296) (hb : b < 4294967296) (hc : c < 4294967296) (he : e < 4294967296) (hf : f < 4294967296) (hg : g < 4294967296) (hk : (kw : Int) = k + w) :
    rnd (toS a b c d e f g h) k w = toS (Nat.mod (Nat.add (nT kw e f g h) (nU a b c)) 4294967296) a b c (Nat.mod (Nat.add d (nT kw e f g h)) 4294967296) e f g := by
  unfold rnd
  rw [rndT_is he hf hg hk, rndU_is ha hb hc]
  unfold toS
  generalize nT kw e f g h = t
  generalize nU a b c = u
  have e1 : (((t % 4294967296 : Nat) : Int) + ((u % 4294967296 : Nat) : Int)) % 4294967296 = ((Nat.mod (Nat.add t u) 4294967296 : Nat) : Int) := by
    show _ = (((t + u) % 4294967296 : Nat) : Int)
    omega
  have e2 : ((d : Int) + ((t % 4294967296 : Nat) : Int)) % 4294967296 = ((Nat.mod (Nat.add d t) 4294967296 : Nat) : Int) := by
    show _ = (((d + t) % 4294967296 : Nat) : Int)
    omega
  simp only [e1, e2]
/-- rounds from the place j on. -/
def rndFrom (w : Nat → Int) (s : S8) (j : Nat) : Nat → S8
  | 0 => s
  | n + 1 => rndFrom w (rnd s (kAt j) (w j)) (j + 1) n
theorem rndFrom_snoc (w : Nat → Int) : ∀ (n j : Nat) (s : S8), rndFrom w s j (n + 1) = rnd (rndFrom w s j n) (kAt (j + n)) (w (j + n))
  | 0, j, s => rfl
  | n + 1, j, s => by
    have h := rndFrom_snoc w n (j + 1) (rnd s (kAt j) (w j))
    rw [rndFrom, h, show j + 1 + n = j + (n + 1) by omega]
    rfl
theorem rndFrom_to (w : Nat → Int) (s : S8) : ∀ n, rndFrom w s 0 n = rndTo w s n
  | 0 => rfl
  | n + 1 => by rw [rndFrom_snoc, rndFrom_to w s n, rndTo, Nat.zero_add]
/-- a chain of rounds. -/
def nChain (F : Nat → Nat → Nat → Nat → Nat → Nat → Nat → Nat → Nat) (l : List Nat) : Nat → Nat → Nat → Nat → Nat → Nat → Nat → Nat → Nat := l.foldr nR F
theorem nChain_is (w : Nat → Int) (F : Nat → Nat → Nat → Nat → Nat → Nat → Nat → Nat → Nat) : ∀ (l : List Nat) (j a b c d e f g h : Nat), (∀ i, i < l.length → ((l.getD i 0 : Nat) : Int) = kAt (j + i) + w (j + i)) →
    a < 4294967296 → b < 4294967296 → c < 4294967296 → d < 4294967296 → e < 4294967296 → f < 4294967296 → g < 4294967296 → h < 4294967296 →
    ∃ a' b' c' d' e' f' g' h', rndFrom w (toS a b c d e f g h) j l.length = toS a' b' c' d' e' f' g' h' ∧ nChain F l a b c d e f g h = F a' b' c' d' e' f' g' h'
  | [], j, a, b, c, d, e, f, g, h, _, _, _, _, _, _, _, _, _ => ⟨a, b, c, d, e, f, g, h, rfl, rfl⟩
  | x :: r, j, a, b, c, d, e, f, g, h, hl, ha, hb, hc, hd, he, hf, hg, hh => by
    have h0 : ((x : Nat) : Int) = kAt j + w j := by have := hl 0 (by simp); simpa using this
    have hr : ∀ i, i < r.length → ((r.getD i 0 : Nat) : Int) = kAt (j + 1 + i) + w (j + 1 + i) := fun i hi => by
      have := hl (i + 1) (by simp; omega)
      rw [show j + (i + 1) = j + 1 + i by omega] at this
      simpa using this
    obtain ⟨a', b', c', d', e', f', g', h', e1, e2⟩ := nChain_is w F r (j + 1) (Nat.mod (Nat.add (nT x e f g h) (nU a b c)) 4294967296) a b c (Nat.mod (Nat.add d (nT x e f g h)) 4294967296) e f g hr (mod_lt' _) ha hb hc (mod_lt' _) he hf hg
    refine ⟨a', b', c', d', e', f', g', h', ?_, ?_⟩
    · rw [List.length_cons, rndFrom, rnd_is ha hb hc he hf hg h0]; exact e1
    · show nR x (nChain F r) a b c d e f g h = _
      exact e2
/-- the eight words v, as one number. -/
def isW8 (v : Nat → Int) (s : Nat) : Prop := v 0 = (nW s 224 : Int) ∧ v 1 = (nW s 192 : Int) ∧ v 2 = (nW s 160 : Int) ∧ v 3 = (nW s 128 : Int) ∧ v 4 = (nW s 96 : Int) ∧ v 5 = (nW s 64 : Int) ∧ v 6 = (nW s 32 : Int) ∧ v 7 = (nW s 0 : Int)
theorem nW_lt (s n : Nat) : nW s n < 4294967296 := mod_lt' _
theorem nW_is (s n : Nat) : nW s n = s / 2 ^ n % 4294967296 := by
  have : Nat.shiftRight s n = s / 2 ^ n := Nat.shiftRight_eq_div_pow _ _
  unfold nW; rw [this]; rfl
end Go.Proofs.YtknglaiobbmoaaaDoor

/- The words behind so many blocks of a million bytes 97. -/
namespace Go.Proofs.YtknglaiobbmoaaaDoor
set_option linter.unusedSimpArgs false
set_option linter.unusedVariables false
open Go.RowKit

theorem mil0 : nIter 500 47962653771679561900652889051773562940742041696833059450490514104358170316057 = 26238403502918239766793865986364061264979702603426695131252677242728165237707 := by kernel_rfl
theorem mil1 : nIter 500 26238403502918239766793865986364061264979702603426695131252677242728165237707 = 15986049533161882781481209216577034292763970156491427483109853976031447715734 := by kernel_rfl
theorem mil2 : nIter 500 15986049533161882781481209216577034292763970156491427483109853976031447715734 = 40281328804354760185842667593451947363866955923827665301691349981138502802077 := by kernel_rfl
theorem mil3 : nIter 500 40281328804354760185842667593451947363866955923827665301691349981138502802077 = 65578057864983236246246586891994668272975820105629321241784507950329610640917 := by kernel_rfl
theorem mil4 : nIter 500 65578057864983236246246586891994668272975820105629321241784507950329610640917 = 66872774211992378293534536945086186074166994588653274604117609466074909316995 := by kernel_rfl
theorem mil5 : nIter 500 66872774211992378293534536945086186074166994588653274604117609466074909316995 = 99584446905630372587560085052771827290707735126846202025613077759520034041220 := by kernel_rfl
theorem mil6 : nIter 500 99584446905630372587560085052771827290707735126846202025613077759520034041220 = 81972310574413783757052083069671861274925698139839762209533046423030232453434 := by kernel_rfl
theorem mil7 : nIter 500 81972310574413783757052083069671861274925698139839762209533046423030232453434 = 78344875190493705708919228143545261904129993841919609678429988595335206078607 := by kernel_rfl
end Go.Proofs.YtknglaiobbmoaaaDoor

/- The words behind so many blocks of a million bytes 97. -/
namespace Go.Proofs.YtknglaiobbmoaaaDoor
set_option linter.unusedSimpArgs false
set_option linter.unusedVariables false
open Go.RowKit

theorem mil8 : nIter 500 78344875190493705708919228143545261904129993841919609678429988595335206078607 = 73505166450555723912117811052133768090976123813307406493717802372005838237256 := by kernel_rfl
theorem mil9 : nIter 500 73505166450555723912117811052133768090976123813307406493717802372005838237256 = 110564767430629943036858208214125330206204386053387579439211603961585904282521 := by kernel_rfl
theorem mil10 : nIter 500 110564767430629943036858208214125330206204386053387579439211603961585904282521 = 34706962675488730530827617679861188339913190972140297571850980618375941865896 := by kernel_rfl
theorem mil11 : nIter 500 34706962675488730530827617679861188339913190972140297571850980618375941865896 = 114703954237347181248628997069268832005165081172342538418126180717250995076493 := by kernel_rfl
theorem mil12 : nIter 500 114703954237347181248628997069268832005165081172342538418126180717250995076493 = 69848854540836334450900974760696231893199764523441154910637419445276522658302 := by kernel_rfl
theorem mil13 : nIter 500 69848854540836334450900974760696231893199764523441154910637419445276522658302 = 77830381146928984149615530156687490640695534354757099637091918673085835156483 := by kernel_rfl
theorem mil14 : nIter 500 77830381146928984149615530156687490640695534354757099637091918673085835156483 = 98242619626230125216980563732088756191576037618454195806520589368142546155760 := by kernel_rfl
theorem mil15 : nIter 500 98242619626230125216980563732088756191576037618454195806520589368142546155760 = 9856636086367768488073183545646347815096406282070487265557186192863359925204 := by kernel_rfl
end Go.Proofs.YtknglaiobbmoaaaDoor

/- The words behind so many blocks of a million bytes 97. -/
namespace Go.Proofs.YtknglaiobbmoaaaDoor
set_option linter.unusedSimpArgs false
set_option linter.unusedVariables false
open Go.RowKit

theorem mil16 : nIter 500 9856636086367768488073183545646347815096406282070487265557186192863359925204 = 8525790656919207863217239659474240409348537087039872121461176632831983416413 := by kernel_rfl
theorem mil17 : nIter 500 8525790656919207863217239659474240409348537087039872121461176632831983416413 = 102940976344742779582964321132945435893549426834690518851139841252251662863205 := by kernel_rfl
theorem mil18 : nIter 500 102940976344742779582964321132945435893549426834690518851139841252251662863205 = 53864311270176397591679500434220372244752327574088745401250828533237404395132 := by kernel_rfl
theorem mil19 : nIter 500 53864311270176397591679500434220372244752327574088745401250828533237404395132 = 39964336288947510840601163150684384150230271264265038578731596604127462060820 := by kernel_rfl
theorem mil20 : nIter 500 39964336288947510840601163150684384150230271264265038578731596604127462060820 = 9469337853614363143408676273215650187358765099486369741335797267515993536238 := by kernel_rfl
theorem mil21 : nIter 500 9469337853614363143408676273215650187358765099486369741335797267515993536238 = 110441389214149189821107823257161485028404140661207259038206741330820307773354 := by kernel_rfl
theorem mil22 : nIter 500 110441389214149189821107823257161485028404140661207259038206741330820307773354 = 19412550633312268194660603639530049349014118476516222678146950414957261000450 := by kernel_rfl
theorem mil23 : nIter 500 19412550633312268194660603639530049349014118476516222678146950414957261000450 = 39148692148275837979393086841781765848146127398783073627970815462203003481382 := by kernel_rfl
end Go.Proofs.YtknglaiobbmoaaaDoor

/- The words behind so many blocks of a million bytes 97. -/
namespace Go.Proofs.YtknglaiobbmoaaaDoor
set_option linter.unusedSimpArgs false
set_option linter.unusedVariables false
open Go.RowKit

theorem mil24 : nIter 500 39148692148275837979393086841781765848146127398783073627970815462203003481382 = 41192198898591139805477430646178342037480428521510385492753559502233130355006 := by kernel_rfl
theorem mil25 : nIter 500 41192198898591139805477430646178342037480428521510385492753559502233130355006 = 51981013816360434179737713607855356290482338068903176946504085282727698612239 := by kernel_rfl
theorem mil26 : nIter 500 51981013816360434179737713607855356290482338068903176946504085282727698612239 = 69454496172206334945689840876466560245390424350720622932265635620144213035534 := by kernel_rfl
theorem mil27 : nIter 500 69454496172206334945689840876466560245390424350720622932265635620144213035534 = 62595615403273148567004539884138327941523267843704654407190172050703120087608 := by kernel_rfl
theorem mil28 : nIter 500 62595615403273148567004539884138327941523267843704654407190172050703120087608 = 111985396808460216253490047968828400550216156166506569062438506099513772156676 := by kernel_rfl
theorem mil29 : nIter 500 111985396808460216253490047968828400550216156166506569062438506099513772156676 = 88615320742496934594055188184324235018115323227166844384476266513960894036038 := by kernel_rfl
theorem mil30 : nIter 500 88615320742496934594055188184324235018115323227166844384476266513960894036038 = 99156586658155275896122843081119755923515981874428891927953292296949915752805 := by kernel_rfl
theorem mil31 : nIter 125 99156586658155275896122843081119755923515981874428891927953292296949915752805 = 55568119529413663051333686199460222388430895494414611757230945412824783956793 := by kernel_rfl
end Go.Proofs.YtknglaiobbmoaaaDoor

/- The published sum of a million bytes 97, and of the text of two blocks. -/
namespace Go.Proofs.YtknglaiobbmoaaaDoor
set_option linter.unusedSimpArgs false
set_option linter.unusedVariables false
open Go.RowKit

set_option maxRecDepth 1000000
def kwsA : List Nat := [2750124281, 3533219314, 4683095344, 5554781446, 2595759036, 3142742866, 4087407621, 4504535094, 5258152953, 1944370274, 2240997151, 3060653860, 3558850261, 3795850079, 4248659976, 4881994453, 7962470397, 8149304770, 1109373709, 1449834259, 1332383432, 1811277571, 5697566716, 4336890837, 4651386783, 7023905028, 4167673427, 6075095564, 3506461443, 6222891004, 3100717738, 957412701, 3211936012, 2525724465, 5192624004, 2750766458, 3733122911, 5785415788, 5302099131, 4510137934, 4494867471, 3051847127, 6841751890, 5493434369, 5416391400, 6288792078, 4206943767, 1385611443, 2838015846, 4615462549, 2870002303, 4911289699, 3868675357, 5105900214, 4192983651, 4114851946, 2567787456, 3518289627, 3043469264, 3431775655, 2875437985, 3700493388, 7133747437, 3572068108]
theorem kwsA_is : (List.range 64).map (fun i => kAt i + wAt (fun _ => 97) 64 i) = kwsA.map (fun x : Nat => (x : Int)) := by kernel_rfl
theorem nW_up (q r n : Nat) (hr : r < 4294967296) : nW (Nat.add (Nat.mul q 4294967296) r) (n + 32) = nW q n := by
  rw [nW_is, nW_is]
  show (q * 4294967296 + r) / 2 ^ (n + 32) % 4294967296 = _
  rw [Nat.add_comm n 32, Nat.pow_add, ← Nat.div_div_eq_div_mul]
  have : (q * 4294967296 + r) / 2 ^ 32 = q := by omega
  rw [this]
theorem nW_0 (q r : Nat) (hr : r < 4294967296) : nW (Nat.add (Nat.mul q 4294967296) r) 0 = r := by
  rw [nW_is]
  show (q * 4294967296 + r) / 2 ^ 0 % 4294967296 = _
  omega
theorem nW_one (r : Nat) (hr : r < 4294967296) : nW r 0 = r := by
  rw [nW_is]; omega
theorem nF_is (s a b c d e f g h : Nat) : nW (nF s a b c d e f g h) 224 = Nat.mod (Nat.add (Nat.shiftRight s 224) a) 4294967296 ∧ nW (nF s a b c d e f g h) 192 = Nat.mod (Nat.add (Nat.shiftRight s 192) b) 4294967296 ∧
    nW (nF s a b c d e f g h) 160 = Nat.mod (Nat.add (Nat.shiftRight s 160) c) 4294967296 ∧ nW (nF s a b c d e f g h) 128 = Nat.mod (Nat.add (Nat.shiftRight s 128) d) 4294967296 ∧ nW (nF s a b c d e f g h) 96 = Nat.mod (Nat.add (Nat.shiftRight s 96) e) 4294967296 ∧
    nW (nF s a b c d e f g h) 64 = Nat.mod (Nat.add (Nat.shiftRight s 64) f) 4294967296 ∧ nW (nF s a b c d e f g h) 32 = Nat.mod (Nat.add (Nat.shiftRight s 32) g) 4294967296 ∧ nW (nF s a b c d e f g h) 0 = Nat.mod (Nat.add s h) 4294967296 := by
  unfold nF
  refine ⟨?_, ?_, ?_, ?_, ?_, ?_, ?_, ?_⟩
  · rw [nW_up _ _ 192 (mod_lt' _), nW_up _ _ 160 (mod_lt' _), nW_up _ _ 128 (mod_lt' _), nW_up _ _ 96 (mod_lt' _), nW_up _ _ 64 (mod_lt' _), nW_up _ _ 32 (mod_lt' _), nW_up _ _ 0 (mod_lt' _), nW_one _ (mod_lt' _)]
  · rw [nW_up _ _ 160 (mod_lt' _), nW_up _ _ 128 (mod_lt' _), nW_up _ _ 96 (mod_lt' _), nW_up _ _ 64 (mod_lt' _), nW_up _ _ 32 (mod_lt' _), nW_up _ _ 0 (mod_lt' _), nW_0 _ _ (mod_lt' _)]
  · rw [nW_up _ _ 128 (mod_lt' _), nW_up _ _ 96 (mod_lt' _), nW_up _ _ 64 (mod_lt' _), nW_up _ _ 32 (mod_lt' _), nW_up _ _ 0 (mod_lt' _), nW_0 _ _ (mod_lt' _)]
  · rw [nW_up _ _ 96 (mod_lt' _), nW_up _ _ 64 (mod_lt' _), nW_up _ _ 32 (mod_lt' _), nW_up _ _ 0 (mod_lt' _), nW_0 _ _ (mod_lt' _)]
  · rw [nW_up _ _ 64 (mod_lt' _), nW_up _ _ 32 (mod_lt' _), nW_up _ _ 0 (mod_lt' _), nW_0 _ _ (mod_lt' _)]
  · rw [nW_up _ _ 32 (mod_lt' _), nW_up _ _ 0 (mod_lt' _), nW_0 _ _ (mod_lt' _)]
  · rw [nW_up _ _ 0 (mod_lt' _), nW_0 _ _ (mod_lt' _)]
  · rw [nW_0 _ _ (mod_lt' _)]
theorem nAdd (s n x : Nat) : ((nW s n : Int) + (x : Int)) % 4294967296 = ((Nat.mod (Nat.add (Nat.shiftRight s n) x) 4294967296 : Nat) : Int) := by
  show (((Nat.shiftRight s n % 4294967296 : Nat) : Int) + (x : Int)) % 4294967296 = (((Nat.shiftRight s n + x) % 4294967296 : Nat) : Int)
  omega
theorem nA_is (s : Nat) : nA s = nChain (nF s) kwsA := by kernel_rfl
theorem nStep_is {v f : Nat → Int} {s : Nat} (hv : isW8 v s) (hf : ∀ i, i < 64 → f i = 97) : isW8 (takeI v f) (nStep s) := by
  have hw : wAt f 64 = wAt (fun _ => 97) 64 := by funext j; rw [wAt, wAt, wTo_congr (g := fun _ => 97) hf]
  obtain ⟨h0, h1, h2, h3, h4, h5, h6, h7⟩ := hv
  obtain ⟨a, b, c, d, e, g, h, k, e1, e2⟩ := nChain_is (wAt (fun _ => 97) 64) (nF s) kwsA 0 (nW s 224) (nW s 192) (nW s 160) (nW s 128) (nW s 96) (nW s 64) (nW s 32) (nW s 0) (fun i hi => by
    have hk := congrArg (fun l : List Int => l.getD i 0) kwsA_is
    have e3 : kwsA.length = 64 := by kernel_rfl
    have hi' : i < 64 := by rw [e3] at hi; exact hi
    simp only [List.getD_eq_getElem?_getD, List.getElem?_map, List.getElem?_range hi'] at hk
    rw [Nat.zero_add, List.getD_eq_getElem?_getD]
    rw [List.getElem?_eq_getElem hi] at hk ⊢
    exact hk.symm) (nW_lt _ _) (nW_lt _ _) (nW_lt _ _) (nW_lt _ _) (nW_lt _ _) (nW_lt _ _) (nW_lt _ _) (nW_lt _ _)
  have eS : nStep s = nF s a b c d e g h k := by unfold nStep; rw [nA_is]; exact e2
  have eR : rndTo (wAt f 64) ⟨v 0, v 1, v 2, v 3, v 4, v 5, v 6, v 7⟩ 64 = toS a b c d e g h k := by
    have e3 : kwsA.length = 64 := by kernel_rfl
    rw [e3] at e1
    rw [hw, h0, h1, h2, h3, h4, h5, h6, h7, ← rndFrom_to]; exact e1
  obtain ⟨f0, f1, f2, f3, f4, f5, f6, f7⟩ := nF_is s a b c d e g h k
  rw [eS]
  unfold isW8 takeI
  rw [eR, f0, f1, f2, f3, f4, f5, f6, f7, h0, h1, h2, h3, h4, h5, h6, h7]
  exact ⟨nAdd s 224 a, nAdd s 192 b, nAdd s 160 c, nAdd s 128 d, nAdd s 96 e, nAdd s 64 g, nAdd s 32 h, nAdd s 0 k⟩
theorem nForce_is (n : Nat) (k : Nat → Nat) : nForce n k = k n := by cases n <;> rfl
theorem nIter_is (l : List Int) : ∀ (n k s : Nat), isW8 (wordsAt l k) s → (∀ i, 64 * k ≤ i → i < 64 * (k + n) → l.getD i 0 = 97) → isW8 (wordsAt l (k + n)) (nIter n s)
  | 0, k, s, h, _ => h
  | n + 1, k, s, h, hl => by
    have h1 : isW8 (wordsAt l (k + 1)) (nStep s) := nStep_is h (fun i hi => hl (64 * k + i) (by omega) (by omega))
    have h2 := nIter_is l n (k + 1) (nStep s) h1 (fun i h3 h4 => hl i (by omega) (by omega))
    rw [show k + (n + 1) = k + 1 + n by omega, nIter, nForce_is]
    exact h2
/-- a million bytes 97. -/
def isMil (L : List Int) : Prop := L.length = 1000000 ∧ ∀ i, i < 1000000 → L.getD i 0 = 97
theorem first_is : isW8 firstI.at 47962653771679561900652889051773562940742041696833059450490514104358170316057 := by
  unfold isW8; exact ⟨by kernel_rfl, by kernel_rfl, by kernel_rfl, by kernel_rfl, by kernel_rfl, by kernel_rfl, by kernel_rfl, by kernel_rfl⟩
theorem mil_words (L : List Int) (h : isMil L) : isW8 (wordsAt (msg L) 15625) 55568119529413663051333686199460222388430895494414611757230945412824783956793 := by
  have hb : ∀ i, i < 1000000 → (msg L).getD i 0 = 97 := fun i hi => by rw [msg_head L i (by rw [h.1]; exact hi)]; exact h.2 i hi
  have s0 : isW8 (wordsAt (msg L) 0) 47962653771679561900652889051773562940742041696833059450490514104358170316057 := first_is
  have s1 := nIter_is (msg L) 500 0 _ s0 (fun i _ h2 => hb i (by omega))
  rw [mil0] at s1
  have s2 := nIter_is (msg L) 500 500 _ s1 (fun i _ h2 => hb i (by omega))
  rw [mil1] at s2
  have s3 := nIter_is (msg L) 500 1000 _ s2 (fun i _ h2 => hb i (by omega))
  rw [mil2] at s3
  have s4 := nIter_is (msg L) 500 1500 _ s3 (fun i _ h2 => hb i (by omega))
  rw [mil3] at s4
  have s5 := nIter_is (msg L) 500 2000 _ s4 (fun i _ h2 => hb i (by omega))
  rw [mil4] at s5
  have s6 := nIter_is (msg L) 500 2500 _ s5 (fun i _ h2 => hb i (by omega))
  rw [mil5] at s6
  have s7 := nIter_is (msg L) 500 3000 _ s6 (fun i _ h2 => hb i (by omega))
  rw [mil6] at s7
  have s8 := nIter_is (msg L) 500 3500 _ s7 (fun i _ h2 => hb i (by omega))
  rw [mil7] at s8
  have s9 := nIter_is (msg L) 500 4000 _ s8 (fun i _ h2 => hb i (by omega))
  rw [mil8] at s9
  have s10 := nIter_is (msg L) 500 4500 _ s9 (fun i _ h2 => hb i (by omega))
  rw [mil9] at s10
  have s11 := nIter_is (msg L) 500 5000 _ s10 (fun i _ h2 => hb i (by omega))
  rw [mil10] at s11
  have s12 := nIter_is (msg L) 500 5500 _ s11 (fun i _ h2 => hb i (by omega))
  rw [mil11] at s12
  have s13 := nIter_is (msg L) 500 6000 _ s12 (fun i _ h2 => hb i (by omega))
  rw [mil12] at s13
  have s14 := nIter_is (msg L) 500 6500 _ s13 (fun i _ h2 => hb i (by omega))
  rw [mil13] at s14
  have s15 := nIter_is (msg L) 500 7000 _ s14 (fun i _ h2 => hb i (by omega))
  rw [mil14] at s15
  have s16 := nIter_is (msg L) 500 7500 _ s15 (fun i _ h2 => hb i (by omega))
  rw [mil15] at s16
  have s17 := nIter_is (msg L) 500 8000 _ s16 (fun i _ h2 => hb i (by omega))
  rw [mil16] at s17
  have s18 := nIter_is (msg L) 500 8500 _ s17 (fun i _ h2 => hb i (by omega))
  rw [mil17] at s18
  have s19 := nIter_is (msg L) 500 9000 _ s18 (fun i _ h2 => hb i (by omega))
  rw [mil18] at s19
  have s20 := nIter_is (msg L) 500 9500 _ s19 (fun i _ h2 => hb i (by omega))
  rw [mil19] at s20
  have s21 := nIter_is (msg L) 500 10000 _ s20 (fun i _ h2 => hb i (by omega))
  rw [mil20] at s21
  have s22 := nIter_is (msg L) 500 10500 _ s21 (fun i _ h2 => hb i (by omega))
  rw [mil21] at s22
  have s23 := nIter_is (msg L) 500 11000 _ s22 (fun i _ h2 => hb i (by omega))
  rw [mil22] at s23
  have s24 := nIter_is (msg L) 500 11500 _ s23 (fun i _ h2 => hb i (by omega))
  rw [mil23] at s24
  have s25 := nIter_is (msg L) 500 12000 _ s24 (fun i _ h2 => hb i (by omega))
  rw [mil24] at s25
  have s26 := nIter_is (msg L) 500 12500 _ s25 (fun i _ h2 => hb i (by omega))
  rw [mil25] at s26
  have s27 := nIter_is (msg L) 500 13000 _ s26 (fun i _ h2 => hb i (by omega))
  rw [mil26] at s27
  have s28 := nIter_is (msg L) 500 13500 _ s27 (fun i _ h2 => hb i (by omega))
  rw [mil27] at s28
  have s29 := nIter_is (msg L) 500 14000 _ s28 (fun i _ h2 => hb i (by omega))
  rw [mil28] at s29
  have s30 := nIter_is (msg L) 500 14500 _ s29 (fun i _ h2 => hb i (by omega))
  rw [mil29] at s30
  have s31 := nIter_is (msg L) 500 15000 _ s30 (fun i _ h2 => hb i (by omega))
  rw [mil30] at s31
  have s32 := nIter_is (msg L) 125 15500 _ s31 (fun i _ h2 => hb i (by omega))
  rw [mil31] at s32
  exact s32
def vMil (i : Nat) : Int := ([2061136107, 1745259042, 791610055, 2140370626, 1884297759, 3529239238, 671294972, 693152569] : List Int).getD i 0
def fMil (i : Nat) : Int := ([128, 0, 0, 0, 0, 0, 0, 0, 0, 0, 0, 0, 0, 0, 0, 0, 0, 0, 0, 0, 0, 0, 0, 0, 0, 0, 0, 0, 0, 0, 0, 0, 0, 0, 0, 0, 0, 0, 0, 0, 0, 0, 0, 0, 0, 0, 0, 0, 0, 0, 0, 0, 0, 0, 0, 0, 0, 0, 0, 0, 0, 122, 18, 0] : List Int).getD i 0
theorem mil_last (L : List Int) (h : isMil L) (i : Nat) (hi : i < 64) : (msg L).getD (64 * 15625 + i) 0 = fMil i := by
  have e : msg L = L ++ ([128, 0, 0, 0, 0, 0, 0, 0, 0, 0, 0, 0, 0, 0, 0, 0, 0, 0, 0, 0, 0, 0, 0, 0, 0, 0, 0, 0, 0, 0, 0, 0, 0, 0, 0, 0, 0, 0, 0, 0, 0, 0, 0, 0, 0, 0, 0, 0, 0, 0, 0, 0, 0, 0, 0, 0, 0, 0, 0, 0, 0, 122, 18, 0] : List Int) := by
    unfold msg
    rw [h.1]
    congr 1
  rw [e, List.getD_eq_getElem?_getD, List.getElem?_append_right (by rw [h.1]; omega), h.1, show 64 * 15625 + i - 1000000 = i by omega, ← List.getD_eq_getElem?_getD]
  rfl
theorem milv0 : ((nW 55568119529413663051333686199460222388430895494414611757230945412824783956793 224 : Nat) : Int) = vMil 0 := by kernel_rfl
theorem milv1 : ((nW 55568119529413663051333686199460222388430895494414611757230945412824783956793 192 : Nat) : Int) = vMil 1 := by kernel_rfl
theorem milv2 : ((nW 55568119529413663051333686199460222388430895494414611757230945412824783956793 160 : Nat) : Int) = vMil 2 := by kernel_rfl
theorem milv3 : ((nW 55568119529413663051333686199460222388430895494414611757230945412824783956793 128 : Nat) : Int) = vMil 3 := by kernel_rfl
theorem milv4 : ((nW 55568119529413663051333686199460222388430895494414611757230945412824783956793 96 : Nat) : Int) = vMil 4 := by kernel_rfl
theorem milv5 : ((nW 55568119529413663051333686199460222388430895494414611757230945412824783956793 64 : Nat) : Int) = vMil 5 := by kernel_rfl
theorem milv6 : ((nW 55568119529413663051333686199460222388430895494414611757230945412824783956793 32 : Nat) : Int) = vMil 6 := by kernel_rfl
theorem milv7 : ((nW 55568119529413663051333686199460222388430895494414611757230945412824783956793 0 : Nat) : Int) = vMil 7 := by kernel_rfl
theorem mil_final (L : List Int) (h : isMil L) (i : Nat) (hi : i < 8) : finalW L i = takeI vMil fMil i := by
  have hlen : (msg L).length / 64 = 15625 + 1 := by rw [msg_length, h.1]
  unfold finalW
  rw [hlen, wordsAt]
  refine takeI_congr (fun j hj => ?_) (fun j hj => mil_last L h j hj) i hi
  obtain ⟨w0, w1, w2, w3, w4, w5, w6, w7⟩ := mil_words L h
  have : j = 0 ∨ j = 1 ∨ j = 2 ∨ j = 3 ∨ j = 4 ∨ j = 5 ∨ j = 6 ∨ j = 7 := by omega
  rcases this with rfl | rfl | rfl | rfl | rfl | rfl | rfl | rfl
  · exact w0.trans milv0
  · exact w1.trans milv1
  · exact w2.trans milv2
  · exact w3.trans milv3
  · exact w4.trans milv4
  · exact w5.trans milv5
  · exact w6.trans milv6
  · exact w7.trans milv7
def txtMil : ByteArray := { data := #[99, 100, 99, 55, 54, 101, 53, 99, 57, 57, 49, 52, 102, 98, 57, 50, 56, 49, 97, 49, 99, 55, 101, 50, 56, 52, 100, 55, 51, 101, 54, 55, 102, 49, 56, 48, 57, 97, 52, 56, 97, 52, 57, 55, 50, 48, 48, 101, 48, 52, 54, 100, 51, 57, 99, 99, 99, 55, 49, 49, 50, 99, 100, 48] }
def txtTwo : ByteArray := { data := #[50, 52, 56, 100, 54, 97, 54, 49, 100, 50, 48, 54, 51, 56, 98, 56, 101, 53, 99, 48, 50, 54, 57, 51, 48, 99, 51, 101, 54, 48, 51, 57, 97, 51, 51, 99, 101, 52, 53, 57, 54, 52, 102, 102, 50, 49, 54, 55, 102, 54, 101, 99, 101, 100, 100, 52, 49, 57, 100, 98, 48, 54, 99, 49] }
theorem mil_lit : strOf ((List.range 64).map (printI (sumByte (takeI vMil fMil)))) = txtMil := by kernel_rfl
theorem known_million (L : List Int) (h : isMil L) : strOf ((List.range 64).map (printI (sumI L))) = txtMil := by
  refine Eq.trans (congrArg strOf (List.map_congr_left fun j hj => ?_)) mil_lit
  have hj' : j < 64 := List.mem_range.1 hj
  have e : sumI L (j / 2) = sumByte (takeI vMil fMil) (j / 2) := by
    unfold sumI sumByte
    rw [mil_final L h (j / 2 / 4) (by omega)]
  unfold printI
  rw [e]
def lTwo : List Int := [97, 98, 99, 100, 98, 99, 100, 101, 99, 100, 101, 102, 100, 101, 102, 103, 101, 102, 103, 104, 102, 103, 104, 105, 103, 104, 105, 106, 104, 105, 106, 107, 105, 106, 107, 108, 106, 107, 108, 109, 107, 108, 109, 110, 108, 109, 110, 111, 109, 110, 111, 112, 110, 111, 112, 113]
theorem known_two : strOf ((List.range 64).map (printI (sumI lTwo))) = txtTwo := by kernel_rfl
end Go.Proofs.YtknglaiobbmoaaaDoor

/- ShaKnown: its walk. -/
namespace Go.Proofs.YtknglaiobbmoaaaDoor
set_option linter.unusedSimpArgs false
set_option linter.unusedVariables false
open Go.RowKit Go.Deep

theorem one_cellK (w : World) (v : Value) (t : TypeId) : (w.alloc (.cells #[v] t)).cell? ⟨w.heap.size, 0 + 0, none⟩ = some v := by
  rw [cell_of_row _ _ _ _ _ _ (blk_alloc_new w (.cells #[v] t))]; rfl
theorem hashAny.farK {w w' : World} {b : Nat} {l : List Int} (h : hashAny w b l) (hb : w'.heap[b]? = w.heap[b]?) : hashAny w' b l := by
  obtain ⟨v, f, h1, h2⟩ := h
  exact ⟨v, f, World.rowIs.of_block h1 hb, h2⟩
theorem one_byteK (w : World) (b : Int) (h0 : 0 ≤ b) (h1 : b ≤ 255) : isBytes (w.alloc (.cells #[.int .u8 b] 5)) (.slice (some ⟨w.heap.size, 0, none⟩) 1 1) [b] :=
  Or.inr ⟨w.heap.size, 0, 1, rfl, by simp, by unfold maxLen; omega, by simp, fun i hi => by
    have hi' : i < 1 := by simpa using hi
    obtain rfl : i = 0 := by omega
    exact one_cellK w _ _, fun i => by cases i <;> simp <;> omega⟩
/-- append(v, b). -/
theorem byte_append_runK (w : World) (B : Nat) (v : Value) (l : List Int) (b : Int) (h0 : 0 ≤ b) (h1 : b ≤ 255) (hv : newBytes w B v l) (hs : l.length < 1099511627776) (hB : B ≤ w.heap.size) :
    ∃ v' w', (Builtin.append_ #[22, 22] 22 #[v, .slice (some ⟨w.heap.size, 0, none⟩) 1 1]).run Tryd.prog (w.alloc (.cells #[.int .u8 b] 5)) = .ok v' w' ∧ newBytes w' B v' (l ++ [b]) ∧ Below B w w' := by
  have hb1 : Below w.heap.size w (w.alloc (.cells #[Value.int .u8 b] 5)) := (Below.refl _ _).alloc (Nat.le_refl _) _
  have hv1 := hv.below hb1 (Nat.le_refl _)
  obtain ⟨v', w', hr, hn, hg, _⟩ := bytes_append_run _ B v _ l [b] hv1 (one_byteK w b h0 h1) (by simp; omega) (by simp; omega)
  exact ⟨v', w', hr, hn, (hb1.mono hB).trans (below_grown hg (fun k hk => (hv1.block k hk).1) (by simp; omega))⟩
theorem flat_a (A : List Int) (hl : A.length = 1000) (ha : ∀ i, i < 1000 → A.getD i 0 = 97) : ∀ j, (flatTo (fun _ => A) j).length = 1000 * j ∧ ∀ i, i < 1000 * j → (flatTo (fun _ => A) j).getD i 0 = 97
  | 0 => ⟨rfl, fun i hi => by omega⟩
  | j + 1 => by
    obtain ⟨h1, h2⟩ := flat_a A hl ha j
    refine ⟨by rw [flatTo, List.length_append, h1, hl]; omega, fun i hi => ?_⟩
    rw [flatTo, List.getD_eq_getElem?_getD]
    by_cases h : i < 1000 * j
    · rw [List.getElem?_append_left (by omega), ← List.getD_eq_getElem?_getD]; exact h2 i h
    · rw [List.getElem?_append_right (by omega), ← List.getD_eq_getElem?_getD]; exact ha _ (by omega)
/-- h.Write(a). -/
theorem write_a (w : World) (b B : Nat) (u : Value) (A l : List Int) (h : hashAny w b l) (hl : l.length ≤ 1000000) (hA : A.length = 1000) (hu : newBytes w B u A) (hub : u.ownBlock ≠ some b) (ht : tabIs w) (hb0 : b ≠ 0) :
    Calls Tryd.prog 5 #[.pointer (some ⟨b, 0, none⟩), .slice (some ⟨w.heap.size, 0, none⟩) 1 1] (w.alloc (.cells #[u] 22)) fun e w' => e = .returned (.tuple #[]) ∧ But (w.heap.size + 1) b (w.alloc (.cells #[u] 22)) w' ∧ hashAny w' b (l ++ A) := by
  have hlt := h.lt
  obtain ⟨W, hW⟩ : ∃ W, W = w.alloc (.cells #[u] 22) := ⟨_, rfl⟩
  have bw : Below w.heap.size w W := by rw [hW]; exact (Below.refl _ _).alloc (Nat.le_refl _) _
  have b1 : W.heap[w.heap.size]? = some (.cells #[u] 22) := by rw [hW, blk_alloc_new]
  have sW : W.heap.size = w.heap.size + 1 := by rw [hW]; simp
  have hf : flatTo (fun _ => A) 1 = A := by simp [flatTo]
  rw [← hW]
  clear hW
  have hi := hu.is
  refine (write_any b l 1 w.heap.size 0 1 (fun _ => u) (fun _ => A) W (h.farK (bw.block b hlt)) (by omega) (by omega) (fun i hi => ?_) (fun i hi2 => ?_) (fun i hi => ?_) (by unfold maxLen; omega) (ht.below bw (by have := ht.1; omega)).2 hb0).mono ?_
  · obtain rfl : i = 0 := by omega
    rw [cell_of_row _ _ _ _ _ _ b1]; rfl
  · rcases hi with ⟨_, rfl⟩ | ⟨pb, po, cap, rfl, h2, h3, h4, h6, h7⟩
    · simp at hA
    · refine Or.inr (Or.inl ⟨pb, po, cap, rfl, h2, h3, by omega, fun e => hub (by rw [e]; rfl), fun j hj => ?_, h7⟩)
      rw [bw.cell (p := ⟨pb, po + j, none⟩) h4]; exact h6 j hj
  · have : i = 0 ∨ i = 1 := by omega
    rcases this with rfl | rfl
    · simp [flatTo]; omega
    · rw [hf, hA]; omega
  · rintro e w' ⟨rfl, hb, hh⟩
    rw [hf] at hh
    rw [sW] at hb
    exact ⟨rfl, hb, hh.any⟩
/-- the text of two blocks, as a row of one part. -/
def cTwo : Array Value := #[.int .u8 97, .int .u8 98, .int .u8 99, .int .u8 100, .int .u8 98, .int .u8 99, .int .u8 100, .int .u8 101, .int .u8 99, .int .u8 100, .int .u8 101, .int .u8 102, .int .u8 100, .int .u8 101, .int .u8 102, .int .u8 103, .int .u8 101, .int .u8 102, .int .u8 103, .int .u8 104, .int .u8 102, .int .u8 103, .int .u8 104, .int .u8 105, .int .u8 103, .int .u8 104, .int .u8 105, .int .u8 106, .int .u8 104, .int .u8 105, .int .u8 106, .int .u8 107, .int .u8 105, .int .u8 106, .int .u8 107, .int .u8 108, .int .u8 106, .int .u8 107, .int .u8 108, .int .u8 109, .int .u8 107, .int .u8 108, .int .u8 109, .int .u8 110, .int .u8 108, .int .u8 109, .int .u8 110, .int .u8 111, .int .u8 109, .int .u8 110, .int .u8 111, .int .u8 112, .int .u8 110, .int .u8 111, .int .u8 112, .int .u8 113]
def twoW (w : World) : World := (w.alloc (.cells cTwo 5 (56, 57))).alloc (.cells #[.slice (some ⟨w.heap.size, 0, none⟩) 56 56] 22)
theorem cTwo_row : cTwo = rowV 56 (fun j => .int .u8 (lTwo.getD j 0)) := by kernel_rfl
theorem cTwo_get (j : Nat) (h : j < 56) : cTwo[j]? = some (.int .u8 (lTwo.getD j 0)) := by rw [cTwo_row]; exact rowV_get 56 (fun j => .int .u8 (lTwo.getD j 0)) j h
theorem lTwo_byte : ∀ j, 0 ≤ lTwo.getD j 0 ∧ lTwo.getD j 0 ≤ 255 := fun j => by
  by_cases h : j < 56
  · have : ∀ j, j < 56 → 0 ≤ lTwo.getD j 0 ∧ lTwo.getD j 0 ≤ 255 := by decide +kernel
    exact this j h
  · rw [List.getD_eq_getElem?_getD, List.getElem?_eq_none (by simp [lTwo]; omega)]; exact ⟨by simp, by simp⟩
theorem twoW_parts (w : World) : isParts (twoW w) (.slice (some ⟨w.heap.size + 1, 0, none⟩) 1 1) 1 (fun _ => lTwo) ∧ Below w.heap.size w (twoW w) := by
  have b0 : (twoW w).heap[w.heap.size]? = some (.cells cTwo 5 (56, 57)) := by rw [twoW, blk_alloc_lt _ _ _ (by simp), blk_alloc_new]
  have b1 : (twoW w).heap[w.heap.size + 1]? = some (.cells #[.slice (some ⟨w.heap.size, 0, none⟩) 56 56] 22) := by
    have := blk_alloc_new (w.alloc (.cells cTwo 5 (56, 57))) (.cells #[.slice (some ⟨w.heap.size, 0, none⟩) 56 56] 22)
    rw [nblk_alloc] at this; exact this
  have hs : (twoW w).heap.size = w.heap.size + 2 := by simp [twoW]
  refine ⟨Or.inr ⟨w.heap.size + 1, 0, 1, fun _ => .slice (some ⟨w.heap.size, 0, none⟩) 56 56, rfl, by omega, by decide, fun i hi => ?_⟩, ((Below.refl _ _).alloc (Nat.le_refl _) _).alloc (by simp) _⟩
  obtain rfl : i = 0 := by omega
  refine ⟨by rw [cell_of_row _ _ _ _ _ _ b1]; rfl, Or.inl (Or.inr ⟨w.heap.size, 0, 56, rfl, by decide, by decide, by omega, fun j hj => ?_, lTwo_byte⟩)⟩
  rw [cell_of_row _ _ _ _ _ _ b0, Nat.zero_add]
  exact cTwo_get j hj
end Go.Proofs.YtknglaiobbmoaaaDoor

/- ShaKnown: its walk. -/
namespace Go.Proofs.YtknglaiobbmoaaaDoor
set_option linter.unusedSimpArgs false
set_option linter.unusedVariables false
open Go.RowKit Go.Deep

theorem slenK {w : World} {B : Nat} {v : Value} {l : List Int} (h : newBytes w B v l) : ∃ a c, v = .slice a l.length c := by
  obtain ⟨a, c, e, _⟩ := h.is.slice; exact ⟨a, c, e⟩
set_option maxHeartbeats 4000000 in
set_option maxRecDepth 100000 in
theorem shaKnown_any (w : World) (ht : tabIs w) : Calls Tryd.prog 3 #[] w fun e w' => e = .returned (.bool true) ∧ Below w.heap.size w w' := by
  have ht0 := ht.1
  go_enter Tryd.func3, Tryd.ntmps3
  go_wp2_with fail
  go_loopw [1, 2] (fun a i wr => ∃ k : Nat, k ≤ 1000 ∧ i = .int .i64 k ∧ newBytes wr w.heap.size a (List.replicate k 97) ∧ Below w.heap.size w wr) (fun _ i _ => 1000 - (intOf i).toNat)
  case atStart => exact ⟨0, by omega, rfl, newBytes.nil _ _, Below.refl _ _⟩
  case round =>
    obtain ⟨k, hk, rfl, hn, hb⟩ := hrel
    by_cases hlt : k < 1000
    · have q1 : (k : Int) < 1000 := by omega
      obtain ⟨v', w', hr, hn', hb'⟩ := byte_append_runK wr w.heap.size _ _ 97 (by omega) (by omega) hn (by rw [List.length_replicate]; omega) hb.size
      have HN : Hid (newBytes w' w.heap.size v' (List.replicate (k + 1) 97)) := (show newBytes w' w.heap.size v' (List.replicate (k + 1) 97) from by rw [List.replicate_succ']; exact hn')
      have HB : Hid (Below w.heap.size w w') := (show Below w.heap.size w w' from hb.trans hb')
      clear hn' hb' hn hb
      go_wp2_with (at_builtin; refine wpList_append_run rfl _ _ _ rfl rfl rfl hr ?_)
      go_light
      exact ⟨⟨k + 1, by omega, by go_num, HN.out, HB.out⟩, by simp [intOf]; omega⟩
    · have q1 : ¬ (k : Int) < 1000 := by omega
      obtain ⟨A, hAl, hAg, hnA⟩ : ∃ A : List Int, A.length = 1000 ∧ (∀ i, i < 1000 → A.getD i 0 = 97) ∧ newBytes wr w.heap.size u1 A := ⟨List.replicate k 97, by rw [List.length_replicate]; omega, fun i hi => by rw [List.getD_eq_getElem?_getD, List.getElem?_replicate, if_pos (by omega)]; rfl, hn⟩
      obtain ⟨a1, c1, hue⟩ := slenK hnA
      rw [hAl] at hue
      subst hue
      have hub : ∀ j, (Value.slice a1 1000 c1).ownBlock = some j → j < wr.heap.size := fun j hj => (hnA.block j hj).2
      have FA : Hid (∀ j, (flatTo (fun _ => A) j).length = 1000 * j ∧ ∀ i, i < 1000 * j → (flatTo (fun _ => A) j).getD i 0 = 97) := (show _ from flat_a A hAl hAg)
      have HAL : Hid (A.length = 1000) := (show A.length = 1000 from hAl)
      have HNA : Hid (newBytes wr w.heap.size (.slice a1 1000 c1) A) := (show newBytes wr w.heap.size (.slice a1 1000 c1) A from hnA)
      have HUB : Hid (∀ j, (Value.slice a1 1000 c1).ownBlock = some j → j < wr.heap.size) := (show ∀ j, (Value.slice a1 1000 c1).ownBlock = some j → j < wr.heap.size from hub)
      have HBW : Hid (Below w.heap.size w wr) := (show Below w.heap.size w wr from hb)
      clear hn hnA hub hAl hAg hb
      go_wp2_with fail
      refine (new_any wr).mono ?_
      rintro e w2 ⟨rfl, b2, s2, h2⟩
      have H2 : Hid (hashAny w2 wr.heap.size []) := (show hashAny w2 wr.heap.size [] from hashAny_zero h2)
      have N2 : Hid (newBytes w2 w.heap.size (.slice a1 1000 c1) A) := (show newBytes w2 w.heap.size (.slice a1 1000 c1) A from HNA.out.below b2 (Nat.le_refl _))
      have B2 : Hid (Below w.heap.size w w2) := (show Below w.heap.size w w2 from HBW.out.trans (b2.mono HBW.out.size))
      clear h2 b2 s2
      go_wp2_with fail
      go_loopw [4] (fun i wx => ∃ j : Nat, j ≤ 1000 ∧ i = .int .i64 j ∧ hashAny wx wr.heap.size (flatTo (fun _ => A) j) ∧ newBytes wx w.heap.size (.slice a1 1000 c1) A ∧ Below w.heap.size w wx) (fun i _ => 1000 - (intOf i).toNat)
      case atStart => exact ⟨0, by omega, rfl, H2.out, N2.out, B2.out⟩
      case round =>
        rename World => wx
        obtain ⟨j, hj, rfl, hh, hnx, hbx⟩ := hrel
        by_cases hlt2 : j < 1000
        · have q2 : (j : Int) < 1000 := by omega
          have hhl := hh.lt
          have X := write_a wx wr.heap.size w.heap.size (.slice a1 1000 c1) A (flatTo (fun _ => A) j) hh (by rw [(FA.out j).1]; omega) HAL.out hnx (fun e => by have := HUB.out _ e; omega) (ht.below hbx ht0) (by have := HBW.out.size; omega)
          have hfl : flatTo (fun _ => A) j ++ A = flatTo (fun _ => A) (j + 1) := rfl
          rw [hfl] at X
          have KN : Hid (∀ w', But (wx.heap.size + 1) wr.heap.size (wx.alloc (.cells #[.slice a1 1000 c1] 22)) w' → newBytes w' w.heap.size (.slice a1 1000 c1) A ∧ Below w.heap.size w w') := (show _ from fun w' hb => by
            have ba : Below wx.heap.size wx (wx.alloc (.cells #[.slice a1 1000 c1] 22)) := (Below.refl _ _).alloc (Nat.le_refl _) _
            have h1 := hnx.below ba (Nat.le_refl _)
            refine ⟨⟨h1.1.far fun q hq => hb.block q (by have := (hnx.block q hq).2; omega) (fun e => by have := HUB.out q hq; omega), h1.2⟩, hbx.trans ((ba.mono hbx.size).trans ((hb.mono (by have := hbx.size; omega)).below HBW.out.size))⟩)
          clear hh hnx hbx hfl hhl
          go_wp2_with fail
          refine X.mono ?_
          rintro e w3 ⟨rfl, b3, h3⟩
          have K3 := KN.out w3 b3
          have H3 : Hid (hashAny w3 wr.heap.size (flatTo (fun _ => A) (j + 1))) := (show hashAny w3 wr.heap.size (flatTo (fun _ => A) (j + 1)) from h3)
          have K3' : Hid (newBytes w3 w.heap.size (.slice a1 1000 c1) A ∧ Below w.heap.size w w3) := (show newBytes w3 w.heap.size (.slice a1 1000 c1) A ∧ Below w.heap.size w w3 from K3)
          clear X b3 h3 K3 KN
          go_wp2
          go_light
          exact ⟨⟨j + 1, by omega, by go_num, H3.out, K3'.out.1, K3'.out.2⟩, by simp [intOf]; omega⟩
        · have q2 : ¬ (j : Int) < 1000 := by omega
          have hmil : isMil (flatTo (fun _ => A) j) := ⟨by rw [(FA.out j).1]; omega, fun i hi => (FA.out j).2 i (by omega)⟩
          have HM := known_million _ hmil
          have hlen : (flatTo (fun _ => A) j).length < 1099511627776 := by rw [hmil.1]; omega
          generalize flatTo (fun _ => A) j = L at hh HM hlen
          have HH : Hid (hashAny wx wr.heap.size L) := (show hashAny wx wr.heap.size L from hh)
          have HMH : Hid (strOf ((List.range 64).map (printI (sumI L))) = txtMil) := (show _ from HM)
          have HLN : Hid (L.length < 1099511627776) := (show L.length < 1099511627776 from hlen)
          have XA := awake_any wx (ht.below hbx ht0)
          have HBX : Hid (Below w.heap.size w wx) := (show Below w.heap.size w wx from hbx)
          clear hh hnx hbx HM hlen hmil FA HNA N2 H2 B2
          go_wp2_with fail
          refine XA.mono ?_
          rintro e w3 ⟨rfl, b3⟩
          have hb3 : Below w.heap.size w w3 := HBX.out.trans (b3.mono HBX.out.size)
          have HH3 : Hid (hashAny w3 wr.heap.size L) := (show hashAny w3 wr.heap.size L from HH.out.farK (b3.block _ HH.out.lt))
          have kc2 : (convert 22 22 (.slice (some ⟨w3.heap.size, 0, none⟩) 56 56)).run Tryd.prog (w3.alloc (.cells cTwo 5)) = .ok (.slice (some ⟨w3.heap.size, 0, none⟩) 56 56) (w3.alloc (.cells cTwo 5 (56, 57))) := Lib.run_convert_bytes_const (P := Tryd.prog) w3 22 5 cTwo 56 56 Tryd.underlying22 Tryd.underlying5
          have TP := twoW_parts w3
          have XS := shaSum_any 1 _ (fun _ => lTwo) (twoW w3) TP.1 (fun i hi => by
            have : i = 0 ∨ i = 1 := by omega
            rcases this with rfl | rfl <;> decide +kernel) (ht.below (hb3.trans (TP.2.mono hb3.size)) ht0)
          rw [show flatTo (fun _ => lTwo) 1 = lTwo by simp [flatTo]] at XS
          have HB3 : Hid (Below w.heap.size w w3 ∧ Below w3.heap.size w3 (twoW w3)) := (show Below w.heap.size w w3 ∧ Below w3.heap.size w3 (twoW w3) from ⟨hb3, TP.2⟩)
          have XW : Hid (∀ e : World, True) := (show ∀ e : World, True from fun _ => trivial)
          unfold twoW at XS
          unfold cTwo at kc2 XS
          clear XA b3 hb3 TP HH
          go_wp2_with fail
          refine XS.mono ?_
          rintro e w4 ⟨rfl, b4⟩
          have hb34 : Below w3.heap.size w3 w4 := HB3.out.2.trans (Below.mono (show Below (twoW w3).heap.size (twoW w3) w4 from b4) HB3.out.2.size)
          have HB4 : Hid (Below w.heap.size w w4 ∧ Below w3.heap.size w3 w4) := (show _ ∧ _ from ⟨HB3.out.1.trans (hb34.mono HB3.out.1.size), hb34⟩)
          have XP := print_any (sumI lTwo) sumI_byte w4
          rw [known_two] at XP
          clear XS b4 hb34 kc2
          go_wp2_with fail
          refine XP.mono ?_
          rintro e w5 ⟨rfl, b5⟩
          have HB5 : Hid (Below w.heap.size w w5 ∧ Below w3.heap.size w3 w5) := (show _ ∧ _ from ⟨HB4.out.1.trans (b5.mono HB4.out.1.size), HB4.out.2.trans (b5.mono HB4.out.2.size)⟩)
          have XQ := sum_any wr.heap.size L w5 (HH3.out.farK (HB5.out.2.block _ HH3.out.lt)) HLN.out (ht.below HB5.out.1 ht0).2
          clear XP b5
          unfold txtTwo
          go_wp2_with fail
          refine XQ.mono ?_
          rintro e w6 ⟨rfl, b6⟩
          have HB6 : Hid (Below w.heap.size w w6) := (show Below w.heap.size w w6 from HB5.out.1.trans (b6.mono HB5.out.1.size))
          have XR := print_any (sumI L) sumI_byte w6
          rw [HMH.out] at XR
          clear XQ b6
          go_wp2_with fail
          refine XR.mono ?_
          rintro e w7 ⟨rfl, b7⟩
          have HB7 : Hid (Below w.heap.size w w7) := (show Below w.heap.size w w7 from HB6.out.trans (b7.mono HB6.out.size))
          clear XR b7
          unfold txtMil
          go_wp2
          go_ret
          exact ⟨rfl, HB7.out⟩
end Go.Proofs.YtknglaiobbmoaaaDoor

/- The frame of a law's row: what was read reads behind the call as it did, where nothing old has turned. -/
namespace Go.Proofs.YtknglaiobbmoaaaDoor
open Go.RowKit Go.Deep Go.ChangeShapes Go.WideShapes Go.ChangeAt

theorem below_trodAll {H : Type} {enc : TypeId × Value → H} {P : Program} (hl : laidOutB P = true) {W W' : World} (hb : Below W.heap.size W W') :
    ∀ {ts : List TypeId} {vs : List Value} {ds : List (DataW H)} {ps : List MemPlace}, (∀ t ∈ ts, P.readableRec t = true ∧ t < P.types.size) → DataW.TrodAll enc P W 0 (fun _ => true) true ts vs ds ps → (∀ x ∈ ps, x.block < W.heap.size) →
      DataW.TrodAll enc P W' 0 (fun b => decide (b < W.heap.size)) true ts vs ds ps
  | [], [], [], _, _, h, _ => h
  | t :: ts, v :: vs, d :: ds, ps, hts, h, hlt => by
    obtain ⟨p, q, h1, h2, e⟩ := h
    subst e
    exact ⟨p, q, Below.trod hl (hts t List.mem_cons_self).1 (hts t List.mem_cons_self).2 h1 hb (fun x hx => hlt x (List.mem_append_left _ hx)), below_trodAll hl hb (fun u hu => hts u (List.mem_cons_of_mem _ hu)) h2 (fun x hx => hlt x (List.mem_append_right _ hx)), rfl⟩

/-- WHAT A LAW's ROW ASKS BEHIND THE CALL, where the answer is true and nothing old has turned. -/
theorem law_post {H : Type} {enc : TypeId × Value → H} {P : Program} {spec : ChangeSpec} {f : Func} {W W' : World} {args : Array Value} {ds gs : List (DataW H)} {before : List MemPlace} {tb : TypeId}
    (hl : laidOutB P = true) (hts : ∀ t ∈ f.params.toList, P.readableRec t = true ∧ t < P.types.size) (hvars : spec.vars = []) (hres : f.resultTypes = #[tb]) (hbool : P.underlying tb = some .bool)
    (hspec : spec.fn H (ds ++ gs) = { results := [.lit (.bool true)], args := ds })
    (hW : DataW.Whole enc P f.params.toList spec.vars false W args.toList ds gs before) (hb : Below W.heap.size W W') : spec.post enc P f false true false false W args (.bool true) W' := by
  have hW' := hW
  have hlt := hW.lt
  obtain ⟨p, q, hA, hV, rfl, hfz, hnd⟩ := hW
  rw [hvars] at hV
  obtain ⟨rfl, rfl⟩ := trodVars_none hV
  refine ⟨ds, [], p ++ [], [], p, [], hW', ?_, ?_, ?_, ?_, fun h => by cases h⟩
  · rw [hspec, hres]
    exact trodAll_cons_mk (shut_bool hbool _) trodAll_mk0
  · rw [hspec]
    exact below_trodAll hl hb hts hA (fun x hx => hlt x (List.mem_append_left _ hx))
  · rw [hspec, hvars]; exact hV
  · exact hb.frame _

/-- AN ARRAY OF BYTES, opened. -/
theorem open_bytes {H : Type} {enc : TypeId × Value → H} {P : Program} {w : World} {base b0 : Nat} {sp : Nat → Bool} {held : Bool} {r : Reach} {t e : TypeId} {n : Nat} {v : Value} {d : DataW H} {ps : List MemPlace}
    (hu : P.underlying t = some (.array n e)) (he : P.underlying e = some (.int .u8)) (hc : P.cellsOf e = 1) (hct : P.cellsOf t = n) (hval : Value.okWide P w r b0 t v) (hd : DataW.Trod enc P w base sp held t v d ps) :
    ∃ f : Nat → Int, v = .agg (rowV n fun i => .int .u8 (f i)) ∧ ∀ i, 0 ≤ f i ∧ f i ≤ 255 := by
  unfold Value.okWide at hval
  rw [hu] at hval
  obtain ⟨cs, rfl, hsz, _⟩ := hval
  obtain ⟨fuel, hf⟩ := hd
  obtain ⟨xs, m, rfl, _, hlen, _, hx⟩ := DataW.trod_array hu hf
  simp only [Value.cells] at hx hlen
  have hget : ∀ i, i < n → ∃ z : Int, cs[i]? = some (.int .u8 z) ∧ 0 ≤ z ∧ z ≤ 255 := fun i hi => by
    have h1 := hx i hi
    rw [hc, Nat.mul_one] at h1
    have hxi : i < xs.length := by omega
    rw [List.getElem?_eq_getElem hxi] at h1
    obtain ⟨z, hz, _, hw⟩ := DataW.trod_int he h1
    refine ⟨z, ?_, bounds_u8 hw⟩
    have hcs : cs.toList[i]? = some (.int .u8 z) := by
      have := congrArg (fun l => l[0]?) hz
      simpa [List.getElem?_take, List.getElem?_drop] using this
    rw [← Array.getElem?_toList]; exact hcs
  refine ⟨fun i => if h : i < n then Classical.choose (hget i h) else 0, ?_, fun i => ?_⟩
  · congr 1
    refine rowV_eq (by omega) fun i hi => ?_
    dsimp only
    rw [dif_pos hi]; exact (Classical.choose_spec (hget i hi)).1
  · dsimp only
    by_cases h : i < n
    · rw [dif_pos h]; exact (Classical.choose_spec (hget i h)).2
    · rw [dif_neg h]; omega
end Go.Proofs.YtknglaiobbmoaaaDoor

/- The frame of a law's row, where no package variable is laid. -/
namespace Go.Proofs.YtknglaiobbmoaaaDoor
open Go.RowKit Go.Deep Go.ChangeShapes Go.WideShapes Go.ChangeAt
theorem own : ownKnob Tryd.prog.godebug = none := by kernel_rfl
theorem laidOut : laidOutB Tryd.prog = true := by kernel_rfl
theorem bounds_u64 {a : Int} (h : (Lit.int .u64 a).wf = true) : 0 ≤ a ∧ a < 18446744073709551616 := by
  have h' : 0 ≤ a ∧ a ≤ 18446744073709551615 := by simpa [Lit.wf, IntKind.min, IntKind.max, IntKind.signed, IntKind.bits] using h
  omega
end Go.Proofs.YtknglaiobbmoaaaDoor

/- The table of the rounds' constants, as the row lists it; a world that holds it, for the witness. -/
namespace Go.Proofs.YtknglaiobbmoaaaDoor
set_option maxRecDepth 100000
open Go.RowKit Go.Deep Go.ChangeShapes Go.WideShapes Go.ChangeAt

/-- the table's name. -/
def tabName : String := Rows.shaKnownRow.named.getD 0 ""
theorem gTab : Tryd.prog.globalNamed tabName = some 0 := by kernel_rfl
theorem gTabType : (Tryd.prog.globals[0]?).map (·.type) = some 49 := by kernel_rfl
theorem cellsTab : Tryd.prog.cellsOf 49 = 64 := by kernel_rfl
theorem cellsWord : Tryd.prog.cellsOf 31 = 1 := by kernel_rfl
/-- what the row's list gives. -/
theorem laid_tab {W : World} (h : laidMetH Tryd.prog Rows.shaKnownRow.laid W) : tabIs W := by
  have ht : Lib.TabIs Tryd.prog W tabName .u32 kList := Lib.tabIs_of_head (rest := []) gTab gTabType Tryd.underlying49 Tryd.underlying31 cellsWord cellsTab h
  refine ⟨?_, fun i hi => ht.cell gTab i (by simpa [kList] using hi)⟩
  have h0 := ht.cell gTab 0 (by decide)
  exact block_lt_of_cell h0
/-- the table's block, laid. -/
def kObj : Obj → Obj
  | .cells _ t frozen => .cells #[.int .u32 1116352408, .int .u32 1899447441, .int .u32 3049323471, .int .u32 3921009573, .int .u32 961987163, .int .u32 1508970993, .int .u32 2453635748, .int .u32 2870763221, .int .u32 3624381080, .int .u32 310598401, .int .u32 607225278, .int .u32 1426881987, .int .u32 1925078388, .int .u32 2162078206, .int .u32 2614888103, .int .u32 3248222580, .int .u32 3835390401, .int .u32 4022224774, .int .u32 264347078, .int .u32 604807628, .int .u32 770255983, .int .u32 1249150122, .int .u32 1555081692, .int .u32 1996064986, .int .u32 2554220882, .int .u32 2821834349, .int .u32 2952996808, .int .u32 3210313671, .int .u32 3336571891, .int .u32 3584528711, .int .u32 113926993, .int .u32 338241895, .int .u32 666307205, .int .u32 773529912, .int .u32 1294757372, .int .u32 1396182291, .int .u32 1695183700, .int .u32 1986661051, .int .u32 2177026350, .int .u32 2456956037, .int .u32 2730485921, .int .u32 2820302411, .int .u32 3259730800, .int .u32 3345764771, .int .u32 3516065817, .int .u32 3600352804, .int .u32 4094571909, .int .u32 275423344, .int .u32 430227734, .int .u32 506948616, .int .u32 659060556, .int .u32 883997877, .int .u32 958139571, .int .u32 1322822218, .int .u32 1537002063, .int .u32 1747873779, .int .u32 1955562222, .int .u32 2024104815, .int .u32 2227730452, .int .u32 2361852424, .int .u32 2428436474, .int .u32 2756734187, .int .u32 3204031479, .int .u32 3329325298] t frozen
  | o => o
end Go.Proofs.YtknglaiobbmoaaaDoor
