import Derived.Lib.Tables
import Derived.WalkLawsBesides
import Derived.Lib.JoinLaws
import Derived.Deep.Light
import Derived.Deep.AppendSrc
import Derived.Test.YtgchnobifidjcaaDoorRows
import Derived.RegionTactic
import Derived.BigRegion
import Derived.Deep.QuietTactic
import Derived.BigQuiet
import Derived.Test.YtgchnobifidjcaaDoorOwn1
import Derived.Test.YtgchnobifidjcaaDoorOwn2
set_option linter.unusedVariables false
set_option linter.unusedSimpArgs false
namespace Go.Proofs.YtgchnobifidjcaaDoor
open Go.RowKit Go.Deep

theorem isBytes.at {w : World} {v : Value} {l : List Int} (h : isBytes w v l) {b : Nat} (hb : w.heap.size ≤ b) : bytesAt w b v l := by
  rcases h with h | ⟨pb, po, cap, h1, h2, h3, h4, h6, h7⟩
  · exact Or.inl h
  · exact Or.inr (Or.inl ⟨pb, po, cap, h1, h2, h3, h4, by omega, h6, h7⟩)
theorem anyBytes.at {w : World} {v : Value} {l : List Int} (h : anyBytes w v l) {b : Nat} (hb : w.heap.size ≤ b) : bytesAt w b v l := by
  rcases h with h | h
  · exact h.at hb
  · exact Or.inr (Or.inr h)
/-- the table of the rounds' constants lies in block 0. -/
def tabIs (w : World) : Prop := 1 < w.heap.size ∧ ∀ i, i < 64 → w.cell? ⟨1, i, none⟩ = some (.int .u32 (kAt i))
theorem tabIs.below {w w' : World} {B : Nat} (h : tabIs w) (hb : Below B w w') (hB : 1 < B) : tabIs w' := ⟨Nat.lt_of_lt_of_le h.1 hb.size, fun i hi => by rw [hb.cell (p := ⟨1, i, none⟩) hB]; exact h.2 i hi⟩
theorem tabIs.but {w w' : World} {B b : Nat} (h : tabIs w) (hb : But B b w w') (hB : 1 < B) (hb0 : b ≠ 1) : tabIs w' := ⟨Nat.lt_of_lt_of_le h.1 hb.size, fun i hi => by rw [hb.cell hB (Ne.symm hb0)]; exact h.2 i hi⟩

/-- Write, whatever the parts, if they lie below the hash's block, or elsewhere. -/
theorem write_parts (b : Nat) (l : List Int) (n : Nat) (v : Value) (ps : Nat → List Int) (w w0 : World) (h : hashAny w b l) (hp : isParts w0 v n ps) (hw : Below w0.heap.size w0 w) (hb : w0.heap.size ≤ b)
    (hbig : ∀ i, i ≤ n → l.length + (flatTo ps i).length < 1099511627776) (ht : tabIs w) (hb0 : b ≠ 1) :
    Calls Tryd.prog 104 #[.pointer (some ⟨b, 0, none⟩), v] w fun e w' => e = .returned (.tuple #[]) ∧ But w.heap.size b w w' ∧ hashOf w' b (l ++ flatTo ps n) := by
  rcases hp with ⟨rfl, rfl⟩ | ⟨qb, qo, cap, sv, rfl, h2, h3, h4⟩
  · refine (write_none b l w h).mono ?_
    rintro e w' ⟨rfl, h1, h2⟩
    exact ⟨rfl, h1, by rw [flatTo, List.append_nil]; exact h2⟩
  · refine write_any b l n qb qo cap sv ps w h (by omega) (Nat.lt_of_lt_of_le h2 hw.size) (fun i hi => by rw [hw.cell (p := ⟨qb, qo + i, none⟩) h2]; exact (h4 i hi).1) (fun i hi => ?_) hbig h3 ht.2 hb0
    rcases (h4 i hi).2 with (h | ⟨pb, po, cap, h1, h2, h3, h4, h6, h7⟩) | h
    · exact Or.inl h
    · exact Or.inr (Or.inl ⟨pb, po, cap, h1, h2, h3, Nat.lt_of_lt_of_le h4 hw.size, by omega, fun i hi => by rw [hw.cell (p := ⟨pb, po + i, none⟩) h4]; exact h6 i hi, h7⟩)
    · exact Or.inr (Or.inr h)

theorem hashAny_zero {w : World} {b : Nat} (h : hashIs w b (fun _ => 0) (fun _ => 0) 0) : hashAny w b [] :=
  ⟨_, _, h, fun h => by simp at h, fun _ => ⟨by omega, by omega⟩, fun i hi => by simp at hi⟩

set_option maxHeartbeats 1000000 in
set_option maxRecDepth 100000 in
/-- sha.Sum, OF ANY PARTS. -/
theorem shaSum_any (n : Nat) (v : Value) (ps : Nat → List Int) (w : World) (hp : isParts w v n ps) (hbig : ∀ i, i ≤ n → (flatTo ps i).length < 1099511627776) (ht : tabIs w) :
    Calls Tryd.prog 89 #[v] w fun e w' => e = .returned (.agg (rowV 32 fun i => .int .u8 (sumI (flatTo ps n) i))) ∧ Below w.heap.size w w' := by
  have hi32 : (Tryd.prog.info? 32).map (·.size) = some 32 := by kernel_rfl
  have r0 := rowIs_zero w (Array.replicate 32 (.int .u8 0)) 32 32 (.int .u8 0) rfl
  have hb0 : Below w.heap.size w (w.alloc (.cells (Array.replicate 32 (.int .u8 0)) 32)) := (Below.refl w.heap.size w).alloc (Nat.le_refl _) _
  have hs0 : (w.alloc (.cells (Array.replicate 32 (.int .u8 0)) 32)).heap.size = w.heap.size + 1 := by simp
  have ht0 := ht.1
  go_enter Tryd.func89, Tryd.ntmps89
  go_wp2_with fail
  refine (new_any _).mono ?_
  rintro e w1 ⟨rfl, hb1, hs1, hh1⟩
  change w1.heap.size = (w.alloc (.cells (Array.replicate 32 (.int .u8 0)) 32)).heap.size + 1 at hs1
  change Below (w.alloc (.cells (Array.replicate 32 (.int .u8 0)) 32)).heap.size (w.alloc (.cells (Array.replicate 32 (.int .u8 0)) 32)) w1 at hb1
  change hashIs w1 (w.alloc (.cells (Array.replicate 32 (.int .u8 0)) 32)).heap.size (fun _ => 0) (fun _ => 0) 0 at hh1
  rw [hs0] at hs1 hb1 hh1
  have hB1 : Below w.heap.size w w1 := hb0.trans (hb1.mono (by omega))
  have r1 : w1.rowIs w.heap.size 32 32 (fun _ => .int .u8 0) := hb1.row r0 (by omega)
  clear hb0 hb1 r0 hs0
  go_wp2_with fail
  refine (write_parts (w.heap.size + 1) [] n v ps w1 w (hashAny_zero hh1) hp hB1 (by omega) (fun i hi => by rw [List.length_nil, Nat.zero_add]; exact hbig i hi) (ht.below hB1 ht0) (by omega)).mono ?_
  rintro e w2 ⟨rfl, hb2, ho2⟩
  rw [List.nil_append] at ho2
  have hB2 : Below w.heap.size w w2 := hB1.trans ((hb2.mono (by omega)).below (by omega))
  have r2 := hb2.row r1 (by omega) (by omega)
  have hs2 := hb2.size
  clear hb2 r1 hB1 hh1
  go_wp2_with fail
  refine (sum_any (w.heap.size + 1) (flatTo ps n) w2 ho2.any (hbig n (Nat.le_refl _)) (ht.below hB2 ht0).2).mono ?_
  rintro e w3 ⟨rfl, hb3⟩
  have hB3 : Below w.heap.size w w3 := hB2.trans (hb3.mono (by omega))
  have r3 := hb3.row r2 (by omega)
  clear hb3 r2 hB2 ho2
  go_wp2_with (first | (refine wpList_store_row rfl 32 _ _ rfl rfl w.heap.size 0 32 _ rfl rfl hi32 (fun _ _ => rfl) _ _ _ r3 (by omega) ?_; intro W4 r4 hz4 hb4))
  refine bodyPost_ret (results_cell_seg rfl _ _ w.heap.size 32 32 (fun i => .int .u8 (sumI (flatTo ps n) i)) _ rfl Tryd.underlying32 rfl hi32 (r4.congr fun i hi => ?_)) rfl ⟨rfl, hB3.trans ((hb4.mono (by have := hB3.size; omega)).below (Nat.le_refl _))⟩
  rw [if_pos (by omega), Nat.sub_zero]

set_option maxHeartbeats 1000000 in
set_option maxRecDepth 100000 in
/-- Sum, of a nil hash. -/
theorem sum_nil (w : World) (ht : tabIs w) :
    Calls Tryd.prog 105 #[.pointer none] w fun e w' => e = .returned (.agg (rowV 32 fun i => .int .u8 (sumI [] i))) ∧ Below w.heap.size w w' := by
  have hi32 : (Tryd.prog.info? 32).map (·.size) = some 32 := by kernel_rfl
  have r0 := rowIs_zero w (Array.replicate 32 (.int .u8 0)) 32 32 (.int .u8 0) rfl
  have hb0 : Below w.heap.size w (w.alloc (.cells (Array.replicate 32 (.int .u8 0)) 32)) := (Below.refl w.heap.size w).alloc (Nat.le_refl _) _
  have hs0 : (w.alloc (.cells (Array.replicate 32 (.int .u8 0)) 32)).heap.size = w.heap.size + 1 := by simp
  have ht0 := ht.1
  go_enter Tryd.func105, Tryd.ntmps105
  go_wp2_with fail
  refine (new_any _).mono ?_
  rintro e w1 ⟨rfl, hb1, hs1, hh1⟩
  change w1.heap.size = (w.alloc (.cells (Array.replicate 32 (.int .u8 0)) 32)).heap.size + 1 at hs1
  change Below (w.alloc (.cells (Array.replicate 32 (.int .u8 0)) 32)).heap.size (w.alloc (.cells (Array.replicate 32 (.int .u8 0)) 32)) w1 at hb1
  change hashIs w1 (w.alloc (.cells (Array.replicate 32 (.int .u8 0)) 32)).heap.size (fun _ => 0) (fun _ => 0) 0 at hh1
  rw [hs0] at hs1 hb1 hh1
  have hB1 : Below w.heap.size w w1 := hb0.trans (hb1.mono (by omega))
  have r1 : w1.rowIs w.heap.size 32 32 (fun _ => .int .u8 0) := hb1.row r0 (by omega)
  clear hb0 hb1 r0 hs0
  go_wp2_with fail
  refine (sum_any (w.heap.size + 1) [] w1 (hashAny_zero hh1) (by decide) (ht.below hB1 ht0).2).mono ?_
  rintro e w3 ⟨rfl, hb3⟩
  have hB3 : Below w.heap.size w w3 := hB1.trans (hb3.mono (by omega))
  have r3 := hb3.row r1 (by omega)
  clear hb3 r1 hB1 hh1
  go_wp2_with (first | (refine wpList_store_row rfl 32 _ _ rfl rfl w.heap.size 0 32 _ rfl rfl hi32 (fun _ _ => rfl) _ _ _ r3 (by omega) ?_; intro W4 r4 hz4 hb4))
  refine bodyPost_ret (results_cell_seg rfl _ _ w.heap.size 32 32 (fun i => .int .u8 (sumI [] i)) _ rfl Tryd.underlying32 rfl hi32 (r4.congr fun i hi => ?_)) rfl ⟨rfl, hB3.trans ((hb4.mono (by have := hB3.size; omega)).below (Nat.le_refl _))⟩
  rw [if_pos (by omega), Nat.sub_zero]
end Go.Proofs.YtgchnobifidjcaaDoor

/- Numbers as bytes: how many, and which. Plain mathematics. -/
namespace Go.Proofs.YtgchnobifidjcaaDoor

/-- how many bytes a number has behind its first. -/
def szI (x : Int) : Nat :=
  if x < 1 then 0 else if x < 256 then 1 else if x < 65536 then 2 else if x < 16777216 then 3 else if x < 4294967296 then 4
  else if x < 1099511627776 then 5 else if x < 281474976710656 then 6 else if x < 72057594037927936 then 7 else 8
theorem szI_le (x : Int) : szI x ≤ 8 := by unfold szI; repeat' split <;> try omega
theorem len8_small : ∀ k : Fin 256, (Go.Lib.len8 (k.val : Int) = 0 ↔ k.val = 0) ∧ 0 ≤ Go.Lib.len8 (k.val : Int) ∧ Go.Lib.len8 (k.val : Int) ≤ 8 := by decide +kernel
theorem len8_is (x : Int) (h0 : 0 ≤ x) (h1 : x < 256) : (Go.Lib.len8 x = 0 ↔ x = 0) ∧ 0 ≤ Go.Lib.len8 x ∧ Go.Lib.len8 x ≤ 8 := by
  obtain ⟨m, rfl⟩ := Int.eq_ofNat_of_zero_le h0
  have := len8_small ⟨m, by omega⟩
  refine ⟨⟨fun h => ?_, fun h => ?_⟩, this.2⟩
  · have := this.1.1 h; simp at this; omega
  · exact this.1.2 (by simp; omega)
/-- the byte i of k, the highest first. -/
def digI (x : Int) (k i : Nat) : Int := x / 2 ^ (8 * (k - 1 - i)) % 256
def digsI (x : Int) (k : Nat) : List Int := (List.range k).map (digI x k)
/-- A NUMBER's BYTES. -/
def numB (x : Int) : List Int := (szI x : Int) :: digsI x (szI x)
theorem numB_length (x : Int) : (numB x).length = 1 + szI x := by simp [numB, digsI]; omega
theorem digI_byte (x : Int) (k i : Nat) : 0 ≤ digI x k i ∧ digI x k i ≤ 255 := by unfold digI; omega
theorem digsI_byte (x : Int) (k : Nat) (i : Nat) : 0 ≤ (digsI x k).getD i 0 ∧ (digsI x k).getD i 0 ≤ 255 := by
  rw [List.getD_eq_getElem?_getD, digsI, List.getElem?_map]
  by_cases h : i < k
  · rw [List.getElem?_range h]; exact digI_byte x k i
  · rw [List.getElem?_eq_none (by simp; omega)]; exact ⟨by simp, by simp⟩
theorem numB_byte (x : Int) (i : Nat) : 0 ≤ (numB x).getD i 0 ∧ (numB x).getD i 0 ≤ 255 := by
  have := szI_le x
  cases i with
  | zero => simp [numB]; omega
  | succ i => rw [numB, List.getD_cons_succ]; exact digsI_byte x _ i

/-- a number out of its bytes. -/
def horn (l : List Int) : Int := l.foldl (fun a b => a * 256 + b) 0
theorem horn_snoc (l : List Int) (b : Int) : horn (l ++ [b]) = horn l * 256 + b := by simp [horn]
theorem digsI_succ (x : Int) (k : Nat) : digsI x (k + 1) = digsI (x / 256) k ++ [x % 256] := by
  rw [digsI, List.range_succ, List.map_append]
  congr 1
  · apply List.map_congr_left
    intro i hi
    have hi' : i < k := by simpa using hi
    unfold digI
    have : 8 * (k + 1 - 1 - i) = 8 + 8 * (k - 1 - i) := by omega
    rw [this, Int.pow_add, ← Int.ediv_ediv_of_nonneg (by omega)]
    rfl
  · simp [digI]
theorem horn_digsI : ∀ (k : Nat) (x : Int), 0 ≤ x → x < 256 ^ k → horn (digsI x k) = x
  | 0, x, h0, h1 => by have : x = 0 := by simp at h1; omega
                       subst this; rfl
  | k + 1, x, h0, h1 => by
    rw [digsI_succ, horn_snoc, horn_digsI k (x / 256) (by omega) (by
      have : (256 : Int) ^ (k + 1) = 256 ^ k * 256 := Int.pow_succ _ _
      rw [this] at h1
      generalize (256 : Int) ^ k = p at *
      omega)]
    omega
theorem horn_bound : ∀ (l : List Int), (∀ b ∈ l, 0 ≤ b ∧ b ≤ 255) → 0 ≤ horn l ∧ horn l < 256 ^ l.length := by
  intro l
  have key : ∀ (l : List Int) (a : Int), 0 ≤ a → (∀ b ∈ l, 0 ≤ b ∧ b ≤ 255) → 0 ≤ l.foldl (fun a b => a * 256 + b) a ∧ l.foldl (fun a b => a * 256 + b) a < (a + 1) * 256 ^ l.length := by
    intro l
    induction l with
    | nil => intro a ha _; simp; omega
    | cons b l ih =>
      intro a ha hb
      have h1 := hb b (by simp)
      obtain ⟨i1, i2⟩ := ih (a * 256 + b) (by omega) (fun c hc => hb c (by simp [hc]))
      refine ⟨i1, Int.lt_of_lt_of_le i2 ?_⟩
      rw [List.length_cons, Int.pow_succ]
      have hp : (0 : Int) < 256 ^ l.length := Int.pow_pos (by omega)
      generalize (256 : Int) ^ l.length = p at *
      have : (a * 256 + b + 1) * p ≤ ((a + 1) * 256) * p := Int.mul_le_mul_of_nonneg_right (by omega) (by omega)
      rw [Int.mul_comm p 256, ← Int.mul_assoc]; exact this
  intro h
  have := key l 0 (by omega) h
  simpa [horn] using this
/-- k bytes are the digits of what they make. -/
theorem digsI_horn : ∀ (k : Nat) (l : List Int), l.length = k → (∀ b ∈ l, 0 ≤ b ∧ b ≤ 255) → digsI (horn l) k = l
  | 0, l, hl, _ => by obtain rfl := List.length_eq_zero_iff.1 hl; rfl
  | k + 1, l, hl, hb => by
    obtain ⟨m, b, rfl⟩ : ∃ m b, l = m ++ [b] := ⟨l.dropLast, l.getLast (by intro e; rw [e] at hl; simp at hl), (List.dropLast_concat_getLast _).symm⟩
    have h1 := hb b (by simp)
    have h2 := horn_bound m (fun c hc => hb c (by simp [hc]))
    rw [digsI_succ, horn_snoc]
    have e1 : (horn m * 256 + b) / 256 = horn m := by omega
    have e2 : (horn m * 256 + b) % 256 = b := by omega
    rw [e1, e2, digsI_horn k m (by simp at hl; omega) (fun c hc => hb c (by simp [hc]))]
end Go.Proofs.YtgchnobifidjcaaDoor

namespace Go.Proofs.YtgchnobifidjcaaDoor
open Go.RowKit Go.Deep

theorem ret_int {k : IntKind} {a b : Int} (h : a = b) : Ending.returned (.int k a) = .returned (.int k b) := by rw [h]
/-- what bits.Len64 answers. -/
def lenI (x : Int) : Int :=
  if 4294967296 ≤ x then
    (if 65536 ≤ x / 4294967296 then (if 256 ≤ x / 4294967296 / 65536 then 56 + Go.Lib.len8 (x / 4294967296 / 65536 / 256) else 48 + Go.Lib.len8 (x / 4294967296 / 65536))
     else (if 256 ≤ x / 4294967296 then 40 + Go.Lib.len8 (x / 4294967296 / 256) else 32 + Go.Lib.len8 (x / 4294967296)))
  else
    (if 65536 ≤ x then (if 256 ≤ x / 65536 then 24 + Go.Lib.len8 (x / 65536 / 256) else 16 + Go.Lib.len8 (x / 65536))
     else (if 256 ≤ x then 8 + Go.Lib.len8 (x / 256) else 0 + Go.Lib.len8 x))
theorem lenI_sz (x : Int) (h0 : 0 ≤ x) (h1 : x < 18446744073709551616) : 0 ≤ lenI x ∧ lenI x ≤ 64 ∧ (lenI x + 7) / 8 = (szI x : Int) := by
  unfold lenI
  split
  · split
    · split
      · have := len8_is (x / 4294967296 / 65536 / 256) (by omega) (by omega)
        have e : szI x = 8 := by unfold szI; repeat' rw [if_neg (by omega)]
        rw [e]; omega
      · have := len8_is (x / 4294967296 / 65536) (by omega) (by omega)
        have e : szI x = 7 := by unfold szI; repeat' (first | rw [if_neg (by omega)] | rw [if_pos (by omega)])
        rw [e]; omega
    · split
      · have := len8_is (x / 4294967296 / 256) (by omega) (by omega)
        have e : szI x = 6 := by unfold szI; repeat' (first | rw [if_neg (by omega)] | rw [if_pos (by omega)])
        rw [e]; omega
      · have := len8_is (x / 4294967296) (by omega) (by omega)
        have e : szI x = 5 := by unfold szI; repeat' (first | rw [if_neg (by omega)] | rw [if_pos (by omega)])
        rw [e]; omega
  · split
    · split
      · have := len8_is (x / 65536 / 256) (by omega) (by omega)
        have e : szI x = 4 := by unfold szI; repeat' (first | rw [if_neg (by omega)] | rw [if_pos (by omega)])
        rw [e]; omega
      · have := len8_is (x / 65536) (by omega) (by omega)
        have e : szI x = 3 := by unfold szI; repeat' (first | rw [if_neg (by omega)] | rw [if_pos (by omega)])
        rw [e]; omega
    · split
      · have := len8_is (x / 256) (by omega) (by omega)
        have e : szI x = 2 := by unfold szI; repeat' (first | rw [if_neg (by omega)] | rw [if_pos (by omega)])
        rw [e]; omega
      · have := len8_is x (by omega) (by omega)
        by_cases hz : x = 0
        · subst hz; have e : szI 0 = 0 := rfl
          rw [e]; omega
        · have e : szI x = 1 := by unfold szI; repeat' (first | rw [if_neg (by omega)] | rw [if_pos (by omega)])
          rw [e]; omega

set_option maxHeartbeats 1000000 in
theorem len64_any (x : Int) (h0 : 0 ≤ x) (h1 : x < 18446744073709551616) (w : World) :
    Calls Tryd.prog 96 #[.int .u64 x] w fun e w' => e = .returned (.int .i64 (lenI x)) ∧ w' = w := by
  by_cases a : 4294967296 ≤ x
  · by_cases b : 65536 ≤ x / 4294967296
    · by_cases c : 256 ≤ x / 4294967296 / 65536
      · have q0 : 0 ≤ x / 4294967296 / 65536 / 256 := by omega
        have q1 : x / 4294967296 / 65536 / 256 ≤ 255 := by omega
        have := len8_is _ q0 (by omega)
        have E0 : lenI x = 56 + Go.Lib.len8 (x / 4294967296 / 65536 / 256) := by unfold lenI; rw [if_pos a]; rw [if_pos b]; rw [if_pos c]
        have E : Hid _ := E0
        clear E0
        go_enter Tryd.func96, Tryd.ntmps96
        go_wp2
        go_ret
        exact ⟨ret_int (by first | (rw [E.out]; done) | (rw [E.out, Int.zero_add]; done)), rfl⟩
      · have q0 : 0 ≤ x / 4294967296 / 65536 := by omega
        have q1 : x / 4294967296 / 65536 ≤ 255 := by omega
        have := len8_is _ q0 (by omega)
        have E0 : lenI x = 48 + Go.Lib.len8 (x / 4294967296 / 65536) := by unfold lenI; rw [if_pos a]; rw [if_pos b]; rw [if_neg c]
        have E : Hid _ := E0
        clear E0
        go_enter Tryd.func96, Tryd.ntmps96
        go_wp2
        go_ret
        exact ⟨ret_int (by first | (rw [E.out]; done) | (rw [E.out, Int.zero_add]; done)), rfl⟩
    · by_cases c : 256 ≤ x / 4294967296
      · have q0 : 0 ≤ x / 4294967296 / 256 := by omega
        have q1 : x / 4294967296 / 256 ≤ 255 := by omega
        have := len8_is _ q0 (by omega)
        have E0 : lenI x = 40 + Go.Lib.len8 (x / 4294967296 / 256) := by unfold lenI; rw [if_pos a]; rw [if_neg b]; rw [if_pos c]
        have E : Hid _ := E0
        clear E0
        go_enter Tryd.func96, Tryd.ntmps96
        go_wp2
        go_ret
        exact ⟨ret_int (by first | (rw [E.out]; done) | (rw [E.out, Int.zero_add]; done)), rfl⟩
      · have q0 : 0 ≤ x / 4294967296 := by omega
        have q1 : x / 4294967296 ≤ 255 := by omega
        have := len8_is _ q0 (by omega)
        have E0 : lenI x = 32 + Go.Lib.len8 (x / 4294967296) := by unfold lenI; rw [if_pos a]; rw [if_neg b]; rw [if_neg c]
        have E : Hid _ := E0
        clear E0
        go_enter Tryd.func96, Tryd.ntmps96
        go_wp2
        go_ret
        exact ⟨ret_int (by first | (rw [E.out]; done) | (rw [E.out, Int.zero_add]; done)), rfl⟩
  · by_cases b : 65536 ≤ x
    · by_cases c : 256 ≤ x / 65536
      · have q0 : 0 ≤ x / 65536 / 256 := by omega
        have q1 : x / 65536 / 256 ≤ 255 := by omega
        have := len8_is _ q0 (by omega)
        have E0 : lenI x = 24 + Go.Lib.len8 (x / 65536 / 256) := by unfold lenI; rw [if_neg a]; rw [if_pos b]; rw [if_pos c]
        have E : Hid _ := E0
        clear E0
        go_enter Tryd.func96, Tryd.ntmps96
        go_wp2
        go_ret
        exact ⟨ret_int (by first | (rw [E.out]; done) | (rw [E.out, Int.zero_add]; done)), rfl⟩
      · have q0 : 0 ≤ x / 65536 := by omega
        have q1 : x / 65536 ≤ 255 := by omega
        have := len8_is _ q0 (by omega)
        have E0 : lenI x = 16 + Go.Lib.len8 (x / 65536) := by unfold lenI; rw [if_neg a]; rw [if_pos b]; rw [if_neg c]
        have E : Hid _ := E0
        clear E0
        go_enter Tryd.func96, Tryd.ntmps96
        go_wp2
        go_ret
        exact ⟨ret_int (by first | (rw [E.out]; done) | (rw [E.out, Int.zero_add]; done)), rfl⟩
    · by_cases c : 256 ≤ x
      · have q0 : 0 ≤ x / 256 := by omega
        have q1 : x / 256 ≤ 255 := by omega
        have := len8_is _ q0 (by omega)
        have E0 : lenI x = 8 + Go.Lib.len8 (x / 256) := by unfold lenI; rw [if_neg a]; rw [if_neg b]; rw [if_pos c]
        have E : Hid _ := E0
        clear E0
        go_enter Tryd.func96, Tryd.ntmps96
        go_wp2
        go_ret
        exact ⟨ret_int (by first | (rw [E.out]; done) | (rw [E.out, Int.zero_add]; done)), rfl⟩
      · have q0 : 0 ≤ x := by omega
        have q1 : x ≤ 255 := by omega
        have := len8_is _ q0 (by omega)
        have E0 : lenI x = 0 + Go.Lib.len8 (x) := by unfold lenI; rw [if_neg a]; rw [if_neg b]; rw [if_neg c]
        have E : Hid _ := E0
        clear E0
        go_enter Tryd.func96, Tryd.ntmps96
        go_wp2
        go_ret
        exact ⟨ret_int (by first | (rw [E.out]; done) | (rw [E.out, Int.zero_add]; done)), rfl⟩

theorem numberSize_any (x : Int) (h0 : 0 ≤ x) (h1 : x < 18446744073709551616) (w : World) :
    Calls Tryd.prog 78 #[.int .u64 x] w fun e w' => e = .returned (.int .i64 (1 + (szI x : Int))) ∧ w' = w := by
  obtain ⟨l0, l1, l2⟩ := lenI_sz x h0 h1
  have HL : Hid _ := l2
  clear l2
  go_enter Tryd.func78, Tryd.ntmps78
  go_wp2_with (go_at_call 96; refine (len64_any x h0 h1 _).mono ?_; rintro e w' ⟨rfl, rfl⟩)
  go_ret
  exact ⟨ret_int (by rw [HL.out]), rfl⟩
theorem partSize_any (n : Nat) (h1 : n ≤ 1099511627776) (w : World) :
    Calls Tryd.prog 97 #[.int .i64 n] w fun e w' => e = .returned (.int .i64 (1 + (szI n : Int) + n)) ∧ w' = w := by
  have h0 : (0 : Int) ≤ n := by omega
  have h2 : (n : Int) ≤ 1099511627776 := by omega
  have hs := szI_le n
  go_enter Tryd.func97, Tryd.ntmps97
  go_wp2_with (go_at_call 78; refine (numberSize_any n (by omega) (by omega) _).mono ?_; rintro e w' ⟨rfl, rfl⟩)
  go_ret
  exact ⟨rfl, rfl⟩
end Go.Proofs.YtgchnobifidjcaaDoor

namespace Go.Proofs.YtgchnobifidjcaaDoor
set_option maxRecDepth 100000
open Go.RowKit Go.Deep

section
variable {P : Program}
theorem wp_make_run {o : Oper} {a : Act} {w w' : World} {K : Act → World → Prop} {Q : Exit → Act → World → Prop} {l c r : Value} (t : TypeId) (x y : Operand)
    (ho : o.op = .makeSlice t x y) (hx : a.eval x = l) (hy : a.eval y = c) (hr : (Instr.makeSlice t l c).run P w = .ok r w') (h : K (a.put o.dst r) w') : o.wp P a w K Q := by
  unfold Oper.wp execOp
  simp only [ho, hx, hy, Sem.run_bind, hr, Result.andThen_ok, Sem.run_pure]
  exact h
theorem wpList_make_run {ops : Array Oper} {rest : List Oper} {o : Oper} {a : Act} {w w' : World} {Q : Exit → Act → World → Prop} {l c r : Value} (hgd : o.guard = none) (t : TypeId) (x y : Operand)
    (ho : o.op = .makeSlice t x y) (hx : a.eval x = l) (hy : a.eval y = c) (hr : (Instr.makeSlice t l c).run P w = .ok r w') (h : wpList P ops Q rest (a.put o.dst r) w') : wpList P ops Q (o :: rest) a w :=
  wpList_plain hgd fun _ hK => wp_make_run t x y ho hx hy hr (hK _ _ h)
end

set_option maxHeartbeats 1000000 in
theorem withRoom_any (l : List Int) (v : Value) (r : Nat) (w : World) (hv : isBytes w v l) (hs : l.length + r ≤ 1099511627776) :
    Calls Tryd.prog 79 #[v, .int .i64 r] w fun e w' => ∃ v', e = .returned v' ∧ newBytes w' w.heap.size v' l ∧ Below w.heap.size w w' := by
  have hmk := run_make_room (P := Tryd.prog) 23 5 (.int .u8 0) 1 Tryd.underlying23 hi8 rfl .i64 .i64 (l.length + r) (by omega) (by omega) w
  have hb1 : Below w.heap.size w (w.alloc (.cells (madeCells #[Value.int .u8 0] (l.length + r)) 5)) := (Below.refl _ _).alloc (Nat.le_refl _) _
  have hO : newBytes (w.alloc (.cells (madeCells #[Value.int .u8 0] (l.length + r)) 5)) w.heap.size (.slice (some ⟨w.heap.size, 0, none⟩) 0 (l.length + r)) [] :=
    ⟨⟨rfl, Or.inr ⟨w.heap.size, l.length + r, _, rfl, Nat.le_refl _, blk_alloc_new _ _, Nat.zero_le _, by unfold maxLen; omega, by rw [size_madeCells]; simp, by simp⟩⟩, fun i => by simp⟩
  obtain ⟨v', w', hr, hn, hg, _⟩ := bytes_append_run _ w.heap.size _ v [] l hO (hv.below hb1 (Nat.le_refl _)) (by simp; omega) (by simp)
  have hbl : Below w.heap.size w w' := hb1.trans (below_grown hg (fun k hk => (hO.block k hk).1) (by simp))
  have HN : Hid _ := hn
  have HB : Hid _ := hbl
  obtain ⟨a, c, rfl, hm⟩ := hv.slice
  have h1 : (l.length : Int) ≤ 1099511627776 := by omega
  have h2 : (r : Int) ≤ 1099511627776 := by omega
  rw [Int.natCast_add] at hmk
  clear hn hbl hO hg hb1 hv
  go_enter Tryd.func79, Tryd.ntmps79
  go_wp2_with (first | (refine wpList_make_run rfl _ _ _ rfl rfl rfl hmk ?_) | (at_builtin; refine wpList_append_run rfl _ _ _ rfl rfl rfl hr ?_))
  go_ret
  exact ⟨_, rfl, HN.out, HB.out⟩

/-- one element in a slice that the call builds. -/
theorem one_cell (w : World) (u : Value) (t : TypeId) : (w.alloc (.cells #[u] t)).cell? ⟨w.heap.size, 0, none⟩ = some u := by
  have := (rowIs_new w #[u] t 1 (fun _ => u) rfl (fun i hi => by obtain rfl : i = 0 := by omega
                                                                 rfl)).cell (i := 0) (by omega)
  exact this
theorem one_byte (w : World) (b : Int) (h0 : 0 ≤ b) (h1 : b ≤ 255) : isBytes (w.alloc (.cells #[.int .u8 b] 5)) (.slice (some ⟨w.heap.size, 0, none⟩) 1 1) [b] :=
  Or.inr ⟨w.heap.size, 0, 1, rfl, by simp, by unfold maxLen; omega, by simp, fun i hi => by
    have hi' : i < 1 := by simpa using hi
    obtain rfl : i = 0 := by omega
    exact one_cell w _ _, fun i => by cases i <;> simp <;> omega⟩
/-- append(v, b). -/
theorem byte_append_run (w : World) (B : Nat) (v : Value) (l : List Int) (b : Int) (h0 : 0 ≤ b) (h1 : b ≤ 255) (hv : newBytes w B v l) (hs : l.length < 1099511627776) (hB : B ≤ w.heap.size) :
    ∃ v' w', (Builtin.append_ #[23, 23] 23 #[v, .slice (some ⟨w.heap.size, 0, none⟩) 1 1]).run Tryd.prog (w.alloc (.cells #[.int .u8 b] 5)) = .ok v' w' ∧ newBytes w' B v' (l ++ [b]) ∧ Below B w w' := by
  have hb1 : Below w.heap.size w (w.alloc (.cells #[Value.int .u8 b] 5)) := (Below.refl _ _).alloc (Nat.le_refl _) _
  have hv1 := hv.below hb1 (Nat.le_refl _)
  obtain ⟨v', w', hr, hn, hg, _⟩ := bytes_append_run _ B v _ l [b] hv1 (one_byte w b h0 h1) (by simp; omega) (by simp; omega)
  exact ⟨v', w', hr, hn, (hb1.mono hB).trans (below_grown hg (fun k hk => (hv1.block k hk).1) (by simp; omega))⟩

theorem digs_take_succ (x : Int) (K k : Nat) (h : k < K) : (digsI x K).take (k + 1) = (digsI x K).take k ++ [digI x K k] := by
  unfold digsI
  rw [List.take_succ_eq_append_getElem (by simp; omega)]
  simp
theorem num_take (x : Int) : numB x = [(szI x : Int)] ++ (digsI x (szI x)).take (szI x) := by
  rw [List.take_of_length_le (by simp [digsI])]; rfl
set_option maxHeartbeats 1000000 in
theorem addNumber_any (x : Int) (h0 : 0 ≤ x) (h1 : x < 18446744073709551616) (v : Value) (l : List Int) (B : Nat) (w : World) (hv : newBytes w B v l) (hs : l.length + 9 ≤ 1099511627776) (hB : B ≤ w.heap.size) :
    Calls Tryd.prog 80 #[v, .int .u64 x] w fun e w' => ∃ v', e = .returned v' ∧ newBytes w' B v' (l ++ numB x) ∧ Below B w w' := by
  have hz := szI_le x
  have hz2 : (szI x : Int) ≤ 8 := by omega
  obtain ⟨v1, w1, hr1, hn1, hb1⟩ := byte_append_run w B v l (szI x) (by omega) (by omega) hv (by omega) hB
  have hk1 : (1 : Int) + (szI x : Int) - 1 = (szI x : Int) := by omega
  have HX : Hid (numB x = _) := num_take x
  have HN : Hid _ := hn1
  have HB : Hid _ := hb1
  clear hn1 hb1
  go_enter Tryd.func80, Tryd.ntmps80
  go_wp2_with (first | (go_at_call 78; refine (numberSize_any x h0 h1 _).mono ?_; rintro e w' ⟨rfl, hw⟩; obtain rfl := hw.symm; clear hw) | (at_builtin; refine wpList_append_run rfl _ _ _ rfl rfl rfl hr1 ?_))
  go_loopw [0, 16] (fun v i wr => ∃ k : Nat, k ≤ szI x ∧ i = .int .i64 k ∧ newBytes wr B v (l ++ ([(szI x : Int)] ++ (digsI x (szI x)).take k)) ∧ Below B w wr) (fun _ i _ => szI x - (intOf i).toNat)
  case atStart => exact ⟨0, by omega, rfl, HN.out, HB.out⟩
  case round =>
    clear HN HB hr1 hv
    obtain ⟨k, hk, rfl, hn, hb⟩ := hrel
    by_cases hlt : k < szI x
    · have b0 : (0 : Int) ≤ (k : Int) := by omega
      have b1 : (k : Int) < (szI x : Int) := by omega
      have hd := digI_byte x (szI x) k
      obtain ⟨v2, w2, hr2, hn2, hb2⟩ := byte_append_run wr B u0 _ (digI x (szI x) k) hd.1 hd.2 hn (by simp; omega) (by have := hb.size; omega)
      have HN : Hid _ := hn2
      have HB : Hid _ := hb.trans hb2
      have HS : Hid _ := digs_take_succ x (szI x) k hlt
      clear hn2 hb2 hn hb hd
      go_wp2_with (first | (at_builtin; refine wpList_append_run rfl _ _ _ rfl rfl rfl hr2 ?_))
      go_light
      exact ⟨⟨k + 1, by omega, by go_num, by rw [HS.out, ← List.append_assoc, ← List.append_assoc, List.append_assoc l]; exact HN.out, HB.out⟩, by simp [intOf]; omega⟩
    · obtain rfl : k = szI x := by omega
      have HR : Hid _ := hn
      go_wp2
      go_ret
      exact ⟨_, rfl, by rw [HX.out]; exact HR.out, hb⟩
end Go.Proofs.YtgchnobifidjcaaDoor

namespace Go.Proofs.YtgchnobifidjcaaDoor
open Go.RowKit Go.Deep

/-- THE VALUE v IS A SLICE OF n ELEMENTS OF ONE CELL EACH. -/
def isRow (w : World) (v : Value) (n : Nat) (f : Nat → Value) : Prop :=
  (v = .slice none 0 0 ∧ n = 0) ∨ ∃ pb po cap : Nat, v = .slice (some ⟨pb, po, none⟩) n cap ∧ pb < w.heap.size ∧ n ≤ maxLen ∧ ∀ i, i < n → w.cell? ⟨pb, po + i, none⟩ = some (f i)
theorem isRow.below {w w' : World} {B : Nat} {v : Value} {n : Nat} {f : Nat → Value} (h : isRow w v n f) (hb : Below B w w') (hB : w.heap.size ≤ B) : isRow w' v n f := by
  rcases h with h | ⟨pb, po, cap, h1, h2, h3, h4⟩
  · exact Or.inl h
  · exact Or.inr ⟨pb, po, cap, h1, Nat.lt_of_lt_of_le h2 hb.size, h3, fun i hi => by rw [hb.cell (p := ⟨pb, po + i, none⟩) (Nat.lt_of_lt_of_le h2 hB)]; exact h4 i hi⟩
theorem isRow.open {w : World} {v : Value} {n : Nat} {f : Nat → Value} (h : isRow w v n f) :
    ∃ a cap, v = .slice a n cap ∧ n ≤ maxLen ∧ ∀ k, k < n → ∃ qb qo, a = some ⟨qb, qo, none⟩ ∧ qb < w.heap.size ∧ w.cell? ⟨qb, qo + k, none⟩ = some (f k) := by
  rcases h with ⟨rfl, rfl⟩ | ⟨pb, po, cap, rfl, h2, h3, h4⟩
  · exact ⟨_, _, rfl, Nat.zero_le _, fun k hk => by omega⟩
  · exact ⟨_, _, rfl, h3, fun k hk => ⟨pb, po, rfl, h2, h4 k hk⟩⟩
theorem isParts.open {w : World} {v : Value} {n : Nat} {ps : Nat → List Int} (h : isParts w v n ps) :
    ∃ a cap, v = .slice a n cap ∧ n ≤ maxLen ∧ ∀ k, k < n → ∃ qb qo u, a = some ⟨qb, qo, none⟩ ∧ qb < w.heap.size ∧ w.cell? ⟨qb, qo + k, none⟩ = some u ∧ anyBytes w u (ps k) := by
  rcases h with ⟨rfl, rfl⟩ | ⟨pb, po, cap, sv, rfl, h2, h3, h4⟩
  · exact ⟨_, _, rfl, Nat.zero_le _, fun k hk => by omega⟩
  · exact ⟨_, _, rfl, h3, fun k hk => ⟨pb, po, sv k, rfl, h2, (h4 k hk).1, (h4 k hk).2⟩⟩
/-- .. OR NONE, wherever it says that they lie. -/
def anyParts (w : World) (v : Value) (n : Nat) (ps : Nat → List Int) : Prop := isParts w v n ps ∨ ((∃ a, v = .slice a 0 0) ∧ n = 0)
theorem isParts.any {w : World} {v : Value} {n : Nat} {ps : Nat → List Int} (h : isParts w v n ps) : anyParts w v n ps := Or.inl h
theorem anyParts.below {w w' : World} {B : Nat} {v : Value} {n : Nat} {ps : Nat → List Int} (h : anyParts w v n ps) (hb : Below B w w') (hB : w.heap.size ≤ B) : anyParts w' v n ps := by
  rcases h with h | h
  · exact Or.inl (h.below hb hB)
  · exact Or.inr h
theorem anyParts.open {w : World} {v : Value} {n : Nat} {ps : Nat → List Int} (h : anyParts w v n ps) :
    ∃ a cap, v = .slice a n cap ∧ n ≤ maxLen ∧ ∀ k, k < n → ∃ qb qo u, a = some ⟨qb, qo, none⟩ ∧ qb < w.heap.size ∧ w.cell? ⟨qb, qo + k, none⟩ = some u ∧ anyBytes w u (ps k) := by
  rcases h with h | ⟨⟨a, rfl⟩, rfl⟩
  · exact h.open
  · exact ⟨_, _, rfl, Nat.zero_le _, fun k hk => by omega⟩
theorem isRow_one (w : World) (u : Value) (t : TypeId) : isRow (w.alloc (.cells #[u] t)) (.slice (some ⟨w.heap.size, 0, none⟩) 1 1) 1 (fun _ => u) :=
  Or.inr ⟨w.heap.size, 0, 1, rfl, by simp, by unfold maxLen; omega, fun i hi => by
    obtain rfl : i = 0 := by omega
    exact one_cell w _ _⟩
theorem flatTo_len_le (ps : Nat → List Int) (m : Nat) (h : ∀ i, (ps i).length ≤ m) : ∀ k, (flatTo ps k).length ≤ m * k
  | 0 => by simp [flatTo]
  | k + 1 => by
    have := flatTo_len_le ps m h k
    have h2 := h k
    rw [flatTo, List.length_append, Nat.mul_succ]; omega

/-- the numbers' bytes. -/
def numsB (f : Nat → Int) (i : Nat) : List Int := numB (f i)
theorem numsB_le (f : Nat → Int) (i : Nat) : (numsB f i).length ≤ 9 := by rw [numsB, numB_length]; have := szI_le (f i); omega
end Go.Proofs.YtgchnobifidjcaaDoor

/- append of a string to bytes of the call's own. -/
namespace Go.Proofs.YtgchnobifidjcaaDoor
open Go.RowKit Go.Deep

/-- a string's bytes. -/
def sBytes (s : ByteArray) : List Int := s.data.toList.map fun c => (c.toNat : Int)
theorem sBytes_length (s : ByteArray) : (sBytes s).length = s.size := by
  unfold sBytes; rw [List.length_map, Array.length_toList]; rfl
theorem sBytes_cells (s : ByteArray) : byteCells s = (sBytes s).map (Value.int .u8) := by
  unfold byteCells sBytes; rw [List.map_map]; rfl
theorem sBytes_byte (s : ByteArray) (i : Nat) : 0 ≤ (sBytes s).getD i 0 ∧ (sBytes s).getD i 0 ≤ 255 := by
  rw [List.getD_eq_getElem?_getD, sBytes, List.getElem?_map]
  cases h : s.data.toList[i]? with
  | none => exact ⟨by simp, by simp⟩
  | some c => have := c.toNat_lt; simp; omega
theorem strOf_sBytes (s : ByteArray) : strOf (sBytes s) = s := by
  unfold strOf sBytes
  rw [List.map_map]
  have : ((fun n : Int => UInt8.ofNat n.toNat) ∘ fun c : UInt8 => (c.toNat : Int)) = id := by funext c; simp
  rw [this]; simp
theorem sBytes_strOf (l : List Int) (h : ∀ i, 0 ≤ l.getD i 0 ∧ l.getD i 0 ≤ 255) : sBytes (strOf l) = l := by
  unfold strOf sBytes
  simp only [List.map_map]
  apply List.ext_getElem?
  intro i
  rw [List.getElem?_map]
  cases hi : l[i]? with
  | none => rfl
  | some x =>
    have := h i
    rw [List.getD_eq_getElem?_getD, hi] at this
    simp at this
    simp
    omega

theorem text_append_run (w : World) (B : Nat) (v : Value) (s : ByteArray) (l : List Int) (hv : newBytes w B v l) (h0 : 0 < l.length) (hs : l.length + s.size ≤ 1099511627776) (hB : B ≤ w.heap.size) :
    ∃ v' w', (Builtin.append_ #[23, 9] 23 #[v, .string s]).run Tryd.prog w = .ok v' w' ∧ newBytes w' B v' (l ++ sBytes s) ∧ Below B w w' := by
  have hbyte := getD_append_byte hv.2 (sBytes_byte s)
  obtain ⟨⟨_, hn | ⟨g, cap, cur, rfl, hg0, hg, hc, hm, hsz, ht⟩⟩, hvb⟩ := hv
  · rw [List.length_map] at hn; omega
  · rw [List.length_map, Nat.mul_one] at ht
    rw [Nat.mul_one] at hsz
    rw [List.length_map] at hc ⊢
    cases hq : Tryd.prog.info? 5 with
    | none => have := hi8; simp [hq] at this
    | some i =>
      have h8 := hi8
      simp only [hq, Option.map_some, Option.some.injEq, Prod.mk.injEq] at h8
      obtain ⟨hz, hsize, hby⟩ := h8
      have hsrc : Src Tryd.prog i.size 9 (.string s) s.size (byteCells s) w := by rw [hsize]; exact Src.ofString w Tryd.underlying9 s
      have hrow : w.rowIs g 5 cap (fun j => cur.getD j undef) := ⟨cur, hg, hsz, fun j hj => by rw [Array.getElem?_eq_getElem (by omega)]; simp [Array.getD, hsz, hj]⟩
      by_cases hroom : l.length + s.size ≤ cap
      · have hr := run_append_room_src (P := Tryd.prog) w 23 9 23 5 i Tryd.underlying23 hq g 0 l.length cap (.string s) s.size (byteCells s) hsrc hroom
          (fun j hj => by rw [byteCells_length] at hj; rw [hrow.cell (by rw [hsize]; omega)]; rfl) (fun j hj => hrow.frozen _)
        have hrow' := rowIs_setCells (byteCells s) (0 + l.length * i.size) hrow
        have hblk := rowIs_block hrow'
        refine ⟨_, _, hr, ⟨⟨by simp, Or.inr ⟨g, cap, _, ?_, hg0, hblk, ?_, hm, ?_, ?_⟩⟩, hbyte⟩, ?_⟩
        · rw [List.length_map, List.length_append, sBytes_length]
        · rw [List.length_map, List.length_append, sBytes_length]; exact hroom
        · rw [rowV_size, Nat.mul_one]
        · rw [List.length_map, List.length_append, sBytes_length, Nat.mul_one, hsize, Nat.mul_one, Nat.zero_add]
          apply List.ext_getElem?
          intro j
          rw [List.getElem?_take, Array.getElem?_toList, List.map_append, List.getElem?_append, List.length_map]
          by_cases hj : j < l.length
          · rw [if_pos (by omega), rowV_get _ _ _ (by omega), if_neg (by omega), if_pos hj, ← ht, List.getElem?_take, if_pos hj, Array.getElem?_toList, Array.getElem?_eq_getElem (by omega)]
            simp [Array.getD, hsz, show j < cap by omega]
          · rw [if_neg hj]
            by_cases hj2 : j < l.length + s.size
            · rw [if_pos hj2, rowV_get _ _ _ (by omega), if_pos (by rw [byteCells_length]; omega), sBytes_cells, List.getD_eq_getElem?_getD, getElem?_u8 (by rw [sBytes_length]; omega)]; rfl
            · rw [if_neg hj2, List.getElem?_eq_none (by rw [List.length_map, sBytes_length]; omega)]
        · exact below_setCells g hg0 _ _ (Below.refl _ _)
      · have hold : (Builtin.firstCells i.size l.length (.slice (some ⟨g, 0, none⟩) l.length cap)).run Tryd.prog w.drew = .ok (l.map (Value.int .u8)).toArray w.drew := by
          refine run_firstCells_some w.drew i.size l.length ⟨g, 0, none⟩ l.length cap _ (by rw [List.length_map, hsize, Nat.mul_one]) (fun j u hu => ?_)
          rw [Addr.add_mid, Nat.zero_add]
          have hj : j < l.length := by
            by_cases hj : j < l.length
            · exact hj
            · rw [List.getElem?_eq_none (by simp; omega)] at hu; cases hu
          rw [← ht, List.getElem?_take, if_pos hj, Array.getElem?_toList] at hu
          show w.cell? _ = _
          rw [cell_of_row _ _ _ _ _ _ hg]; exact hu
        have hr := run_append_grow_src (P := Tryd.prog) w 23 9 23 5 i (.int .u8 0) Tryd.underlying23 hq hz (some ⟨g, 0, none⟩) l.length cap (l.map (Value.int .u8)) hold (.string s) s.size (byteCells s) hsrc (by omega) (by omega)
          (growslice_fits (by omega) (by rw [hby]; omega))
        have hge := grownCap_ge w (l.length + s.size) cap 5
        have hcm : grownCap w (l.length + s.size) cap 5 ≤ maxLen := grownCap_le_maxLen w (l.length + s.size) cap 5 (by unfold maxLen; omega)
        refine ⟨_, _, hr, ⟨⟨by simp, Or.inr ⟨w.heap.size, _, _, ?_, hB, heap_alloc_new w.drew _, ?_, hcm, ?_, ?_⟩⟩, hbyte⟩, ?_⟩
        · rw [List.length_map, List.length_append, sBytes_length]
        · rw [List.length_map, List.length_append, sBytes_length]; exact hge
        · simp only [Array.size_append, List.size_toArray, size_zeroCells, List.length_append, List.length_map, byteCells_length]
          show _ + _ * (1 : Nat) = _
          omega
        · rw [List.length_map, List.length_append, sBytes_length, Nat.mul_one, List.map_append, sBytes_cells]
          simp only [Array.toList_append]
          exact List.take_left' (by simp [sBytes_length])
        · exact (Below.refl B w).drew.alloc (by simpa using hB) _
section
variable {P : Program}
theorem wp_append2_run {o : Oper} {a : Act} {w w' : World} {K : Act → World → Prop} {Q : Exit → Act → World → Prop} {v y r : Value} (s x : Operand) (t t' : TypeId)
    (ho : o.op = .call { callee := .builtin .append, args := #[s, x], argTypes := #[t, t'] }) (hs : a.eval s = v) (hx : a.eval x = y)
    (hr : (Builtin.append_ #[t, t'] o.type #[v, y]).run P w = .ok r w') (h : K (a.put o.dst r) w') : o.wp P a w K Q := by
  unfold Oper.wp execOp
  simp only [ho, resolve, invoke, builtin, Sem.run_bind, Sem.run_pure, Result.andThen_ok, List.map_toArray, List.map_cons, List.map_nil, hs, hx, hr]
  exact h
theorem wpList_append2_run {ops : Array Oper} {rest : List Oper} {o : Oper} {a : Act} {w w' : World} {Q : Exit → Act → World → Prop} {v y r : Value} (hgd : o.guard = none) (s x : Operand) (t t' : TypeId)
    (ho : o.op = .call { callee := .builtin .append, args := #[s, x], argTypes := #[t, t'] }) (hs : a.eval s = v) (hx : a.eval x = y)
    (hr : (Builtin.append_ #[t, t'] o.type #[v, y]).run P w = .ok r w') (h : wpList P ops Q rest (a.put o.dst r) w') : wpList P ops Q (o :: rest) a w :=
  wpList_plain hgd fun _ hK => wp_append2_run s x t t' ho hs hx hr (hK _ _ h)
end
end Go.Proofs.YtgchnobifidjcaaDoor

namespace Go.Proofs.YtgchnobifidjcaaDoor
set_option maxRecDepth 100000
open Go.RowKit Go.Deep

/-- a blob. -/
def blobB (p : List Int) : List Int := numB p.length ++ p
def blobsB (ps : Nat → List Int) (i : Nat) : List Int := blobB (ps i)
theorem blobB_length (p : List Int) : (blobB p).length = 1 + szI p.length + p.length := by rw [blobB, List.length_append, numB_length]
set_option maxHeartbeats 1000000 in
theorem blob_any' (l : List Int) (v u : Value) (n : Nat) (ps : Nat → List Int) (w : World) (hv : isBytes w v l) (hu : anyParts w u n ps) (hs : ∀ i, i ≤ n → l.length + (flatTo (blobsB ps) i).length ≤ 1000000000000) :
    Calls Tryd.prog 81 #[v, u] w fun e w' => ∃ v', e = .returned v' ∧ newBytes w' w.heap.size v' (l ++ flatTo (blobsB ps) n) ∧ Below w.heap.size w w' := by
  obtain ⟨a, cap, rfl, hnm, hcell⟩ := hu.open
  clear hu
  unfold maxLen at hnm
  go_enter Tryd.func81, Tryd.ntmps81
  go_wp2
  go_loopw [5, 13] (fun z i wr => ∃ k : Nat, k ≤ n ∧ i = .int .i64 k ∧ z = .int .i64 ((flatTo (blobsB ps) k).length : Int) ∧ wr = w) (fun _ i _ => n - (intOf i).toNat)
  case atStart => exact ⟨0, by omega, rfl, rfl, rfl⟩
  case round =>
    obtain ⟨k, hk, rfl, rfl, hwr⟩ := hrel
    obtain rfl := hwr.symm
    clear hwr
    have hlk := hs k hk
    by_cases hlt : k < n
    · obtain ⟨qb, qo, y, rfl, hq, hc, hy⟩ := hcell k hlt
      obtain ⟨ya, yc, rfl, hym⟩ := hy.slice
      clear hy
      have b0 : (0 : Int) ≤ (k : Int) := by omega
      have b1 : (k : Int) < (n : Int) := by omega
      have hsz := szI_le ((ps k).length : Int)
      have hsk := hs (k + 1) hlt
      have HL0 : (flatTo (blobsB ps) (k + 1)).length = (flatTo (blobsB ps) k).length + (1 + szI ((ps k).length : Int) + (ps k).length) := by rw [flatTo, List.length_append, blobsB, blobB_length]
      rw [HL0] at hsk
      have HL : Hid _ := HL0
      clear HL0
      generalize hLL : (flatTo (blobsB ps) k).length = L at *
      have hM : (ps k).length ≤ 1000000000000 := by omega
      have hM2 : ((ps k).length : Int) ≤ 1000000000000 := by omega
      have hL : (L : Int) ≤ 1000000000000 := by omega
      go_wp2_with (first | (go_at_call 97; refine (partSize_any (ps k).length (by omega) _).mono ?_; rintro e w' ⟨rfl, hw⟩; obtain rfl := hw.symm; clear hw))
      go_light
      exact ⟨⟨k + 1, by omega, by go_num, by rw [HL.out]; go_num, trivial⟩, by simp [intOf]; omega⟩
    · obtain rfl : k = n := by omega
      have HS : Hid _ := hs
      clear hs
      generalize hLL : (flatTo (blobsB ps) k).length = L at *
      go_wp2_with (first | (go_at_call 79; refine (withRoom_any l v L _ hv (by omega)).mono ?_; rintro e w1 ⟨v1, rfl, hn1, hb1⟩))
      have HN : Hid _ := hn1
      have HB : Hid _ := hb1
      clear hn1 hb1 hLL
      go_loopw [8, 28] (fun z i wr => ∃ j : Nat, j ≤ k ∧ i = .int .i64 j ∧ newBytes wr w.heap.size z (l ++ flatTo (blobsB ps) j) ∧ Below w.heap.size w wr) (fun _ i _ => k - (intOf i).toNat)
      case atStart => exact ⟨0, by omega, rfl, by rw [flatTo, List.append_nil]; exact HN.out, HB.out⟩
      case round =>
        clear HN HB
        obtain ⟨j, hj, rfl, hn, hb⟩ := hrel
        by_cases hlt2 : j < k
        · obtain ⟨qb, qo, y, rfl, hq, hc, hy⟩ := hcell j hlt2
          have HYB : Hid _ := fun (w9 : World) (h9 : Below w.heap.size w w9) => hy.below h9 (Nat.le_refl _)
          obtain ⟨ya, yc, rfl, hym⟩ := hy.slice
          clear hy
          have b0 : (0 : Int) ≤ (j : Int) := by omega
          have b1 : (j : Int) < (k : Int) := by omega
          have hlj := HS.out (j + 1) hlt2
          rw [flatTo, List.length_append, blobsB, blobB_length] at hlj
          rw [← hb.cell (p := ⟨qb, qo + j, none⟩) hq] at hc
          have HN : Hid _ := hn
          have hbs := hb.size
          clear hn
          have hM : (ps j).length ≤ 1000000000000 := by omega
          have hM2 : ((ps j).length : Int) ≤ 1000000000000 := by omega
          go_wp2_with fail
          refine (addNumber_any ((ps j).length : Int) (by omega) (by omega) _ _ _ _ HN.out (by rw [List.length_append]; omega) hb.size).mono ?_
          rintro e w2 ⟨v2, rfl, hn2, hb2⟩
          obtain ⟨v3, w3, hr3, hn3, hg3, _⟩ := any_append_run w2 w.heap.size v2 _ _ (ps j) hn2 (HYB.out w2 (hb.trans hb2)) (by rw [List.length_append, List.length_append, numB_length]; omega) (by have := hb2.size; omega)
          have hb3 := below_grown hg3 (fun q hq2 => (hn2.block q hq2).1) (by have := hb2.size; omega)
          have HN3 : Hid _ := hn3
          have HB3 : Hid _ := hb.trans (hb2.trans hb3)
          clear hn2 hb2 hn3 hb3 hb HN hg3
          go_wp2_with (first | (at_builtin; refine wpList_append2_run rfl _ _ _ _ rfl rfl rfl hr3 ?_))
          go_light
          exact ⟨⟨j + 1, by omega, by go_num, by rw [flatTo, ← List.append_assoc, blobsB, blobB, ← List.append_assoc]; exact HN3.out, HB3.out⟩, by simp [intOf]; omega⟩
        · obtain rfl : j = k := by omega
          have HN : Hid _ := hn
          clear hn
          go_wp2
          go_ret
          exact ⟨_, rfl, HN.out, hb⟩
theorem blob_any (l : List Int) (v u : Value) (n : Nat) (ps : Nat → List Int) (w : World) (hv : isBytes w v l) (hu : isParts w u n ps) (hs : ∀ i, i ≤ n → l.length + (flatTo (blobsB ps) i).length ≤ 1000000000000) :
    Calls Tryd.prog 81 #[v, u] w fun e w' => ∃ v', e = .returned v' ∧ newBytes w' w.heap.size v' (l ++ flatTo (blobsB ps) n) ∧ Below w.heap.size w w' := blob_any' l v u n ps w hv hu.any hs
end Go.Proofs.YtgchnobifidjcaaDoor

/- Books: empty, Note, Of, Calls; Preimage. -/
namespace Go.Proofs.YtgchnobifidjcaaDoor
set_option linter.unusedSimpArgs false
set_option linter.unusedVariables false
open Go.RowKit Go.Deep

/-- what is hashed. -/
def preB (kind : Int) (n : Nat) (ps : Nat → List Int) : List Int := [kind % 256] ++ flatTo (blobsB ps) n
theorem convA (w : World) (v : Value) (l : List Int) (h : anyBytes w v l) : (convert 23 9 v).run Tryd.prog w = .ok (.string (strOf l)) w :=
  run_convert_any (P := Tryd.prog) w 23 9 5 v l Tryd.underlying23 Tryd.underlying5 Tryd.underlying9 h
theorem conv8 (w : World) (v : Value) (l : List Int) (h : isBytes w v l) : (convert 23 9 v).run Tryd.prog w = .ok (.string (strOf l)) w :=
  run_convert_bytes (P := Tryd.prog) w 23 9 5 v l Tryd.underlying23 Tryd.underlying5 Tryd.underlying9 h
set_option maxRecDepth 100000 in
theorem pre_any (kind : Int) (n : Nat) (v : Value) (ps : Nat → List Int) (w : World) (hp : anyParts w v n ps) (hs : ∀ i, i ≤ n → 1 + (flatTo (blobsB ps) i).length ≤ 1000000000000) :
    Calls Tryd.prog 88 #[.int .i64 kind, v] w fun e w' => ∃ v', e = .returned v' ∧ newBytes w' w.heap.size v' (preB kind n ps) ∧ Below w.heap.size w w' := by
  have hb0 : Below w.heap.size w (w.alloc (.cells #[.int .u8 (kind % 256)] 5)) := (Below.refl _ _).alloc (Nat.le_refl _) _
  have hk : 0 ≤ kind % 256 ∧ kind % 256 ≤ 255 := by omega
  have h1 : isBytes (w.alloc (.cells #[.int .u8 (kind % 256)] 5)) (.slice (some ⟨w.heap.size, 0, none⟩) 1 1) [kind % 256] :=
    Or.inr ⟨w.heap.size, 0, 1, rfl, by simp, by unfold maxLen; omega, by simp, fun i hi => by
      obtain rfl : i = 0 := by simpa using hi
      exact one_cell w _ _, fun i => by
      match i with
      | 0 => exact hk
      | _ + 1 => exact ⟨by simp, by simp⟩⟩
  have X := blob_any' [kind % 256] _ v n ps _ h1 (hp.below hb0 (Nat.le_refl _)) (fun i hi => by have := hs i hi; simp; omega)
  obtain ⟨a, cap, rfl, _, _⟩ := hp.open
  go_enter Tryd.func88, Tryd.ntmps88
  go_wp2_with fail
  refine X.mono ?_
  rintro e w1 ⟨v1, rfl, hn1, hb1⟩
  go_wp2
  go_ret
  exact ⟨_, rfl, hn1.mono (by simp), hb0.trans (hb1.mono (by simp))⟩

/-- A BOOK in block k, all its memory in F. -/
def bookAt (w : World) (F : Nat → Prop) (k : Nat) (N : List Nt) (c : Int) : Prop :=
  F k ∧ (∀ j, F j → j < w.heap.size) ∧ ∃ pv, w.rowIs k 65 1 (fun _ => pv) ∧
    ((pv = .pointer none ∧ N = [] ∧ c = 0) ∨ ∃ nb, pv = .pointer (some ⟨nb, 0, none⟩) ∧ nb ≠ k ∧ notesAt w (fun j => F j ∧ j ≠ k) nb N c)
theorem bookAt.far {w w' : World} {F : Nat → Prop} {k : Nat} {N : List Nt} {c : Int} (h : bookAt w F k N c) (hb : ∀ j, F j → j < w.heap.size → w'.heap[j]? = w.heap[j]?) (hs : w.heap.size ≤ w'.heap.size) : bookAt w' F k N c := by
  obtain ⟨h1, h2, pv, h3, h4⟩ := h
  refine ⟨h1, fun j hj => Nat.lt_of_lt_of_le (h2 j hj) hs, pv, h3.of_block (hb k h1 (h2 k h1)), ?_⟩
  rcases h4 with h4 | ⟨nb, a1, a2, a3⟩
  · exact Or.inl h4
  · exact Or.inr ⟨nb, a1, a2, a3.far (fun j hj hl => hb j hj.1 hl) hs⟩
theorem bookAt.below {w w' : World} {F : Nat → Prop} {k B : Nat} {N : List Nt} {c : Int} (h : bookAt w F k N c) (hb : Below B w w') (hB : w.heap.size ≤ B) : bookAt w' F k N c :=
  h.far (fun j _ hj => hb.block j (Nat.lt_of_lt_of_le hj hB)) hb.size
theorem notesAt.grow {w : World} {F G : Nat → Prop} {nb : Nat} {N : List Nt} {c : Int} (h : notesAt w F nb N c) (hG : ∀ k, F k → G k) (hl : ∀ k, G k → k < w.heap.size) : notesAt w G nb N c := by
  obtain ⟨lv, mv, h1, h2, h3, h4, h5, h6⟩ := h
  exact ⟨lv, mv, h1, hG _ h2, h3.far (fun _ _ _ => rfl) hG, h4.far (fun _ _ _ => rfl) hG, h5, hl⟩
theorem bookAt.grow {w : World} {F G : Nat → Prop} {k : Nat} {N : List Nt} {c : Int} (h : bookAt w F k N c) (hG : ∀ k, F k → G k) (hl : ∀ k, G k → k < w.heap.size) : bookAt w G k N c := by
  obtain ⟨h1, h2, pv, h3, h4⟩ := h
  refine ⟨hG _ h1, hl, pv, h3, ?_⟩
  rcases h4 with h4 | ⟨nb, a1, a2, a3⟩
  · exact Or.inl h4
  · exact Or.inr ⟨nb, a1, a2, a3.grow (fun j hj => ⟨hG j hj.1, hj.2⟩) (fun j hj => hl j hj.1)⟩
/-- a new book. -/
theorem bookAt.new (w : World) (W : World) (k : Nat) (hW : W.rowIs k 65 1 (fun _ => .pointer none)) : bookAt W (fun j => j = k) k [] 0 :=
  ⟨rfl, fun j hj => hj ▸ hW.lt, .pointer none, hW, Or.inl ⟨rfl, rfl, rfl⟩⟩

theorem empty_none (w : World) : Calls Tryd.prog 60 #[.pointer none] w fun e w' => e = .returned (.bool true) ∧ w' = w := by
  go_enter Tryd.func60, Tryd.ntmps60
  go_wp2
  go_ret
  exact ⟨rfl, rfl⟩
theorem empty_zero (k : Nat) (w : World) (h : w.rowIs k 65 1 (fun _ => .pointer none)) : Calls Tryd.prog 60 #[.pointer (some ⟨k, 0, none⟩)] w fun e w' => e = .returned (.bool true) ∧ w' = w := by
  have c0 : w.cell? ⟨k, 0, none⟩ = some (.pointer none) := h.cell (i := 0) (by omega)
  go_enter Tryd.func60, Tryd.ntmps60
  go_wp2
  go_ret
  exact ⟨rfl, rfl⟩
theorem empty_some (k nb : Nat) (w : World) (h : w.rowIs k 65 1 (fun _ => .pointer (some ⟨nb, 0, none⟩))) : Calls Tryd.prog 60 #[.pointer (some ⟨k, 0, none⟩)] w fun e w' => e = .returned (.bool false) ∧ w' = w := by
  have c0 : w.cell? ⟨k, 0, none⟩ = some (.pointer (some ⟨nb, 0, none⟩)) := h.cell (i := 0) (by omega)
  go_enter Tryd.func60, Tryd.ntmps60
  go_wp2
  go_ret
  exact ⟨rfl, rfl⟩
theorem zero_notes : ∀ w : World, (Instr.build 105 #[]).run Tryd.prog w = .ok (.agg (rowV 3 (notesV (.slice none 0 0) (.map none) 0))) w := fun w => by kernel_rfl

set_option maxHeartbeats 1000000 in
set_option maxRecDepth 100000 in
theorem note_nil (q : List Int) (v : Value) (w : World) : Calls Tryd.prog 90 #[.pointer none, sumV q, v] w fun e w' => e = .returned (.tuple #[]) ∧ Below w.heap.size w w' := by
  unfold sumV
  go_enter Tryd.func90, Tryd.ntmps90
  go_wp2
  exact bodyPost_ret (results_none rfl _ _ _) rfl ⟨rfl, (Below.refl _ _).alloc (Nat.le_refl _) _⟩
theorem exec_build2 {P : Program} {o : Oper} {ev : Operand → Value} {w : World} {v : Value} (t : TypeId) (i j : Nat) (x y : Operand) (a b : Value) (ho : o.op = .build t #[(i, x), (j, y)]) (hx : ev x = a) (hy : ev y = b)
    (hr : (Instr.build t #[(i, a), (j, b)]).run P w = .ok v w) : (execOp ev o).run P w = .ok (.value v) w := by
  unfold execOp
  simp only [ho, List.map_toArray, List.map_cons, List.map_nil, hx, hy, Sem.run_bind, hr, Result.andThen_ok, Sem.run_pure]
theorem isBytes.far' {w w' : World} {v : Value} {l : List Int} (h : isBytes w v l) (hb : 0 < l.length → ∀ k, v.ownBlock = some k → w'.heap[k]? = w.heap[k]?) (hs : w.heap.size ≤ w'.heap.size) : isBytes w' v l := by
  rcases h with h | ⟨pb, po, cap, rfl, h2, h3, h4, h6, h7⟩
  · exact Or.inl h
  · exact Or.inr ⟨pb, po, cap, rfl, h2, h3, by omega, fun i hi => by rw [World.cell?_of_block (w := w) (hb (by omega) pb rfl)]; exact h6 i hi, h7⟩
/-- behind the test of the notes. -/
def midN (w : World) (F : Nat → Prop) (k : Nat) (N : List Nt) (c : Int) (q : List Int) (wx : World) : Prop :=
  ∃ (nb : Nat) (G : Nat → Prop), wx.rowIs k 65 1 (fun _ => .pointer (some ⟨nb, 0, none⟩)) ∧ notesAt wx G nb N c ∧ (∀ j, G j → (F j ∧ j ≠ k) ∨ (w.heap.size < j ∧ j < wx.heap.size)) ∧ Fr F w wx ∧ wx.rowIs w.heap.size 32 32 (arrV q)
theorem build_note2 (q : List Int) (t : ByteArray) (w : World) : (Instr.build 107 #[(0, .agg (rowV 32 (arrV q))), (1, .string t)]).run Tryd.prog w = .ok (.agg (rowV 33 (noteV (q, t)))) w := by
  show (_ : Result Value) = _
  kernel_rfl
set_option maxHeartbeats 1000000 in
set_option maxRecDepth 100000 in
theorem note_any' (F : Nat → Prop) (k : Nat) (N : List Nt) (c : Int) (q l : List Int) (v : Value) (w : World) (h : bookAt w F k N c) (hq : isSum q) (hv : anyBytes w v l) (hvF : 0 < l.length → ∀ j, v.ownBlock = some j → ¬ F j) (hN : N.length < 1000000) :
    Calls Tryd.prog 90 #[.pointer (some ⟨k, 0, none⟩), sumV q, v] w fun e w' => e = .returned (.tuple #[]) ∧ bookAt w' (Gr F w w') k (addN N (q, strOf l)) c ∧ Fr F w w' := by
  obtain ⟨hF, hlt, pv, hpv, hcase⟩ := h
  have hk := hlt k hF
  have b1 : Below w.heap.size w (w.alloc (.cells (rowV 32 (arrV q)) 32)) := (Below.refl _ _).alloc (Nat.le_refl _) _
  have rq : (w.alloc (.cells (rowV 32 (arrV q)) 32)).rowIs w.heap.size 32 32 (arrV q) := rowIs_box w _ _ _
  have r1 : (w.alloc (.cells (rowV 32 (arrV q)) 32)).rowIs k 65 1 (fun _ => pv) := b1.row hpv hk
  have c1 : (w.alloc (.cells (rowV 32 (arrV q)) 32)).cell? ⟨k, 0, none⟩ = some pv := r1.cell (i := 0) (by omega)
  have s1 : (w.alloc (.cells (rowV 32 (arrV q)) 32)).heap.size = w.heap.size + 1 := by simp
  have hbu := zero_notes
  obtain ⟨va, vc, rfl, _⟩ := hv.slice
  have HV : Hid _ := hv
  have HVF : Hid _ := hvF
  have HLT : Hid _ := hlt
  clear hv hvF hlt
  unfold sumV
  obtain ⟨bn, hbn, hbg, hbi⟩ : ∃ bn : Bool, (∀ wz : World, (binOp .eql 63 pv (.pointer none)).run Tryd.prog wz = .ok (.bool bn) wz) ∧ (∀ wz : World, (eqGuard .eql 63 (.tmp 11) (.const (.pointer none)) pv (.pointer none)).run Tryd.prog wz = .ok () wz) ∧ (bn = true ↔ pv = .pointer none) := by
    rcases hcase with ⟨rfl, _⟩ | ⟨nb, rfl, _⟩
    · exact ⟨true, fun wz => by kernel_rfl, fun wz => by kernel_rfl, by simp⟩
    · exact ⟨false, fun wz => by kernel_rfl, fun wz => by kernel_rfl, by simp⟩
  go_enter Tryd.func90, Tryd.ntmps90
  go_upto_if 12 with fail
  go_cut [4] (fun t wx => t = .pointer (some ⟨w.heap.size, 0, none⟩) ∧ midN w F k N c q wx)
  case first =>
    rcases hcase with ⟨rfl, rfl, rfl⟩ | ⟨nb, rfl, hnk, hnn⟩
    · obtain rfl : bn = true := hbi.2 rfl
      have r2 : ((w.alloc (.cells (rowV 32 (arrV q)) 32)).alloc (.cells #[.slice none 0 0, .map none, .int .i64 0] 105)).rowIs k 65 1 (fun _ => .pointer none) := World.rowIs.alloc r1 _
      have z2 := World.rowIs.frozen r2 0
      have c2 : ((w.alloc (.cells (rowV 32 (arrV q)) 32)).alloc (.cells #[.slice none 0 0, .map none, .int .i64 0] 105)).cell? ⟨k, 0, none⟩ = some (.pointer none) := r2.cell (i := 0) (by omega)
      have sz : (w.setCell ⟨k, 0, none⟩ (.pointer (some ⟨w.heap.size + 1, 0, none⟩))).heap.size = w.heap.size := nblk_setCell _ _ _
      have sz2 : ((w.setCell ⟨k, 0, none⟩ (.pointer (some ⟨w.heap.size + 1, 0, none⟩))).alloc (.cells (rowV 32 (arrV q)) 32)).heap.size = w.heap.size + 1 := by simp [nblk_setCell]
      have MID : Hid (midN w F k [] 0 q (((w.setCell ⟨k, 0, none⟩ (.pointer (some ⟨w.heap.size + 1, 0, none⟩))).alloc (.cells (rowV 32 (arrV q)) 32)).alloc (.cells #[.slice none 0 0, .map none, .int .i64 0] 105))) := (show midN w F k [] 0 q (((w.setCell ⟨k, 0, none⟩ (.pointer (some ⟨w.heap.size + 1, 0, none⟩))).alloc (.cells (rowV 32 (arrV q)) 32)).alloc (.cells #[.slice none 0 0, .map none, .int .i64 0] 105)) from by
        refine ⟨w.heap.size + 1, fun j => j = w.heap.size + 1, World.rowIs.alloc (World.rowIs.alloc ((World.rowIs.set hpv 0 _).congr (fun i hi => by
          have : i = 0 := by omega
          simp [this])) _) _, ⟨.slice none 0 0, .map none, ?_, rfl, listAt_nil _ _, Or.inl ⟨rfl, rfl⟩, fun x hx => by simp at hx, fun j hj => by rw [hj]; simp [nblk_setCell]⟩, fun j hj => Or.inr ⟨by omega, by rw [hj]; simp [nblk_setCell]⟩, ?_, ?_⟩
        · have := rowIs_new ((w.setCell ⟨k, 0, none⟩ (.pointer (some ⟨w.heap.size + 1, 0, none⟩))).alloc (.cells (rowV 32 (arrV q)) 32)) #[.slice none 0 0, .map none, .int .i64 0] 105 3 (notesV (.slice none 0 0) (.map none) 0) rfl (fun i hi => by
            match i, hi with
            | 0, _ => rfl
            | 1, _ => rfl
            | 2, _ => rfl)
          rw [sz2] at this; exact this
        · exact (((Fr.refl F w).setCell (Or.inl hF) _).alloc _).alloc _
        · have := rowIs_box (w.setCell ⟨k, 0, none⟩ (.pointer (some ⟨w.heap.size + 1, 0, none⟩))) 32 32 (arrV q)
          rw [sz] at this
          exact World.rowIs.alloc this _)
      clear r1 r2 rq b1 hpv hbu
      go_wp2_with fail
      go_meet
      case rel => exact ⟨rfl, MID.out⟩
    · obtain rfl : bn = false := by
        cases bn with
        | false => rfl
        | true => exact absurd (hbi.1 rfl) (by simp)
      have MID : Hid (midN w F k N c q (w.alloc (.cells (rowV 32 (arrV q)) 32))) := (show midN w F k N c q (w.alloc (.cells (rowV 32 (arrV q)) 32)) from ⟨nb, fun j => F j ∧ j ≠ k, r1, hnn.below b1 (Nat.le_refl _), fun j hj => Or.inl hj, Fr.of_below F b1, rq⟩)
      clear r1 rq b1 hpv hbu hnn
      go_wp2_with fail
      go_meet
      case rel => exact ⟨rfl, MID.out⟩
  case rest =>
    obtain ⟨rfl, hmid⟩ := hcut
    clear r1 rq b1 hpv hbu c1 s1 hcase hbn hbg hbi
    obtain ⟨wR, hwR⟩ : ∃ wR, wR = wc := ⟨_, rfl⟩
    subst hwR
    obtain ⟨nb, G, m1, m2, m3, m4, m5⟩ := hmid
    go_upto_region 4 with fail
    have hkR : k < wR.heap.size := Nat.lt_of_lt_of_le hk m4.size
    have hqR : w.heap.size < wR.heap.size := m5.lt
    have hGk : ¬ G k := fun g => by
      rcases m3 k g with h | h
      · exact h.2 rfl
      · omega
    have hGq : ¬ G w.heap.size := fun g => by
      rcases m3 _ g with h | h
      · have := HLT.out _ h.1; omega
      · omega
    have k0 : wR.cell? ⟨k, 0, none⟩ = some (.pointer (some ⟨nb, 0, none⟩)) := m1.cell (i := 0) (by omega)
    have k1 : ∀ i, i < 32 → wR.cell? ⟨w.heap.size, 0 + i, none⟩ = some (arrV q i) := fun i hi => by rw [Nat.zero_add]; exact m5.cell hi
    have kv : anyBytes wR (.slice va l.length vc) l := by
      rcases HV.out with h | h
      · exact Or.inl (h.far' (fun hl j hj => m4.block j (h.block j hj) (HVF.out hl j hj)) m4.size)
      · exact Or.inr h
    have hcvv := convA wR.drew _ _ kv
    have KX := add_note G nb N c (q, strOf l) wR.drew m2.drew hq hN
    have XX : Hid _ := KX
    have M1 : Hid _ := m1
    have M3 : Hid _ := m3
    have M4 : Hid _ := m4
    have M5 : Hid _ := m5
    clear KX m1 m2 m3 m4 m5
    refine wp_region_noPanic ?_
    refine wp_region_held_drew (S := fun w' => w'.cell? ⟨k, 0, none⟩ = some (.pointer (some ⟨nb, 0, none⟩)) ∧ (∀ i, i < 32 → w'.cell? ⟨w.heap.size, 0 + i, none⟩ = some (arrV q i)) ∧ (convert 23 9 (.slice va l.length vc)).run Tryd.prog w' = .ok (.string (strOf l)) w') (by kernel_rfl) ⟨k0, k1, hcvv⟩ (fun hHeld => ?_)
    refine take_op (i := 0) (v := ?vz0) rfl (by kernel_rfl) (by kernel_rfl) (by kernel_rfl) (fun _ _ _ h => h) rfl hHeld ?yz0 ?rz0
    case yz0 => (intro wz hz; go_simp; first | done | with_reducible rfl)
    try simp only [Act.put, List.setIfInBounds_toArray, List.set_cons_zero, List.set_cons_succ]
    refine take_op (i := 1) (v := ?vz1) rfl (by kernel_rfl) (by kernel_rfl) (by kernel_rfl) (fun _ _ _ h => h) rfl hHeld ?yz1 ?rz1
    case yz1 => (intro wz hz; go_simp; first | done | with_reducible rfl)
    try simp only [Act.put, List.setIfInBounds_toArray, List.set_cons_zero, List.set_cons_succ]
    refine take_op (i := 2) (v := ?vz2) rfl (by kernel_rfl) (by kernel_rfl) (by kernel_rfl) (fun _ _ _ h => h) rfl hHeld ?yz2 ?rz2
    case yz2 => (intro wz hz; go_simp; first | done | with_reducible rfl)
    try simp only [Act.put, List.setIfInBounds_toArray, List.set_cons_zero, List.set_cons_succ]
    refine take_op (i := 3) (v := ?vz3) rfl (by kernel_rfl) (by kernel_rfl) (by kernel_rfl) (fun _ _ _ h => h) rfl hHeld ?yz3 ?rz3
    case yz3 => (intro wz hz; have hcz := hz.1; go_simp; first | done | with_reducible rfl)
    try simp only [Act.put, List.setIfInBounds_toArray, List.set_cons_zero, List.set_cons_succ]
    refine take_load (i := 4) rfl (by kernel_rfl) (by kernel_rfl) (by kernel_rfl) 32 _ rfl w.heap.size 0 32 (arrV q) rfl _ Tryd.underlying32 rfl (by kernel_rfl) (fun _ _ _ h => h) rfl hHeld (fun wz hz => hz.2.1) ?_
    try simp only [Act.put, List.setIfInBounds_toArray, List.set_cons_zero, List.set_cons_succ]
    refine take_op (i := 5) (v := ?vz5) rfl (by kernel_rfl) (by kernel_rfl) (by kernel_rfl) (fun _ _ _ h => h) rfl hHeld ?yz5 ?rz5
    case yz5 => (intro wz hz; go_simp; first | done | with_reducible rfl)
    try simp only [Act.put, List.setIfInBounds_toArray, List.set_cons_zero, List.set_cons_succ]
    refine take_op (i := 6) (v := ?vz6) rfl (by kernel_rfl) (by kernel_rfl) (by kernel_rfl) (fun _ _ _ h => h) rfl hHeld ?yz6 ?rz6
    case yz6 => (intro wz hz; have hcz := hz.2.2; go_simp; first | done | with_reducible rfl)
    try simp only [Act.put, List.setIfInBounds_toArray, List.set_cons_zero, List.set_cons_succ]
    refine take_op (i := 7) (v := .agg (rowV 33 (noteV (q, strOf l)))) rfl (by kernel_rfl) (by kernel_rfl) (by kernel_rfl) (fun _ _ _ h => h) rfl hHeld (fun wz hz => exec_build2 107 0 1 _ _ (.agg (rowV 32 (arrV q))) (.string (strOf l)) rfl (by kernel_rfl) (by kernel_rfl) (build_note2 q (strOf l) wz)) ?_
    try simp only [Act.put, List.setIfInBounds_toArray, List.set_cons_zero, List.set_cons_succ]
    refine take_one (i := 8) rfl (by kernel_rfl) rfl (fun K hK => ?_)
    go_simp
    refine Calls.mono XX.out ?_
    rintro e w9 ⟨rfl, hn9, hf9⟩
    have kv9 : anyBytes w9 (.slice va l.length vc) l := by
      rcases HV.out with h | h
      · refine Or.inl (h.far' (fun hl j hj => ?_) (Nat.le_trans M4.out.size hf9.size))
        have hjl := h.block j hj
        exact (hf9.block j (Nat.lt_of_lt_of_le hjl M4.out.size) (fun g => by
          rcases M3.out j g with h2 | h2
          · exact HVF.out hl j hj h2.1
          · omega)).trans (M4.out.block j hjl (HVF.out hl j hj))
      · exact Or.inr h
    refine hK.out _ _ ⟨(World.cell?_of_block (w := wR) (hf9.block k hkR hGk)).trans k0, fun i hi => (World.cell?_of_block (w := wR) (hf9.block _ hqR hGq)).trans (k1 i hi), convA w9 _ _ kv9⟩ (fun hHeld => ?_)
    clear hK K
    try simp only [Act.put, List.setIfInBounds_toArray, List.set_cons_zero, List.set_cons_succ]
    refine wpAnyH_done (by kernel_rfl) ?_ _
    refine NoPanic.normal ?_
    clear hHeld
    have HN9 : Hid _ := hn9
    have HF9 : Hid _ := hf9
    clear hn9 hf9
    go_wp2
    go_end0
    have hs9 := HF9.out.size
    have hs9' : wR.heap.size ≤ w9.heap.size := hs9
    have hsR := M4.out.size
    refine ⟨rfl, ⟨Or.inl hF, fun j hj => ?_, _, World.rowIs.of_block M1.out (HF9.out.block k hkR hGk), Or.inr ⟨nb, rfl, ?_, notesAt.grow HN9.out (fun j hj => ?_) (fun j hj => ?_)⟩⟩, ?_⟩
    · rcases hj with h | h
      · have := HLT.out j h; omega
      · exact h.2
    · rintro rfl
      obtain ⟨_, _, r, _⟩ := HN9.out
      have := rowIs_block r
      rw [rowIs_block (World.rowIs.of_block M1.out (HF9.out.block nb hkR hGk))] at this
      injection this with this
      injection this with _ h2
      exact absurd h2 (by decide)
    · rcases hj with h | h
      · rcases M3.out j h with h2 | h2
        · exact ⟨Or.inl h2.1, h2.2⟩
        · exact ⟨Or.inr ⟨by omega, by omega⟩, by omega⟩
      · have h1 : wR.heap.size ≤ j := h.1
        exact ⟨Or.inr ⟨by omega, h.2⟩, by omega⟩
    · rcases hj.1 with h | h
      · have := HLT.out j h; omega
      · exact h.2
    · exact Fr.trans M4.out (G := G) ⟨HF9.out.os, HF9.out.tape, HF9.out.output, hs9, HF9.out.block⟩ (fun j hj g => by
        rcases M3.out j g with h | h
        · exact h.1
        · omega)
theorem note_any (F : Nat → Prop) (k : Nat) (N : List Nt) (c : Int) (q l : List Int) (v : Value) (w : World) (h : bookAt w F k N c) (hq : isSum q) (hv : anyBytes w v l) (hvF : ∀ j, v.ownBlock = some j → ¬ F j) (hN : N.length < 1000000) :
    Calls Tryd.prog 90 #[.pointer (some ⟨k, 0, none⟩), sumV q, v] w fun e w' => e = .returned (.tuple #[]) ∧ bookAt w' (Gr F w w') k (addN N (q, strOf l)) c ∧ Fr F w w' :=
  note_any' F k N c q l v w h hq hv (fun _ => hvF) hN
end Go.Proofs.YtgchnobifidjcaaDoor

/- Books: Of. -/
namespace Go.Proofs.YtgchnobifidjcaaDoor
set_option linter.unusedSimpArgs false
set_option linter.unusedVariables false
open Go.RowKit Go.Deep

theorem sumI_byte' {l : List Int} (i : Nat) : 0 ≤ sumI l i ∧ sumI l i ≤ 255 := by unfold sumI sumByte; omega
/-- a sum's bytes. -/
def sumL (l : List Int) : List Int := (List.range 32).map (sumI l)
theorem sumL_getD (l : List Int) (i : Nat) (h : i < 32) : (sumL l).getD i 0 = sumI l i := by
  rw [sumL, List.getD_eq_getElem?_getD, List.getElem?_map, List.getElem?_range h]; rfl
theorem sumL_is (l : List Int) : isSum (sumL l) := ⟨by simp [sumL], fun i => by
  by_cases h : i < 32
  · rw [sumL_getD l i h]; exact sumI_byte' i
  · rw [List.getD_eq_getElem?_getD, List.getElem?_eq_none (by simp [sumL]; omega)]; exact ⟨by simp, by simp⟩⟩
theorem sumL_row (l : List Int) : rowV 32 (fun i => .int .u8 (sumI l i)) = rowV 32 (arrV (sumL l)) := rowV_congr fun i hi => by rw [arrV, sumL_getD l i hi]
theorem addN_ne (N : List Nt) (x : Nt) : addN N x ≠ [] := by
  by_cases h : x ∈ N
  · rw [addN_in h]; intro e; rw [e] at h; simp at h
  · rw [addN_out h]; simp
theorem addN_len (N : List Nt) (x : Nt) : (addN N x).length ≤ N.length + 1 := by
  by_cases h : x ∈ N
  · rw [addN_in h]; omega
  · rw [addN_out h]; simp
/-- sha.Sum(b). -/
theorem sum_one (l : List Int) (v : Value) (B : Nat) (w : World) (h : newBytes w B v l) (hl : l.length < 1000000000) (ht : tabIs w) :
    Calls Tryd.prog 89 #[.slice (some ⟨w.heap.size, 0, none⟩) 1 1] (w.alloc (.cells #[v] 23)) fun e w' => e = .returned (.agg (rowV 32 (arrV (sumL l)))) ∧ Below w.heap.size w w' := by
  have hb0 : Below w.heap.size w (w.alloc (.cells #[v] 23)) := (Below.refl _ _).alloc (Nat.le_refl _) _
  have hp : isParts (w.alloc (.cells #[v] 23)) (.slice (some ⟨w.heap.size, 0, none⟩) 1 1) 1 (fun _ => l) := Or.inr ⟨w.heap.size, 0, 1, fun _ => v, rfl, by simp, by unfold maxLen; omega, fun i hi => by
    obtain rfl : i = 0 := by omega
    exact ⟨one_cell w _ _, Or.inl (h.is.below hb0 (Nat.le_refl _))⟩⟩
  refine (shaSum_any 1 _ (fun _ => l) _ hp (fun i hi => ?_) (ht.below hb0 ht.1)).mono ?_
  · have : i = 0 ∨ i = 1 := by omega
    rcases this with rfl | rfl
    · simp [flatTo]
    · simp [flatTo]; omega
  · rintro e w' ⟨rfl, hb⟩
    refine ⟨?_, hb0.trans (hb.mono (by simp))⟩
    rw [sumL_row]; rfl
theorem hi32' : (Tryd.prog.info? 32).map (·.size) = some 32 := by kernel_rfl
theorem notesAt.count {w : World} {F : Nat → Prop} {nb : Nat} {N : List Nt} {c : Int} (h : notesAt w F nb N c) (c' : Int) : notesAt (w.setCell ⟨nb, 2, none⟩ (.int .i64 c')) F nb N c' := by
  obtain ⟨lv, mv, h1, h2, h3, h4, h5, h6⟩ := h
  refine ⟨lv, mv, (World.rowIs.set h1 2 _).congr fun i hi => ?_, h2, h3.own fun k cur _ hc => blk_setCell_other _ _ _ _ ?_, h4.own fun k es cl _ hc => blk_setCell_other _ _ _ _ ?_, h5, fun k hk => by rw [nblk_setCell]; exact h6 k hk⟩
  · simp only [notesV]
    have : i = 0 ∨ i = 1 ∨ i = 2 := by omega
    rcases this with rfl | rfl | rfl <;> simp
  · rintro rfl
    have := rowIs_block h1
    rw [hc] at this
    injection this with this
    injection this with _ h2
    exact absurd h2 (by decide)
  · rintro rfl
    have := rowIs_block h1
    rw [hc] at this; cases this
set_option maxHeartbeats 1000000 in
set_option maxRecDepth 100000 in
theorem of_any (F : Nat → Prop) (k : Nat) (N : List Nt) (c kind : Int) (n : Nat) (v : Value) (ps : Nat → List Int) (w : World) (h : bookAt w F k N c) (hp : anyParts w v n ps) (hs : ∀ i, i ≤ n → 1 + (flatTo (blobsB ps) i).length ≤ 100000000) (ht : tabIs w) (hF0 : ¬ F 1) (hN : N.length < 1000000) (hc : 0 ≤ c ∧ c < 1000000000) :
    Calls Tryd.prog 69 #[.pointer (some ⟨k, 0, none⟩), .int .i64 kind, v] w fun e w' => e = .returned (sumV (sumL (preB kind n ps))) ∧ bookAt w' (Gr F w w') k (addN N (sumL (preB kind n ps), strOf (preB kind n ps))) (c + 1) ∧ Fr F w w' := by
  have hlt := h.2.1
  have HLT : Hid _ := hlt
  have HBK : Hid _ := h
  have hk0 := hlt k h.1
  have ht0 := ht.1
  obtain ⟨pl, hpl⟩ : ∃ pl, pl = preB kind n ps := ⟨_, rfl⟩
  have hpll : pl.length ≤ 100000000 := by
    rw [hpl, preB, List.length_append]; have := hs n (Nat.le_refl _); simp; omega
  have r0 := rowIs_zero w (Array.replicate 32 (.int .u8 0)) 32 32 (.int .u8 0) rfl
  have hb0 : Below w.heap.size w (w.alloc (.cells (Array.replicate 32 (.int .u8 0)) 32)) := (Below.refl w.heap.size w).alloc (Nat.le_refl _) _
  have hs0 : (w.alloc (.cells (Array.replicate 32 (.int .u8 0)) 32)).heap.size = w.heap.size + 1 := by simp
  have X := pre_any kind n v ps _ (hp.below hb0 (Nat.le_refl _)) (fun i hi => by have := hs i hi; omega)
  rw [← hpl] at X ⊢
  clear hpl
  obtain ⟨a, cap, rfl, _, _⟩ := hp.open
  clear h hlt hp hs
  go_enter Tryd.func69, Tryd.ntmps69
  go_wp2_with fail
  refine X.mono ?_
  rintro e w1 ⟨v1, rfl, hn1, hb1⟩
  have hb1' : Below (w.alloc (.cells (Array.replicate 32 (.int .u8 0)) 32)).heap.size (w.alloc (.cells (Array.replicate 32 (.int .u8 0)) 32)) w1 := hb1
  have hn1' : newBytes w1 (w.alloc (.cells (Array.replicate 32 (.int .u8 0)) 32)).heap.size v1 pl := hn1
  rw [hs0] at hb1' hn1'
  have hB1 : Below w.heap.size w w1 := hb0.trans (hb1'.mono (by omega))
  have r1 : w1.rowIs w.heap.size 32 32 (fun _ => .int .u8 0) := hb1'.row r0 (by omega)
  have hs1 : w.heap.size + 1 ≤ w1.heap.size := by have := hb1'.size; omega
  obtain ⟨va, vc, rfl, _⟩ := hn1'.is.slice
  have Y := sum_one pl _ _ w1 hn1' (by omega) (ht.below hB1 ht0)
  clear X hb1 hn1 hb0 r0 hs0 hb1'
  go_wp2_with fail
  refine Y.mono ?_
  rintro e w3 ⟨rfl, hb3⟩
  have hs3 := hb3.size
  have r3 := hb3.row r1 (by omega)
  have hB3 : Below w.heap.size w w3 := hB1.trans (hb3.mono (by omega))
  have hn3 := hn1'.below hb3 (Nat.le_refl _)
  have r4 := rowIs_zero w3 (Array.replicate 32 (.int .u8 0)) 32 32 (.int .u8 0) rfl
  have hs4 : (w3.alloc (.cells (Array.replicate 32 (.int .u8 0)) 32)).heap.size = w3.heap.size + 1 := by simp
  have hb4 : Below w3.heap.size w3 (w3.alloc (.cells (Array.replicate 32 (.int .u8 0)) 32)) := (Below.refl _ _).alloc (Nat.le_refl _) _
  clear Y hb3 r1 hB1 hn1'
  go_upto_if 16 with (first | (refine wpList_store_row rfl 32 (.tmp 8) (.tmp 14) rfl rfl w3.heap.size 0 32 (arrV (sumL pl)) rfl rfl hi32' (fun _ _ => rfl) _ _ _ r4 (by omega) ?_; intro w5 r5 hz5 hb5))
  have hz5' : w5.heap.size = w3.heap.size + 1 := hz5.trans hs4
  have hb5' : But (w3.heap.size + 1) w3.heap.size (w3.alloc (.cells (Array.replicate 32 (.int .u8 0)) 32)) w5 := hs4 ▸ hb5
  have hB35 : Below w3.heap.size w3 w5 := hb4.trans ((hb5'.mono (by omega)).below (Nat.le_refl _))
  have hB5 : Below w.heap.size w w5 := hB3.trans (hB35.mono (by omega))
  have r5' : w5.rowIs w3.heap.size 32 32 (arrV (sumL pl)) := r5.congr fun i hi => by rw [if_pos (by omega), Nat.sub_zero]
  have r5w := hB35.row r3 (by omega)
  have hv5 := hn3.below hB35 (Nat.le_refl _)
  have Z := note_any F k N c (sumL pl) pl (.slice va pl.length vc) w5 (bookAt.below HBK.out hB5 (Nat.le_refl _)) (sumL_is pl) (Or.inl hv5.is) (fun j hj hf => by
    have h1 := HLT.out j hf
    have h2 := hv5.block j hj
    omega) hN
  unfold sumV at Z
  have R5 : Hid _ := r5'
  have ld5 : ∀ i, i < 32 → w5.cell? ⟨w3.heap.size, 0 + i, none⟩ = some (arrV (sumL pl) i) := fun i hi => by rw [Nat.zero_add]; exact r5'.cell hi
  have LD5 : Hid _ := ld5
  clear ld5
  have R5W : Hid _ := r5w
  have HB5 : Hid _ := hB5
  clear r5 r5' r5w hB35 hb5 hb5' hz5 hb4 hs4 r4 r3 hn3 hv5 hB5 hB3
  go_wp2_with (first | (refine wpList_load_seg rfl 32 (.tmp 8) rfl w3.heap.size 0 32 (arrV (sumL pl)) rfl _ Tryd.underlying32 rfl hi32' LD5.out ?_))
  refine Z.mono ?_
  rintro e w6 ⟨rfl, hbk6, hf6⟩
  clear Z
  have hs6 := hf6.size
  have hbk6' := hbk6
  obtain ⟨hF6, hlt6, pv, hpv6, ⟨_, hnil, _⟩ | ⟨nb, rfl, hnk, hnn⟩⟩ := hbk6
  · exact absurd hnil (addN_ne _ _)
  obtain ⟨lv, mv, rn, hFn, _⟩ := hnn
  have hnbw : nb < w.heap.size ∨ w5.heap.size ≤ nb := by
    rcases hFn.1 with h | h
    · exact Or.inl (HLT.out nb h)
    · exact Or.inr h.1
  have hF3 : ¬ F w3.heap.size := fun f => by have := HLT.out _ f; omega
  have hFw : ¬ F w.heap.size := fun f => by have := HLT.out _ f; omega
  have c0 : w6.cell? ⟨k, 0, none⟩ = some (.pointer (some ⟨nb, 0, none⟩)) := hpv6.cell (i := 0) (by omega)
  have c2 : w6.cell? ⟨nb, 2, none⟩ = some (.int .i64 c) := rn.cell (i := 2) (by omega)
  have z2 := World.rowIs.frozen rn 2
  have q1 : (0 : Int) ≤ c := hc.1
  have q2 : c < 1000000000 := hc.2
  have rs6 : w6.rowIs w3.heap.size 32 32 (arrV (sumL pl)) := World.rowIs.of_block R5.out (hf6.block _ (by omega) hF3)
  have rw6 : w6.rowIs w.heap.size 32 32 (fun _ => .int .u8 0) := World.rowIs.of_block R5W.out (hf6.block _ (by omega) hFw)
  have rs7 : (w6.setCell ⟨nb, 2, none⟩ (.int .i64 (c + 1))).rowIs w3.heap.size 32 32 (arrV (sumL pl)) := World.rowIs.setOther rs6 (show w3.heap.size ≠ nb by omega) _
  have rw7 : (w6.setCell ⟨nb, 2, none⟩ (.int .i64 (c + 1))).rowIs w.heap.size 32 32 (fun _ => .int .u8 0) := World.rowIs.setOther rw6 (show w.heap.size ≠ nb by omega) _
  have BK7 : Hid (bookAt (w6.setCell ⟨nb, 2, none⟩ (.int .i64 (c + 1))) (Gr F w5 w6) k (addN N (sumL pl, strOf pl)) (c + 1)) := (show bookAt (w6.setCell ⟨nb, 2, none⟩ (.int .i64 (c + 1))) (Gr F w5 w6) k (addN N (sumL pl, strOf pl)) (c + 1) from by
    obtain ⟨_, _, pv', hpv', h4⟩ := hbk6'
    have hpe : pv' = .pointer (some ⟨nb, 0, none⟩) := by
      have a := hpv'.cell (i := 0) (by omega)
      rw [c0] at a; exact (Option.some.inj a).symm
    subst hpe
    refine ⟨hF6, fun j hj => by rw [nblk_setCell]; exact hlt6 j hj, _, World.rowIs.setOther hpv' hnk.symm _, Or.inr ⟨nb, rfl, hnk, ?_⟩⟩
    rcases h4 with ⟨h, _⟩ | ⟨nb', h, _, hnn'⟩
    · cases h
    · obtain rfl : nb = nb' := by injection h with h; injection h with h; injection h
      exact hnn'.count (c + 1))
  have FR7 : Hid (Fr (Gr F w5 w6) w6 (w6.setCell ⟨nb, 2, none⟩ (.int .i64 (c + 1)))) := (show Fr (Gr F w5 w6) w6 (w6.setCell ⟨nb, 2, none⟩ (.int .i64 (c + 1))) from (Fr.refl _ _).setCell (Or.inl hFn.1) _)
  have ld7 : ∀ i, i < 32 → (w6.setCell ⟨nb, 2, none⟩ (.int .i64 (c + 1))).cell? ⟨w3.heap.size, 0 + i, none⟩ = some (arrV (sumL pl) i) := fun i hi => by rw [Nat.zero_add]; exact rs7.cell hi
  have RS7 : Hid _ := ld7
  clear ld7
  have F6 : Hid _ := hf6
  have HL6 : Hid _ := hlt6
  clear hbk6' hpv6 rn rs6 rw6 rs7 hf6 hlt6
  go_wp2_with (first | (refine wpList_load_seg rfl 32 (.tmp 8) rfl w3.heap.size 0 32 (arrV (sumL pl)) rfl _ Tryd.underlying32 rfl hi32' RS7.out ?_) | (refine wpList_store_row rfl 32 (.tmp 6) (.tmp 31) rfl rfl w.heap.size 0 32 (arrV (sumL pl)) rfl rfl hi32' (fun _ _ => rfl) _ _ _ rw7 (by omega) ?_; intro w8 r8 hz8 hb8))
  have hz8' : w8.heap.size = w6.heap.size := by rw [hz8, nblk_setCell]
  have hb8' : But w6.heap.size w.heap.size (w6.setCell ⟨nb, 2, none⟩ (.int .i64 (c + 1))) w8 := by
    have : (w6.setCell ⟨nb, 2, none⟩ (.int .i64 (c + 1))).heap.size = w6.heap.size := nblk_setCell _ _ _
    rw [← this]; exact hb8
  refine bodyPost_ret (results_cell_seg rfl _ _ w.heap.size 32 32 (arrV (sumL pl)) _ rfl Tryd.underlying32 rfl hi32' (r8.congr fun i hi => ?_)) rfl ⟨rfl, ?_, ?_⟩
  · rw [if_pos (by omega), Nat.sub_zero]
  · refine bookAt.grow (bookAt.far BK7.out (fun j hj hl => hb8'.block j (HL6.out j hj) ?_) (by rw [nblk_setCell]; omega)) (fun j hj => ?_) (fun j hj => ?_)
    · rintro rfl
      rcases hj with h | h
      · exact hFw h
      · omega
    · rcases hj with h | h
      · exact Or.inl h
      · exact Or.inr ⟨by omega, by rw [hz8']; exact h.2⟩
    · rcases hj with h | h
      · have := HLT.out j h; omega
      · exact h.2
  · have f1 : Fr F w w5 := Fr.of_below F HB5.out
    have f2 : Fr F w w6 := f1.trans F6.out (fun _ _ h => h)
    have f3 : Fr F w (w6.setCell ⟨nb, 2, none⟩ (.int .i64 (c + 1))) := f2.trans FR7.out (fun j hj h => by
      rcases h with h | h
      · exact h
      · omega)
    refine f3.trans (G := fun j => j = w.heap.size) ⟨hb8.os, hb8.tape, hb8.output, hb8.size, fun j hj hne => hb8.block j hj hne⟩ (fun j hj e => ?_)
    omega
end Go.Proofs.YtgchnobifidjcaaDoor

namespace Go.Proofs.YtgchnobifidjcaaDoor
open Go.RowKit Go.Deep

theorem pow_step (k : Nat) : 2 * (2 ^ k % 4294967296 : Int) % 4294967296 = 2 ^ (k + 1) % 4294967296 := by
  rw [Int.pow_succ]; omega
set_option maxHeartbeats 1000000 in
theorem power_any (n : Nat) (hn : n ≤ 64) (w : World) :
    Calls Tryd.prog 110 #[.int .i64 n] w fun e w' => e = .returned (.int .u32 (2 ^ n % 4294967296)) ∧ w' = w := by
  go_enter Tryd.func110, Tryd.ntmps110
  go_wp2
  go_loop [3, 4] (fun x i => ∃ k : Nat, k ≤ n ∧ i = .int .i64 k ∧ x = .int .u32 (2 ^ k % 4294967296)) (fun _ i => n - (intOf i).toNat)
  case atStart => exact ⟨0, by omega, rfl, rfl⟩
  case round =>
    obtain ⟨k, hk, rfl, rfl⟩ := hrel
    by_cases hlt : k < n
    · have HS : Hid _ := pow_step k
      have p0 : (0 : Int) ≤ 2 ^ k % 4294967296 := by omega
      have p1 : (2 ^ k % 4294967296 : Int) < 4294967296 := by omega
      revert HS p0 p1
      generalize (2 ^ k % 4294967296 : Int) = x
      intro HS p0 p1
      go_wp2
      go_round
      case rel => exact ⟨k + 1, by omega, by go_num, by rw [← HS.out]⟩
      case measure => simp [intOf]; omega
    · obtain rfl : k = n := by omega
      go_wp2
      go_ret
      exact ⟨rfl, rfl⟩

theorem pow_small (n : Nat) (h : n < 32) : (2 ^ n % 4294967296 : Int) = 2 ^ n := by
  have h1 : (2 : Int) ^ n < 2 ^ 32 := by
    have : (2 : Nat) ^ n < 2 ^ 32 := Nat.pow_lt_pow_right (by omega) h
    exact_mod_cast this
  have h0 : (0 : Int) ≤ 2 ^ n := Int.pow_nonneg (by omega)
  omega
/-- a word turned to the right, as the document's answer has it. -/
def turnR (x : Int) (n : Nat) : Int := (x / 2 ^ n + x % 2 ^ n * 2 ^ (32 - n) % 4294967296) % 4294967296
set_option maxHeartbeats 1000000 in
set_option maxRecDepth 100000 in
theorem rturn_nat (x : Int) (hx0 : 0 ≤ x) (hx1 : x < 4294967296) (n : Nat) (h0 : 0 < n) (h1 : n < 32) (w : World) :
    Calls Tryd.prog 119 #[.int .u32 x, .int .i64 n] w fun e w' => e = .returned (.int .u32 (turnR x n)) ∧ w' = w.drew := by
  have P1 := power_any n (by omega)
  have P2 := power_any (32 - n) (by omega)
  rw [pow_small n h1] at P1
  rw [pow_small (32 - n) (by omega)] at P2
  have hT : turnR x n = (x / 2 ^ n + x % 2 ^ n * 2 ^ (32 - n) % 4294967296) % 4294967296 := rfl
  rw [hT]; clear hT
  have e32 : ((32 - n : Nat) : Int) = 32 - (n : Int) := by omega
  rw [e32] at P2
  clear e32
  have a0 : (1 : Int) ≤ 2 ^ n := by have := Nat.pow_pos (n := n) (show 0 < 2 by omega); exact_mod_cast this
  have b0 : (1 : Int) ≤ 2 ^ (32 - n) := by have := Nat.pow_pos (n := 32 - n) (show 0 < 2 by omega); exact_mod_cast this
  have a1 : (2 : Int) ^ n < 4294967296 := by have := pow_small n h1; omega
  have b1 : (2 : Int) ^ (32 - n) < 4294967296 := by have := pow_small (32 - n) (by omega); omega
  revert P1 P2 a0 a1 b0 b1
  generalize (2 : Int) ^ n = a
  generalize (2 : Int) ^ (32 - n) = b
  intro P1 P2 a0 b0 a1 b1
  have q1 : IntKind.u32.wrap (x.tdiv a) = x / a := IntWalk.u32_quo _ _ (by omega)
  have q2 : x.tmod a = x % a := Int.tmod_eq_emod_of_nonneg hx0
  have qz : ¬ a = 0 := by omega
  have qw : IntKind.i64.wrap (32 - (n : Int)) = 32 - (n : Int) := IntWalk.i64_in _ (by omega)
  go_enter Tryd.func119, Tryd.ntmps119
  go_wp2
  refine wp_region_noPanic ?_
  refine wp_region_held_drew (S := fun _ => True) (by kernel_rfl) trivial (fun hHeld => ?_)
  refine take_op (i := 0) (v := ?v0) rfl (by kernel_rfl) (by kernel_rfl) (by kernel_rfl) (fun _ _ _ h => h) rfl hHeld ?y0 ?r0
  case y0 => (intro wz hz; go_simp; first | done | with_reducible rfl)
  try simp only [Act.put, List.setIfInBounds_toArray, List.set_cons_zero, List.set_cons_succ]
  refine take_op (i := 1) (v := ?v1) rfl (by kernel_rfl) (by kernel_rfl) (by kernel_rfl) (fun _ _ _ h => h) rfl hHeld ?y1 ?r1
  case y1 => (intro wz hz; go_simp; first | done | with_reducible rfl)
  try simp only [Act.put, List.setIfInBounds_toArray, List.set_cons_zero, List.set_cons_succ]
  refine take_op (i := 4) (v := ?v4) rfl (by kernel_rfl) (by kernel_rfl) (by kernel_rfl) (fun _ _ _ h => h) rfl hHeld ?y4 ?r4
  case y4 => (intro wz hz; go_simp; first | done | with_reducible rfl)
  try simp only [Act.put, List.setIfInBounds_toArray, List.set_cons_zero, List.set_cons_succ]
  refine take_op (i := 5) (v := ?v5) rfl (by kernel_rfl) (by kernel_rfl) (by kernel_rfl) (fun _ _ _ h => h) rfl hHeld ?y5 ?r5
  case y5 => (intro wz hz; go_simp; first | done | with_reducible rfl)
  try simp only [Act.put, List.setIfInBounds_toArray, List.set_cons_zero, List.set_cons_succ]
  refine take_op (i := 8) (v := ?v8) rfl (by kernel_rfl) (by kernel_rfl) (by kernel_rfl) (fun _ _ _ h => h) rfl hHeld ?y8 ?r8
  case y8 => (intro wz hz; go_simp; first | done | with_reducible rfl)
  try simp only [Act.put, List.setIfInBounds_toArray, List.set_cons_zero, List.set_cons_succ]
  refine take_op (i := 9) (v := ?v9) rfl (by kernel_rfl) (by kernel_rfl) (by kernel_rfl) (fun _ _ _ h => h) rfl hHeld ?y9 ?r9
  case y9 => (intro wz hz; go_simp; first | done | with_reducible rfl)
  try simp only [Act.put, List.setIfInBounds_toArray, List.set_cons_zero, List.set_cons_succ]
  refine take_one (i := 2) rfl (by kernel_rfl) rfl (fun K hK => ?_)
  go_simp
  refine (P1 _).mono ?_
  rintro e w' ⟨rfl, hww⟩
  obtain rfl := hww.symm
  clear hww
  refine hK.out _ _ trivial (fun hHeld => ?_)
  clear hK K
  try simp only [Act.put, List.setIfInBounds_toArray, List.set_cons_zero, List.set_cons_succ]
  refine take_op (i := 3) (v := ?v3) rfl (by kernel_rfl) (by kernel_rfl) (by kernel_rfl) (fun _ _ _ h => h) rfl hHeld ?y3 ?r3
  case y3 => (intro wz hz; go_simp; first | done | with_reducible rfl)
  try simp only [Act.put, List.setIfInBounds_toArray, List.set_cons_zero, List.set_cons_succ]
  refine take_one (i := 6) rfl (by kernel_rfl) rfl (fun K hK => ?_)
  go_simp
  refine (P1 _).mono ?_
  rintro e w' ⟨rfl, hww⟩
  obtain rfl := hww.symm
  clear hww
  refine hK.out _ _ trivial (fun hHeld => ?_)
  clear hK K
  try simp only [Act.put, List.setIfInBounds_toArray, List.set_cons_zero, List.set_cons_succ]
  refine take_op (i := 7) (v := ?v7) rfl (by kernel_rfl) (by kernel_rfl) (by kernel_rfl) (fun _ _ _ h => h) rfl hHeld ?y7 ?r7
  case y7 => (intro wz hz; go_simp; first | done | with_reducible rfl)
  try simp only [Act.put, List.setIfInBounds_toArray, List.set_cons_zero, List.set_cons_succ]
  refine take_one (i := 10) rfl (by kernel_rfl) rfl (fun K hK => ?_)
  go_simp
  refine (P2 _).mono ?_
  rintro e w' ⟨rfl, hww⟩
  obtain rfl := hww.symm
  clear hww
  refine hK.out _ _ trivial (fun hHeld => ?_)
  clear hK K
  try simp only [Act.put, List.setIfInBounds_toArray, List.set_cons_zero, List.set_cons_succ]
  refine take_op (i := 11) (v := ?v11) rfl (by kernel_rfl) (by kernel_rfl) (by kernel_rfl) (fun _ _ _ h => h) rfl hHeld ?y11 ?r11
  case y11 => (intro wz hz; go_simp; first | done | with_reducible rfl)
  try simp only [Act.put, List.setIfInBounds_toArray, List.set_cons_zero, List.set_cons_succ]
  refine take_op (i := 12) (v := ?v12) rfl (by kernel_rfl) (by kernel_rfl) (by kernel_rfl) (fun _ _ _ h => h) rfl hHeld ?y12 ?r12
  case y12 => (intro wz hz; go_simp; first | done | with_reducible rfl)
  try simp only [Act.put, List.setIfInBounds_toArray, List.set_cons_zero, List.set_cons_succ]
  refine take_op (i := 13) (v := ?v13) rfl (by kernel_rfl) (by kernel_rfl) (by kernel_rfl) (fun _ _ _ h => h) rfl hHeld ?y13 ?r13
  case y13 => (intro wz hz; go_simp; first | done | with_reducible rfl)
  try simp only [Act.put, List.setIfInBounds_toArray, List.set_cons_zero, List.set_cons_succ]
  refine wpAnyH_done (by kernel_rfl) ?_ _
  refine NoPanic.normal ?_
  clear hHeld
  go_wp2
  go_ret
  exact ⟨rfl, rfl⟩

theorem rot_turn (x : Int) (hx0 : 0 ≤ x) (hx1 : x < 4294967296) (n : Nat) (h0 : 0 < n) (h1 : n < 32) : turnR x n = rotI x n := by
  obtain ⟨X, rfl⟩ := Int.eq_ofNat_of_zero_le hx0
  have hM : (4294967296 : Nat) = 2 ^ n * 2 ^ (32 - n) := by rw [← Nat.pow_add, show n + (32 - n) = 32 by omega]
  have hX : X < 4294967296 := by omega
  have hpn : 0 < 2 ^ n := Nat.pow_pos (by omega)
  have hpm : 0 < 2 ^ (32 - n) := Nat.pow_pos (by omega)
  have hmul : X * 2 ^ (32 - n) % 4294967296 = X % 2 ^ n * 2 ^ (32 - n) := by rw [hM, Nat.mul_mod_mul_right]
  have hlow : X / 2 ^ n < 2 ^ (32 - n) := by rw [Nat.div_lt_iff_lt_mul hpn, Nat.mul_comm, ← hM]; exact hX
  have hhigh : X % 2 ^ n * 2 ^ (32 - n) ≤ (2 ^ n - 1) * 2 ^ (32 - n) := Nat.mul_le_mul_right _ (by have := Nat.mod_lt X hpn; omega)
  have hsub : (2 ^ n - 1) * 2 ^ (32 - n) + 2 ^ (32 - n) = 4294967296 := by rw [hM, Nat.sub_mul, Nat.one_mul]; have : 2 ^ (32 - n) ≤ 2 ^ n * 2 ^ (32 - n) := Nat.le_mul_of_pos_left _ hpn; omega
  have e1 : rotI (X : Int) n = ((X % 2 ^ n * 2 ^ (32 - n) + X / 2 ^ n : Nat) : Int) := by
    unfold rotI
    have c1 : (X : Int) * 2 ^ (32 - n) % 4294967296 = ((X * 2 ^ (32 - n) % 4294967296 : Nat) : Int) := by rw [Int.natCast_emod, Int.natCast_mul, Int.natCast_pow]; rfl
    have c2 : (X : Int) / 2 ^ n = ((X / 2 ^ n : Nat) : Int) := by push_cast; rfl
    rw [c1, c2, hmul, u32_or_nat _ _ (by omega) (by omega), nat_join (32 - n) _ _ (Nat.mul_mod_left _ _) hlow]
  have e2 : turnR (X : Int) n = ((X % 2 ^ n * 2 ^ (32 - n) + X / 2 ^ n : Nat) : Int) := by
    unfold turnR
    have c1 : (X : Int) % 2 ^ n * 2 ^ (32 - n) = ((X % 2 ^ n * 2 ^ (32 - n) : Nat) : Int) := by push_cast; rfl
    have c2 : (X : Int) / 2 ^ n = ((X / 2 ^ n : Nat) : Int) := by push_cast; rfl
    rw [c1, c2]
    generalize X % 2 ^ n * 2 ^ (32 - n) = A at *
    generalize X / 2 ^ n = B at *
    generalize (2 ^ n - 1) * 2 ^ (32 - n) = C at *
    generalize 2 ^ (32 - n) = D at *
    omega
  rw [e1, e2]
theorem rturn_any (x : Int) (n : Int) (hx0 : 0 ≤ x) (hx1 : x < 4294967296) (h0 : 0 < n) (h1 : n < 32) (w : World) :
    Calls Tryd.prog 119 #[.int .u32 x, .int .i64 n] w fun e w' => e = .returned (.int .u32 (rotI x n.toNat)) ∧ w' = w.drew := by
  obtain ⟨m, rfl⟩ := Int.eq_ofNat_of_zero_le (show 0 ≤ n by omega)
  rw [Int.toNat_natCast, ← rot_turn x hx0 hx1 m (by omega) (by omega)]
  exact rturn_nat x hx0 hx1 m (by omega) (by omega) w
set_option maxHeartbeats 1000000 in
theorem three_any (a b c : Int) (w : World) :
    Calls Tryd.prog 118 #[.int .u32 a, .int .u32 b, .int .u32 c] w fun e w' => e = .returned (.int .u32 (bits .xor .u32 (bits .xor .u32 a b) c)) ∧ w' = w := by
  go_enter Tryd.func118, Tryd.ntmps118
  go_wp2
  go_ret
  exact ⟨rfl, rfl⟩
set_option maxHeartbeats 2000000 in
set_option maxRecDepth 100000 in
theorem constants_any (w : World) :
    Calls Tryd.prog 117 #[] w fun e w' => e = .returned (.slice (some ⟨w.heap.size, 0, none⟩) 64 64) ∧ w' = w.alloc (.cells (rowV 64 fun i => .int .u32 (kAt i)) 152) := by
  have hk : ∀ c : Array Value, c = (rowV 64 fun i => .int .u32 (kAt i)) → w.alloc (.cells c 152) = w.alloc (.cells (rowV 64 fun i => .int .u32 (kAt i)) 152) := fun c h => by rw [h]
  have HK : Hid _ := hk
  clear hk
  go_enter Tryd.func117, Tryd.ntmps117
  go_wp2
  go_ret
  exact ⟨rfl, HK.out _ (by kernel_rfl)⟩
end Go.Proofs.YtgchnobifidjcaaDoor

namespace Go.Proofs.YtgchnobifidjcaaDoor
open Go.RowKit Go.Deep

/-- a word of bytes, byte by byte. -/
def hornerI (f : Nat → Int) (k : Nat) : Nat → Int
  | 0 => 0
  | j + 1 => (256 * hornerI f k j % 4294967296 + f (4 * k + j) % 4294967296) % 4294967296
theorem or_add (i : Nat) (a b : Int) (ha0 : 0 ≤ a) (ha1 : a < 4294967296) (hb0 : 0 ≤ b) (hb1 : b < 2 ^ i) (hi : i < 32) (ham : a % 2 ^ i = 0) : bits .or .u32 a b = a + b := by
  obtain ⟨A, rfl⟩ := Int.eq_ofNat_of_zero_le ha0
  obtain ⟨B, rfl⟩ := Int.eq_ofNat_of_zero_le hb0
  have hB : B < 2 ^ i := by exact_mod_cast hb1
  have hp : 2 ^ i ≤ 2 ^ 31 := Nat.pow_le_pow_right (by omega) (by omega)
  have hA : A % 2 ^ i = 0 := by exact_mod_cast ham
  rw [u32_or_nat _ _ (by omega) (by omega), nat_join i A B hA hB]; rfl
theorem wFirst_horner (f : Nat → Int) (hf : ∀ i, 0 ≤ f i ∧ f i ≤ 255) (k : Nat) : wFirst f k = hornerI f k 4 := by
  have h0 := hf (4 * k)
  have h1 := hf (4 * k + 1)
  have h2 := hf (4 * k + 2)
  have h3 := hf (4 * k + 3)
  simp only [hornerI, wFirst, Nat.add_zero]
  generalize f (4 * k) = a at *
  generalize f (4 * k + 1) = b at *
  generalize f (4 * k + 2) = c at *
  generalize f (4 * k + 3) = d at *
  have e1 : a % 4294967296 * 16777216 % 4294967296 = a * 16777216 := by omega
  have e2 : b % 4294967296 * 65536 % 4294967296 = b * 65536 := by omega
  have e3 : c % 4294967296 * 256 % 4294967296 = c * 256 := by omega
  have e4 : d % 4294967296 = d := by omega
  have o1 : bits .or .u32 (a * 16777216) (b * 65536) = a * 16777216 + b * 65536 := or_add 24 _ _ (by omega) (by omega) (by omega) (by omega) (by omega) (by omega)
  have o2 : bits .or .u32 (a * 16777216 + b * 65536) (c * 256) = a * 16777216 + b * 65536 + c * 256 := or_add 16 _ _ (by omega) (by omega) (by omega) (by omega) (by omega) (by omega)
  have o3 : bits .or .u32 (a * 16777216 + b * 65536 + c * 256) d = a * 16777216 + b * 65536 + c * 256 + d := or_add 8 _ _ (by omega) (by omega) (by omega) (by omega) (by omega) (by omega)
  rw [e1, e2, e3, e4, o1, o2, o3]
  omega

theorem sched_cell {w : World} {g : Nat} (f : Nat → Int) (k i : Nat) (hi : i < k) (h : ∀ j u, ((wTo f k).map (Value.int .u32))[j]? = some u → w.cell? ⟨g, j, none⟩ = some u) : w.cell? ⟨g, i, none⟩ = some (.int .u32 (wAt f k i)) := by
  refine h i _ ?_
  have hl := wTo_length f k
  rw [List.getElem?_map, List.getElem?_eq_getElem (by omega), wAt, List.getD_eq_getElem?_getD, List.getElem?_eq_getElem (by omega)]; rfl
theorem bits_range (op : BinOp) (x y : Int) : 0 ≤ bits op .u32 x y ∧ bits op .u32 x y < 4294967296 := by
  unfold bits
  simp only [IntKind.wrap_u32']
  omega
theorem wFirst_range (f : Nat → Int) (k : Nat) : 0 ≤ wFirst f k ∧ wFirst f k < 4294967296 := bits_range _ _ _
theorem wAt_range (f : Nat → Int) : ∀ k j, 0 ≤ wAt f k j ∧ wAt f k j < 4294967296
  | 0, j => by rw [wAt_zero]; omega
  | k + 1, j => by
    rw [wAt_succ]
    by_cases h : j = k
    · rw [if_pos h]
      by_cases h2 : k < 16
      · rw [if_pos h2]; exact wFirst_range f k
      · rw [if_neg h2, wNext_at]; omega
    · rw [if_neg h]; exact wAt_range f k j
theorem one_cellW (w : World) (x : Value) (j : Nat) (u : Value) (hu : ([x] : List Value)[j]? = some u) : (w.alloc (.cells #[x] 152)).cell? ⟨w.heap.size, 0 + j, none⟩ = some u := by
  have hb : (w.alloc (.cells #[x] 152)).heap[w.heap.size]? = some (.cells #[x] 152) := blk_alloc_new _ _
  rw [cell_of_row _ _ _ _ _ _ hb, Nat.zero_add]
  simpa using hu
set_option maxHeartbeats 2000000 in
set_option maxRecDepth 100000 in
theorem sched_any (f : Nat → Int) (hf : ∀ i, 0 ≤ f i ∧ f i ≤ 255) (sb so cap : Nat) (w : World) (hsb : sb < w.heap.size) (hc : ∀ i, i < 64 → w.cell? ⟨sb, so + i, none⟩ = some (.int .u8 (f i))) :
    Calls Tryd.prog 116 #[.slice (some ⟨sb, so, none⟩) 64 cap] w fun e w' => ∃ v, e = .returned v ∧ owns w' w.heap.size 152 v ((wTo f 64).map (Value.int .u32)) ∧ Below w.heap.size w w' := by
  have hiW : (Tryd.prog.info? 152).map (fun i => (i.zero, i.size, i.bytes)) = some (some (.int .u32 0), 1, 4) := by kernel_rfl
  go_enter Tryd.func116, Tryd.ntmps116
  go_wp2
  go_loopw [3, 4] (fun v i wr => ∃ k : Nat, k ≤ 16 ∧ i = .int .i64 k ∧ owns wr w.heap.size 152 v ((wTo f k).map (Value.int .u32)) ∧ Below w.heap.size w wr) (fun _ i _ => 16 - (intOf i).toNat)
  case atStart => exact ⟨0, by omega, rfl, owns_nil _ _ _, Below.refl _ _⟩
  case round =>
    obtain ⟨k, hk, rfl, ho, hb⟩ := hrel
    by_cases hlt : k < 16
    · go_wp2
      go_loopw [5, 6] (fun x i wq => ∃ j : Nat, j ≤ 4 ∧ i = .int .i64 j ∧ x = .int .u32 (hornerI f k j) ∧ wq = wr) (fun _ i _ => 4 - (intOf i).toNat)
      case atStart => exact ⟨0, by omega, rfl, rfl, rfl⟩
      case round =>
        obtain ⟨j, hj, rfl, rfl, rfl⟩ := hrel
        by_cases hltj : j < 4
        · have b0 : (0 : Int) ≤ 4 * (k : Int) + (j : Int) := by omega
          have b1 : 4 * (k : Int) + (j : Int) < 64 := by omega
          have c0 := hc (4 * k + j) (by omega)
          rw [← hb.cell (p := ⟨sb, so + (4 * k + j), none⟩) hsb] at c0
          go_wp2
          go_light
          exact ⟨⟨j + 1, by omega, by go_num, rfl, trivial⟩, by simp [intOf]; omega⟩
        · obtain rfl : j = 4 := by omega
          have hw1 := wFirst_horner f hf k
          have hlk : ((wTo f k).map (Value.int .u32)).length = k := by rw [List.length_map, wTo_length]
          obtain ⟨g, cp, w2, hr, ho2, hg2, hat, hlt2⟩ := run_append (P := Tryd.prog) (wr.alloc (.cells #[.int .u32 (hornerI f k 4)] 152)) 153 153 w.heap.size 152 (.int .u32 0) 4 Tryd.underlying153 hiW rfl u3 _ (ho.alloc _) wr.heap.size 0 1 1 [.int .u32 (hornerI f k 4)] rfl (fun j u hu => one_cellW wr _ j u hu) (fun u hu => by rw [List.mem_singleton.1 hu]; rfl) (by omega) (by rw [hlk]; unfold maxLen; omega) (by rw [hlk]; omega) (by have := hb.size; simp; omega)
          have hB2 : Below w.heap.size w w2 := (hb.alloc hb.size _).grown hg2 (by have := hb.size; simp; omega) (fun j hj => (ho.block j hj).1)
          rw [hlk] at hr ho2
          have HW : Hid _ := hw1
          have HO : Hid _ := ho2
          clear hw1 ho2 hlk hat hlt2 hg2
          go_wp2_with (first | (at_builtin; refine wpList_append_run rfl _ _ _ rfl rfl rfl hr ?_))
          clear hr ho
          go_wp2
          go_roundw
          case rel => exact ⟨k + 1, by omega, by go_num, by rw [wTo, if_pos hlt, HW.out, List.map_append]; exact HO.out, hB2⟩
          case measure => simp [intOf]; omega
    · obtain rfl : k = 16 := by omega
      clear hlt hk
      go_wp2
      simp only [show ((16 : Nat) : Int) = 16 from rfl]
      go_loopw [3, 7] (fun v i wr => ∃ k : Nat, 16 ≤ k ∧ k ≤ 64 ∧ i = .int .i64 k ∧ owns wr w.heap.size 152 v ((wTo f k).map (Value.int .u32)) ∧ Below w.heap.size w wr) (fun _ i _ => 64 - (intOf i).toNat)
      case atStart => exact ⟨16, by omega, by omega, rfl, ho, hb⟩
      case round =>
        clear ho hb
        obtain ⟨k, hk0, hk, rfl, ho, hb⟩ := hrel
        have hlk : ((wTo f k).map (Value.int .u32)).length = k := by rw [List.length_map, wTo_length]
        obtain ⟨g, cp, hv, hg0, hg1, hc1, hm1, hcell, hfz⟩ := ho.shape (by rw [hlk]; omega)
        rw [hlk] at hv hc1
        subst hv
        unfold maxLen at hm1
        by_cases hlt : k < 64
        · have d0 := sched_cell f k (k - 15) (by omega) hcell
          have d1 := sched_cell f k (k - 2) (by omega) hcell
          have d2 := sched_cell f k (k - 16) (by omega) hcell
          have d3 := sched_cell f k (k - 7) (by omega) hcell
          have n0 := wAt_range f k (k - 15)
          have n1 := wAt_range f k (k - 2)
          have g0 : (15 : Int) ≤ (k : Int) := by omega
          have g1 : (2 : Int) ≤ (k : Int) := by omega
          have g2 : (16 : Int) ≤ (k : Int) := by omega
          have g3 : (7 : Int) ≤ (k : Int) := by omega
          have g4 : (k : Int) < 64 := by omega
          have HN : Hid _ := wNext_at f k
          have e0 : (0 : Int) ≤ wAt f k (k - 15) ∧ wAt f k (k - 15) < 4294967296 := n0
          clear hcell hfz
          go_wp2
          go_quiet (fail)
          go_wp2_with fail
          refine (rturn_any _ _ n0.1 n0.2 (by decide) (by decide) _).mono ?_
          rintro e wa ⟨rfl, rfl⟩
          go_wp2_with fail
          refine (rturn_any _ _ n0.1 n0.2 (by decide) (by decide) _).mono ?_
          rintro e wa ⟨rfl, rfl⟩
          go_wp2_with fail
          refine (three_any _ _ _ _).mono ?_
          rintro e wa ⟨rfl, rfl⟩
          go_wp2_with fail
          refine (rturn_any _ _ n1.1 n1.2 (by decide) (by decide) _).mono ?_
          rintro e wa ⟨rfl, rfl⟩
          go_wp2_with fail
          refine (rturn_any _ _ n1.1 n1.2 (by decide) (by decide) _).mono ?_
          rintro e wa ⟨rfl, rfl⟩
          go_wp2_with fail
          refine (three_any _ _ _ _).mono ?_
          rintro e wa ⟨rfl, rfl⟩
          simp only [show (7 : Int).toNat = 7 from rfl, show (18 : Int).toNat = 18 from rfl, show (17 : Int).toNat = 17 from rfl, show (19 : Int).toNat = 19 from rfl]
          go_wp2_with fail
          have ho' : owns (wr.drewN (nq + 1 + 1 + 1 + 1)).drew w.heap.size 152 (.slice (some ⟨g, 0, none⟩) k cp) ((wTo f k).map (Value.int .u32)) := ho
          have hb' : Below w.heap.size w (wr.drewN (nq + 1 + 1 + 1 + 1)).drew := (hb.drewN _).drew
          have d2' : (wr.drewN (nq + 1 + 1 + 1 + 1)).drew.cell? ⟨g, k - 16, none⟩ = some (.int .u32 (wAt f k (k - 16))) := d2
          have d3' : (wr.drewN (nq + 1 + 1 + 1 + 1)).drew.cell? ⟨g, k - 7, none⟩ = some (.int .u32 (wAt f k (k - 7))) := d3
          have i16 : IntKind.i64.wrap ((k : Int) - 16) = (k : Int) - 16 := IntWalk.i64_in _ (by omega)
          have i7 : IntKind.i64.wrap ((k : Int) - 7) = (k : Int) - 7 := IntWalk.i64_in _ (by omega)
          have l16 : (k : Int) - 16 < (k : Int) := by omega
          have l7 : (k : Int) - 7 < (k : Int) := by omega
          have t16 : ((k : Int) - 16).toNat = k - 16 := by omega
          have t7 : ((k : Int) - 7).toNat = k - 7 := by omega
          have hX : IntKind.u32.wrap (IntKind.u32.wrap (IntKind.u32.wrap (wAt f k (k - 16) + bits .xor .u32 (bits .xor .u32 (rotI (wAt f k (k - 15)) 7) (rotI (wAt f k (k - 15)) 18)) (wAt f k (k - 15) / 8)) + wAt f k (k - 7)) + bits .xor .u32 (bits .xor .u32 (rotI (wAt f k (k - 2)) 17) (rotI (wAt f k (k - 2)) 19)) (wAt f k (k - 2) / 1024)) = wNext (wTo f k) k := by
            rw [HN.out]; simp only [IntKind.wrap_u32']
          have HX : Hid _ := hX
          clear hX HN
          clear d0 d1 d2 d3 ho hb
          refine wp_region_noPanic ?_
          refine wp_region_held_drew (S := fun _ => True) (by kernel_rfl) trivial (fun hHeld => ?_)
          generalize (wr.drewN (nq + 1 + 1 + 1 + 1)).drew = wy at *
          obtain ⟨g', cp', w2, hr, ho2, hg2, hat, hlt2⟩ := run_append (P := Tryd.prog) (wy.alloc (.cells #[.int .u32 (wNext (wTo f k) k)] 152)) 153 153 w.heap.size 152 (.int .u32 0) 4 Tryd.underlying153 hiW rfl _ _ (ho'.alloc _) wy.heap.size 0 1 1 [.int .u32 (wNext (wTo f k) k)] rfl (fun j u hu => one_cellW wy _ j u hu) (fun u hu => by rw [List.mem_singleton.1 hu]; rfl) (by omega) (by rw [hlk]; unfold maxLen; omega) (by rw [hlk]; omega) (by have := hb'.size; simp; omega)
          have hB2 : Below w.heap.size w w2 := (hb'.alloc hb'.size _).grown hg2 (by have := hb'.size; simp; omega) (fun j hj => (ho'.block j hj).1)
          rw [hlk] at hr ho2
          have HO : Hid _ := ho2
          have HB : Hid _ := hB2
          clear ho2 hB2 hat hlt2 hg2 ho' hb'
          refine take_op (i := 0) (v := ?v0) rfl (by kernel_rfl) (by kernel_rfl) (by kernel_rfl) (fun _ _ _ h => h) rfl hHeld ?y0 ?r0
          case y0 => (intro wz hz; go_simp; first | done | with_reducible rfl)
          try simp only [Act.put, List.setIfInBounds_toArray, List.set_cons_zero, List.set_cons_succ]
          refine take_op (i := 1) (v := ?v1) rfl (by kernel_rfl) (by kernel_rfl) (by kernel_rfl) (fun _ _ _ h => h) rfl hHeld ?y1 ?r1
          case y1 => (intro wz hz; go_simp; first | done | with_reducible rfl)
          try simp only [Act.put, List.setIfInBounds_toArray, List.set_cons_zero, List.set_cons_succ]
          refine take_op (i := 2) (v := ?v2) rfl (by kernel_rfl) (by kernel_rfl) (by kernel_rfl) (fun _ _ _ h => h) rfl hHeld ?y2 ?r2
          case y2 => (intro wz hz; go_simp; first | done | with_reducible rfl)
          try simp only [Act.put, List.setIfInBounds_toArray, List.set_cons_zero, List.set_cons_succ]
          refine take_op (i := 3) (v := ?v3) rfl (by kernel_rfl) (by kernel_rfl) (by kernel_rfl) (fun _ _ _ h => h) rfl hHeld ?y3 ?r3
          case y3 => (intro wz hz; go_simp; first | done | with_reducible rfl)
          try simp only [Act.put, List.setIfInBounds_toArray, List.set_cons_zero, List.set_cons_succ]
          refine take_op (i := 4) (v := ?v4) rfl (by kernel_rfl) (by kernel_rfl) (by kernel_rfl) (fun _ _ _ h => h) rfl hHeld ?y4 ?r4
          case y4 => (intro wz hz; go_simp; first | done | with_reducible rfl)
          try simp only [Act.put, List.setIfInBounds_toArray, List.set_cons_zero, List.set_cons_succ]
          refine take_op (i := 6) (v := ?v6) rfl (by kernel_rfl) (by kernel_rfl) (by kernel_rfl) (fun _ _ _ h => h) rfl hHeld ?y6 ?r6
          case y6 => (intro wz hz; go_simp; first | done | with_reducible rfl)
          try simp only [Act.put, List.setIfInBounds_toArray, List.set_cons_zero, List.set_cons_succ]
          refine take_op (i := 8) (v := ?v8) rfl (by kernel_rfl) (by kernel_rfl) (by kernel_rfl) (fun _ _ _ h => h) rfl hHeld ?y8 ?r8
          case y8 => (intro wz hz; go_simp; first | done | with_reducible rfl)
          try simp only [Act.put, List.setIfInBounds_toArray, List.set_cons_zero, List.set_cons_succ]
          refine take_op (i := 9) (v := ?v9) rfl (by kernel_rfl) (by kernel_rfl) (by kernel_rfl) (fun _ _ _ h => h) rfl hHeld ?y9 ?r9
          case y9 => (intro wz hz; go_simp; first | done | with_reducible rfl)
          try simp only [Act.put, List.setIfInBounds_toArray, List.set_cons_zero, List.set_cons_succ]
          refine take_op (i := 10) (v := ?v10) rfl (by kernel_rfl) (by kernel_rfl) (by kernel_rfl) (fun _ _ _ h => h) rfl hHeld ?y10 ?r10
          case y10 => (intro wz hz; go_simp; first | done | with_reducible rfl)
          try simp only [Act.put, List.setIfInBounds_toArray, List.set_cons_zero, List.set_cons_succ]
          refine take_op (i := 11) (v := ?v11) rfl (by kernel_rfl) (by kernel_rfl) (by kernel_rfl) (fun _ _ _ h => h) rfl hHeld ?y11 ?r11
          case y11 => (intro wz hz; go_simp; first | done | with_reducible rfl)
          try simp only [Act.put, List.setIfInBounds_toArray, List.set_cons_zero, List.set_cons_succ]
          refine take_op (i := 14) (v := ?v14) rfl (by kernel_rfl) (by kernel_rfl) (by kernel_rfl) (fun _ _ _ h => h) rfl hHeld ?y14 ?r14
          case y14 => (intro wz hz; go_simp; first | done | with_reducible rfl)
          try simp only [Act.put, List.setIfInBounds_toArray, List.set_cons_zero, List.set_cons_succ]
          refine take_two (i := 5) (j := 12) (u := ?vu) (v := ?vv) rfl rfl (by kernel_rfl) rfl rfl trivial ?yu ?yv ?ru ?rv
          case yu => (go_simp; first | done | with_reducible rfl)
          case yv => (go_simp; first | done | with_reducible rfl)
          case ru =>
            try simp only [Act.put, List.setIfInBounds_toArray, List.set_cons_zero, List.set_cons_succ]
            refine take_op (i := 7) (v := ?va7) rfl (by kernel_rfl) (by kernel_rfl) (by kernel_rfl) (fun _ _ _ h => h) rfl hHeld ?ya7 ?ra7
            case ya7 => (intro wz hz; go_simp; first | done | with_reducible rfl)
            try simp only [Act.put, List.setIfInBounds_toArray, List.set_cons_zero, List.set_cons_succ]
            refine take_run (i := 12) (v := ?va12) (w' := wy) rfl (by kernel_rfl) rfl ?ya12 trivial ?ra12
            case ya12 => (go_simp; first | done | with_reducible rfl)
            try simp only [Act.put, List.setIfInBounds_toArray, List.set_cons_zero, List.set_cons_succ]
            refine take_op (i := 13) (v := ?va13) rfl (by kernel_rfl) (by kernel_rfl) (by kernel_rfl) (fun _ _ _ h => h) rfl hHeld ?ya13 ?ra13
            case ya13 => (intro wz hz; go_simp; first | done | with_reducible rfl)
            try simp only [Act.put, List.setIfInBounds_toArray, List.set_cons_zero, List.set_cons_succ]
            refine take_op (i := 15) (v := ?va15) rfl (by kernel_rfl) (by kernel_rfl) (by kernel_rfl) (fun _ _ _ h => h) rfl hHeld ?ya15 ?ra15
            case ya15 => (intro wz hz; go_simp; first | done | with_reducible rfl)
            try simp only [Act.put, List.setIfInBounds_toArray, List.set_cons_zero, List.set_cons_succ]
            refine take_one (i := 16) rfl (by kernel_rfl) rfl (fun K hK => ?_)
            go_simp
            refine hK.out _ _ trivial (fun hHeld => ?_)
            clear hK K
            try simp only [Act.put, List.setIfInBounds_toArray, List.set_cons_zero, List.set_cons_succ]
            rw [HX.out]
            refine take_one (i := 17) rfl (by kernel_rfl) rfl (fun K hK => ?_)
            refine wp_append_run _ _ _ rfl rfl rfl hr ?_
            refine hK.out _ _ trivial (fun hHeld => ?_)
            clear hK K hr d2' d3'
            try simp only [Act.put, List.setIfInBounds_toArray, List.set_cons_zero, List.set_cons_succ]
            refine take_op (i := 18) (v := ?va18) rfl (by kernel_rfl) (by kernel_rfl) (by kernel_rfl) (fun _ _ _ h => h) rfl hHeld ?ya18 ?ra18
            case ya18 => (intro wz hz; go_simp; first | done | with_reducible rfl)
            try simp only [Act.put, List.setIfInBounds_toArray, List.set_cons_zero, List.set_cons_succ]
            refine wpAnyH_done (by kernel_rfl) ?_ _
            refine NoPanic.normal ?_
            clear hHeld
            go_wp2
            go_light
            exact ⟨⟨k + 1, by omega, by omega, by go_num, by rw [wTo, if_neg (by omega), List.map_append]; exact HO.out, HB.out⟩, by simp [intOf]; omega⟩
          case rv =>
            try simp only [Act.put, List.setIfInBounds_toArray, List.set_cons_zero, List.set_cons_succ]
            refine take_run (i := 5) (v := ?vb5) (w' := wy) rfl (by kernel_rfl) rfl ?yb5 trivial ?rb5
            case yb5 => (go_simp; first | done | with_reducible rfl)
            try simp only [Act.put, List.setIfInBounds_toArray, List.set_cons_zero, List.set_cons_succ]
            refine take_op (i := 7) (v := ?vb7) rfl (by kernel_rfl) (by kernel_rfl) (by kernel_rfl) (fun _ _ _ h => h) rfl hHeld ?yb7 ?rb7
            case yb7 => (intro wz hz; go_simp; first | done | with_reducible rfl)
            try simp only [Act.put, List.setIfInBounds_toArray, List.set_cons_zero, List.set_cons_succ]
            refine take_op (i := 13) (v := ?vb13) rfl (by kernel_rfl) (by kernel_rfl) (by kernel_rfl) (fun _ _ _ h => h) rfl hHeld ?yb13 ?rb13
            case yb13 => (intro wz hz; go_simp; first | done | with_reducible rfl)
            try simp only [Act.put, List.setIfInBounds_toArray, List.set_cons_zero, List.set_cons_succ]
            refine take_op (i := 15) (v := ?vb15) rfl (by kernel_rfl) (by kernel_rfl) (by kernel_rfl) (fun _ _ _ h => h) rfl hHeld ?yb15 ?rb15
            case yb15 => (intro wz hz; go_simp; first | done | with_reducible rfl)
            try simp only [Act.put, List.setIfInBounds_toArray, List.set_cons_zero, List.set_cons_succ]
            refine take_one (i := 16) rfl (by kernel_rfl) rfl (fun K hK => ?_)
            go_simp
            refine hK.out _ _ trivial (fun hHeld => ?_)
            clear hK K
            try simp only [Act.put, List.setIfInBounds_toArray, List.set_cons_zero, List.set_cons_succ]
            rw [HX.out]
            refine take_one (i := 17) rfl (by kernel_rfl) rfl (fun K hK => ?_)
            refine wp_append_run _ _ _ rfl rfl rfl hr ?_
            refine hK.out _ _ trivial (fun hHeld => ?_)
            clear hK K hr d2' d3'
            try simp only [Act.put, List.setIfInBounds_toArray, List.set_cons_zero, List.set_cons_succ]
            refine take_op (i := 18) (v := ?vb18) rfl (by kernel_rfl) (by kernel_rfl) (by kernel_rfl) (fun _ _ _ h => h) rfl hHeld ?yb18 ?rb18
            case yb18 => (intro wz hz; go_simp; first | done | with_reducible rfl)
            try simp only [Act.put, List.setIfInBounds_toArray, List.set_cons_zero, List.set_cons_succ]
            refine wpAnyH_done (by kernel_rfl) ?_ _
            refine NoPanic.normal ?_
            clear hHeld
            go_wp2
            go_light
            exact ⟨⟨k + 1, by omega, by omega, by go_num, by rw [wTo, if_neg (by omega), List.map_append]; exact HO.out, HB.out⟩, by simp [intOf]; omega⟩
        · obtain rfl : k = 64 := by omega
          clear hcell hfz
          go_wp2
          go_ret
          exact ⟨_, rfl, ho, hb⟩
end Go.Proofs.YtgchnobifidjcaaDoor

/- The document's Ch and Maj are the program's. Plain mathematics. -/
namespace Go.Proofs.YtgchnobifidjcaaDoor
set_option linter.unusedSimpArgs false

def bv (x : Int) : BitVec 32 := BitVec.ofInt 32 x
theorem bits_bv_and (x y : Int) : bits .and .u32 x y = ((bv x &&& bv y).toNat : Int) := by
  show IntKind.u32.wrap ((BitVec.ofInt 32 x &&& BitVec.ofInt 32 y).toNat : Int) = _
  rw [IntKind.wrap_u32']
  have := (BitVec.ofInt 32 x &&& BitVec.ofInt 32 y).isLt
  unfold bv; omega
theorem bits_bv_or (x y : Int) : bits .or .u32 x y = ((bv x ||| bv y).toNat : Int) := by
  show IntKind.u32.wrap ((BitVec.ofInt 32 x ||| BitVec.ofInt 32 y).toNat : Int) = _
  rw [IntKind.wrap_u32']
  have := (BitVec.ofInt 32 x ||| BitVec.ofInt 32 y).isLt
  unfold bv; omega
theorem bits_bv_xor (x y : Int) : bits .xor .u32 x y = ((bv x ^^^ bv y).toNat : Int) := by
  show IntKind.u32.wrap ((BitVec.ofInt 32 x ^^^ BitVec.ofInt 32 y).toNat : Int) = _
  rw [IntKind.wrap_u32']
  have := (BitVec.ofInt 32 x ^^^ BitVec.ofInt 32 y).isLt
  unfold bv; omega
theorem bv_nat (a : BitVec 32) : bv (a.toNat : Int) = a := by unfold bv; simp
/-- e & f | (not e) & g. -/
theorem ch_same (e f g : Int) : bits .or .u32 (bits .and .u32 e f) (bits .and .u32 (bits .xor .u32 4294967295 e) g) = bits .xor .u32 (bits .and .u32 e f) (bits .and .u32 (notI e) g) := by
  have hn : notI e = bits .xor .u32 4294967295 e := rfl
  rw [hn]
  simp only [bits_bv_and, bits_bv_or, bits_bv_xor, bv_nat]
  congr 2
  have h1 : bv 4294967295 = BitVec.allOnes 32 := by decide
  rw [h1]
  generalize bv e = a
  generalize bv f = b
  generalize bv g = c
  apply BitVec.eq_of_getLsbD_eq
  intro i hi
  simp only [BitVec.getLsbD_or, BitVec.getLsbD_and, BitVec.getLsbD_xor, BitVec.getLsbD_allOnes, hi, decide_true]
  cases a.getLsbD i <;> cases b.getLsbD i <;> cases c.getLsbD i <;> rfl
/-- a & b | a & c | b & c. -/
theorem maj_same (x y z : Int) : bits .or .u32 (bits .or .u32 (bits .and .u32 x y) (bits .and .u32 x z)) (bits .and .u32 y z) = bits .xor .u32 (bits .xor .u32 (bits .and .u32 x y) (bits .and .u32 x z)) (bits .and .u32 y z) := by
  simp only [bits_bv_and, bits_bv_or, bits_bv_xor, bv_nat]
  congr 2
  generalize bv x = a
  generalize bv y = b
  generalize bv z = c
  apply BitVec.eq_of_getLsbD_eq
  intro i hi
  simp only [BitVec.getLsbD_or, BitVec.getLsbD_and, BitVec.getLsbD_xor]
  cases a.getLsbD i <;> cases b.getLsbD i <;> cases c.getLsbD i <;> rfl
/-- the document's round is the program's. -/
theorem rndT_doc (s : S8) (k w : Int) : ((((s.h + bits .xor .u32 (bits .xor .u32 (rotI s.e 6) (rotI s.e 11)) (rotI s.e 25)) % 4294967296 + bits .or .u32 (bits .and .u32 s.e s.f) (bits .and .u32 (bits .xor .u32 4294967295 s.e) s.g)) % 4294967296 + k) % 4294967296 + w) % 4294967296 = rndT s k w := by
  rw [ch_same, rndT]
  omega
theorem rndU_doc (s : S8) : (bits .xor .u32 (bits .xor .u32 (rotI s.a 2) (rotI s.a 13)) (rotI s.a 22) + bits .or .u32 (bits .or .u32 (bits .and .u32 s.a s.b) (bits .and .u32 s.a s.c)) (bits .and .u32 s.b s.c)) % 4294967296 = rndU s := by
  rw [maj_same, rndU]
end Go.Proofs.YtgchnobifidjcaaDoor
