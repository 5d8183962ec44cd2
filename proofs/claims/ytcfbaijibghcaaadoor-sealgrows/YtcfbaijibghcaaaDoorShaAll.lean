import Derived.Test.YtcfbaijibghcaaaDoorShaWrite
namespace Go.Proofs.YtcfbaijibghcaaaDoor
open Go.RowKit Go.Deep

theorem isBytes.at {w : World} {v : Value} {l : List Int} (h : isBytes w v l) {b : Nat} (hb : w.heap.size ≤ b) : bytesAt w b v l := by
  rcases h with h | ⟨pb, po, cap, h1, h2, h3, h4, h6, h7⟩
  · exact Or.inl h
  · exact Or.inr (Or.inl ⟨pb, po, cap, h1, h2, h3, h4, by omega, h6, h7⟩)
theorem anyBytes.at {w : World} {v : Value} {l : List Int} (h : anyBytes w v l) {b : Nat} (hb : w.heap.size ≤ b) : bytesAt w b v l := by
  rcases h with h | h
  · exact h.at hb
  · exact Or.inr (Or.inr h)
/-- the table of the rounds' constants lies in block 0. -/
def tabIs (w : World) : Prop := 0 < w.heap.size ∧ ∀ i, i < 64 → w.cell? ⟨0, i, none⟩ = some (.int .u32 (kAt i))
theorem tabIs.below {w w' : World} {B : Nat} (h : tabIs w) (hb : Below B w w') (hB : 0 < B) : tabIs w' := ⟨Nat.lt_of_lt_of_le h.1 hb.size, fun i hi => by rw [hb.cell (p := ⟨0, i, none⟩) hB]; exact h.2 i hi⟩
theorem tabIs.but {w w' : World} {B b : Nat} (h : tabIs w) (hb : But B b w w') (hB : 0 < B) (hb0 : b ≠ 0) : tabIs w' := ⟨Nat.lt_of_lt_of_le h.1 hb.size, fun i hi => by rw [hb.cell hB (Ne.symm hb0)]; exact h.2 i hi⟩

/-- Write, whatever the parts, if they lie below the hash's block, or elsewhere. -/
theorem write_parts (b : Nat) (l : List Int) (n : Nat) (v : Value) (ps : Nat → List Int) (w w0 : World) (h : hashAny w b l) (hp : isParts w0 v n ps) (hw : Below w0.heap.size w0 w) (hb : w0.heap.size ≤ b)
    (hbig : ∀ i, i ≤ n → l.length + (flatTo ps i).length < 1099511627776) (ht : tabIs w) (hb0 : b ≠ 0) :
    Calls Tryd.prog 37 #[.pointer (some ⟨b, 0, none⟩), v] w fun e w' => e = .returned (.tuple #[]) ∧ But w.heap.size b w w' ∧ hashOf w' b (l ++ flatTo ps n) := by
  rcases hp with ⟨rfl, rfl⟩ | ⟨qb, qo, cap, sv, rfl, h2, h3, h4⟩
  · refine (write_none b l w h).mono ?_
    rintro e w' ⟨rfl, h1, h2⟩
    exact ⟨rfl, h1, by rw [flatTo, List.append_nil]; exact h2⟩
  · refine write_any b l n qb qo cap sv ps w h (by omega) (Nat.lt_of_lt_of_le h2 hw.size) (fun i hi => by rw [hw.cell (p := ⟨qb, qo + i, none⟩) h2]; exact (h4 i hi).1) (fun i hi => ?_) hbig h3 ht.2 hb0
    rcases (h4 i hi).2 with (h | ⟨pb, po, cap, h1, h2, h3, h4, h6, h7⟩) | h
    · exact Or.inl h
    · exact Or.inr (Or.inl ⟨pb, po, cap, h1, h2, h3, Nat.lt_of_lt_of_le h4 hw.size, by omega, fun i hi => by rw [hw.cell (p := ⟨pb, po + i, none⟩) h4]; exact h6 i hi, h7⟩)
    · exact Or.inr (Or.inr h)

theorem hashAny_zero {w : World} {b : Nat} (h : hashIs w b (fun _ => 0) (fun _ => 0) 0) : hashAny w b [] :=
  ⟨_, _, h, fun h => by simp at h, fun _ => ⟨by omega, by omega⟩, fun i hi => by simp at hi⟩

set_option maxHeartbeats 1000000 in
set_option maxRecDepth 100000 in
/-- sha.Sum, OF ANY PARTS. -/
theorem shaSum_any (n : Nat) (v : Value) (ps : Nat → List Int) (w : World) (hp : isParts w v n ps) (hbig : ∀ i, i ≤ n → (flatTo ps i).length < 1099511627776) (ht : tabIs w) :
    Calls Tryd.prog 31 #[v] w fun e w' => e = .returned (.agg (rowV 32 fun i => .int .u8 (sumI (flatTo ps n) i))) ∧ Below w.heap.size w w' := by
  have hi32 : (Tryd.prog.info? 23).map (·.size) = some 32 := by kernel_rfl
  have r0 := rowIs_zero w (Array.replicate 32 (.int .u8 0)) 23 32 (.int .u8 0) rfl
  have hb0 : Below w.heap.size w (w.alloc (.cells (Array.replicate 32 (.int .u8 0)) 23)) := (Below.refl w.heap.size w).alloc (Nat.le_refl _) _
  have hs0 : (w.alloc (.cells (Array.replicate 32 (.int .u8 0)) 23)).heap.size = w.heap.size + 1 := by simp
  have ht0 := ht.1
  go_enter Tryd.func31, Tryd.ntmps31
  go_wp2_with fail
  refine (new_any _).mono ?_
  rintro e w1 ⟨rfl, hb1, hs1, hh1⟩
  change w1.heap.size = (w.alloc (.cells (Array.replicate 32 (.int .u8 0)) 23)).heap.size + 1 at hs1
  change Below (w.alloc (.cells (Array.replicate 32 (.int .u8 0)) 23)).heap.size (w.alloc (.cells (Array.replicate 32 (.int .u8 0)) 23)) w1 at hb1
  change hashIs w1 (w.alloc (.cells (Array.replicate 32 (.int .u8 0)) 23)).heap.size (fun _ => 0) (fun _ => 0) 0 at hh1
  rw [hs0] at hs1 hb1 hh1
  have hB1 : Below w.heap.size w w1 := hb0.trans (hb1.mono (by omega))
  have r1 : w1.rowIs w.heap.size 23 32 (fun _ => .int .u8 0) := hb1.row r0 (by omega)
  clear hb0 hb1 r0 hs0
  go_wp2_with fail
  refine (write_parts (w.heap.size + 1) [] n v ps w1 w (hashAny_zero hh1) hp hB1 (by omega) (fun i hi => by rw [List.length_nil, Nat.zero_add]; exact hbig i hi) (ht.below hB1 ht0) (by omega)).mono ?_
  rintro e w2 ⟨rfl, hb2, ho2⟩
  rw [List.nil_append] at ho2
  have hB2 : Below w.heap.size w w2 := hB1.trans ((hb2.mono (by omega)).below (by omega))
  have r2 := hb2.row r1 (by omega) (by omega)
  have hs2 := hb2.size
  clear hb2 r1 hB1 hh1
  go_wp2_with fail
  refine (sum_any (w.heap.size + 1) (flatTo ps n) w2 ho2.any (hbig n (Nat.le_refl _)) (ht.below hB2 ht0).2).mono ?_
  rintro e w3 ⟨rfl, hb3⟩
  have hB3 : Below w.heap.size w w3 := hB2.trans (hb3.mono (by omega))
  have r3 := hb3.row r2 (by omega)
  clear hb3 r2 hB2 ho2
  go_wp2_with (first | (refine wpList_store_row rfl 23 _ _ rfl rfl w.heap.size 0 32 _ rfl rfl hi32 (fun _ _ => rfl) _ _ _ r3 (by omega) ?_; intro W4 r4 hz4 hb4))
  refine bodyPost_ret (results_cell_seg rfl _ _ w.heap.size 23 32 (fun i => .int .u8 (sumI (flatTo ps n) i)) _ rfl Tryd.underlying23 rfl hi32 (r4.congr fun i hi => ?_)) rfl ⟨rfl, hB3.trans ((hb4.mono (by have := hB3.size; omega)).below (Nat.le_refl _))⟩
  rw [if_pos (by omega), Nat.sub_zero]

set_option maxHeartbeats 1000000 in
set_option maxRecDepth 100000 in
/-- Sum, of a nil hash. -/
theorem sum_nil (w : World) (ht : tabIs w) :
    Calls Tryd.prog 38 #[.pointer none] w fun e w' => e = .returned (.agg (rowV 32 fun i => .int .u8 (sumI [] i))) ∧ Below w.heap.size w w' := by
  have hi32 : (Tryd.prog.info? 23).map (·.size) = some 32 := by kernel_rfl
  have r0 := rowIs_zero w (Array.replicate 32 (.int .u8 0)) 23 32 (.int .u8 0) rfl
  have hb0 : Below w.heap.size w (w.alloc (.cells (Array.replicate 32 (.int .u8 0)) 23)) := (Below.refl w.heap.size w).alloc (Nat.le_refl _) _
  have hs0 : (w.alloc (.cells (Array.replicate 32 (.int .u8 0)) 23)).heap.size = w.heap.size + 1 := by simp
  have ht0 := ht.1
  go_enter Tryd.func38, Tryd.ntmps38
  go_wp2_with fail
  refine (new_any _).mono ?_
  rintro e w1 ⟨rfl, hb1, hs1, hh1⟩
  change w1.heap.size = (w.alloc (.cells (Array.replicate 32 (.int .u8 0)) 23)).heap.size + 1 at hs1
  change Below (w.alloc (.cells (Array.replicate 32 (.int .u8 0)) 23)).heap.size (w.alloc (.cells (Array.replicate 32 (.int .u8 0)) 23)) w1 at hb1
  change hashIs w1 (w.alloc (.cells (Array.replicate 32 (.int .u8 0)) 23)).heap.size (fun _ => 0) (fun _ => 0) 0 at hh1
  rw [hs0] at hs1 hb1 hh1
  have hB1 : Below w.heap.size w w1 := hb0.trans (hb1.mono (by omega))
  have r1 : w1.rowIs w.heap.size 23 32 (fun _ => .int .u8 0) := hb1.row r0 (by omega)
  clear hb0 hb1 r0 hs0
  go_wp2_with fail
  refine (sum_any (w.heap.size + 1) [] w1 (hashAny_zero hh1) (by decide) (ht.below hB1 ht0).2).mono ?_
  rintro e w3 ⟨rfl, hb3⟩
  have hB3 : Below w.heap.size w w3 := hB1.trans (hb3.mono (by omega))
  have r3 := hb3.row r1 (by omega)
  clear hb3 r1 hB1 hh1
  go_wp2_with (first | (refine wpList_store_row rfl 23 _ _ rfl rfl w.heap.size 0 32 _ rfl rfl hi32 (fun _ _ => rfl) _ _ _ r3 (by omega) ?_; intro W4 r4 hz4 hb4))
  refine bodyPost_ret (results_cell_seg rfl _ _ w.heap.size 23 32 (fun i => .int .u8 (sumI [] i)) _ rfl Tryd.underlying23 rfl hi32 (r4.congr fun i hi => ?_)) rfl ⟨rfl, hB3.trans ((hb4.mono (by have := hB3.size; omega)).below (Nat.le_refl _))⟩
  rw [if_pos (by omega), Nat.sub_zero]
end Go.Proofs.YtcfbaijibghcaaaDoor
