import Derived.Test.YtcfbaijibghcaaaDoorShaTake
namespace Go.Proofs.YtcfbaijibghcaaaDoor
open Go.RowKit Go.Deep

/-- what a hash's block holds: eight words, 64 bytes, a count. -/
def hashV (v f : Nat → Int) (c : Int) (j : Nat) : Value := if j < 8 then .int .u32 (v j) else if j < 72 then .int .u8 (f (j - 8)) else .int .u64 c
theorem hashV_word (v f : Nat → Int) (c : Int) (j : Nat) (h : j < 8) : hashV v f c j = .int .u32 (v j) := if_pos h
theorem hashV_byte (v f : Nat → Int) (c : Int) (j : Nat) (h : j < 64) : hashV v f c (8 + j) = .int .u8 (f j) := by
  rw [hashV, if_neg (by omega), if_pos (by omega), show 8 + j - 8 = j by omega]
theorem hashV_count (v f : Nat → Int) (c : Int) : hashV v f c 72 = .int .u64 c := rfl
/-- a hash lies in block b. -/
def hashIs (w : World) (b : Nat) (v f : Nat → Int) (c : Int) : Prop := w.rowIs b 97 73 (hashV v f c)

set_option maxHeartbeats 400000 in
theorem waiting_any (b : Nat) (v f : Nat → Int) (c : Nat) (w : World) (h : hashIs w b v f c) :
    Calls Tryd.prog 58 #[.pointer (some ⟨b, 0, none⟩)] w fun e w' => e = .returned (.int .i64 ((c : Int) % 64)) ∧ w' = w := by
  have c0 : w.cell? ⟨b, 72, none⟩ = some (.int .u64 c) := h.cell (by omega)
  go_enter Tryd.func58, Tryd.ntmps58
  go_wp2
  go_ret
  exact ⟨rfl, rfl⟩

theorem zero_hash : ∀ w : World, (zeroValue 97).run Tryd.prog w = .ok (.agg (rowV 73 (hashV (fun _ => 0) (fun _ => 0) 0))) w := fun w => by kernel_rfl
theorem zero_block : ∀ w : World, (zeroValue 95).run Tryd.prog w = .ok (.agg (rowV 64 (fun _ => .int .u8 0))) w := fun w => by kernel_rfl
set_option maxHeartbeats 400000 in
theorem new_any (w : World) :
    Calls Tryd.prog 36 #[] w fun e w' => e = .returned (.pointer (some ⟨w.heap.size, 0, none⟩)) ∧ Below w.heap.size w w' ∧ w'.heap.size = w.heap.size + 1 ∧ hashIs w' w.heap.size (fun _ => 0) (fun _ => 0) 0 := by
  have hz := zero_hash
  go_enter Tryd.func36, Tryd.ntmps36
  go_wp2
  go_ret
  refine ⟨rfl, (Below.refl _ _).alloc (Nat.le_refl _) _, by simp, ?_⟩
  exact rowIs_box w _ _ _
set_option maxHeartbeats 400000 in
theorem first_any (w : World) :
    Calls Tryd.prog 57 #[] w fun e w' => e = .returned (.agg (rowV 8 fun i => .int .u32 (firstI.at i))) ∧ Below w.heap.size w w' := by
  go_enter Tryd.func57, Tryd.ntmps57
  go_wp2
  have r := rowIs_new w #[.int .u32 1779033703, .int .u32 3144134277, .int .u32 1013904242, .int .u32 2773480762, .int .u32 1359893119, .int .u32 2600822924, .int .u32 528734635, .int .u32 1541459225] 93 8 (fun i => .int .u32 (firstI.at i)) rfl (firstI.get)
  exact bodyPost_ret (results_cell_seg rfl _ _ w.heap.size 93 8 _ _ rfl Tryd.underlying93 rfl (by kernel_rfl) r) rfl ⟨rfl, (Below.refl _ _).alloc (Nat.le_refl _) _⟩
end Go.Proofs.YtcfbaijibghcaaaDoor
