import Derived.Test.YtcfbaijibghcaaaDoorShaBytes
namespace Go.Proofs.YtcfbaijibghcaaaDoor
open Go.RowKit Go.Deep

theorem hashV_splice_words (v f : Nat → Int) (c : Int) (v' : Nat → Int) (j : Nat) : (if 0 ≤ j ∧ j < 0 + 8 then Value.int .u32 (v' (j - 0)) else hashV v f c j) = hashV v' f c j := by
  by_cases h : j < 8
  · rw [if_pos (by omega), hashV, if_pos h, Nat.sub_zero]
  · rw [if_neg (by omega), hashV, hashV, if_neg h, if_neg h]

set_option maxHeartbeats 1000000 in
set_option maxRecDepth 100000 in
theorem begin_zero (b : Nat) (v f : Nat → Int) (w : World) (h : hashIs w b v f 0) :
    Calls Tryd.prog 48 #[.pointer (some ⟨b, 0, none⟩)] w fun e w' => e = .returned (.tuple #[]) ∧ But w.heap.size b w w' ∧ hashIs w' b firstI.at f 0 := by
  have hlt := h.lt
  have c0 : w.cell? ⟨b, 72, none⟩ = some (.int .u64 0) := h.cell (by omega)
  have hi : (Tryd.prog.info? 93).map (·.size) = some 8 := by kernel_rfl
  go_enter Tryd.func48, Tryd.ntmps48
  go_wp2_with fail
  refine (first_any _).mono ?_
  rintro e w1 ⟨rfl, hb1⟩
  have h1 : w1.rowIs b 97 73 (hashV v f 0) := hb1.row h hlt
  go_wp2_with (first | (refine wpList_store_row rfl 93 _ _ rfl rfl b 0 8 _ rfl rfl hi (fun _ _ => rfl) _ _ _ h1 (by omega) ?_; intro W rW hzW hbut))
  go_end0
  exact ⟨rfl, (But.of_below hb1 b).trans (hbut.mono hb1.size), rW.congr fun i _ => hashV_splice_words v f 0 _ i⟩
set_option maxHeartbeats 1000000 in
theorem begin_some (b : Nat) (v f : Nat → Int) (c : Nat) (hc : 0 < c) (w : World) (h : hashIs w b v f c) :
    Calls Tryd.prog 48 #[.pointer (some ⟨b, 0, none⟩)] w fun e w' => e = .returned (.tuple #[]) ∧ w' = w := by
  have c0 : w.cell? ⟨b, 72, none⟩ = some (.int .u64 c) := h.cell (by omega)
  have hd : ((c : Int) == 0) = false := by simp; omega
  go_enter Tryd.func48, Tryd.ntmps48
  go_wp2
  go_end0
  exact ⟨rfl, rfl⟩

end Go.Proofs.YtcfbaijibghcaaaDoor
