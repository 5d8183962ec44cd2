import Derived.Test.YtcfbaijibghcaaaDoorShaSmall
namespace Go.Proofs.YtcfbaijibghcaaaDoor
open Go.RowKit Go.Deep

set_option maxHeartbeats 1000000 in
set_option maxRecDepth 100000 in
theorem bytes_any (b t n : Nat) (F : Nat → Value) (v : Nat → Int) (w : World) (hv : ∀ i, i < 8 → F i = .int .u32 (v i)) (hn : 8 ≤ n) (hrow : w.rowIs b t n F) :
    Calls Tryd.prog 51 #[.pointer (some ⟨b, 0, none⟩)] w fun e w' => e = .returned (.agg (rowV 32 fun i => .int .u8 (sumByte v i))) ∧ Below w.heap.size w w' := by
  have hlt := hrow.lt
  go_enter Tryd.func51, Tryd.ntmps51
  go_wp2
  go_loopw [8] (fun i wr => ∃ k : Nat, k ≤ 8 ∧ i = .int .i64 k ∧ Below w.heap.size w wr ∧ wr.heap.size = w.heap.size + 2 ∧ wr.rowIs w.heap.size 23 32 (fun _ => .int .u8 0) ∧ wr.rowIs (w.heap.size + 1) 23 32 (fun j => .int .u8 (if j < 4 * k then sumByte v j else 0))) (fun i _ => 8 - (intOf i).toNat)
  case atStart =>
    refine ⟨0, by omega, rfl, ((Below.refl _ _).alloc (Nat.le_refl _) _).alloc (by simp) _, by simp, ?_, ?_⟩
    · exact (rowIs_zero w _ 23 32 (.int .u8 0) rfl).alloc _
    · have := rowIs_zero (w.alloc (.cells (Array.replicate 32 (.int .u8 0)) 23)) _ 23 32 (.int .u8 0) rfl
      simp only [nblk_alloc] at this
      exact this
  case round =>
    obtain ⟨k, hk, rfl, hb, hz, r0, r1⟩ := hrel
    by_cases hlt8 : k < 8
    · have c0 : wr.cell? ⟨b, k, none⟩ = some (.int .u32 (v k)) := by rw [hb.cell (p := ⟨b, k, none⟩) hlt, hrow.cell (by omega), hv k hlt8]
      have b0 : (0 : Int) ≤ (k : Int) := by omega
      have b1 : (k : Int) < 8 := by omega
      go_wp2
      go_quiet (fail)
      go_wp2
      go_loopw [14] (fun i wr => ∃ j : Nat, j ≤ 4 ∧ i = .int .i64 j ∧ Below w.heap.size w wr ∧ wr.heap.size = w.heap.size + 2 ∧ wr.rowIs w.heap.size 23 32 (fun _ => .int .u8 0) ∧ wr.rowIs (w.heap.size + 1) 23 32 (fun i => .int .u8 (if i < 4 * k + j then sumByte v i else 0))) (fun i _ => 4 - (intOf i).toNat)
      case atStart => exact ⟨0, by omega, rfl, hb.drewN _, hz, r0.drewN _, r1.drewN _⟩
      case round =>
        clear hb hz r0 r1 c0
        obtain ⟨j, hj, rfl, hb, hz, r0, r1⟩ := hrel
        by_cases hltj : j < 4
        · have g0 : (0 : Int) ≤ (j : Int) := by omega
          have g1 : (j : Int) < 4 := by omega
          have g2 : 4 * (k : Int) + (j : Int) < 32 := by omega
          have g3 : (0 : Int) ≤ 4 * (k : Int) + (j : Int) := by omega
          have g4 : (0 : Int) ≤ 24 - 8 * (j : Int) := by omega
          have g5 : 24 - 8 * (j : Int) ≤ 24 := by omega
          have z0 := r1.frozen (4 * k + j)
          have c1 := r1.cell (i := 4 * k + j) (by omega)
          go_wp2
          go_light
          refine ⟨⟨j + 1, by omega, by go_num, hb.setCell (by simp) _, by simpa using hz, r0.setOther (by simp) _, (r1.set (4 * k + j) _).congr fun i _ => ?_⟩, by simp [intOf]; omega⟩
          by_cases e : i = 4 * k + j
          · subst e; rw [if_pos rfl, if_pos (by omega), sumByte, show (4 * k + j) / 4 = k by omega, show (4 * k + j) % 4 = j by omega]
          · rw [if_neg e]
            by_cases e2 : i < 4 * k + j
            · rw [if_pos e2, if_pos (by omega)]
            · rw [if_neg e2, if_neg (by omega)]
        · obtain rfl : j = 4 := by omega
          go_wp2
          go_roundw
          case rel =>
            first
            | exact ⟨k + 1, by omega, by go_num, hb, hz, r0, r1⟩
            | ((repeat apply Exists.intro); refine ⟨?_, rfl⟩; exact ⟨k + 1, by omega, by go_num, hb, hz, r0, r1⟩)
          case measure => simp [intOf]; omega
    · obtain rfl : k = 8 := by omega
      clear hlt8 hk
      have hi : (Tryd.prog.info? 23).map (·.size) = some 32 := by kernel_rfl
      go_wp2_with (first | (refine wpList_load_seg rfl 23 _ rfl (w.heap.size + 1) 0 32 _ rfl _ Tryd.underlying23 rfl hi (fun i hi => by rw [Nat.zero_add]; exact r1.cell hi) ?_) | (refine wpList_store_row rfl 23 _ _ rfl rfl w.heap.size 0 32 _ rfl rfl hi (fun _ _ => rfl) _ _ _ r0 (by omega) ?_; intro W rW hzW hbut))
      exact bodyPost_ret (results_cell_seg rfl _ _ w.heap.size 23 32 _ _ rfl Tryd.underlying23 rfl hi (rW.congr fun i hi => by rw [if_pos (by omega), Nat.sub_zero, if_pos (by omega)])) rfl ⟨rfl, hb.trans ((hbut.mono (by omega)).below (Nat.le_refl _))⟩
end Go.Proofs.YtcfbaijibghcaaaDoor
