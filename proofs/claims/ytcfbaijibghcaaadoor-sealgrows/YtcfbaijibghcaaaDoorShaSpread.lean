import Derived.Test.YtcfbaijibghcaaaDoorShaTurn
import Derived.Deep.RegionHeld3
import Derived.Deep.QuietTactic
import Derived.BigQuiet
import Derived.Deep.DrawnRows
import Derived.Deep.Light
namespace Go.Proofs.YtcfbaijibghcaaaDoor
open Go.RowKit Go.Deep

set_option maxHeartbeats 1000000 in
set_option maxRecDepth 100000 in
theorem spread_any (f : Nat → Int) (w : World) :
    Calls Tryd.prog 61 #[.agg (rowV 64 fun i => .int .u8 (f i))] w fun e w' => e = .returned (.agg (rowV 64 fun i => .int .u32 (wAt f 64 i))) ∧ Below w.heap.size w w' := by
  go_enter Tryd.func61, Tryd.ntmps61
  go_wp2
  go_loopw [8] (fun i wr => ∃ k : Nat, k ≤ 16 ∧ i = .int .i64 k ∧ Below w.heap.size w wr ∧ wr.heap.size = w.heap.size + 3 ∧ wr.rowIs w.heap.size 95 64 (fun i => .int .u8 (f i)) ∧ wr.rowIs (w.heap.size + 1) 107 64 (fun _ => .int .u32 0) ∧ wr.rowIs (w.heap.size + 1 + 1) 107 64 (fun i => .int .u32 (wAt f k i))) (fun i _ => 16 - (intOf i).toNat)
  case atStart =>
    refine ⟨0, by omega, rfl, (((Below.refl _ _).alloc (Nat.le_refl _) _).alloc (by simp) _).alloc (by simp; omega) _, by simp, ?_, ?_, ?_⟩
    · exact ((rowIs_box w 95 64 _).alloc _).alloc _
    · have := rowIs_zero (w.alloc (.cells (rowV 64 fun i => .int .u8 (f i)) 95)) _ 107 64 (.int .u32 0) rfl
      simp only [nblk_alloc] at this
      exact this.alloc _
    · have := rowIs_zero ((w.alloc (.cells (rowV 64 fun i => .int .u8 (f i)) 95)).alloc (.cells (Array.replicate 64 (.int .u32 0)) 107)) _ 107 64 (.int .u32 0) rfl
      simp only [nblk_alloc] at this
      exact this
  case round =>
    obtain ⟨k, hk, rfl, hb, hz, r0, r1, r2⟩ := hrel
    by_cases hlt : k < 16
    · have t0 : (4 * (k : Int)).toNat = 4 * k := by omega
      have t1 : (4 * (k : Int) + 1).toNat = 4 * k + 1 := by omega
      have t2 : (4 * (k : Int) + 2).toNat = 4 * k + 2 := by omega
      have t3 : (4 * (k : Int) + 3).toNat = 4 * k + 3 := by omega
      have c0 := r0.cell (i := 4 * k) (by omega)
      have c1 := r0.cell (i := 4 * k + 1) (by omega)
      have c2 := r0.cell (i := 4 * k + 2) (by omega)
      have c3 := r0.cell (i := 4 * k + 3) (by omega)
      rw [← t0] at c0
      rw [← t1] at c1
      rw [← t2] at c2
      rw [← t3] at c3
      clear t0 t1 t2 t3
      have c4 := r2.cell (i := k) (by omega)
      have z4 := r2.frozen k
      have b0 : (0 : Int) ≤ (k : Int) := by omega
      have b1 : (k : Int) < 16 := by omega
      have hne : w.heap.size + 1 + 1 ≠ w.heap.size := by omega
      have bk : (k : Int) < 64 := by omega
      have b2 : (0 : Int) ≤ 4 * (k : Int) := by omega
      have b3 : 4 * (k : Int) < 64 := by omega
      have b4 : 4 * (k : Int) + 1 < 64 := by omega
      have b5 : 4 * (k : Int) + 2 < 64 := by omega
      have b6 : 4 * (k : Int) + 3 < 64 := by omega
      have b7 : (0 : Int) ≤ 4 * (k : Int) + 1 := by omega
      have b8 : (0 : Int) ≤ 4 * (k : Int) + 2 := by omega
      have b9 : (0 : Int) ≤ 4 * (k : Int) + 3 := by omega
      have e0 : IntKind.i64.wrap (4 * (k : Int)) = 4 * (k : Int) := IntWalk.i64_in _ (by omega)
      have e1 : IntKind.i64.wrap (4 * (k : Int) + 1) = 4 * (k : Int) + 1 := IntWalk.i64_in _ (by omega)
      have e2 : IntKind.i64.wrap (4 * (k : Int) + 2) = 4 * (k : Int) + 2 := IntWalk.i64_in _ (by omega)
      have e3 : IntKind.i64.wrap (4 * (k : Int) + 3) = 4 * (k : Int) + 3 := IntWalk.i64_in _ (by omega)
      go_wp2
      go_region_held3 (fun w' => w'.cell? ⟨w.heap.size, (4 * (k : Int)).toNat, none⟩ = some (.int .u8 (f (4 * (k : Int)).toNat)) ∧ w'.cell? ⟨w.heap.size, (4 * (k : Int) + 1).toNat, none⟩ = some (.int .u8 (f (4 * (k : Int) + 1).toNat)) ∧ w'.cell? ⟨w.heap.size, (4 * (k : Int) + 2).toNat, none⟩ = some (.int .u8 (f (4 * (k : Int) + 2).toNat)) ∧ w'.cell? ⟨w.heap.size, (4 * (k : Int) + 3).toNat, none⟩ = some (.int .u8 (f (4 * (k : Int) + 3).toNat))) (go_keep) (fail)
      go_wp2
      go_light
      refine ⟨⟨k + 1, by omega, by go_num, (hb.setCell (by simp; omega) _).drew, by simpa using hz, (r0.setOther (by simp; omega) _).drew, (r1.setOther (by simp) _).drew, ((r2.set k _).drew).congr fun i hi => ?_⟩, by simp [intOf]; omega⟩
      rw [wAt_succ]
      by_cases e : i = k
      · rw [if_pos e, if_pos e, if_pos hlt]; rfl
      · rw [if_neg e, if_neg e]
    · obtain rfl : k = 16 := by omega
      clear hlt hk
      go_wp2
      go_loopw [5] (fun i wr => ∃ k : Nat, 16 ≤ k ∧ k ≤ 64 ∧ i = .int .i64 k ∧ Below w.heap.size w wr ∧ wr.heap.size = w.heap.size + 3 ∧ wr.rowIs (w.heap.size + 1) 107 64 (fun _ => .int .u32 0) ∧ wr.rowIs (w.heap.size + 1 + 1) 107 64 (fun i => .int .u32 (wAt f k i))) (fun i _ => 64 - (intOf i).toNat)
      case atStart =>
        exact ⟨16, by omega, by omega, rfl, hb, hz, r1, r2⟩
      case round =>
        clear hb hz r0 r1 r2
        obtain ⟨k, hk0, hk, rfl, hb, hz, r1, r2⟩ := hrel
        by_cases hlt : k < 64
        · have c0 : wr.cell? ⟨w.heap.size + 1 + 1, ((k : Int) - 15).toNat, none⟩ = some (.int .u32 (wAt f k (k - 15))) := by
            rw [show ((k : Int) - 15).toNat = k - 15 by omega]; exact r2.cell (by omega)
          have c1 : wr.cell? ⟨w.heap.size + 1 + 1, ((k : Int) - 2).toNat, none⟩ = some (.int .u32 (wAt f k (k - 2))) := by
            rw [show ((k : Int) - 2).toNat = k - 2 by omega]; exact r2.cell (by omega)
          have c2 : wr.cell? ⟨w.heap.size + 1 + 1, ((k : Int) - 16).toNat, none⟩ = some (.int .u32 (wAt f k (k - 16))) := by
            rw [show ((k : Int) - 16).toNat = k - 16 by omega]; exact r2.cell (by omega)
          have c3 : wr.cell? ⟨w.heap.size + 1 + 1, ((k : Int) - 7).toNat, none⟩ = some (.int .u32 (wAt f k (k - 7))) := by
            rw [show ((k : Int) - 7).toNat = k - 7 by omega]; exact r2.cell (by omega)
          have d0 := r2.cell (i := k - 15) (by omega)
          have d1 := r2.cell (i := k - 2) (by omega)
          have c4 := r2.cell (i := k) (by omega)
          have z4 := r2.frozen k
          have b0 : (0 : Int) ≤ (k : Int) := by omega
          have b1 : (k : Int) < 64 := by omega
          have b2 : (0 : Int) ≤ (k : Int) - 15 := by omega
          have b3 : (0 : Int) ≤ (k : Int) - 2 := by omega
          have b4 : (0 : Int) ≤ (k : Int) - 16 := by omega
          have b5 : (0 : Int) ≤ (k : Int) - 7 := by omega
          have b6 : (k : Int) - 15 < 64 := by omega
          have b7 : (k : Int) - 2 < 64 := by omega
          have b8 : (k : Int) - 16 < 64 := by omega
          have b9 : (k : Int) - 7 < 64 := by omega
          have n16 : k ≠ ((k : Int) - 16).toNat := by omega
          have n7 : k ≠ ((k : Int) - 7).toNat := by omega
          have g0 : (2 : Int) ≤ (k : Int) := by omega
          have g1 : (7 : Int) ≤ (k : Int) := by omega
          have g2 : (15 : Int) ≤ (k : Int) := by omega
          have g3 : (16 : Int) ≤ (k : Int) := by omega
          have g4 : (k : Int) < 66 := by omega
          have g5 : (k : Int) < 79 := by omega
          have e0 : IntKind.i64.wrap ((k : Int) - 15) = (k : Int) - 15 := IntWalk.i64_in _ (by omega)
          have e1 : IntKind.i64.wrap ((k : Int) - 2) = (k : Int) - 2 := IntWalk.i64_in _ (by omega)
          have e2 : IntKind.i64.wrap ((k : Int) - 16) = (k : Int) - 16 := IntWalk.i64_in _ (by omega)
          have e3 : IntKind.i64.wrap ((k : Int) - 7) = (k : Int) - 7 := IntWalk.i64_in _ (by omega)
          go_wp2
          go_quiet ((go_at_call 62; exact Calls.quiet_of_same (turn_any _ _ (by decide) (by decide) _)))
          go_wp2
          go_region_held3 (fun w' => w'.cell? ⟨w.heap.size + 1 + 1, ((k : Int) - 2).toNat, none⟩ = some (.int .u32 (wAt f k (k - 2)))) (go_keep) (first | (go_at_call 62; refine (turn_any _ _ (by decide) (by decide) _).mono ?_; rintro e w' ⟨rfl, rfl⟩))
          go_wp2
          go_region_held3 (fun w' => w'.cell? ⟨w.heap.size + 1 + 1, ((k : Int) - 16).toNat, none⟩ = some (.int .u32 (wAt f k (k - 16))) ∧ w'.cell? ⟨w.heap.size + 1 + 1, ((k : Int) - 7).toNat, none⟩ = some (.int .u32 (wAt f k (k - 7)))) (first | exact ⟨cell_keep n16 c2, cell_keep n7 c3⟩ | go_keep) (fail)
          go_wp2
          go_roundw
          case rel =>
            (repeat apply Exists.intro)
            refine ⟨?_, rfl⟩
            go_light
            refine ⟨k + 1, by omega, by omega, by go_num, (hb.drewN _).setCell (by simp; omega) _, by simpa using hz, (r1.drewN _).setOther (by simp) _, ((r2.drewN _).set k _).congr fun i hi => ?_⟩
            rw [wAt_succ]
            by_cases e : i = k
            · rw [if_pos e, if_pos e, if_neg (by omega), wNext_at]
            · rw [if_neg e, if_neg e]
          case measure => simp [intOf]; omega
        · obtain rfl : k = 64 := by omega
          clear hlt hk hk0
          have hi : (Tryd.prog.info? 107).map (·.size) = some 64 := by kernel_rfl
          go_wp2_with (first | (refine wpList_load_seg rfl 107 _ rfl (w.heap.size + 1 + 1) 0 64 _ rfl _ Tryd.underlying107 rfl hi (fun i hi => by rw [Nat.zero_add]; exact r2.cell hi) ?_) | (refine wpList_store_seg rfl 107 _ _ rfl (w.heap.size + 1) 0 64 _ rfl rfl hi (fun _ _ => rfl) (there_of_row r1 (by omega)) ?_))
          refine bodyPost_ret (v := .agg (rowV 64 fun i => .int .u32 (wAt f 64 i))) (results_cell_seg rfl _ _ (w.heap.size + 1) 107 64 _ _ rfl Tryd.underlying107 rfl hi ((rowIs_splice r1).congr fun i hi => ?_)) rfl ⟨rfl, below_setCells _ (by omega) _ _ hb⟩
          rw [if_pos (by omega), Nat.sub_zero]
end Go.Proofs.YtcfbaijibghcaaaDoor
