import Derived.Test.YtcfbaijibghcaaaDoorShaSpread
import Derived.RegionTactic
import Derived.BigRegion
namespace Go.Proofs.YtcfbaijibghcaaaDoor
open Go.RowKit Go.Deep

set_option maxHeartbeats 1000000 in
set_option maxRecDepth 100000 in
theorem take_any (b t n : Nat) (F : Nat → Value) (v : Nat → Int) (f : Nat → Int) (w : World) (hv : ∀ i, i < 8 → F i = .int .u32 (v i)) (hn : 8 ≤ n) (hrow : w.rowIs b t n F) (hk : ∀ i, i < 64 → w.cell? ⟨0, i, none⟩ = some (.int .u32 (kAt i))) (h0 : 0 < w.heap.size) :
    Calls Tryd.prog 59 #[.pointer (some ⟨b, 0, none⟩), .agg (rowV 64 fun i => .int .u8 (f i))] w fun e w' => e = .returned (.tuple #[]) ∧ But w.heap.size b w w' ∧ w'.rowIs b t n (fun j => if j < 8 then .int .u32 (takeI v f j) else F j) := by
  have hlt := hrow.lt
  have hi38 : (Tryd.prog.info? 95).map (·.size) = some 64 := by kernel_rfl
  go_enter Tryd.func59, Tryd.ntmps59
  go_wp2_with (first | (refine wpList_load_seg rfl 95 _ rfl w.heap.size 0 64 _ rfl _ Tryd.underlying95 rfl hi38 (fun i hi => by rw [Nat.zero_add]; exact (rowIs_box w 95 64 _).cell hi) ?_))
  refine (spread_any f _).mono ?_
  rintro e w1 ⟨rfl, hb1⟩
  have hs1 : w.heap.size + 1 ≤ w1.heap.size := by have := hb1.size; simpa using this
  have hrow1 : w1.rowIs b t n F := (hrow.alloc (.cells (rowV 64 fun i => .int .u8 (f i)) 95)).of_block (hb1.block _ (by simp; omega))
  have hi72 : (Tryd.prog.info? 107).map (·.size) = some 64 := by kernel_rfl
  have z1 := rowIs_zero w1 (Array.replicate 64 (.int .u32 0)) 107 64 (.int .u32 0) rfl
  go_wp2_with (first | (refine wpList_store_row rfl 107 _ _ rfl rfl w1.heap.size 0 64 _ rfl rfl hi72 (fun _ _ => rfl) _ _ _ z1 (by omega) ?_; intro W r4 hz hbut))
  have r4' : W.rowIs w1.heap.size 107 64 (fun i => .int .u32 (wAt f 64 i)) := r4.congr fun i hi => by rw [if_pos (by omega), Nat.sub_zero]
  have rb : W.rowIs b t n F := hbut.row (hrow1.alloc _) (by rw [nblk_alloc]; omega) (by omega)
  have hb : Below w.heap.size w W := ((((Below.refl w.heap.size w).alloc (Nat.le_refl _) _).trans (hb1.mono (by simp))).alloc (by omega) _).trans ((hbut.mono (B' := w.heap.size) (by rw [nblk_alloc]; omega)).below (by omega))
  have hzW : W.heap.size = w1.heap.size + 1 := by rw [hz, nblk_alloc]
  clear r4 hz hbut z1 hb1 hrow1
  have c0 : W.cell? ⟨b, 0, none⟩ = some (.int .u32 (v 0)) := by rw [rb.cell (by omega), hv 0 (by omega)]
  have c1 : W.cell? ⟨b, 1, none⟩ = some (.int .u32 (v 1)) := by rw [rb.cell (by omega), hv 1 (by omega)]
  have c2 : W.cell? ⟨b, 2, none⟩ = some (.int .u32 (v 2)) := by rw [rb.cell (by omega), hv 2 (by omega)]
  have c3 : W.cell? ⟨b, 3, none⟩ = some (.int .u32 (v 3)) := by rw [rb.cell (by omega), hv 3 (by omega)]
  have c4 : W.cell? ⟨b, 4, none⟩ = some (.int .u32 (v 4)) := by rw [rb.cell (by omega), hv 4 (by omega)]
  have c5 : W.cell? ⟨b, 5, none⟩ = some (.int .u32 (v 5)) := by rw [rb.cell (by omega), hv 5 (by omega)]
  have c6 : W.cell? ⟨b, 6, none⟩ = some (.int .u32 (v 6)) := by rw [rb.cell (by omega), hv 6 (by omega)]
  have c7 : W.cell? ⟨b, 7, none⟩ = some (.int .u32 (v 7)) := by rw [rb.cell (by omega), hv 7 (by omega)]
  go_quiet (fail)
  clear c0 c1 c2 c3 c4 c5 c6 c7
  go_wp2
  go_loopw [5, 6, 7, 8, 9, 10, 11, 12, 52] (fun s5 s6 s7 s8 s9 s10 s11 s12 i wr => ∃ k : Nat, k ≤ 64 ∧ i = .int .i64 k ∧ wr.rowIs w1.heap.size 107 64 (fun i => .int .u32 (wAt f 64 i)) ∧ wr.rowIs b t n F ∧ Below w.heap.size w wr ∧ ∃ s : S8, Hid (s = rndTo (wAt f 64) ⟨v 0, v 1, v 2, v 3, v 4, v 5, v 6, v 7⟩ k) ∧ s5 = .int .u32 s.a ∧ s6 = .int .u32 s.b ∧ s7 = .int .u32 s.c ∧ s8 = .int .u32 s.d ∧ s9 = .int .u32 s.e ∧ s10 = .int .u32 s.f ∧ s11 = .int .u32 s.g ∧ s12 = .int .u32 s.h) (fun _ _ _ _ _ _ _ _ i _ => 64 - (intOf i).toNat)
  case atStart => exact ⟨0, by omega, rfl, r4'.drewN _, rb.drewN _, hb.drewN _, _, rfl, rfl, rfl, rfl, rfl, rfl, rfl, rfl, rfl⟩
  case round =>
    clear r4' rb hb hzW
    obtain ⟨k, hk64, rfl, r4, rb, hb, s, HS, rfl, rfl, rfl, rfl, rfl, rfl, rfl, rfl⟩ := hrel
    by_cases hlt : k < 64
    · have b0 : (0 : Int) ≤ (k : Int) := by omega
      have b1 : (k : Int) < 64 := by omega
      have c0 : wr.cell? ⟨0, k, none⟩ = some (.int .u32 (kAt k)) := by rw [hb.cell (p := ⟨0, k, none⟩) h0]; exact hk k hlt
      have c1 := r4.cell hlt
      go_wp2
      go_quiet ((go_at_call 62; exact Calls.quiet_of_same (turn_any _ _ (by decide) (by decide) _)))
      go_wp2_with ((go_at_call 62; refine (turn_any _ _ ?_ ?_ _).mono ?_; (decide); (decide); rintro e w' ⟨rfl, rfl⟩))
      go_light
      exact ⟨⟨k + 1, by omega, by go_num, r4.drewN _, rb.drewN _, hb.drewN _, rnd s (kAt k) (wAt f 64 k), (by rw [HS.out]; rfl), rfl, rfl, rfl, rfl, rfl, rfl, rfl, rfl⟩, by simp [intOf]; omega⟩
    · obtain rfl : k = 64 := by omega
      clear hlt hk64
      go_wp2
      go_loopw [124] (fun i wr => ∃ k : Nat, k ≤ 8 ∧ i = .int .i64 k ∧ But w.heap.size b w wr ∧ wr.rowIs b t n (fun j => if j < k then .int .u32 ((v j + s.at j) % 4294967296) else F j)) (fun i _ => 8 - (intOf i).toNat)
      case atStart => exact ⟨0, by omega, rfl, But.of_below hb b, rb.congr fun i _ => by rw [if_neg (by omega)]⟩
      case round =>
        clear r4 rb hb
        obtain ⟨k, hk8, rfl, hb, rb⟩ := hrel
        by_cases hlt8 : k < 8
        · have c0 : wr.cell? ⟨b, k, none⟩ = some (.int .u32 (v k)) := by rw [rb.cell (by omega), if_neg (by omega), hv k hlt8]
          have z0 := rb.frozen k
          have b0 : (0 : Int) ≤ (k : Int) := by omega
          have b1 : (k : Int) < 8 := by omega
          have hix := fun wx => run_index_agg (P := Tryd.prog) wx 92 80 8 _ k _ Tryd.underlying92 (by kernel_rfl) (by kernel_rfl) hlt8 (s.get k hlt8)
          go_wp2
          go_region
          go_wp2
          go_light
          refine ⟨⟨k + 1, by omega, by go_num, (hb.set k _).drew, ((rb.set k _).drew).congr fun i _ => ?_⟩, by simp [intOf]; omega⟩
          by_cases e : i = k
          · subst e; rw [if_pos rfl, if_pos (by omega)]
          · rw [if_neg e]
            by_cases e2 : i < k
            · rw [if_pos e2, if_pos (by omega)]
            · rw [if_neg e2, if_neg (by omega)]
        · obtain rfl : k = 8 := by omega
          go_wp2
          go_end0
          exact ⟨rfl, hb, rb.congr fun i _ => by rw [takeI, ← HS.out]⟩
end Go.Proofs.YtcfbaijibghcaaaDoor
