import Derived.Deep.RegionHeld3
import Derived.Deep.QuietTactic
import Derived.BigQuiet
import Derived.Deep.DrawnRows
import Derived.Deep.Light
import Derived.RegionTactic
import Derived.BigRegion
import Derived.Laws.CopyRow
import Derived.Lib.SliceRun
import Derived.Lib.Tables
import Derived.WalkLawsBesides
import Derived.Lib.JoinLaws
import Derived.Deep.AppendSrc
import Derived.Test.YtkgegihkhdgdoaaDoorOwn1
set_option linter.unusedVariables false
set_option linter.unusedSimpArgs false
namespace Go.Proofs.YtkgegihkhdgdoaaDoor
open Go.RowKit Go.Deep

set_option maxHeartbeats 1000000 in
set_option maxRecDepth 100000 in
theorem spread_any (f : Nat → Int) (w : World) :
    Calls Tryd.prog 123 #[.agg (rowV 64 fun i => .int .u8 (f i))] w fun e w' => e = .returned (.agg (rowV 64 fun i => .int .u32 (wAt f 64 i))) ∧ Below w.heap.size w w' := by
  go_enter Tryd.func123, Tryd.ntmps123
  go_wp2
  go_loopw [8] (fun i wr => ∃ k : Nat, k ≤ 16 ∧ i = .int .i64 k ∧ Below w.heap.size w wr ∧ wr.heap.size = w.heap.size + 3 ∧ wr.rowIs w.heap.size 161 64 (fun i => .int .u8 (f i)) ∧ wr.rowIs (w.heap.size + 1) 172 64 (fun _ => .int .u32 0) ∧ wr.rowIs (w.heap.size + 1 + 1) 172 64 (fun i => .int .u32 (wAt f k i))) (fun i _ => 16 - (intOf i).toNat)
  case atStart =>
    refine ⟨0, by omega, rfl, (((Below.refl _ _).alloc (Nat.le_refl _) _).alloc (by simp) _).alloc (by simp; omega) _, by simp, ?_, ?_, ?_⟩
    · exact ((rowIs_box w 161 64 _).alloc _).alloc _
    · have := rowIs_zero (w.alloc (.cells (rowV 64 fun i => .int .u8 (f i)) 161)) _ 172 64 (.int .u32 0) rfl
      simp only [nblk_alloc] at this
      exact this.alloc _
    · have := rowIs_zero ((w.alloc (.cells (rowV 64 fun i => .int .u8 (f i)) 161)).alloc (.cells (Array.replicate 64 (.int .u32 0)) 172)) _ 172 64 (.int .u32 0) rfl
      simp only [nblk_alloc] at this
      exact this
  case round =>
    obtain ⟨k, hk, rfl, hb, hz, r0, r1, r2⟩ := hrel
    by_cases hlt : k < 16
    · have t0 : (4 * (k : Int)).toNat = 4 * k := by omega
      have t1 : (4 * (k : Int) + 1).toNat = 4 * k + 1 := by omega
      have t2 : (4 * (k : Int) + 2).toNat = 4 * k + 2 := by omega
      have t3 : (4 * (k : Int) + 3).toNat = 4 * k + 3 := by omega
      have c0 := r0.cell (i := 4 * k) (by omega)
      have c1 := r0.cell (i := 4 * k + 1) (by omega)
      have c2 := r0.cell (i := 4 * k + 2) (by omega)
      have c3 := r0.cell (i := 4 * k + 3) (by omega)
      rw [← t0] at c0
      rw [← t1] at c1
      rw [← t2] at c2
      rw [← t3] at c3
      clear t0 t1 t2 t3
      have c4 := r2.cell (i := k) (by omega)
      have z4 := r2.frozen k
      have b0 : (0 : Int) ≤ (k : Int) := by omega
      have b1 : (k : Int) < 16 := by omega
      have hne : w.heap.size + 1 + 1 ≠ w.heap.size := by omega
      have bk : (k : Int) < 64 := by omega
      have b2 : (0 : Int) ≤ 4 * (k : Int) := by omega
      have b3 : 4 * (k : Int) < 64 := by omega
      have b4 : 4 * (k : Int) + 1 < 64 := by omega
      have b5 : 4 * (k : Int) + 2 < 64 := by omega
      have b6 : 4 * (k : Int) + 3 < 64 := by omega
      have b7 : (0 : Int) ≤ 4 * (k : Int) + 1 := by omega
      have b8 : (0 : Int) ≤ 4 * (k : Int) + 2 := by omega
      have b9 : (0 : Int) ≤ 4 * (k : Int) + 3 := by omega
      have e0 : IntKind.i64.wrap (4 * (k : Int)) = 4 * (k : Int) := IntWalk.i64_in _ (by omega)
      have e1 : IntKind.i64.wrap (4 * (k : Int) + 1) = 4 * (k : Int) + 1 := IntWalk.i64_in _ (by omega)
      have e2 : IntKind.i64.wrap (4 * (k : Int) + 2) = 4 * (k : Int) + 2 := IntWalk.i64_in _ (by omega)
      have e3 : IntKind.i64.wrap (4 * (k : Int) + 3) = 4 * (k : Int) + 3 := IntWalk.i64_in _ (by omega)
      go_wp2
      go_region_held3 (fun w' => w'.cell? ⟨w.heap.size, (4 * (k : Int)).toNat, none⟩ = some (.int .u8 (f (4 * (k : Int)).toNat)) ∧ w'.cell? ⟨w.heap.size, (4 * (k : Int) + 1).toNat, none⟩ = some (.int .u8 (f (4 * (k : Int) + 1).toNat)) ∧ w'.cell? ⟨w.heap.size, (4 * (k : Int) + 2).toNat, none⟩ = some (.int .u8 (f (4 * (k : Int) + 2).toNat)) ∧ w'.cell? ⟨w.heap.size, (4 * (k : Int) + 3).toNat, none⟩ = some (.int .u8 (f (4 * (k : Int) + 3).toNat))) (go_keep) (fail)
      go_wp2
      go_light
      refine ⟨⟨k + 1, by omega, by go_num, (hb.setCell (by simp; omega) _).drew, by simpa using hz, (r0.setOther (by simp; omega) _).drew, (r1.setOther (by simp) _).drew, ((r2.set k _).drew).congr fun i hi => ?_⟩, by simp [intOf]; omega⟩
      rw [wAt_succ]
      by_cases e : i = k
      · rw [if_pos e, if_pos e, if_pos hlt]; rfl
      · rw [if_neg e, if_neg e]
    · obtain rfl : k = 16 := by omega
      clear hlt hk
      go_wp2
      go_loopw [5] (fun i wr => ∃ k : Nat, 16 ≤ k ∧ k ≤ 64 ∧ i = .int .i64 k ∧ Below w.heap.size w wr ∧ wr.heap.size = w.heap.size + 3 ∧ wr.rowIs (w.heap.size + 1) 172 64 (fun _ => .int .u32 0) ∧ wr.rowIs (w.heap.size + 1 + 1) 172 64 (fun i => .int .u32 (wAt f k i))) (fun i _ => 64 - (intOf i).toNat)
      case atStart =>
        exact ⟨16, by omega, by omega, rfl, hb, hz, r1, r2⟩
      case round =>
        clear hb hz r0 r1 r2
        obtain ⟨k, hk0, hk, rfl, hb, hz, r1, r2⟩ := hrel
        by_cases hlt : k < 64
        · have c0 : wr.cell? ⟨w.heap.size + 1 + 1, ((k : Int) - 15).toNat, none⟩ = some (.int .u32 (wAt f k (k - 15))) := by
            rw [show ((k : Int) - 15).toNat = k - 15 by omega]; exact r2.cell (by omega)
          have c1 : wr.cell? ⟨w.heap.size + 1 + 1, ((k : Int) - 2).toNat, none⟩ = some (.int .u32 (wAt f k (k - 2))) := by
            rw [show ((k : Int) - 2).toNat = k - 2 by omega]; exact r2.cell (by omega)
          have c2 : wr.cell? ⟨w.heap.size + 1 + 1, ((k : Int) - 16).toNat, none⟩ = some (.int .u32 (wAt f k (k - 16))) := by
            rw [show ((k : Int) - 16).toNat = k - 16 by omega]; exact r2.cell (by omega)
          have c3 : wr.cell? ⟨w.heap.size + 1 + 1, ((k : Int) - 7).toNat, none⟩ = some (.int .u32 (wAt f k (k - 7))) := by
            rw [show ((k : Int) - 7).toNat = k - 7 by omega]; exact r2.cell (by omega)
          have d0 := r2.cell (i := k - 15) (by omega)
          have d1 := r2.cell (i := k - 2) (by omega)
          have c4 := r2.cell (i := k) (by omega)
          have z4 := r2.frozen k
          have b0 : (0 : Int) ≤ (k : Int) := by omega
          have b1 : (k : Int) < 64 := by omega
          have b2 : (0 : Int) ≤ (k : Int) - 15 := by omega
          have b3 : (0 : Int) ≤ (k : Int) - 2 := by omega
          have b4 : (0 : Int) ≤ (k : Int) - 16 := by omega
          have b5 : (0 : Int) ≤ (k : Int) - 7 := by omega
          have b6 : (k : Int) - 15 < 64 := by omega
          have b7 : (k : Int) - 2 < 64 := by omega
          have b8 : (k : Int) - 16 < 64 := by omega
          have b9 : (k : Int) - 7 < 64 := by omega
          have n16 : k ≠ ((k : Int) - 16).toNat := by omega
          have n7 : k ≠ ((k : Int) - 7).toNat := by omega
          have g0 : (2 : Int) ≤ (k : Int) := by omega
          have g1 : (7 : Int) ≤ (k : Int) := by omega
          have g2 : (15 : Int) ≤ (k : Int) := by omega
          have g3 : (16 : Int) ≤ (k : Int) := by omega
          have g4 : (k : Int) < 66 := by omega
          have g5 : (k : Int) < 79 := by omega
          have e0 : IntKind.i64.wrap ((k : Int) - 15) = (k : Int) - 15 := IntWalk.i64_in _ (by omega)
          have e1 : IntKind.i64.wrap ((k : Int) - 2) = (k : Int) - 2 := IntWalk.i64_in _ (by omega)
          have e2 : IntKind.i64.wrap ((k : Int) - 16) = (k : Int) - 16 := IntWalk.i64_in _ (by omega)
          have e3 : IntKind.i64.wrap ((k : Int) - 7) = (k : Int) - 7 := IntWalk.i64_in _ (by omega)
          go_wp2
          go_quiet ((go_at_call 124; exact Calls.quiet_of_same (turn_any _ _ (by decide) (by decide) _)))
          go_wp2
          go_region_held3 (fun w' => w'.cell? ⟨w.heap.size + 1 + 1, ((k : Int) - 2).toNat, none⟩ = some (.int .u32 (wAt f k (k - 2)))) (go_keep) (first | (go_at_call 124; refine (turn_any _ _ (by decide) (by decide) _).mono ?_; rintro e w' ⟨rfl, rfl⟩))
          go_wp2
          go_region_held3 (fun w' => w'.cell? ⟨w.heap.size + 1 + 1, ((k : Int) - 16).toNat, none⟩ = some (.int .u32 (wAt f k (k - 16))) ∧ w'.cell? ⟨w.heap.size + 1 + 1, ((k : Int) - 7).toNat, none⟩ = some (.int .u32 (wAt f k (k - 7)))) (first | exact ⟨cell_keep n16 c2, cell_keep n7 c3⟩ | go_keep) (fail)
          go_wp2
          go_roundw
          case rel =>
            (repeat apply Exists.intro)
            refine ⟨?_, rfl⟩
            go_light
            refine ⟨k + 1, by omega, by omega, by go_num, (hb.drewN _).setCell (by simp; omega) _, by simpa using hz, (r1.drewN _).setOther (by simp) _, ((r2.drewN _).set k _).congr fun i hi => ?_⟩
            rw [wAt_succ]
            by_cases e : i = k
            · rw [if_pos e, if_pos e, if_neg (by omega), wNext_at]
            · rw [if_neg e, if_neg e]
          case measure => simp [intOf]; omega
        · obtain rfl : k = 64 := by omega
          clear hlt hk hk0
          have hi : (Tryd.prog.info? 172).map (·.size) = some 64 := by kernel_rfl
          go_wp2_with (first | (refine wpList_load_seg rfl 172 _ rfl (w.heap.size + 1 + 1) 0 64 _ rfl _ Tryd.underlying172 rfl hi (fun i hi => by rw [Nat.zero_add]; exact r2.cell hi) ?_) | (refine wpList_store_seg rfl 172 _ _ rfl (w.heap.size + 1) 0 64 _ rfl rfl hi (fun _ _ => rfl) (there_of_row r1 (by omega)) ?_))
          refine bodyPost_ret (v := .agg (rowV 64 fun i => .int .u32 (wAt f 64 i))) (results_cell_seg rfl _ _ (w.heap.size + 1) 172 64 _ _ rfl Tryd.underlying172 rfl hi ((rowIs_splice r1).congr fun i hi => ?_)) rfl ⟨rfl, below_setCells _ (by omega) _ _ hb⟩
          rw [if_pos (by omega), Nat.sub_zero]
end Go.Proofs.YtkgegihkhdgdoaaDoor

namespace Go.Proofs.YtkgegihkhdgdoaaDoor
open Go.RowKit Go.Deep

set_option maxHeartbeats 1000000 in
set_option maxRecDepth 100000 in
theorem take_any (b t n : Nat) (F : Nat → Value) (v : Nat → Int) (f : Nat → Int) (w : World) (hv : ∀ i, i < 8 → F i = .int .u32 (v i)) (hn : 8 ≤ n) (hrow : w.rowIs b t n F) (hk : ∀ i, i < 64 → w.cell? ⟨1, i, none⟩ = some (.int .u32 (kAt i))) (h0 : 1 < w.heap.size) :
    Calls Tryd.prog 122 #[.pointer (some ⟨b, 0, none⟩), .agg (rowV 64 fun i => .int .u8 (f i))] w fun e w' => e = .returned (.tuple #[]) ∧ But w.heap.size b w w' ∧ w'.rowIs b t n (fun j => if j < 8 then .int .u32 (takeI v f j) else F j) := by
  have hlt := hrow.lt
  have hi38 : (Tryd.prog.info? 161).map (·.size) = some 64 := by kernel_rfl
  go_enter Tryd.func122, Tryd.ntmps122
  go_wp2_with (first | (refine wpList_load_seg rfl 161 _ rfl w.heap.size 0 64 _ rfl _ Tryd.underlying161 rfl hi38 (fun i hi => by rw [Nat.zero_add]; exact (rowIs_box w 161 64 _).cell hi) ?_))
  refine (spread_any f _).mono ?_
  rintro e w1 ⟨rfl, hb1⟩
  have hs1 : w.heap.size + 1 ≤ w1.heap.size := by have := hb1.size; simpa using this
  have hrow1 : w1.rowIs b t n F := (hrow.alloc (.cells (rowV 64 fun i => .int .u8 (f i)) 161)).of_block (hb1.block _ (by simp; omega))
  have hi72 : (Tryd.prog.info? 172).map (·.size) = some 64 := by kernel_rfl
  have z1 := rowIs_zero w1 (Array.replicate 64 (.int .u32 0)) 172 64 (.int .u32 0) rfl
  go_wp2_with (first | (refine wpList_store_row rfl 172 _ _ rfl rfl w1.heap.size 0 64 _ rfl rfl hi72 (fun _ _ => rfl) _ _ _ z1 (by omega) ?_; intro W r4 hz hbut))
  have r4' : W.rowIs w1.heap.size 172 64 (fun i => .int .u32 (wAt f 64 i)) := r4.congr fun i hi => by rw [if_pos (by omega), Nat.sub_zero]
  have rb : W.rowIs b t n F := hbut.row (hrow1.alloc _) (by rw [nblk_alloc]; omega) (by omega)
  have hb : Below w.heap.size w W := ((((Below.refl w.heap.size w).alloc (Nat.le_refl _) _).trans (hb1.mono (by simp))).alloc (by omega) _).trans ((hbut.mono (B' := w.heap.size) (by rw [nblk_alloc]; omega)).below (by omega))
  have hzW : W.heap.size = w1.heap.size + 1 := by rw [hz, nblk_alloc]
  clear r4 hz hbut z1 hb1 hrow1
  have c0 : W.cell? ⟨b, 0, none⟩ = some (.int .u32 (v 0)) := by rw [rb.cell (by omega), hv 0 (by omega)]
  have c1 : W.cell? ⟨b, 1, none⟩ = some (.int .u32 (v 1)) := by rw [rb.cell (by omega), hv 1 (by omega)]
  have c2 : W.cell? ⟨b, 2, none⟩ = some (.int .u32 (v 2)) := by rw [rb.cell (by omega), hv 2 (by omega)]
  have c3 : W.cell? ⟨b, 3, none⟩ = some (.int .u32 (v 3)) := by rw [rb.cell (by omega), hv 3 (by omega)]
  have c4 : W.cell? ⟨b, 4, none⟩ = some (.int .u32 (v 4)) := by rw [rb.cell (by omega), hv 4 (by omega)]
  have c5 : W.cell? ⟨b, 5, none⟩ = some (.int .u32 (v 5)) := by rw [rb.cell (by omega), hv 5 (by omega)]
  have c6 : W.cell? ⟨b, 6, none⟩ = some (.int .u32 (v 6)) := by rw [rb.cell (by omega), hv 6 (by omega)]
  have c7 : W.cell? ⟨b, 7, none⟩ = some (.int .u32 (v 7)) := by rw [rb.cell (by omega), hv 7 (by omega)]
  go_quiet (fail)
  clear c0 c1 c2 c3 c4 c5 c6 c7
  go_wp2
  go_loopw [5, 6, 7, 8, 9, 10, 11, 12, 52] (fun s5 s6 s7 s8 s9 s10 s11 s12 i wr => ∃ k : Nat, k ≤ 64 ∧ i = .int .i64 k ∧ wr.rowIs w1.heap.size 172 64 (fun i => .int .u32 (wAt f 64 i)) ∧ wr.rowIs b t n F ∧ Below w.heap.size w wr ∧ ∃ s : S8, Hid (s = rndTo (wAt f 64) ⟨v 0, v 1, v 2, v 3, v 4, v 5, v 6, v 7⟩ k) ∧ s5 = .int .u32 s.a ∧ s6 = .int .u32 s.b ∧ s7 = .int .u32 s.c ∧ s8 = .int .u32 s.d ∧ s9 = .int .u32 s.e ∧ s10 = .int .u32 s.f ∧ s11 = .int .u32 s.g ∧ s12 = .int .u32 s.h) (fun _ _ _ _ _ _ _ _ i _ => 64 - (intOf i).toNat)
  case atStart => exact ⟨0, by omega, rfl, r4'.drewN _, rb.drewN _, hb.drewN _, _, rfl, rfl, rfl, rfl, rfl, rfl, rfl, rfl, rfl⟩
  case round =>
    clear r4' rb hb hzW
    obtain ⟨k, hk64, rfl, r4, rb, hb, s, HS, rfl, rfl, rfl, rfl, rfl, rfl, rfl, rfl⟩ := hrel
    by_cases hlt : k < 64
    · have b0 : (0 : Int) ≤ (k : Int) := by omega
      have b1 : (k : Int) < 64 := by omega
      have c0 : wr.cell? ⟨1, k, none⟩ = some (.int .u32 (kAt k)) := by rw [hb.cell (p := ⟨1, k, none⟩) h0]; exact hk k hlt
      have c1 := r4.cell hlt
      go_wp2
      go_quiet ((go_at_call 124; exact Calls.quiet_of_same (turn_any _ _ (by decide) (by decide) _)))
      go_wp2_with ((go_at_call 124; refine (turn_any _ _ ?_ ?_ _).mono ?_; (decide); (decide); rintro e w' ⟨rfl, rfl⟩))
      go_light
      exact ⟨⟨k + 1, by omega, by go_num, r4.drewN _, rb.drewN _, hb.drewN _, rnd s (kAt k) (wAt f 64 k), (by rw [HS.out]; rfl), rfl, rfl, rfl, rfl, rfl, rfl, rfl, rfl⟩, by simp [intOf]; omega⟩
    · obtain rfl : k = 64 := by omega
      clear hlt hk64
      go_wp2
      go_loopw [124] (fun i wr => ∃ k : Nat, k ≤ 8 ∧ i = .int .i64 k ∧ But w.heap.size b w wr ∧ wr.rowIs b t n (fun j => if j < k then .int .u32 ((v j + s.at j) % 4294967296) else F j)) (fun i _ => 8 - (intOf i).toNat)
      case atStart => exact ⟨0, by omega, rfl, But.of_below hb b, rb.congr fun i _ => by rw [if_neg (by omega)]⟩
      case round =>
        clear r4 rb hb
        obtain ⟨k, hk8, rfl, hb, rb⟩ := hrel
        by_cases hlt8 : k < 8
        · have c0 : wr.cell? ⟨b, k, none⟩ = some (.int .u32 (v k)) := by rw [rb.cell (by omega), if_neg (by omega), hv k hlt8]
          have z0 := rb.frozen k
          have b0 : (0 : Int) ≤ (k : Int) := by omega
          have b1 : (k : Int) < 8 := by omega
          have hix := fun wx => run_index_agg (P := Tryd.prog) wx 158 152 8 _ k _ Tryd.underlying158 (by kernel_rfl) (by kernel_rfl) hlt8 (s.get k hlt8)
          go_wp2
          go_region
          go_wp2
          go_light
          refine ⟨⟨k + 1, by omega, by go_num, (hb.set k _).drew, ((rb.set k _).drew).congr fun i _ => ?_⟩, by simp [intOf]; omega⟩
          by_cases e : i = k
          · subst e; rw [if_pos rfl, if_pos (by omega)]
          · rw [if_neg e]
            by_cases e2 : i < k
            · rw [if_pos e2, if_pos (by omega)]
            · rw [if_neg e2, if_neg (by omega)]
        · obtain rfl : k = 8 := by omega
          go_wp2
          go_end0
          exact ⟨rfl, hb, rb.congr fun i _ => by rw [takeI, ← HS.out]⟩
end Go.Proofs.YtkgegihkhdgdoaaDoor

namespace Go.Proofs.YtkgegihkhdgdoaaDoor
open Go.RowKit Go.Deep

/-- what a hash's block holds: eight words, 64 bytes, a count. -/
def hashV (v f : Nat → Int) (c : Int) (j : Nat) : Value := if j < 8 then .int .u32 (v j) else if j < 72 then .int .u8 (f (j - 8)) else .int .u64 c
theorem hashV_word (v f : Nat → Int) (c : Int) (j : Nat) (h : j < 8) : hashV v f c j = .int .u32 (v j) := if_pos h
theorem hashV_byte (v f : Nat → Int) (c : Int) (j : Nat) (h : j < 64) : hashV v f c (8 + j) = .int .u8 (f j) := by
  rw [hashV, if_neg (by omega), if_pos (by omega), show 8 + j - 8 = j by omega]
theorem hashV_count (v f : Nat → Int) (c : Int) : hashV v f c 72 = .int .u64 c := rfl
/-- a hash lies in block b. -/
def hashIs (w : World) (b : Nat) (v f : Nat → Int) (c : Int) : Prop := w.rowIs b 163 73 (hashV v f c)

set_option maxHeartbeats 400000 in
theorem waiting_any (b : Nat) (v f : Nat → Int) (c : Nat) (w : World) (h : hashIs w b v f c) :
    Calls Tryd.prog 121 #[.pointer (some ⟨b, 0, none⟩)] w fun e w' => e = .returned (.int .i64 ((c : Int) % 64)) ∧ w' = w := by
  have c0 : w.cell? ⟨b, 72, none⟩ = some (.int .u64 c) := h.cell (by omega)
  go_enter Tryd.func121, Tryd.ntmps121
  go_wp2
  go_ret
  exact ⟨rfl, rfl⟩

theorem zero_hash : ∀ w : World, (zeroValue 163).run Tryd.prog w = .ok (.agg (rowV 73 (hashV (fun _ => 0) (fun _ => 0) 0))) w := fun w => by kernel_rfl
theorem zero_block : ∀ w : World, (zeroValue 161).run Tryd.prog w = .ok (.agg (rowV 64 (fun _ => .int .u8 0))) w := fun w => by kernel_rfl
set_option maxHeartbeats 400000 in
theorem new_any (w : World) :
    Calls Tryd.prog 103 #[] w fun e w' => e = .returned (.pointer (some ⟨w.heap.size, 0, none⟩)) ∧ Below w.heap.size w w' ∧ w'.heap.size = w.heap.size + 1 ∧ hashIs w' w.heap.size (fun _ => 0) (fun _ => 0) 0 := by
  have hz := zero_hash
  go_enter Tryd.func103, Tryd.ntmps103
  go_wp2
  go_ret
  refine ⟨rfl, (Below.refl _ _).alloc (Nat.le_refl _) _, by simp, ?_⟩
  exact rowIs_box w _ _ _
set_option maxHeartbeats 400000 in
theorem first_any (w : World) :
    Calls Tryd.prog 120 #[] w fun e w' => e = .returned (.agg (rowV 8 fun i => .int .u32 (firstI.at i))) ∧ Below w.heap.size w w' := by
  go_enter Tryd.func120, Tryd.ntmps120
  go_wp2
  have r := rowIs_new w #[.int .u32 1779033703, .int .u32 3144134277, .int .u32 1013904242, .int .u32 2773480762, .int .u32 1359893119, .int .u32 2600822924, .int .u32 528734635, .int .u32 1541459225] 159 8 (fun i => .int .u32 (firstI.at i)) rfl (firstI.get)
  exact bodyPost_ret (results_cell_seg rfl _ _ w.heap.size 159 8 _ _ rfl Tryd.underlying159 rfl (by kernel_rfl) r) rfl ⟨rfl, (Below.refl _ _).alloc (Nat.le_refl _) _⟩
end Go.Proofs.YtkgegihkhdgdoaaDoor

namespace Go.Proofs.YtkgegihkhdgdoaaDoor
open Go.RowKit Go.Deep

set_option maxHeartbeats 1000000 in
set_option maxRecDepth 100000 in
theorem bytes_any (b t n : Nat) (F : Nat → Value) (v : Nat → Int) (w : World) (hv : ∀ i, i < 8 → F i = .int .u32 (v i)) (hn : 8 ≤ n) (hrow : w.rowIs b t n F) :
    Calls Tryd.prog 115 #[.pointer (some ⟨b, 0, none⟩)] w fun e w' => e = .returned (.agg (rowV 32 fun i => .int .u8 (sumByte v i))) ∧ Below w.heap.size w w' := by
  have hlt := hrow.lt
  go_enter Tryd.func115, Tryd.ntmps115
  go_wp2
  go_loopw [8] (fun i wr => ∃ k : Nat, k ≤ 8 ∧ i = .int .i64 k ∧ Below w.heap.size w wr ∧ wr.heap.size = w.heap.size + 2 ∧ wr.rowIs w.heap.size 32 32 (fun _ => .int .u8 0) ∧ wr.rowIs (w.heap.size + 1) 32 32 (fun j => .int .u8 (if j < 4 * k then sumByte v j else 0))) (fun i _ => 8 - (intOf i).toNat)
  case atStart =>
    refine ⟨0, by omega, rfl, ((Below.refl _ _).alloc (Nat.le_refl _) _).alloc (by simp) _, by simp, ?_, ?_⟩
    · exact (rowIs_zero w _ 32 32 (.int .u8 0) rfl).alloc _
    · have := rowIs_zero (w.alloc (.cells (Array.replicate 32 (.int .u8 0)) 32)) _ 32 32 (.int .u8 0) rfl
      simp only [nblk_alloc] at this
      exact this
  case round =>
    obtain ⟨k, hk, rfl, hb, hz, r0, r1⟩ := hrel
    by_cases hlt8 : k < 8
    · have c0 : wr.cell? ⟨b, k, none⟩ = some (.int .u32 (v k)) := by rw [hb.cell (p := ⟨b, k, none⟩) hlt, hrow.cell (by omega), hv k hlt8]
      have b0 : (0 : Int) ≤ (k : Int) := by omega
      have b1 : (k : Int) < 8 := by omega
      go_wp2
      go_quiet (fail)
      go_wp2
      go_loopw [14] (fun i wr => ∃ j : Nat, j ≤ 4 ∧ i = .int .i64 j ∧ Below w.heap.size w wr ∧ wr.heap.size = w.heap.size + 2 ∧ wr.rowIs w.heap.size 32 32 (fun _ => .int .u8 0) ∧ wr.rowIs (w.heap.size + 1) 32 32 (fun i => .int .u8 (if i < 4 * k + j then sumByte v i else 0))) (fun i _ => 4 - (intOf i).toNat)
      case atStart => exact ⟨0, by omega, rfl, hb.drewN _, hz, r0.drewN _, r1.drewN _⟩
      case round =>
        clear hb hz r0 r1 c0
        obtain ⟨j, hj, rfl, hb, hz, r0, r1⟩ := hrel
        by_cases hltj : j < 4
        · have g0 : (0 : Int) ≤ (j : Int) := by omega
          have g1 : (j : Int) < 4 := by omega
          have g2 : 4 * (k : Int) + (j : Int) < 32 := by omega
          have g3 : (0 : Int) ≤ 4 * (k : Int) + (j : Int) := by omega
          have g4 : (0 : Int) ≤ 24 - 8 * (j : Int) := by omega
          have g5 : 24 - 8 * (j : Int) ≤ 24 := by omega
          have z0 := r1.frozen (4 * k + j)
          have c1 := r1.cell (i := 4 * k + j) (by omega)
          go_wp2
          go_light
          refine ⟨⟨j + 1, by omega, by go_num, hb.setCell (by simp) _, by simpa using hz, r0.setOther (by simp) _, (r1.set (4 * k + j) _).congr fun i _ => ?_⟩, by simp [intOf]; omega⟩
          by_cases e : i = 4 * k + j
          · subst e; rw [if_pos rfl, if_pos (by omega), sumByte, show (4 * k + j) / 4 = k by omega, show (4 * k + j) % 4 = j by omega]
          · rw [if_neg e]
            by_cases e2 : i < 4 * k + j
            · rw [if_pos e2, if_pos (by omega)]
            · rw [if_neg e2, if_neg (by omega)]
        · obtain rfl : j = 4 := by omega
          go_wp2
          go_roundw
          case rel =>
            first
            | exact ⟨k + 1, by omega, by go_num, hb, hz, r0, r1⟩
            | ((repeat apply Exists.intro); refine ⟨?_, rfl⟩; exact ⟨k + 1, by omega, by go_num, hb, hz, r0, r1⟩)
          case measure => simp [intOf]; omega
    · obtain rfl : k = 8 := by omega
      clear hlt8 hk
      have hi : (Tryd.prog.info? 32).map (·.size) = some 32 := by kernel_rfl
      go_wp2_with (first | (refine wpList_load_seg rfl 32 _ rfl (w.heap.size + 1) 0 32 _ rfl _ Tryd.underlying32 rfl hi (fun i hi => by rw [Nat.zero_add]; exact r1.cell hi) ?_) | (refine wpList_store_row rfl 32 _ _ rfl rfl w.heap.size 0 32 _ rfl rfl hi (fun _ _ => rfl) _ _ _ r0 (by omega) ?_; intro W rW hzW hbut))
      exact bodyPost_ret (results_cell_seg rfl _ _ w.heap.size 32 32 _ _ rfl Tryd.underlying32 rfl hi (rW.congr fun i hi => by rw [if_pos (by omega), Nat.sub_zero, if_pos (by omega)])) rfl ⟨rfl, hb.trans ((hbut.mono (by omega)).below (Nat.le_refl _))⟩
end Go.Proofs.YtkgegihkhdgdoaaDoor

namespace Go.Proofs.YtkgegihkhdgdoaaDoor
open Go.RowKit Go.Deep

theorem hashV_splice_words (v f : Nat → Int) (c : Int) (v' : Nat → Int) (j : Nat) : (if 0 ≤ j ∧ j < 0 + 8 then Value.int .u32 (v' (j - 0)) else hashV v f c j) = hashV v' f c j := by
  by_cases h : j < 8
  · rw [if_pos (by omega), hashV, if_pos h, Nat.sub_zero]
  · rw [if_neg (by omega), hashV, hashV, if_neg h, if_neg h]

set_option maxHeartbeats 1000000 in
set_option maxRecDepth 100000 in
theorem begin_zero (b : Nat) (v f : Nat → Int) (w : World) (h : hashIs w b v f 0) :
    Calls Tryd.prog 112 #[.pointer (some ⟨b, 0, none⟩)] w fun e w' => e = .returned (.tuple #[]) ∧ But w.heap.size b w w' ∧ hashIs w' b firstI.at f 0 := by
  have hlt := h.lt
  have c0 : w.cell? ⟨b, 72, none⟩ = some (.int .u64 0) := h.cell (by omega)
  have hi : (Tryd.prog.info? 159).map (·.size) = some 8 := by kernel_rfl
  go_enter Tryd.func112, Tryd.ntmps112
  go_wp2_with fail
  refine (first_any _).mono ?_
  rintro e w1 ⟨rfl, hb1⟩
  have h1 : w1.rowIs b 163 73 (hashV v f 0) := hb1.row h hlt
  go_wp2_with (first | (refine wpList_store_row rfl 159 _ _ rfl rfl b 0 8 _ rfl rfl hi (fun _ _ => rfl) _ _ _ h1 (by omega) ?_; intro W rW hzW hbut))
  go_end0
  exact ⟨rfl, (But.of_below hb1 b).trans (hbut.mono hb1.size), rW.congr fun i _ => hashV_splice_words v f 0 _ i⟩
set_option maxHeartbeats 1000000 in
theorem begin_some (b : Nat) (v f : Nat → Int) (c : Nat) (hc : 0 < c) (w : World) (h : hashIs w b v f c) :
    Calls Tryd.prog 112 #[.pointer (some ⟨b, 0, none⟩)] w fun e w' => e = .returned (.tuple #[]) ∧ w' = w := by
  have c0 : w.cell? ⟨b, 72, none⟩ = some (.int .u64 c) := h.cell (by omega)
  have hd : ((c : Int) == 0) = false := by simp; omega
  go_enter Tryd.func112, Tryd.ntmps112
  go_wp2
  go_end0
  exact ⟨rfl, rfl⟩

end Go.Proofs.YtkgegihkhdgdoaaDoor

namespace Go.Proofs.YtkgegihkhdgdoaaDoor
open Go.RowKit Go.Deep

section
variable {P : Program}
/-- copy, out of some cells into a row. -/
theorem run_copy_seg (w : World) (dT sT ty elem : TypeId) (b o dLen dCap sb so sLen sCap m : Nat) (g : Nat → Value) (t n : Nat) (F : Nat → Value)
    (hu : P.underlying dT = some (.slice elem)) (hs : (P.info? elem).map (·.size) = some 1) (hm : m = Nat.min sLen dLen)
    (hr : w.rowIs b t n F) (hfit : o + m ≤ n) (hsrc : ∀ j, j < m → w.cell? ⟨sb, so + j, none⟩ = some (g j)) (h1 : ∀ j, j < m → (g j).oneCell' = true) :
    (Builtin.copy_ #[dT, sT] ty #[.slice (some ⟨b, o, none⟩) dLen dCap, .slice (some ⟨sb, so, none⟩) sLen sCap]).run P w = .ok (goInt m) (w.setCells b o (rowV m g).toList) := by
  have hlen : (rowV m g).toList.length = m := by rw [Array.length_toList, rowV_size]
  have hl := run_loadCells_list (P := P) w ⟨sb, so, none⟩ (rowV m g).toList (fun j v hv => by rw [Addr.add_mid]; exact range_of_cells hsrc j v hv)
  have ht := there_of_row hr hfit
  have hst := run_storeCells_cells (P := P) b o (rowV m g).toList 0 w (fun j hj => by rw [hlen] at hj; simpa using (ht j hj).1) (fun j hj => by rw [hlen] at hj; simpa using (ht j hj).2)
    (fun v hv => by
      rw [Array.mem_toList_iff] at hv
      obtain ⟨i, hi', rfl⟩ := Array.mem_iff_getElem.1 hv
      have hlt : i < m := by rw [rowV_size] at hi'; exact hi'
      have := rowV_get m g i hlt
      rw [Array.getElem?_eq_getElem hi'] at this
      rw [Option.some.inj this]; exact h1 i hlt)
  cases hq : P.info? elem with
  | none => simp [hq] at hs
  | some i =>
    have hi : i.size = 1 := by simpa [hq] using hs
    rw [hlen] at hl
    simp only [Nat.add_zero, Array.toArray_toList] at hl hst
    simp [Builtin.copy_, run_underlying hu, Builtin.lenOf, Builtin.firstCells, sizeOf, typeInfo, hq, hi, ← hm, hl, hst]
end

theorem wTo_congr {f g : Nat → Int} (h : ∀ i, i < 64 → f i = g i) : ∀ k, wTo f k = wTo g k
  | 0 => rfl
  | k + 1 => by
    rw [wTo, wTo, wTo_congr h k]
    by_cases e : k < 16
    · rw [if_pos e, if_pos e, wFirst, wFirst, h _ (by omega), h _ (by omega), h _ (by omega), h _ (by omega)]
    · rw [if_neg e, if_neg e]
theorem takeI_congr {v v' f f' : Nat → Int} (hv : ∀ i, i < 8 → v i = v' i) (hf : ∀ i, i < 64 → f i = f' i) (i : Nat) (hi : i < 8) : takeI v f i = takeI v' f' i := by
  have hw : wAt f 64 = wAt f' 64 := by funext j; rw [wAt, wAt, wTo_congr hf]
  rw [takeI, takeI, hw, hv i hi, hv 0 (by omega), hv 1 (by omega), hv 2 (by omega), hv 3 (by omega), hv 4 (by omega), hv 5 (by omega), hv 6 (by omega), hv 7 (by omega)]
/-- the words behind the first k blocks of some bytes. -/
def wordsAt (l : List Int) : Nat → Nat → Int
  | 0 => firstI.at
  | k + 1 => takeI (wordsAt l k) (fun i => l.getD (64 * k + i) 0)
theorem wordsAt_append (l m : List Int) : ∀ k, 64 * k ≤ l.length → ∀ i, i < 8 → wordsAt (l ++ m) k i = wordsAt l k i
  | 0, _, _, _ => rfl
  | k + 1, h, i, hi => by
    rw [wordsAt, wordsAt]
    refine takeI_congr (fun j hj => wordsAt_append l m k (by omega) j hj) (fun j hj => ?_) i hi
    rw [List.getD_eq_getElem?_getD, List.getD_eq_getElem?_getD, List.getElem?_append_left (by omega)]
theorem hash_range {w : World} {b : Nat} {v f : Nat → Int} {c : Int} (h : hashIs w b v f c) :
    ∃ cs : List Value, cs.length = 64 ∧ w.rangeAt b 8 cs ∧ Hid (cs.toArray = rowV 64 fun i => .int .u8 (f i)) :=
  ⟨(rowV 64 fun i => .int .u8 (f i)).toList, by rw [Array.length_toList, rowV_size], range_of_cells fun i hi => by rw [h.cell (by omega), hashV_byte _ _ _ _ hi], by rw [Hid, Array.toArray_toList]⟩
theorem cell_block_lt {w : World} {b i : Nat} {v : Value} (h : w.cell? ⟨b, i, none⟩ = some v) : b < w.heap.size := by
  rcases Nat.lt_or_ge b w.heap.size with h' | h'
  · exact h'
  · unfold World.cell? at h
    simp [Array.getElem?_eq_none h'] at h
/-- take, of a hash and its own block. -/
theorem take_hash (b : Nat) (v f : Nat → Int) (c : Int) (cs : List Value) (w : World) (Hcs : Hid (cs.toArray = rowV 64 fun i => .int .u8 (f i))) (h : hashIs w b v f c)
    (hk : ∀ i, i < 64 → w.cell? ⟨1, i, none⟩ = some (.int .u32 (kAt i))) :
    Calls Tryd.prog 122 #[.pointer (some ⟨b, 0, none⟩), .agg cs.toArray] w fun e w' => e = .returned (.tuple #[]) ∧ But w.heap.size b w w' ∧ hashIs w' b (takeI v f) f c ∧ w'.rangeAt b 8 cs := by
  rw [Hcs.out]
  have hlt := h.lt
  refine (take_any b _ 73 _ v f w (fun i hi => hashV_word v f c i hi) (by omega) h hk (cell_block_lt (hk 0 (by omega)))).mono ?_
  rintro e w' ⟨rfl, hb, hr⟩
  have hr' : hashIs w' b (takeI v f) f c := hr.congr fun i _ => by
    by_cases e : i < 8
    · rw [if_pos e, hashV_word _ _ _ _ e]
    · rw [if_neg e, hashV, hashV, if_neg e, if_neg e]
  refine ⟨rfl, hb, hr', ?_⟩
  have hcs : cs = (rowV 64 fun i => Value.int .u8 (f i)).toList := by rw [← Hcs.out]
  rw [hcs]
  exact range_of_cells fun i hi => by rw [hr'.cell (by omega), hashV_byte _ _ _ _ hi]
/-- A HASH TO WHICH THESE BYTES CAME, its words begun. -/
def hashOf (w : World) (b : Nat) (l : List Int) : Prop :=
  ∃ v f : Nat → Int, hashIs w b v f l.length ∧ (∀ i, i < 8 → v i = wordsAt l (l.length / 64) i) ∧ (∀ i, 0 ≤ f i ∧ f i ≤ 255) ∧ ∀ i, i < l.length % 64 → f i = l.getD (l.length / 64 * 64 + i) 0
end Go.Proofs.YtkgegihkhdgdoaaDoor

namespace Go.Proofs.YtkgegihkhdgdoaaDoor
open Go.RowKit Go.Deep

theorem min_or (a b : Nat) : Nat.min a b = a ∨ Nat.min a b = b := by
  rcases Nat.le_total a b with h | h
  · exact Or.inl (Nat.min_eq_left h)
  · exact Or.inr (Nat.min_eq_right h)
/-- a hash's bytes behind a copy of m bytes. -/
def addF (f : Nat → Int) (p : List Int) (d n m : Nat) (i : Nat) : Int := if n % 64 ≤ i ∧ i < n % 64 + m then p.getD (d + (i - n % 64)) 0 else f i
theorem addF_byte {f : Nat → Int} {p : List Int} {d n m : Nat} (hf : ∀ i, 0 ≤ f i ∧ f i ≤ 255) (hp : ∀ i, 0 ≤ p.getD i 0 ∧ p.getD i 0 ≤ 255) (i : Nat) : 0 ≤ addF f p d n m i ∧ addF f p d n m i ≤ 255 := by
  unfold addF; split
  · exact hp _
  · exact hf _
/-- the bytes of a hash behind a copy are those of the longer text. -/
theorem addF_text {l p : List Int} {d n m : Nat} {f : Nat → Int} (hd : d + m ≤ p.length) (hn : n = l.length + d) (hfl : ∀ i, i < n % 64 → f i = (l ++ p.take d).getD (n / 64 * 64 + i) 0) (i : Nat) (hi : i < n % 64 + m) :
    addF f p d n m i = (l ++ p.take (d + m)).getD (n / 64 * 64 + i) 0 := by
  have hL : (l ++ p.take d).length = n := by rw [List.length_append, List.length_take, Nat.min_eq_left (by omega), hn]
  have hsplit : l ++ p.take (d + m) = (l ++ p.take d) ++ (p.drop d).take m := by rw [List.append_assoc, ← List.take_add]
  rw [hsplit, List.getD_eq_getElem?_getD, List.getElem?_append, hL, addF]
  by_cases e : n % 64 ≤ i
  · rw [if_pos ⟨e, hi⟩, if_neg (by omega), show n / 64 * 64 + i - n = i - n % 64 by omega, List.getElem?_take, if_pos (by omega), List.getElem?_drop, ← List.getD_eq_getElem?_getD]
  · rw [if_neg (by omega), if_pos (by omega), ← List.getD_eq_getElem?_getD]; exact hfl i (by omega)
theorem hash_more {w : World} {b : Nat} {l p : List Int} {d n m : Nat} {v f : Nat → Int} (hd : d + m ≤ p.length) (hn : n = l.length + d) (hm : n % 64 + m < 64) (hfl : ∀ i, i < n % 64 → f i = (l ++ p.take d).getD (n / 64 * 64 + i) 0)
    (hf : ∀ i, 0 ≤ f i ∧ f i ≤ 255) (hp : ∀ i, 0 ≤ p.getD i 0 ∧ p.getD i 0 ≤ 255) (hv : ∀ i, i < 8 → v i = wordsAt (l ++ p.take d) (n / 64) i) (h : hashIs w b v (addF f p d n m) ((n + m : Nat) : Int)) : hashOf w b (l ++ p.take (d + m)) := by
  have hL : (l ++ p.take (d + m)).length = n + m := by rw [List.length_append, List.length_take, Nat.min_eq_left (by omega), hn]; omega
  have hL0 : (l ++ p.take d).length = n := by rw [List.length_append, List.length_take, Nat.min_eq_left (by omega), hn]
  have hsplit : l ++ p.take (d + m) = (l ++ p.take d) ++ (p.drop d).take m := by rw [List.append_assoc, ← List.take_add]
  refine ⟨v, addF f p d n m, by rw [hL]; exact h, fun i hi => ?_, addF_byte hf hp, fun i hi => ?_⟩
  · rw [hL, show (n + m) / 64 = n / 64 by omega, hv i hi, hsplit, wordsAt_append (l ++ p.take d) ((p.drop d).take m) _ (by rw [hL0]; omega) i hi]
  · rw [hL] at hi ⊢
    rw [show (n + m) / 64 = n / 64 by omega]
    exact addF_text hd hn hfl i (by omega)
theorem hash_full {w : World} {b : Nat} {l p : List Int} {d n m : Nat} {v f : Nat → Int} (hd : d + m ≤ p.length) (hn : n = l.length + d) (hm : n % 64 + m = 64) (hfl : ∀ i, i < n % 64 → f i = (l ++ p.take d).getD (n / 64 * 64 + i) 0)
    (hf : ∀ i, 0 ≤ f i ∧ f i ≤ 255) (hp : ∀ i, 0 ≤ p.getD i 0 ∧ p.getD i 0 ≤ 255) (hv : ∀ i, i < 8 → v i = wordsAt (l ++ p.take d) (n / 64) i) (h : hashIs w b (takeI v (addF f p d n m)) (addF f p d n m) ((n + m : Nat) : Int)) : hashOf w b (l ++ p.take (d + m)) := by
  have hL : (l ++ p.take (d + m)).length = n + m := by rw [List.length_append, List.length_take, Nat.min_eq_left (by omega), hn]; omega
  have hL0 : (l ++ p.take d).length = n := by rw [List.length_append, List.length_take, Nat.min_eq_left (by omega), hn]
  have hsplit : l ++ p.take (d + m) = (l ++ p.take d) ++ (p.drop d).take m := by rw [List.append_assoc, ← List.take_add]
  refine ⟨takeI v (addF f p d n m), addF f p d n m, by rw [hL]; exact h, fun i hi => ?_, addF_byte hf hp, fun i hi => ?_⟩
  · rw [hL, show (n + m) / 64 = n / 64 + 1 by omega, wordsAt]
    refine takeI_congr (fun j hj => ?_) (fun j hj => ?_) i hi
    · rw [hv j hj, hsplit, wordsAt_append (l ++ p.take d) ((p.drop d).take m) _ (by rw [hL0]; omega) j hj]
    · rw [addF_text hd hn hfl j (by omega), Nat.mul_comm]
  · rw [hL] at hi
    omega
def sliceLen : Value → Nat
  | .slice _ n _ => n
  | _ => 0
set_option maxHeartbeats 1000000 in
set_option maxRecDepth 100000 in
theorem add_any (b : Nat) (l p : List Int) (pb po cap : Nat) (w : World) (h : hashOf w b l) (hne : pb ≠ b) (hpb : pb < w.heap.size) (hcap : p.length ≤ cap) (hbig : l.length + p.length < 1099511627776)
    (hcell : ∀ i, i < p.length → w.cell? ⟨pb, po + i, none⟩ = some (.int .u8 (p.getD i 0))) (hbyte : ∀ i, 0 ≤ p.getD i 0 ∧ p.getD i 0 ≤ 255)
    (hk : ∀ i, i < 64 → w.cell? ⟨1, i, none⟩ = some (.int .u32 (kAt i))) (hb0 : b ≠ 1) (hcm : cap ≤ maxLen) :
    Calls Tryd.prog 113 #[.pointer (some ⟨b, 0, none⟩), .slice (some ⟨pb, po, none⟩) p.length cap] w fun e w' => e = .returned (.tuple #[]) ∧ But w.heap.size b w w' ∧ hashOf w' b (l ++ p) := by
  unfold maxLen at hcm
  have hlt : b < w.heap.size := by obtain ⟨v, f, h, _⟩ := h; exact h.lt
  go_enter Tryd.func113, Tryd.ntmps113
  go_wp2
  go_loopw [1] (fun s wr => ∃ d r c o : Nat, d + r ≤ p.length ∧ p.length ≤ d + r ∧ r ≤ c ∧ c ≤ cap ∧ (0 < r → o = po + d) ∧ s = .slice (some ⟨pb, o, none⟩) r c ∧ But w.heap.size b w wr ∧ hashOf wr b (l ++ p.take d)) (fun s _ => sliceLen s)
  case atStart => exact ⟨0, p.length, cap, po, by omega, by omega, hcap, Nat.le_refl _, fun _ => rfl, rfl, But.refl _ _ _, by simpa using h⟩
  case round =>
    clear h
    obtain ⟨d, r, c, o, hd1, hd2, hrc, hcc, ho, rfl, hbut, v, f, h, hv, hf, hfl⟩ := hrel
    have hl : (l ++ p.take d).length = l.length + d := by rw [List.length_append, List.length_take, Nat.min_eq_left (by omega)]
    rw [hl] at h hv hfl
    clear hl
    obtain ⟨n, hn⟩ : ∃ n, n = l.length + d := ⟨_, rfl⟩
    rw [← hn] at h hv hfl
    have HN : Hid (n = l.length + d) := hn
    have hn2 : n < 1099511627776 := by omega
    clear hn
    by_cases hr : 0 < r
    · obtain rfl := ho hr
      clear ho
      have q0 : (0 : Int) < (r : Int) := by omega
      have q1 : (0 : Int) ≤ (n : Int) % 64 := by omega
      have q2 : (n : Int) % 64 < 64 := by omega
      have q3 : (n : Int) % 64 ≤ 64 := by omega
      obtain ⟨m, hm⟩ : ∃ m, m = Nat.min r (64 - ((n : Int) % 64).toNat) := ⟨_, rfl⟩
      have hmr : m ≤ r := by rw [hm]; exact Nat.min_le_left _ _
      have hmq : m ≤ 64 - ((n : Int) % 64).toNat := by rw [hm]; exact Nat.min_le_right _ _
      have hm0 : 0 < m := by rw [hm]; exact Nat.lt_min.2 ⟨by omega, by omega⟩
      have hmx : m = r ∨ m = 64 - ((n : Int) % 64).toNat := by rw [hm]; exact min_or _ _
      have hsrc : ∀ j, j < m → wr.drew.cell? ⟨pb, po + d + j, none⟩ = some (.int .u8 (p.getD (d + j) 0)) := fun j hj => by
        show wr.cell? _ = _
        rw [hbut.cell hpb hne, Nat.add_assoc]; exact hcell _ (by omega)
      have hcp := run_copy_seg (P := Tryd.prog) wr.drew 23 23 3 5 b (8 + ((n : Int) % 64).toNat) (64 - ((n : Int) % 64).toNat) (64 - ((n : Int) % 64).toNat) pb (po + d) r c m (fun j => .int .u8 (p.getD (d + j) 0)) 163 73 (hashV v f n) Tryd.underlying23 (by kernel_rfl) hm h.drew (by omega) hsrc (fun _ _ => rfl)
      have rW : (wr.drew.setCells b (8 + ((n : Int) % 64).toNat) (rowV m fun j => .int .u8 (p.getD (d + j) 0)).toList).rowIs b 163 73 _ := rowIs_splice h.drew
      have hbW : But w.heap.size b w (wr.drew.setCells b (8 + ((n : Int) % 64).toNat) (rowV m fun j => .int .u8 (p.getD (d + j) 0)).toList) := but_setCells _ _ hbut.drew
      revert hcp rW hbW
      generalize wr.drew.setCells b (8 + ((n : Int) % 64).toNat) (rowV m fun j => .int .u8 (p.getD (d + j) 0)).toList = W
      intro hcp rW hbW
      have HM : Hid (m = r ∨ m = 64 - ((n : Int) % 64).toNat) := hmx
      clear hm hsrc hmx
      go_wp2
      go_region_held3 (fun _ => True) (trivial) (first | (go_at_call 121; refine (waiting_any b v f n _ ?_).mono ?_; exact h; rintro e w' ⟨rfl, rfl⟩))
      clear hcp
      obtain ⟨o', ho', hsl⟩ := run_slice_from (P := Tryd.prog) 23 5 pb (po + d) r c m Tryd.underlying23 (by kernel_rfl) hmr
      have cW : W.cell? ⟨b, 72, none⟩ = some (.int .u64 n) := by rw [rW.cell (by omega), if_neg (by omega), hashV_count]
      have zW := rW.frozen 72
      have HO : Hid (m < c → o' = po + d + m) := ho'
      clear ho'
      have rW' : hashIs W b v (addF f p d n m) n := rW.congr fun i hi => by
        unfold hashV addF
        by_cases e : i < 8
        · rw [if_neg (by omega), if_pos e, if_pos e]
        · by_cases e2 : i < 72
          · rw [if_neg e, if_pos e2, if_neg e, if_pos e2]
            by_cases e3 : n % 64 ≤ i - 8 ∧ i - 8 < n % 64 + m
            · rw [if_pos (by omega), if_pos e3, show i - (8 + ((n : Int) % 64).toNat) = i - 8 - n % 64 by omega]
            · rw [if_neg (by omega), if_neg e3]
          · rw [if_neg (by omega), if_neg e, if_neg e2, if_neg e, if_neg e2]
      have r2 : hashIs (W.setCell ⟨b, 72, none⟩ (.int .u64 ((n : Int) + m))) b v (addF f p d n m) ((n + m : Nat) : Int) := (rW'.set 72 _).congr fun i hi => by
        unfold hashV
        by_cases e : i = 72
        · rw [if_pos e, if_neg (by omega), if_neg (by omega), Int.natCast_add]
        · rw [if_neg e]
          by_cases e1 : i < 8
          · rw [if_pos e1, if_pos e1]
          · rw [if_neg e1, if_neg e1, if_pos (by omega), if_pos (by omega)]
      have hb2 := hbW.set 72 (.int .u64 ((n : Int) + m))
      have HR : Hid (But w.heap.size b w W ∧ hashIs W b v (addF f p d n m) n) := ⟨hbW, rW'⟩
      clear rW rW' hbW
      by_cases hfull : (n + m) % 64 = 0
      · have hdb : (((n : Int) + (m : Int)) % 64 == 0) = true := by simp; omega
        go_wp2
        revert r2 hb2
        generalize W.setCell ⟨b, 72, none⟩ (.int .u64 ((n : Int) + m)) = W2
        intro r2 hb2
        obtain ⟨cs, hcl, hcr, Hcs⟩ := hash_range r2
        have hu := Tryd.underlying161
        have hi : (Tryd.prog.info? 161).map (·.size) = some cs.length := by rw [hcl]; kernel_rfl
        have hk2 : ∀ i, i < 64 → W2.cell? ⟨1, i, none⟩ = some (.int .u32 (kAt i)) := fun i hi => by rw [hb2.cell (by have := cell_block_lt (hk i hi); omega) (Ne.symm hb0)]; exact hk i hi
        go_region_held3 (fun w' => w'.rangeAt b 8 cs) (first | exact hrng | exact hcr) (first | (go_at_call 122; refine (take_hash b v (addF f p d n m) _ cs _ Hcs r2.drew hk2).mono ?_; rintro e w3 ⟨rfl, hb3, r3, hrng⟩))
        go_wp2
        go_light
        exact ⟨⟨d + m, r - m, c - m, o', by omega, by omega, by omega, by omega, fun h => by have := HO.out (by omega); omega, rfl, hb2.drew.trans (hb3.mono hb2.size), hash_full (by omega) HN.out (by omega) hfl hf hbyte hv r3⟩, by simp [sliceLen]; omega⟩
      · have hdb : (((n : Int) + (m : Int)) % 64 == 0) = false := by simp; omega
        go_wp2
        go_light
        have hm2 : m = r := by have := HM.out; omega
        exact ⟨⟨d + m, r - m, c - m, o', by omega, by omega, by omega, by omega, fun h => by have := HO.out (by omega); omega, rfl, hb2, hash_more (by omega) HN.out (by omega) hfl hf hbyte hv r2⟩, by simp [sliceLen]; omega⟩
    · obtain rfl : r = 0 := by omega
      go_wp2
      go_end0
      have hpl : d = p.length := by omega
      subst hpl
      refine ⟨rfl, hbut, v, f, ?_⟩
      rw [List.take_length] at hv hfl
      have e2 : (l ++ p).length = n := by rw [List.length_append, HN.out]
      rw [e2]
      exact ⟨h, hv, hf, hfl⟩
end Go.Proofs.YtkgegihkhdgdoaaDoor

namespace Go.Proofs.YtkgegihkhdgdoaaDoor
open Go.RowKit Go.Deep

section
variable {P : Program}
/-- a[m:] of an array behind a pointer, its elements of one cell. -/
theorem run_sliceAt_arr (t e : TypeId) (b o len m : Nat) (x : Int) (hx : x = m) (hu : P.underlying t = some (.array len e)) (hs : (P.info? e).map (·.size) = some 1) (hm : m ≤ len) :
    ∃ o', (m < len → o' = o + m) ∧ ∀ w : World, (Instr.sliceAt t (.pointer (some ⟨b, o, none⟩)) (some (.int .i64 x)) none none).run P w = .ok (.slice (some ⟨b, o', none⟩) (len - m) (len - m)) w := by
  subst hx
  cases hq : P.info? e with
  | none => simp [hq] at hs
  | some i =>
    have hi : i.size = 1 := by simpa [hq] using hs
    have h0 : (0 : Int) ≤ (m : Int) ∧ (m : Int) ≤ (len : Int) := by omega
    by_cases hc : len = m
    · refine ⟨o, fun h => by omega, fun w => ?_⟩
      simp [Instr.sliceAt, Instr.sliceBounds, Instr.sliceBound, asIntOf, Instr.sureAddr, run_underlying hu, sizeOf, typeInfo, hq, h0, hc]
    · refine ⟨o + m, fun _ => rfl, fun w => ?_⟩
      simp [Instr.sliceAt, Instr.sliceBounds, Instr.sliceBound, asIntOf, Instr.sureAddr, run_underlying hu, sizeOf, typeInfo, hq, hi, h0, hc, hm, Addr.add_mid]
/-- clear, of any number of elements of one cell each in a row. -/
theorem run_clear_seg (w : World) (t e ty : TypeId) (z : Value) (ht : P.underlying t = some (.slice e)) (hv : ∀ w, (zeroValue e).run P w = .ok z w) (hz : z.cells = #[z]) (h1 : z.oneCell' = true) (b o n c T N : Nat) (F : Nat → Value)
    (hr : w.rowIs b T N F) (hn : 0 < n → o + n ≤ N) :
    (Builtin.clear_ #[t] ty #[.slice (some ⟨b, o, none⟩) n c]).run P w = .ok (.tuple #[]) (w.setCells b o (List.replicate n z)) := by
  by_cases h : 0 < n
  · exact Lib.run_clear_slice w t e ty z ht hv hz h1 b o n c h (fun j hj => by rw [hr.cell (by omega)]; rfl) (fun j _ => hr.frozen _)
  · obtain rfl : n = 0 := by omega
    simp [Builtin.clear_, run_underlying ht, World.setCells]
end

/-- a block's bytes behind the message's end. -/
def padF (f : Nat → Int) (q i : Nat) : Int := if i < q then f i else if i = q then 128 else 0
/-- the length's bytes at a block's end. -/
def lenF (f : Nat → Int) (n i : Nat) : Int := if i < 56 then f i else (8 * (n : Int)) / 2 ^ (56 - 8 * (i - 56)) % 256
/-- the words of a whole message. -/
def padW (v f : Nat → Int) (n : Nat) : Nat → Int :=
  if n % 64 < 56 then takeI v (lenF (padF f (n % 64)) n) else takeI (takeI v (padF f (n % 64))) (lenF (fun _ => 0) n)
theorem hashV_set_byte (v f : Nat → Int) (c : Int) (q : Nat) (x : Int) (hq : q < 64) (j : Nat) : (if j = 8 + q then Value.int .u8 x else hashV v f c j) = hashV v (fun i => if i = q then x else f i) c j := by
  unfold hashV
  dsimp only
  by_cases e : j = 8 + q
  · subst e; rw [if_pos rfl, if_neg (by omega), if_pos (by omega), if_pos (by omega)]
  · rw [if_neg e]
    by_cases e1 : j < 8
    · rw [if_pos e1, if_pos e1]
    · rw [if_neg e1, if_neg e1]
      by_cases e2 : j < 72
      · rw [if_pos e2, if_pos e2, if_neg (by omega)]
      · rw [if_neg e2, if_neg e2]
/-- one byte of a hash's block is stored. -/
theorem hash_set {w : World} {b : Nat} {v f : Nat → Int} {c : Int} (h : hashIs w b v f c) (q : Nat) (hq : q < 64) (x : Int) : hashIs (w.setCell ⟨b, 8 + q, none⟩ (.int .u8 x)) b v (fun i => if i = q then x else f i) c :=
  (h.set (8 + q) (.int .u8 x)).congr fun j _ => hashV_set_byte v f c q x hq j
theorem hash_congr {w : World} {b : Nat} {v f g : Nat → Int} {c : Int} (h : hashIs w b v f c) (e : ∀ i, i < 64 → f i = g i) : hashIs w b v g c :=
  h.congr fun j _ => by
    unfold hashV
    by_cases e1 : j < 8
    · rw [if_pos e1, if_pos e1]
    · rw [if_neg e1, if_neg e1]
      by_cases e2 : j < 72
      · rw [if_pos e2, if_pos e2, e _ (by omega)]
      · rw [if_neg e2, if_neg e2]
/-- noughts behind the byte q. -/
theorem hash_clear {w : World} {b o' : Nat} {v f : Nat → Int} {c : Int} (h : hashIs w b v f c) (q : Nat) (hq : q < 64) (ho : q + 1 < 64 → o' = 8 + (q + 1)) :
    hashIs (w.setCells b o' (List.replicate (63 - q) (.int .u8 0))) b v (fun i => if q < i then 0 else f i) c :=
  (rowIs_setCells _ _ h).congr fun j hj => by
    rw [List.length_replicate]
    unfold hashV
    dsimp only
    by_cases e : o' ≤ j ∧ j < o' + (63 - q)
    · have := ho (by omega)
      rw [if_pos e, if_neg (by omega), if_pos (by omega), if_pos (by omega), List.getD_eq_getElem?_getD, List.getElem?_replicate, if_pos (by omega)]; rfl
    · rw [if_neg e]
      by_cases e1 : j < 8
      · rw [if_pos e1, if_pos e1]
      · rw [if_neg e1, if_neg e1]
        by_cases e2 : j < 72
        · have h3 : ¬ q < j - 8 := fun h2 => by have := ho (by omega); omega
          rw [if_pos e2, if_pos e2, if_neg h3]
        · rw [if_neg e2, if_neg e2]
theorem zero_byte : ∀ w : World, (zeroValue 5).run Tryd.prog w = .ok (.int .u8 0) w := fun w => by kernel_rfl

set_option maxHeartbeats 1000000 in
set_option maxRecDepth 100000 in
theorem pad_short (b : Nat) (v f : Nat → Int) (n : Nat) (w : World) (h : hashIs w b v f n) (hn : n < 1099511627776) (hq : n % 64 < 56)
    (hk : ∀ i, i < 64 → w.cell? ⟨1, i, none⟩ = some (.int .u32 (kAt i))) (hb0 : b ≠ 1) :
    Calls Tryd.prog 114 #[.pointer (some ⟨b, 0, none⟩)] w fun e w' => e = .returned (.tuple #[]) ∧ But w.heap.size b w w' ∧ ∃ f', hashIs w' b (padW v f n) f' n := by
  have hlt := h.lt
  obtain ⟨q, hqn⟩ : ∃ q, q = n % 64 := ⟨_, rfl⟩
  have hq56 : q < 56 := by omega
  have q1 : (q : Int) < 56 := by omega
  have q0 : (0 : Int) ≤ (q : Int) := by omega
  have q2 : (q : Int) < 64 := by omega
  have hw := waiting_any b v f n w h
  rw [show (n : Int) % 64 = (q : Int) by omega] at hw
  have cq : w.cell? ⟨b, 8 + q, none⟩ = some (.int .u8 (f q)) := by rw [h.cell (by omega), hashV_byte _ _ _ _ (by omega)]
  have zq := h.frozen (8 + q)
  have HQ : Hid (q = n % 64) := hqn
  clear hqn hq
  have rA := hash_set h q (by omega) 128
  obtain ⟨o', ho', hsl⟩ := run_sliceAt_arr (P := Tryd.prog) 161 5 b 8 64 (q + 1) ((q : Int) + 1) (by omega) Tryd.underlying161 (by kernel_rfl) (by omega)
  have hcl := run_clear_seg (P := Tryd.prog) (w.setCell ⟨b, 8 + q, none⟩ (.int .u8 128)) 23 5 0 (.int .u8 0) Tryd.underlying23 zero_byte rfl rfl b o' (63 - q) (63 - q) _ _ _ rA (fun h => by have := ho' (by omega); omega)
  have rW := hash_clear rA q (by omega) ho'
  have hbW : But w.heap.size b w ((w.setCell ⟨b, 8 + q, none⟩ (.int .u8 128)).setCells b o' (List.replicate (63 - q) (.int .u8 0))) := but_setCells _ _ ((But.refl _ _ _).set _ _)
  revert hcl rW hbW
  generalize (w.setCell ⟨b, 8 + q, none⟩ (.int .u8 128)).setCells b o' (List.replicate (63 - q) (.int .u8 0)) = W
  intro hcl rW hbW
  have rW' : hashIs W b v (padF f q) n := hash_congr rW fun i _ => by
    unfold padF
    by_cases e : q < i
    · rw [if_pos e, if_neg (by omega), if_neg (by omega)]
    · rw [if_neg e]
      by_cases e2 : i = q
      · rw [if_pos e2, if_neg (by omega), if_pos e2]
      · rw [if_neg e2, if_pos (by omega)]
  have cW : W.cell? ⟨b, 72, none⟩ = some (.int .u64 n) := rW.cell (by omega)
  clear rW ho' rA
  go_enter Tryd.func114, Tryd.ntmps114
  go_wp2_with fail
  refine hw.mono ?_
  rintro e w' ⟨rfl, hww⟩
  obtain rfl := hww.symm
  clear hw hww
  go_wp2
  clear hcl hsl cW cq zq
  go_loopw [37] (fun i wr => ∃ k : Nat, k ≤ 8 ∧ i = .int .i64 k ∧ But w.heap.size b w wr ∧ hashIs wr b v (fun j => if j < 56 + k then lenF (padF f q) n j else (padF f q) j) n) (fun i _ => 8 - (intOf i).toNat)
  case atStart => exact ⟨0, by omega, rfl, hbW, hash_congr rW' fun i _ => by
    by_cases e : i < 56
    · rw [if_pos (by omega), lenF, if_pos e]
    · rw [if_neg (by omega)]⟩
  case round =>
    clear hbW rW'
    obtain ⟨k, hk8, rfl, hb, r⟩ := hrel
    by_cases hlt8 : k < 8
    · have b0 : (0 : Int) ≤ (k : Int) := by omega
      have b1 : (k : Int) < 8 := by omega
      have b2 : (0 : Int) ≤ 56 + (k : Int) := by omega
      have b3 : 56 + (k : Int) < 64 := by omega
      have b4 : (0 : Int) ≤ 56 - 8 * (k : Int) := by omega
      have b5 : 56 - 8 * (k : Int) ≤ 64 := by omega
      have e1 : IntKind.i64.wrap (56 + (k : Int)) = 56 + (k : Int) := IntWalk.i64_in _ (by omega)
      have e2 : IntKind.i64.wrap (8 * (k : Int)) = 8 * (k : Int) := IntWalk.i64_in _ (by omega)
      have e3 : IntKind.i64.wrap (56 - 8 * (k : Int)) = 56 - 8 * (k : Int) := IntWalk.i64_in _ (by omega)
      obtain ⟨x, c2⟩ : ∃ x, wr.cell? ⟨b, 8 + (56 + k), none⟩ = some x := ⟨_, r.cell (by omega)⟩
      have c1 : wr.cell? ⟨b, 8 + (56 + (k : Int)).toNat, none⟩ = some x := by
        rw [show (56 + (k : Int)).toNat = 56 + k by omega]; exact c2
      have z1 := r.frozen (8 + (56 + (k : Int)).toNat)
      have z2 := r.frozen (8 + (56 + k))
      go_wp2
      go_region
      go_wp2
      go_light
      refine ⟨⟨k + 1, by omega, by go_num, (hb.set _ _).drew, hash_congr (hash_set r (56 + k) (by omega) _) fun i _ => ?_⟩, by simp [intOf]; omega⟩
      by_cases e : i = 56 + k
      · subst e; rw [if_pos rfl, if_pos (by omega), lenF, if_neg (by omega), show 56 + k - 56 = k by omega]
      · rw [if_neg e]
        by_cases e2 : i < 56 + k
        · rw [if_pos e2, if_pos (by omega)]
        · rw [if_neg e2, if_neg (by omega)]
    · obtain rfl : k = 8 := by omega
      have r2 : hashIs wr b v (lenF (padF f q) n) n := hash_congr r fun i hi => by rw [if_pos (by omega)]
      clear r
      go_wp2
      obtain ⟨cs, hcl, hcr, Hcs⟩ := hash_range r2
      have hu := Tryd.underlying161
      have hi : (Tryd.prog.info? 161).map (·.size) = some cs.length := by rw [hcl]; kernel_rfl
      have hk2 : ∀ i, i < 64 → wr.cell? ⟨1, i, none⟩ = some (.int .u32 (kAt i)) := fun i hi => by rw [hb.cell (by have := cell_block_lt (hk i hi); omega) (Ne.symm hb0)]; exact hk i hi
      go_region_held3 (fun w' => w'.rangeAt b 8 cs) (first | exact hrng | exact hcr) (first | (go_at_call 122; refine (take_hash b v (lenF (padF f q) n) _ cs _ Hcs r2.drew hk2).mono ?_; rintro e w3 ⟨rfl, hb3, r3, hrng⟩))
      go_wp2
      go_end0
      exact ⟨rfl, hb.drew.trans (hb3.mono hb.size), _, by rw [padW, ← HQ.out, if_pos hq56]; exact r3⟩

set_option maxHeartbeats 1000000 in
set_option maxRecDepth 100000 in
theorem pad_long (b : Nat) (v f : Nat → Int) (n : Nat) (w : World) (h : hashIs w b v f n) (hn : n < 1099511627776) (hq : 56 ≤ n % 64)
    (hk : ∀ i, i < 64 → w.cell? ⟨1, i, none⟩ = some (.int .u32 (kAt i))) (hb0 : b ≠ 1) :
    Calls Tryd.prog 114 #[.pointer (some ⟨b, 0, none⟩)] w fun e w' => e = .returned (.tuple #[]) ∧ But w.heap.size b w w' ∧ ∃ f', hashIs w' b (padW v f n) f' n := by
  have hlt := h.lt
  obtain ⟨q, hqn⟩ : ∃ q, q = n % 64 := ⟨_, rfl⟩
  have hq56 : 56 ≤ q := by omega
  have hq64 : q < 64 := by omega
  have q1 : (56 : Int) ≤ (q : Int) := by omega
  have q0 : (0 : Int) ≤ (q : Int) := by omega
  have q2 : (q : Int) < 64 := by omega
  have hw := waiting_any b v f n w h
  rw [show (n : Int) % 64 = (q : Int) by omega] at hw
  have cq : w.cell? ⟨b, 8 + q, none⟩ = some (.int .u8 (f q)) := by rw [h.cell (by omega), hashV_byte _ _ _ _ (by omega)]
  have zq := h.frozen (8 + q)
  have HQ : Hid (q = n % 64) := hqn
  clear hqn hq
  have rA := hash_set h q (by omega) 128
  obtain ⟨o', ho', hsl⟩ := run_sliceAt_arr (P := Tryd.prog) 161 5 b 8 64 (q + 1) ((q : Int) + 1) (by omega) Tryd.underlying161 (by kernel_rfl) (by omega)
  have hcl := run_clear_seg (P := Tryd.prog) (w.setCell ⟨b, 8 + q, none⟩ (.int .u8 128)) 23 5 0 (.int .u8 0) Tryd.underlying23 zero_byte rfl rfl b o' (63 - q) (63 - q) _ _ _ rA (fun h => by have := ho' (by omega); omega)
  have rW := hash_clear rA q (by omega) ho'
  have hbW : But w.heap.size b w ((w.setCell ⟨b, 8 + q, none⟩ (.int .u8 128)).setCells b o' (List.replicate (63 - q) (.int .u8 0))) := but_setCells _ _ ((But.refl _ _ _).set _ _)
  revert hcl rW hbW
  generalize (w.setCell ⟨b, 8 + q, none⟩ (.int .u8 128)).setCells b o' (List.replicate (63 - q) (.int .u8 0)) = W
  intro hcl rW hbW
  have rW' : hashIs W b v (padF f q) n := hash_congr rW fun i _ => by
    unfold padF
    by_cases e : q < i
    · rw [if_pos e, if_neg (by omega), if_neg (by omega)]
    · rw [if_neg e]
      by_cases e2 : i = q
      · rw [if_pos e2, if_neg (by omega), if_pos e2]
      · rw [if_neg e2, if_pos (by omega)]
  have cW : W.cell? ⟨b, 72, none⟩ = some (.int .u64 n) := rW.cell (by omega)
  clear rW ho' rA
  go_enter Tryd.func114, Tryd.ntmps114
  go_wp2_with fail
  refine hw.mono ?_
  rintro e w' ⟨rfl, hww⟩
  obtain rfl := hww.symm
  clear hw hww
  have hz0 := zero_block
  have hi64 : (Tryd.prog.info? 161).map (·.size) = some 64 := by kernel_rfl
  go_wp2
  clear hcl hsl cW cq zq
  obtain ⟨cs, hcl, hcr, Hcs⟩ := hash_range rW'
  have hu := Tryd.underlying161
  have hi : (Tryd.prog.info? 161).map (·.size) = some cs.length := by rw [hcl]; kernel_rfl
  have hk2 : ∀ i, i < 64 → W.cell? ⟨1, i, none⟩ = some (.int .u32 (kAt i)) := fun i hi => by rw [hbW.cell (by have := cell_block_lt (hk i hi); omega) (Ne.symm hb0)]; exact hk i hi
  go_region_held3 (fun w' => w'.rangeAt b 8 cs) (first | exact hrng | exact hcr) (first | (go_at_call 122; refine (take_hash b v (padF f q) _ cs _ Hcs rW'.drew hk2).mono ?_; rintro e w3 ⟨rfl, hb3, r3, hrng⟩))
  have hb3' := hbW.drew.trans (hb3.mono hbW.size)
  clear hb3 hbW rW' hcl hcr Hcs hi hk2 hrng
  go_wp2_with (first | (refine wpList_store_row rfl 161 _ _ rfl rfl b 8 64 _ rfl rfl hi64 (fun _ _ => rfl) _ _ _ r3 (by omega) ?_; intro W4 r4 hz4 hb4; have cW : W4.cell? ⟨b, 72, none⟩ = some (.int .u64 n) := (by rw [r4.cell (by omega), if_neg (by omega), hashV_count])))
  have hb5 := hb3'.trans (hb4.mono hb3'.size)
  have r5 : hashIs W4 b (takeI v (padF f q)) (fun _ => 0) n := r4.congr fun j hj => by
    unfold hashV
    by_cases e1 : j < 8
    · rw [if_neg (by omega), if_pos e1, if_pos e1]
    · by_cases e2 : j < 72
      · rw [if_pos (by omega), if_neg e1, if_pos e2]
      · rw [if_neg (by omega), if_neg e1, if_neg e2, if_neg e1, if_neg e2]
  clear hb3' hb4 r4 r3 hz4 cW
  go_loopw [37] (fun i wr => ∃ k : Nat, k ≤ 8 ∧ i = .int .i64 k ∧ But w.heap.size b w wr ∧ hashIs wr b (takeI v (padF f q)) (fun j => if j < 56 + k then lenF (fun _ => 0) n j else (fun _ => 0) j) n) (fun i _ => 8 - (intOf i).toNat)
  case atStart => exact ⟨0, by omega, rfl, hb5, hash_congr r5 fun i _ => by
    by_cases e : i < 56
    · rw [if_pos (by omega), lenF, if_pos e]
    · rw [if_neg (by omega)]⟩
  case round =>
    clear hb5 r5
    obtain ⟨k, hk8, rfl, hb, r⟩ := hrel
    by_cases hlt8 : k < 8
    · have b0 : (0 : Int) ≤ (k : Int) := by omega
      have b1 : (k : Int) < 8 := by omega
      have b2 : (0 : Int) ≤ 56 + (k : Int) := by omega
      have b3 : 56 + (k : Int) < 64 := by omega
      have b4 : (0 : Int) ≤ 56 - 8 * (k : Int) := by omega
      have b5 : 56 - 8 * (k : Int) ≤ 64 := by omega
      have e1 : IntKind.i64.wrap (56 + (k : Int)) = 56 + (k : Int) := IntWalk.i64_in _ (by omega)
      have e2 : IntKind.i64.wrap (8 * (k : Int)) = 8 * (k : Int) := IntWalk.i64_in _ (by omega)
      have e3 : IntKind.i64.wrap (56 - 8 * (k : Int)) = 56 - 8 * (k : Int) := IntWalk.i64_in _ (by omega)
      obtain ⟨x, c2⟩ : ∃ x, wr.cell? ⟨b, 8 + (56 + k), none⟩ = some x := ⟨_, r.cell (by omega)⟩
      have c1 : wr.cell? ⟨b, 8 + (56 + (k : Int)).toNat, none⟩ = some x := by
        rw [show (56 + (k : Int)).toNat = 56 + k by omega]; exact c2
      have z1 := r.frozen (8 + (56 + (k : Int)).toNat)
      have z2 := r.frozen (8 + (56 + k))
      go_wp2
      go_region
      go_wp2
      go_light
      refine ⟨⟨k + 1, by omega, by go_num, (hb.set _ _).drew, hash_congr (hash_set r (56 + k) (by omega) _) fun i _ => ?_⟩, by simp [intOf]; omega⟩
      by_cases e : i = 56 + k
      · subst e; rw [if_pos rfl, if_pos (by omega), lenF, if_neg (by omega), show 56 + k - 56 = k by omega]
      · rw [if_neg e]
        by_cases e2 : i < 56 + k
        · rw [if_pos e2, if_pos (by omega)]
        · rw [if_neg e2, if_neg (by omega)]
    · obtain rfl : k = 8 := by omega
      have r2 : hashIs wr b (takeI v (padF f q)) (lenF (fun _ => 0) n) n := hash_congr r fun i hi => by rw [if_pos (by omega)]
      clear r
      go_wp2
      obtain ⟨cs, hcl, hcr, Hcs⟩ := hash_range r2
      have hu := Tryd.underlying161
      have hi : (Tryd.prog.info? 161).map (·.size) = some cs.length := by rw [hcl]; kernel_rfl
      have hk2 : ∀ i, i < 64 → wr.cell? ⟨1, i, none⟩ = some (.int .u32 (kAt i)) := fun i hi => by rw [hb.cell (by have := cell_block_lt (hk i hi); omega) (Ne.symm hb0)]; exact hk i hi
      go_region_held3 (fun w' => w'.rangeAt b 8 cs) (first | exact hrng | exact hcr) (first | (go_at_call 122; refine (take_hash b (takeI v (padF f q)) (lenF (fun _ => 0) n) _ cs _ Hcs r2.drew hk2).mono ?_; rintro e w3 ⟨rfl, hb3, r3, hrng⟩))
      go_wp2
      go_end0
      exact ⟨rfl, hb.drew.trans (hb3.mono hb.size), _, by rw [padW, ← HQ.out, if_neg (by omega)]; exact r3⟩

end Go.Proofs.YtkgegihkhdgdoaaDoor

namespace Go.Proofs.YtkgegihkhdgdoaaDoor
open Go.RowKit Go.Deep

/-- eight times a number, in eight bytes. -/
def lenBytes (n : Nat) : List Int := (List.range 8).map fun k => (8 * (n : Int)) / 2 ^ (56 - 8 * k) % 256
/-- the message of some bytes. -/
def msg (l : List Int) : List Int := l ++ ((128 :: List.replicate ((119 - l.length % 64) % 64) 0) ++ lenBytes l.length)
/-- the words behind the whole message, and the sum's bytes. -/
def finalW (l : List Int) : Nat → Int := wordsAt (msg l) ((msg l).length / 64)
def sumI (l : List Int) (i : Nat) : Int := sumByte (finalW l) i

theorem lenBytes_length (n : Nat) : (lenBytes n).length = 8 := by simp [lenBytes]
theorem lenBytes_get (n k : Nat) (h : k < 8) : (lenBytes n).getD k 0 = (8 * (n : Int)) / 2 ^ (56 - 8 * k) % 256 := by
  rw [List.getD_eq_getElem?_getD, lenBytes, List.getElem?_map, List.getElem?_range h]; rfl
theorem msg_length (l : List Int) : (msg l).length = l.length + (1 + (119 - l.length % 64) % 64 + 8) := by
  simp [msg, lenBytes_length]; omega
theorem msg_head (l : List Int) (j : Nat) (h : j < l.length) : (msg l).getD j 0 = l.getD j 0 := by
  rw [List.getD_eq_getElem?_getD, List.getD_eq_getElem?_getD, msg, List.getElem?_append_left h]
theorem msg_one (l : List Int) : (msg l).getD l.length 0 = 128 := by
  rw [List.getD_eq_getElem?_getD, msg, List.getElem?_append_right (Nat.le_refl _), Nat.sub_self]; rfl
theorem msg_zero (l : List Int) (j : Nat) (h0 : l.length < j) (h1 : j < l.length + 1 + (119 - l.length % 64) % 64) : (msg l).getD j 0 = 0 := by
  obtain ⟨m, rfl⟩ : ∃ m, j = l.length + (m + 1) := ⟨j - l.length - 1, by omega⟩
  rw [List.getD_eq_getElem?_getD, msg, List.getElem?_append_right (by omega), show l.length + (m + 1) - l.length = m + 1 by omega, List.getElem?_append_left (by simp; omega), List.getElem?_cons_succ, List.getElem?_replicate, if_pos (by omega)]; rfl
theorem msg_len (l : List Int) (k : Nat) (hk : k < 8) : (msg l).getD (l.length + 1 + (119 - l.length % 64) % 64 + k) 0 = (8 * (l.length : Int)) / 2 ^ (56 - 8 * k) % 256 := by
  rw [← lenBytes_get _ _ hk, List.getD_eq_getElem?_getD, List.getD_eq_getElem?_getD, msg, List.getElem?_append_right (by omega), List.getElem?_append_right (by simp; omega)]
  congr 2
  simp; omega

theorem padW_msg {l : List Int} {v f : Nat → Int} (hv : ∀ i, i < 8 → v i = wordsAt l (l.length / 64) i) (hfl : ∀ i, i < l.length % 64 → f i = l.getD (l.length / 64 * 64 + i) 0) (i : Nat) (hi : i < 8) : padW v f l.length i = finalW l i := by
  have hl := msg_length l
  have hpre : ∀ i, i < 8 → v i = wordsAt (msg l) (l.length / 64) i := fun i hi => by
    rw [hv i hi, msg, wordsAt_append l _ _ (by omega) i hi]
  unfold padW finalW
  by_cases hq : l.length % 64 < 56
  · rw [if_pos hq, show (msg l).length / 64 = l.length / 64 + 1 by omega, wordsAt]
    refine takeI_congr hpre (fun j hj => ?_) i hi
    unfold lenF padF
    by_cases e : j < 56
    · rw [if_pos e]
      by_cases e1 : j < l.length % 64
      · rw [if_pos e1, hfl j e1, msg_head l _ (by omega), Nat.mul_comm]
      · rw [if_neg e1]
        by_cases e2 : j = l.length % 64
        · rw [if_pos e2, show 64 * (l.length / 64) + j = l.length by omega, msg_one]
        · rw [if_neg e2, msg_zero l _ (by omega) (by omega)]
    · rw [if_neg e, show 64 * (l.length / 64) + j = l.length + 1 + (119 - l.length % 64) % 64 + (j - 56) by omega, msg_len l _ (by omega)]
  · rw [if_neg hq, show (msg l).length / 64 = l.length / 64 + 1 + 1 by omega, wordsAt]
    refine takeI_congr (fun j hj => ?_) (fun j hj => ?_) i hi
    · rw [wordsAt]
      refine takeI_congr hpre (fun k hk => ?_) j hj
      unfold padF
      by_cases e1 : k < l.length % 64
      · rw [if_pos e1, hfl k e1, msg_head l _ (by omega), Nat.mul_comm]
      · rw [if_neg e1]
        by_cases e2 : k = l.length % 64
        · rw [if_pos e2, show 64 * (l.length / 64) + k = l.length by omega, msg_one]
        · rw [if_neg e2, msg_zero l _ (by omega) (by omega)]
    · unfold lenF
      by_cases e : j < 56
      · rw [if_pos e, msg_zero l _ (by omega) (by omega)]
      · rw [if_neg e, show 64 * (l.length / 64 + 1) + j = l.length + 1 + (119 - l.length % 64) % 64 + (j - 56) by omega, msg_len l _ (by omega)]
end Go.Proofs.YtkgegihkhdgdoaaDoor

namespace Go.Proofs.YtkgegihkhdgdoaaDoor
open Go.RowKit Go.Deep

/-- A HASH TO WHICH THESE BYTES CAME; its words need not be begun as long as there are none. -/
def hashAny (w : World) (b : Nat) (l : List Int) : Prop :=
  ∃ v f : Nat → Int, hashIs w b v f l.length ∧ (0 < l.length → ∀ i, i < 8 → v i = wordsAt l (l.length / 64) i) ∧ (∀ i, 0 ≤ f i ∧ f i ≤ 255) ∧ ∀ i, i < l.length % 64 → f i = l.getD (l.length / 64 * 64 + i) 0
theorem hashOf.any {w : World} {b : Nat} {l : List Int} (h : hashOf w b l) : hashAny w b l := by
  obtain ⟨v, f, h1, h2, h3, h4⟩ := h; exact ⟨v, f, h1, fun _ => h2, h3, h4⟩
theorem hashAny.lt {w : World} {b : Nat} {l : List Int} (h : hashAny w b l) : b < w.heap.size := by
  obtain ⟨v, f, h1, _⟩ := h; exact World.rowIs.lt h1
theorem hashOf.lt {w : World} {b : Nat} {l : List Int} (h : hashOf w b l) : b < w.heap.size := h.any.lt

theorem begin_any (b : Nat) (l : List Int) (w : World) (h : hashAny w b l) :
    Calls Tryd.prog 112 #[.pointer (some ⟨b, 0, none⟩)] w fun e w' => e = .returned (.tuple #[]) ∧ But w.heap.size b w w' ∧ hashOf w' b l := by
  obtain ⟨v, f, h1, h2, h3, h4⟩ := h
  by_cases e : 0 < l.length
  · refine (begin_some b v f l.length e w h1).mono ?_
    rintro e w' ⟨rfl, rfl⟩
    exact ⟨rfl, But.refl _ _ _, v, f, h1, h2 (by assumption), h3, h4⟩
  · have hl : l = [] := List.eq_nil_of_length_eq_zero (by omega)
    subst hl
    refine (begin_zero b v f w h1).mono ?_
    rintro e w' ⟨rfl, hb, hr⟩
    exact ⟨rfl, hb, _, f, hr, fun _ _ => rfl, h3, fun i hi => by simp at hi⟩
theorem pad_any (b : Nat) (l : List Int) (w : World) (h : hashOf w b l) (hn : l.length < 1099511627776) (hk : ∀ i, i < 64 → w.cell? ⟨1, i, none⟩ = some (.int .u32 (kAt i))) (hb0 : b ≠ 1) :
    Calls Tryd.prog 114 #[.pointer (some ⟨b, 0, none⟩)] w fun e w' => e = .returned (.tuple #[]) ∧ But w.heap.size b w w' ∧ ∃ v' f', hashIs w' b v' f' l.length ∧ ∀ i, i < 8 → v' i = finalW l i := by
  obtain ⟨v, f, h1, h2, h3, h4⟩ := h
  have key : Calls Tryd.prog 114 #[.pointer (some ⟨b, 0, none⟩)] w fun e w' => e = .returned (.tuple #[]) ∧ But w.heap.size b w w' ∧ ∃ f', hashIs w' b (padW v f l.length) f' l.length := by
    by_cases e : l.length % 64 < 56
    · exact pad_short b v f l.length w h1 hn e hk hb0
    · exact pad_long b v f l.length w h1 hn (by omega) hk hb0
  refine key.mono ?_
  rintro e w' ⟨rfl, hb, f', hr⟩
  exact ⟨rfl, hb, _, f', hr, fun i hi => padW_msg h2 h4 i hi⟩

set_option maxHeartbeats 1000000 in
set_option maxRecDepth 100000 in
theorem sum_any (b : Nat) (l : List Int) (w : World) (h : hashAny w b l) (hn : l.length < 1099511627776) (hk : ∀ i, i < 64 → w.cell? ⟨1, i, none⟩ = some (.int .u32 (kAt i))) :
    Calls Tryd.prog 105 #[.pointer (some ⟨b, 0, none⟩)] w fun e w' => e = .returned (.agg (rowV 32 fun i => .int .u8 (sumI l i))) ∧ Below w.heap.size w w' := by
  have hlt := h.lt
  obtain ⟨v, f, h1, h2, h3, h4⟩ := h
  have hi73 : (Tryd.prog.info? 163).map (·.size) = some 73 := by kernel_rfl
  have hi32 : (Tryd.prog.info? 32).map (·.size) = some 32 := by kernel_rfl
  have hz0 := zero_hash
  have r0 := rowIs_zero w (Array.replicate 32 (.int .u8 0)) 32 32 (.int .u8 0) rfl
  have hh : (w.alloc (.cells (Array.replicate 32 (.int .u8 0)) 32)).rowIs b 163 73 (hashV v f l.length) := World.rowIs.alloc h1 _
  have z1 := rowIs_box (w.alloc (.cells (Array.replicate 32 (.int .u8 0)) 32)) 163 73 (hashV (fun _ => 0) (fun _ => 0) 0)
  simp only [nblk_alloc] at z1
  go_enter Tryd.func105, Tryd.ntmps105
  go_wp2_with (first | (refine wpList_load_seg rfl 163 _ rfl b 0 73 _ rfl _ Tryd.underlying163 rfl hi73 (fun i hi => by rw [Nat.zero_add]; exact hh.cell hi) ?_) | (refine wpList_store_row rfl 163 _ _ rfl rfl (w.heap.size + 1) 0 73 _ rfl rfl hi73 (fun i _ => by unfold hashV; split <;> (try split) <;> rfl) _ _ _ z1 (by omega) ?_; intro W rW hzW hbut))
  have hbW : Below w.heap.size w W := (((Below.refl w.heap.size w).alloc (Nat.le_refl _) _).alloc (by simp) _).trans ((hbut.mono (by simp; omega)).below (by omega))
  have r0W : W.rowIs w.heap.size 32 32 (fun _ => .int .u8 0) := hbut.row (r0.alloc _) (by simp; omega) (by omega)
  have hszW : W.heap.size = w.heap.size + 2 := by rw [hzW]; simp
  have hW : hashAny W (w.heap.size + 1) l := ⟨v, f, rW.congr (fun i hi => by rw [if_pos (by omega), Nat.sub_zero]), h2, h3, h4⟩
  clear rW hzW hbut z1 hh r0
  refine (begin_any _ l _ hW).mono ?_
  rintro e w1 ⟨rfl, hb1, ho1⟩
  clear hW
  have hb1' : But (w.heap.size + 1) (w.heap.size + 1) W w1 := hb1.mono (by omega)
  have hB1 : Below w.heap.size w w1 := hbW.trans ((hb1'.mono (by omega)).below (by omega))
  have r01 := hb1'.row r0W (by omega) (by omega)
  have hs1 := hb1.size
  clear hb1 hb1' hbW r0W
  go_wp2_with fail
  refine (pad_any _ l _ ho1 hn (fun i hi => by rw [hB1.cell (p := ⟨1, i, none⟩) (by have := cell_block_lt (hk i hi); show 1 < _; omega)]; exact hk i hi) (by have := cell_block_lt (hk 0 (by omega)); omega)).mono ?_
  rintro e w2 ⟨rfl, hb2, v', f', hr2, hv2⟩
  have hb2' : But (w.heap.size + 1) (w.heap.size + 1) w1 w2 := hb2.mono (by omega)
  have hB2 : Below w.heap.size w w2 := hB1.trans ((hb2'.mono (by omega)).below (by omega))
  have r02 := hb2'.row r01 (by omega) (by omega)
  have hs2 := hb2.size
  clear hb2 hb2' hB1 r01 ho1
  go_wp2_with fail
  refine (bytes_any (w.heap.size + 1) _ 73 _ v' _ (fun i hi => hashV_word _ _ _ _ hi) (by omega) hr2).mono ?_
  rintro e w3 ⟨rfl, hb3⟩
  have hB3 : Below w.heap.size w w3 := hB2.trans (hb3.mono (by omega))
  have r03 := hb3.row r02 (by omega)
  clear hb3 hB2 r02
  go_wp2_with (first | (refine wpList_store_row rfl 32 _ _ rfl rfl w.heap.size 0 32 _ rfl rfl hi32 (fun _ _ => rfl) _ _ _ r03 (by omega) ?_; intro W4 r4 hz4 hb4))
  refine bodyPost_ret (results_cell_seg rfl _ _ w.heap.size 32 32 (fun i => .int .u8 (sumI l i)) _ rfl Tryd.underlying32 rfl hi32 (r4.congr fun i hi => ?_)) rfl ⟨rfl, hB3.trans ((hb4.mono (by have := hB3.size; omega)).below (Nat.le_refl _))⟩
  rw [if_pos (by omega), Nat.sub_zero, sumI, sumByte, sumByte, hv2 _ (by omega)]
end Go.Proofs.YtkgegihkhdgdoaaDoor

namespace Go.Proofs.YtkgegihkhdgdoaaDoor
open Go.RowKit Go.Deep

/-- THE VALUE v IS A SLICE OF THESE BYTES, of which none lies in block b. -/
def bytesAt (w : World) (b : Nat) (v : Value) (l : List Int) : Prop :=
  (v = .slice none 0 0 ∧ l = []) ∨ (∃ pb po cap : Nat, v = .slice (some ⟨pb, po, none⟩) l.length cap ∧ l.length ≤ cap ∧ cap ≤ maxLen ∧ pb < w.heap.size ∧ pb ≠ b ∧
    (∀ i, i < l.length → w.cell? ⟨pb, po + i, none⟩ = some (.int .u8 (l.getD i 0))) ∧ ∀ i, 0 ≤ l.getD i 0 ∧ l.getD i 0 ≤ 255) ∨ ((∃ a, v = .slice a 0 0) ∧ l = [])
theorem bytesAt.but {w w' : World} {b B : Nat} {v : Value} {l : List Int} (h : bytesAt w b v l) (hb : But B b w w') (hB : w.heap.size ≤ B) : bytesAt w' b v l := by
  rcases h with h | ⟨pb, po, cap, h1, h2, h3, h4, h5, h6, h7⟩ | h
  · exact Or.inl h
  · exact Or.inr (Or.inl ⟨pb, po, cap, h1, h2, h3, Nat.lt_of_lt_of_le h4 hb.size, h5, fun i hi => by rw [hb.cell (by omega) h5]; exact h6 i hi, h7⟩)
  · exact Or.inr (Or.inr h)

set_option maxHeartbeats 1000000 in
theorem add_nil (b : Nat) (a : Option Addr) (w : World) :
    Calls Tryd.prog 113 #[.pointer (some ⟨b, 0, none⟩), .slice a 0 0] w fun e w' => e = .returned (.tuple #[]) ∧ w' = w := by
  go_enter Tryd.func113, Tryd.ntmps113
  go_wp2
  go_loop [1] (fun s => s = .slice a 0 0) (fun _ => 0)
  case atStart => rfl
  case round =>
    subst hrel
    go_wp2
    go_end0
    exact ⟨rfl, rfl⟩
theorem add_bytes (b : Nat) (l p : List Int) (v : Value) (w : World) (h : hashOf w b l) (hp : bytesAt w b v p) (hbig : l.length + p.length < 1099511627776)
    (hk : ∀ i, i < 64 → w.cell? ⟨1, i, none⟩ = some (.int .u32 (kAt i))) (hb0 : b ≠ 1) :
    Calls Tryd.prog 113 #[.pointer (some ⟨b, 0, none⟩), v] w fun e w' => e = .returned (.tuple #[]) ∧ But w.heap.size b w w' ∧ hashOf w' b (l ++ p) := by
  rcases hp with ⟨rfl, rfl⟩ | ⟨pb, po, cap, rfl, h2, h3, h4, h5, h6, h7⟩ | ⟨⟨a, rfl⟩, rfl⟩
  · refine (add_nil b none w).mono ?_
    rintro e w' ⟨rfl, rfl⟩
    exact ⟨rfl, But.refl _ _ _, by rw [List.append_nil]; exact h⟩
  · exact add_any b l p pb po cap w h h5 h4 h2 hbig h6 h7 hk hb0 h3
  · refine (add_nil b a w).mono ?_
    rintro e w' ⟨rfl, rfl⟩
    exact ⟨rfl, But.refl _ _ _, by rw [List.append_nil]; exact h⟩

set_option maxHeartbeats 1000000 in
set_option maxRecDepth 100000 in
theorem write_any (b : Nat) (l : List Int) (n qb qo cap : Nat) (sv : Nat → Value) (ps : Nat → List Int) (w : World) (h : hashAny w b l) (hqb : qb ≠ b) (hql : qb < w.heap.size)
    (hcell : ∀ i, i < n → w.cell? ⟨qb, qo + i, none⟩ = some (sv i)) (hps : ∀ i, i < n → bytesAt w b (sv i) (ps i)) (hbig : ∀ i, i ≤ n → l.length + (flatTo ps i).length < 1099511627776) (hn : n ≤ maxLen)
    (hk : ∀ i, i < 64 → w.cell? ⟨1, i, none⟩ = some (.int .u32 (kAt i))) (hb0 : b ≠ 1) :
    Calls Tryd.prog 104 #[.pointer (some ⟨b, 0, none⟩), .slice (some ⟨qb, qo, none⟩) n cap] w fun e w' => e = .returned (.tuple #[]) ∧ But w.heap.size b w w' ∧ hashOf w' b (l ++ flatTo ps n) := by
  unfold maxLen at hn
  have hlt := h.lt
  go_enter Tryd.func104, Tryd.ntmps104
  go_wp2_with fail
  refine (begin_any b l w h).mono ?_
  rintro e w1 ⟨rfl, hb1, ho1⟩
  go_wp2
  go_loopw [12] (fun i wr => ∃ k : Nat, k ≤ n ∧ i = .int .i64 k ∧ But w.heap.size b w wr ∧ hashOf wr b (l ++ flatTo ps k)) (fun i _ => n - (intOf i).toNat)
  case atStart => exact ⟨0, by omega, rfl, hb1, by rw [flatTo, List.append_nil]; exact ho1⟩
  case round =>
    clear hb1 ho1
    obtain ⟨k, hkn, rfl, hb, ho⟩ := hrel
    by_cases hlt2 : k < n
    · have c0 : wr.cell? ⟨qb, qo + k, none⟩ = some (sv k) := by rw [hb.cell hql hqb]; exact hcell k hlt2
      have b0 : (0 : Int) ≤ (k : Int) := by omega
      have b1 : (k : Int) < (n : Int) := by omega
      have hbk := hbig (k + 1) (by omega)
      have HB : Hid (l.length + (flatTo ps (k + 1)).length < 1099511627776) := hbk
      clear hbk
      go_wp2_with fail
      refine (add_bytes b (l ++ flatTo ps k) (ps k) (sv k) _ ho ((hps k hlt2).but hb (Nat.le_refl _)) ?_ ?_ hb0).mono ?_
      · have := HB.out; rw [flatTo, List.length_append] at this; rw [List.length_append]; omega
      · intro i hi; rw [hb.cell (by have := cell_block_lt (hk i hi); omega) (Ne.symm hb0)]; exact hk i hi
      rintro e w2 ⟨rfl, hb2, ho2⟩
      go_wp2
      go_light
      exact ⟨⟨k + 1, by omega, by go_num, hb.trans (hb2.mono hb.size), by rw [flatTo, ← List.append_assoc]; exact ho2⟩, by simp [intOf]; omega⟩
    · obtain rfl : k = n := by omega
      go_wp2
      go_end0
      exact ⟨rfl, hb, ho⟩

set_option maxHeartbeats 1000000 in
theorem write_none (b : Nat) (l : List Int) (w : World) (h : hashAny w b l) :
    Calls Tryd.prog 104 #[.pointer (some ⟨b, 0, none⟩), .slice none 0 0] w fun e w' => e = .returned (.tuple #[]) ∧ But w.heap.size b w w' ∧ hashOf w' b l := by
  go_enter Tryd.func104, Tryd.ntmps104
  go_wp2_with fail
  refine (begin_any b l w h).mono ?_
  rintro e w1 ⟨rfl, hb1, ho1⟩
  go_wp2
  go_loop [12] (fun i => i = .int .i64 0) (fun _ => 0)
  case atStart => rfl
  case round =>
    subst hrel
    go_wp2
    go_end0
    exact ⟨rfl, hb1, ho1⟩
end Go.Proofs.YtkgegihkhdgdoaaDoor

namespace Go.Proofs.YtkgegihkhdgdoaaDoor
open Go.RowKit Go.Deep

theorem isBytes.at {w : World} {v : Value} {l : List Int} (h : isBytes w v l) {b : Nat} (hb : w.heap.size ≤ b) : bytesAt w b v l := by
  rcases h with h | ⟨pb, po, cap, h1, h2, h3, h4, h6, h7⟩
  · exact Or.inl h
  · exact Or.inr (Or.inl ⟨pb, po, cap, h1, h2, h3, h4, by omega, h6, h7⟩)
theorem anyBytes.at {w : World} {v : Value} {l : List Int} (h : anyBytes w v l) {b : Nat} (hb : w.heap.size ≤ b) : bytesAt w b v l := by
  rcases h with h | h
  · exact h.at hb
  · exact Or.inr (Or.inr h)
/-- the table of the rounds' constants lies in block 0. -/
def tabIs (w : World) : Prop := 1 < w.heap.size ∧ ∀ i, i < 64 → w.cell? ⟨1, i, none⟩ = some (.int .u32 (kAt i))
theorem tabIs.below {w w' : World} {B : Nat} (h : tabIs w) (hb : Below B w w') (hB : 1 < B) : tabIs w' := ⟨Nat.lt_of_lt_of_le h.1 hb.size, fun i hi => by rw [hb.cell (p := ⟨1, i, none⟩) hB]; exact h.2 i hi⟩
theorem tabIs.but {w w' : World} {B b : Nat} (h : tabIs w) (hb : But B b w w') (hB : 1 < B) (hb0 : b ≠ 1) : tabIs w' := ⟨Nat.lt_of_lt_of_le h.1 hb.size, fun i hi => by rw [hb.cell hB (Ne.symm hb0)]; exact h.2 i hi⟩

/-- Write, whatever the parts, if they lie below the hash's block, or elsewhere. -/
theorem write_parts (b : Nat) (l : List Int) (n : Nat) (v : Value) (ps : Nat → List Int) (w w0 : World) (h : hashAny w b l) (hp : isParts w0 v n ps) (hw : Below w0.heap.size w0 w) (hb : w0.heap.size ≤ b)
    (hbig : ∀ i, i ≤ n → l.length + (flatTo ps i).length < 1099511627776) (ht : tabIs w) (hb0 : b ≠ 1) :
    Calls Tryd.prog 104 #[.pointer (some ⟨b, 0, none⟩), v] w fun e w' => e = .returned (.tuple #[]) ∧ But w.heap.size b w w' ∧ hashOf w' b (l ++ flatTo ps n) := by
  rcases hp with ⟨rfl, rfl⟩ | ⟨qb, qo, cap, sv, rfl, h2, h3, h4⟩
  · refine (write_none b l w h).mono ?_
    rintro e w' ⟨rfl, h1, h2⟩
    exact ⟨rfl, h1, by rw [flatTo, List.append_nil]; exact h2⟩
  · refine write_any b l n qb qo cap sv ps w h (by omega) (Nat.lt_of_lt_of_le h2 hw.size) (fun i hi => by rw [hw.cell (p := ⟨qb, qo + i, none⟩) h2]; exact (h4 i hi).1) (fun i hi => ?_) hbig h3 ht.2 hb0
    rcases (h4 i hi).2 with (h | ⟨pb, po, cap, h1, h2, h3, h4, h6, h7⟩) | h
    · exact Or.inl h
    · exact Or.inr (Or.inl ⟨pb, po, cap, h1, h2, h3, Nat.lt_of_lt_of_le h4 hw.size, by omega, fun i hi => by rw [hw.cell (p := ⟨pb, po + i, none⟩) h4]; exact h6 i hi, h7⟩)
    · exact Or.inr (Or.inr h)

theorem hashAny_zero {w : World} {b : Nat} (h : hashIs w b (fun _ => 0) (fun _ => 0) 0) : hashAny w b [] :=
  ⟨_, _, h, fun h => by simp at h, fun _ => ⟨by omega, by omega⟩, fun i hi => by simp at hi⟩

set_option maxHeartbeats 1000000 in
set_option maxRecDepth 100000 in
/-- sha.Sum, OF ANY PARTS. -/
theorem shaSum_any (n : Nat) (v : Value) (ps : Nat → List Int) (w : World) (hp : isParts w v n ps) (hbig : ∀ i, i ≤ n → (flatTo ps i).length < 1099511627776) (ht : tabIs w) :
    Calls Tryd.prog 89 #[v] w fun e w' => e = .returned (.agg (rowV 32 fun i => .int .u8 (sumI (flatTo ps n) i))) ∧ Below w.heap.size w w' := by
  have hi32 : (Tryd.prog.info? 32).map (·.size) = some 32 := by kernel_rfl
  have r0 := rowIs_zero w (Array.replicate 32 (.int .u8 0)) 32 32 (.int .u8 0) rfl
  have hb0 : Below w.heap.size w (w.alloc (.cells (Array.replicate 32 (.int .u8 0)) 32)) := (Below.refl w.heap.size w).alloc (Nat.le_refl _) _
  have hs0 : (w.alloc (.cells (Array.replicate 32 (.int .u8 0)) 32)).heap.size = w.heap.size + 1 := by simp
  have ht0 := ht.1
  go_enter Tryd.func89, Tryd.ntmps89
  go_wp2_with fail
  refine (new_any _).mono ?_
  rintro e w1 ⟨rfl, hb1, hs1, hh1⟩
  change w1.heap.size = (w.alloc (.cells (Array.replicate 32 (.int .u8 0)) 32)).heap.size + 1 at hs1
  change Below (w.alloc (.cells (Array.replicate 32 (.int .u8 0)) 32)).heap.size (w.alloc (.cells (Array.replicate 32 (.int .u8 0)) 32)) w1 at hb1
  change hashIs w1 (w.alloc (.cells (Array.replicate 32 (.int .u8 0)) 32)).heap.size (fun _ => 0) (fun _ => 0) 0 at hh1
  rw [hs0] at hs1 hb1 hh1
  have hB1 : Below w.heap.size w w1 := hb0.trans (hb1.mono (by omega))
  have r1 : w1.rowIs w.heap.size 32 32 (fun _ => .int .u8 0) := hb1.row r0 (by omega)
  clear hb0 hb1 r0 hs0
  go_wp2_with fail
  refine (write_parts (w.heap.size + 1) [] n v ps w1 w (hashAny_zero hh1) hp hB1 (by omega) (fun i hi => by rw [List.length_nil, Nat.zero_add]; exact hbig i hi) (ht.below hB1 ht0) (by omega)).mono ?_
  rintro e w2 ⟨rfl, hb2, ho2⟩
  rw [List.nil_append] at ho2
  have hB2 : Below w.heap.size w w2 := hB1.trans ((hb2.mono (by omega)).below (by omega))
  have r2 := hb2.row r1 (by omega) (by omega)
  have hs2 := hb2.size
  clear hb2 r1 hB1 hh1
  go_wp2_with fail
  refine (sum_any (w.heap.size + 1) (flatTo ps n) w2 ho2.any (hbig n (Nat.le_refl _)) (ht.below hB2 ht0).2).mono ?_
  rintro e w3 ⟨rfl, hb3⟩
  have hB3 : Below w.heap.size w w3 := hB2.trans (hb3.mono (by omega))
  have r3 := hb3.row r2 (by omega)
  clear hb3 r2 hB2 ho2
  go_wp2_with (first | (refine wpList_store_row rfl 32 _ _ rfl rfl w.heap.size 0 32 _ rfl rfl hi32 (fun _ _ => rfl) _ _ _ r3 (by omega) ?_; intro W4 r4 hz4 hb4))
  refine bodyPost_ret (results_cell_seg rfl _ _ w.heap.size 32 32 (fun i => .int .u8 (sumI (flatTo ps n) i)) _ rfl Tryd.underlying32 rfl hi32 (r4.congr fun i hi => ?_)) rfl ⟨rfl, hB3.trans ((hb4.mono (by have := hB3.size; omega)).below (Nat.le_refl _))⟩
  rw [if_pos (by omega), Nat.sub_zero]

end Go.Proofs.YtkgegihkhdgdoaaDoor

/- Numbers as bytes: how many, and which. Plain mathematics. -/
namespace Go.Proofs.YtkgegihkhdgdoaaDoor

/-- how many bytes a number has behind its first. -/
def szI (x : Int) : Nat :=
  if x < 1 then 0 else if x < 256 then 1 else if x < 65536 then 2 else if x < 16777216 then 3 else if x < 4294967296 then 4
  else if x < 1099511627776 then 5 else if x < 281474976710656 then 6 else if x < 72057594037927936 then 7 else 8
theorem szI_le (x : Int) : szI x ≤ 8 := by unfold szI; repeat' split <;> try omega
theorem len8_small : ∀ k : Fin 256, (Go.Lib.len8 (k.val : Int) = 0 ↔ k.val = 0) ∧ 0 ≤ Go.Lib.len8 (k.val : Int) ∧ Go.Lib.len8 (k.val : Int) ≤ 8 := by decide +kernel
theorem len8_is (x : Int) (h0 : 0 ≤ x) (h1 : x < 256) : (Go.Lib.len8 x = 0 ↔ x = 0) ∧ 0 ≤ Go.Lib.len8 x ∧ Go.Lib.len8 x ≤ 8 := by
  obtain ⟨m, rfl⟩ := Int.eq_ofNat_of_zero_le h0
  have := len8_small ⟨m, by omega⟩
  refine ⟨⟨fun h => ?_, fun h => ?_⟩, this.2⟩
  · have := this.1.1 h; simp at this; omega
  · exact this.1.2 (by simp; omega)
/-- the byte i of k, the highest first. -/
def digI (x : Int) (k i : Nat) : Int := x / 2 ^ (8 * (k - 1 - i)) % 256
def digsI (x : Int) (k : Nat) : List Int := (List.range k).map (digI x k)
/-- A NUMBER's BYTES. -/
def numB (x : Int) : List Int := (szI x : Int) :: digsI x (szI x)
theorem numB_length (x : Int) : (numB x).length = 1 + szI x := by simp [numB, digsI]; omega
theorem digI_byte (x : Int) (k i : Nat) : 0 ≤ digI x k i ∧ digI x k i ≤ 255 := by unfold digI; omega
/-- a number out of its bytes. -/
def horn (l : List Int) : Int := l.foldl (fun a b => a * 256 + b) 0
theorem digsI_succ (x : Int) (k : Nat) : digsI x (k + 1) = digsI (x / 256) k ++ [x % 256] := by
  rw [digsI, List.range_succ, List.map_append]
  congr 1
  · apply List.map_congr_left
    intro i hi
    have hi' : i < k := by simpa using hi
    unfold digI
    have : 8 * (k + 1 - 1 - i) = 8 + 8 * (k - 1 - i) := by omega
    rw [this, Int.pow_add, ← Int.ediv_ediv_of_nonneg (by omega)]
    rfl
  · simp [digI]
end Go.Proofs.YtkgegihkhdgdoaaDoor

namespace Go.Proofs.YtkgegihkhdgdoaaDoor
open Go.RowKit Go.Deep

theorem ret_int {k : IntKind} {a b : Int} (h : a = b) : Ending.returned (.int k a) = .returned (.int k b) := by rw [h]
/-- what bits.Len64 answers. -/
def lenI (x : Int) : Int :=
  if 4294967296 ≤ x then
    (if 65536 ≤ x / 4294967296 then (if 256 ≤ x / 4294967296 / 65536 then 56 + Go.Lib.len8 (x / 4294967296 / 65536 / 256) else 48 + Go.Lib.len8 (x / 4294967296 / 65536))
     else (if 256 ≤ x / 4294967296 then 40 + Go.Lib.len8 (x / 4294967296 / 256) else 32 + Go.Lib.len8 (x / 4294967296)))
  else
    (if 65536 ≤ x then (if 256 ≤ x / 65536 then 24 + Go.Lib.len8 (x / 65536 / 256) else 16 + Go.Lib.len8 (x / 65536))
     else (if 256 ≤ x then 8 + Go.Lib.len8 (x / 256) else 0 + Go.Lib.len8 x))
theorem lenI_sz (x : Int) (h0 : 0 ≤ x) (h1 : x < 18446744073709551616) : 0 ≤ lenI x ∧ lenI x ≤ 64 ∧ (lenI x + 7) / 8 = (szI x : Int) := by
  unfold lenI
  split
  · split
    · split
      · have := len8_is (x / 4294967296 / 65536 / 256) (by omega) (by omega)
        have e : szI x = 8 := by unfold szI; repeat' rw [if_neg (by omega)]
        rw [e]; omega
      · have := len8_is (x / 4294967296 / 65536) (by omega) (by omega)
        have e : szI x = 7 := by unfold szI; repeat' (first | rw [if_neg (by omega)] | rw [if_pos (by omega)])
        rw [e]; omega
    · split
      · have := len8_is (x / 4294967296 / 256) (by omega) (by omega)
        have e : szI x = 6 := by unfold szI; repeat' (first | rw [if_neg (by omega)] | rw [if_pos (by omega)])
        rw [e]; omega
      · have := len8_is (x / 4294967296) (by omega) (by omega)
        have e : szI x = 5 := by unfold szI; repeat' (first | rw [if_neg (by omega)] | rw [if_pos (by omega)])
        rw [e]; omega
  · split
    · split
      · have := len8_is (x / 65536 / 256) (by omega) (by omega)
        have e : szI x = 4 := by unfold szI; repeat' (first | rw [if_neg (by omega)] | rw [if_pos (by omega)])
        rw [e]; omega
      · have := len8_is (x / 65536) (by omega) (by omega)
        have e : szI x = 3 := by unfold szI; repeat' (first | rw [if_neg (by omega)] | rw [if_pos (by omega)])
        rw [e]; omega
    · split
      · have := len8_is (x / 256) (by omega) (by omega)
        have e : szI x = 2 := by unfold szI; repeat' (first | rw [if_neg (by omega)] | rw [if_pos (by omega)])
        rw [e]; omega
      · have := len8_is x (by omega) (by omega)
        by_cases hz : x = 0
        · subst hz; have e : szI 0 = 0 := rfl
          rw [e]; omega
        · have e : szI x = 1 := by unfold szI; repeat' (first | rw [if_neg (by omega)] | rw [if_pos (by omega)])
          rw [e]; omega

set_option maxHeartbeats 1000000 in
theorem len64_any (x : Int) (h0 : 0 ≤ x) (h1 : x < 18446744073709551616) (w : World) :
    Calls Tryd.prog 96 #[.int .u64 x] w fun e w' => e = .returned (.int .i64 (lenI x)) ∧ w' = w := by
  by_cases a : 4294967296 ≤ x
  · by_cases b : 65536 ≤ x / 4294967296
    · by_cases c : 256 ≤ x / 4294967296 / 65536
      · have q0 : 0 ≤ x / 4294967296 / 65536 / 256 := by omega
        have q1 : x / 4294967296 / 65536 / 256 ≤ 255 := by omega
        have := len8_is _ q0 (by omega)
        have E0 : lenI x = 56 + Go.Lib.len8 (x / 4294967296 / 65536 / 256) := by unfold lenI; rw [if_pos a]; rw [if_pos b]; rw [if_pos c]
        have E : Hid _ := E0
        clear E0
        go_enter Tryd.func96, Tryd.ntmps96
        go_wp2
        go_ret
        exact ⟨ret_int (by first | (rw [E.out]; done) | (rw [E.out, Int.zero_add]; done)), rfl⟩
      · have q0 : 0 ≤ x / 4294967296 / 65536 := by omega
        have q1 : x / 4294967296 / 65536 ≤ 255 := by omega
        have := len8_is _ q0 (by omega)
        have E0 : lenI x = 48 + Go.Lib.len8 (x / 4294967296 / 65536) := by unfold lenI; rw [if_pos a]; rw [if_pos b]; rw [if_neg c]
        have E : Hid _ := E0
        clear E0
        go_enter Tryd.func96, Tryd.ntmps96
        go_wp2
        go_ret
        exact ⟨ret_int (by first | (rw [E.out]; done) | (rw [E.out, Int.zero_add]; done)), rfl⟩
    · by_cases c : 256 ≤ x / 4294967296
      · have q0 : 0 ≤ x / 4294967296 / 256 := by omega
        have q1 : x / 4294967296 / 256 ≤ 255 := by omega
        have := len8_is _ q0 (by omega)
        have E0 : lenI x = 40 + Go.Lib.len8 (x / 4294967296 / 256) := by unfold lenI; rw [if_pos a]; rw [if_neg b]; rw [if_pos c]
        have E : Hid _ := E0
        clear E0
        go_enter Tryd.func96, Tryd.ntmps96
        go_wp2
        go_ret
        exact ⟨ret_int (by first | (rw [E.out]; done) | (rw [E.out, Int.zero_add]; done)), rfl⟩
      · have q0 : 0 ≤ x / 4294967296 := by omega
        have q1 : x / 4294967296 ≤ 255 := by omega
        have := len8_is _ q0 (by omega)
        have E0 : lenI x = 32 + Go.Lib.len8 (x / 4294967296) := by unfold lenI; rw [if_pos a]; rw [if_neg b]; rw [if_neg c]
        have E : Hid _ := E0
        clear E0
        go_enter Tryd.func96, Tryd.ntmps96
        go_wp2
        go_ret
        exact ⟨ret_int (by first | (rw [E.out]; done) | (rw [E.out, Int.zero_add]; done)), rfl⟩
  · by_cases b : 65536 ≤ x
    · by_cases c : 256 ≤ x / 65536
      · have q0 : 0 ≤ x / 65536 / 256 := by omega
        have q1 : x / 65536 / 256 ≤ 255 := by omega
        have := len8_is _ q0 (by omega)
        have E0 : lenI x = 24 + Go.Lib.len8 (x / 65536 / 256) := by unfold lenI; rw [if_neg a]; rw [if_pos b]; rw [if_pos c]
        have E : Hid _ := E0
        clear E0
        go_enter Tryd.func96, Tryd.ntmps96
        go_wp2
        go_ret
        exact ⟨ret_int (by first | (rw [E.out]; done) | (rw [E.out, Int.zero_add]; done)), rfl⟩
      · have q0 : 0 ≤ x / 65536 := by omega
        have q1 : x / 65536 ≤ 255 := by omega
        have := len8_is _ q0 (by omega)
        have E0 : lenI x = 16 + Go.Lib.len8 (x / 65536) := by unfold lenI; rw [if_neg a]; rw [if_pos b]; rw [if_neg c]
        have E : Hid _ := E0
        clear E0
        go_enter Tryd.func96, Tryd.ntmps96
        go_wp2
        go_ret
        exact ⟨ret_int (by first | (rw [E.out]; done) | (rw [E.out, Int.zero_add]; done)), rfl⟩
    · by_cases c : 256 ≤ x
      · have q0 : 0 ≤ x / 256 := by omega
        have q1 : x / 256 ≤ 255 := by omega
        have := len8_is _ q0 (by omega)
        have E0 : lenI x = 8 + Go.Lib.len8 (x / 256) := by unfold lenI; rw [if_neg a]; rw [if_neg b]; rw [if_pos c]
        have E : Hid _ := E0
        clear E0
        go_enter Tryd.func96, Tryd.ntmps96
        go_wp2
        go_ret
        exact ⟨ret_int (by first | (rw [E.out]; done) | (rw [E.out, Int.zero_add]; done)), rfl⟩
      · have q0 : 0 ≤ x := by omega
        have q1 : x ≤ 255 := by omega
        have := len8_is _ q0 (by omega)
        have E0 : lenI x = 0 + Go.Lib.len8 (x) := by unfold lenI; rw [if_neg a]; rw [if_neg b]; rw [if_neg c]
        have E : Hid _ := E0
        clear E0
        go_enter Tryd.func96, Tryd.ntmps96
        go_wp2
        go_ret
        exact ⟨ret_int (by first | (rw [E.out]; done) | (rw [E.out, Int.zero_add]; done)), rfl⟩

theorem numberSize_any (x : Int) (h0 : 0 ≤ x) (h1 : x < 18446744073709551616) (w : World) :
    Calls Tryd.prog 78 #[.int .u64 x] w fun e w' => e = .returned (.int .i64 (1 + (szI x : Int))) ∧ w' = w := by
  obtain ⟨l0, l1, l2⟩ := lenI_sz x h0 h1
  have HL : Hid _ := l2
  clear l2
  go_enter Tryd.func78, Tryd.ntmps78
  go_wp2_with (go_at_call 96; refine (len64_any x h0 h1 _).mono ?_; rintro e w' ⟨rfl, rfl⟩)
  go_ret
  exact ⟨ret_int (by rw [HL.out]), rfl⟩
theorem partSize_any (n : Nat) (h1 : n ≤ 1099511627776) (w : World) :
    Calls Tryd.prog 97 #[.int .i64 n] w fun e w' => e = .returned (.int .i64 (1 + (szI n : Int) + n)) ∧ w' = w := by
  have h0 : (0 : Int) ≤ n := by omega
  have h2 : (n : Int) ≤ 1099511627776 := by omega
  have hs := szI_le n
  go_enter Tryd.func97, Tryd.ntmps97
  go_wp2_with (go_at_call 78; refine (numberSize_any n (by omega) (by omega) _).mono ?_; rintro e w' ⟨rfl, rfl⟩)
  go_ret
  exact ⟨rfl, rfl⟩
end Go.Proofs.YtkgegihkhdgdoaaDoor

namespace Go.Proofs.YtkgegihkhdgdoaaDoor
set_option maxRecDepth 100000
open Go.RowKit Go.Deep

section
variable {P : Program}
theorem wp_make_run {o : Oper} {a : Act} {w w' : World} {K : Act → World → Prop} {Q : Exit → Act → World → Prop} {l c r : Value} (t : TypeId) (x y : Operand)
    (ho : o.op = .makeSlice t x y) (hx : a.eval x = l) (hy : a.eval y = c) (hr : (Instr.makeSlice t l c).run P w = .ok r w') (h : K (a.put o.dst r) w') : o.wp P a w K Q := by
  unfold Oper.wp execOp
  simp only [ho, hx, hy, Sem.run_bind, hr, Result.andThen_ok, Sem.run_pure]
  exact h
theorem wpList_make_run {ops : Array Oper} {rest : List Oper} {o : Oper} {a : Act} {w w' : World} {Q : Exit → Act → World → Prop} {l c r : Value} (hgd : o.guard = none) (t : TypeId) (x y : Operand)
    (ho : o.op = .makeSlice t x y) (hx : a.eval x = l) (hy : a.eval y = c) (hr : (Instr.makeSlice t l c).run P w = .ok r w') (h : wpList P ops Q rest (a.put o.dst r) w') : wpList P ops Q (o :: rest) a w :=
  wpList_plain hgd fun _ hK => wp_make_run t x y ho hx hy hr (hK _ _ h)
end

set_option maxHeartbeats 1000000 in
theorem withRoom_any (l : List Int) (v : Value) (r : Nat) (w : World) (hv : isBytes w v l) (hs : l.length + r ≤ 1099511627776) :
    Calls Tryd.prog 79 #[v, .int .i64 r] w fun e w' => ∃ v', e = .returned v' ∧ newBytes w' w.heap.size v' l ∧ Below w.heap.size w w' := by
  have hmk := run_make_room (P := Tryd.prog) 23 5 (.int .u8 0) 1 Tryd.underlying23 hi8 rfl .i64 .i64 (l.length + r) (by omega) (by omega) w
  have hb1 : Below w.heap.size w (w.alloc (.cells (madeCells #[Value.int .u8 0] (l.length + r)) 5)) := (Below.refl _ _).alloc (Nat.le_refl _) _
  have hO : newBytes (w.alloc (.cells (madeCells #[Value.int .u8 0] (l.length + r)) 5)) w.heap.size (.slice (some ⟨w.heap.size, 0, none⟩) 0 (l.length + r)) [] :=
    ⟨⟨rfl, Or.inr ⟨w.heap.size, l.length + r, _, rfl, Nat.le_refl _, blk_alloc_new _ _, Nat.zero_le _, by unfold maxLen; omega, by rw [size_madeCells]; simp, by simp⟩⟩, fun i => by simp⟩
  obtain ⟨v', w', hr, hn, hg, _⟩ := bytes_append_run _ w.heap.size _ v [] l hO (hv.below hb1 (Nat.le_refl _)) (by simp; omega) (by simp)
  have hbl : Below w.heap.size w w' := hb1.trans (below_grown hg (fun k hk => (hO.block k hk).1) (by simp))
  have HN : Hid _ := hn
  have HB : Hid _ := hbl
  obtain ⟨a, c, rfl, hm⟩ := hv.slice
  have h1 : (l.length : Int) ≤ 1099511627776 := by omega
  have h2 : (r : Int) ≤ 1099511627776 := by omega
  rw [Int.natCast_add] at hmk
  clear hn hbl hO hg hb1 hv
  go_enter Tryd.func79, Tryd.ntmps79
  go_wp2_with (first | (refine wpList_make_run rfl _ _ _ rfl rfl rfl hmk ?_) | (at_builtin; refine wpList_append_run rfl _ _ _ rfl rfl rfl hr ?_))
  go_ret
  exact ⟨_, rfl, HN.out, HB.out⟩

/-- one element in a slice that the call builds. -/
theorem one_cell (w : World) (u : Value) (t : TypeId) : (w.alloc (.cells #[u] t)).cell? ⟨w.heap.size, 0, none⟩ = some u := by
  have := (rowIs_new w #[u] t 1 (fun _ => u) rfl (fun i hi => by obtain rfl : i = 0 := by omega
                                                                 rfl)).cell (i := 0) (by omega)
  exact this
theorem one_byte (w : World) (b : Int) (h0 : 0 ≤ b) (h1 : b ≤ 255) : isBytes (w.alloc (.cells #[.int .u8 b] 5)) (.slice (some ⟨w.heap.size, 0, none⟩) 1 1) [b] :=
  Or.inr ⟨w.heap.size, 0, 1, rfl, by simp, by unfold maxLen; omega, by simp, fun i hi => by
    have hi' : i < 1 := by simpa using hi
    obtain rfl : i = 0 := by omega
    exact one_cell w _ _, fun i => by cases i <;> simp <;> omega⟩
/-- append(v, b). -/
theorem byte_append_run (w : World) (B : Nat) (v : Value) (l : List Int) (b : Int) (h0 : 0 ≤ b) (h1 : b ≤ 255) (hv : newBytes w B v l) (hs : l.length < 1099511627776) (hB : B ≤ w.heap.size) :
    ∃ v' w', (Builtin.append_ #[23, 23] 23 #[v, .slice (some ⟨w.heap.size, 0, none⟩) 1 1]).run Tryd.prog (w.alloc (.cells #[.int .u8 b] 5)) = .ok v' w' ∧ newBytes w' B v' (l ++ [b]) ∧ Below B w w' := by
  have hb1 : Below w.heap.size w (w.alloc (.cells #[Value.int .u8 b] 5)) := (Below.refl _ _).alloc (Nat.le_refl _) _
  have hv1 := hv.below hb1 (Nat.le_refl _)
  obtain ⟨v', w', hr, hn, hg, _⟩ := bytes_append_run _ B v _ l [b] hv1 (one_byte w b h0 h1) (by simp; omega) (by simp; omega)
  exact ⟨v', w', hr, hn, (hb1.mono hB).trans (below_grown hg (fun k hk => (hv1.block k hk).1) (by simp; omega))⟩

theorem digs_take_succ (x : Int) (K k : Nat) (h : k < K) : (digsI x K).take (k + 1) = (digsI x K).take k ++ [digI x K k] := by
  unfold digsI
  rw [List.take_succ_eq_append_getElem (by simp; omega)]
  simp
theorem num_take (x : Int) : numB x = [(szI x : Int)] ++ (digsI x (szI x)).take (szI x) := by
  rw [List.take_of_length_le (by simp [digsI])]; rfl
set_option maxHeartbeats 1000000 in
theorem addNumber_any (x : Int) (h0 : 0 ≤ x) (h1 : x < 18446744073709551616) (v : Value) (l : List Int) (B : Nat) (w : World) (hv : newBytes w B v l) (hs : l.length + 9 ≤ 1099511627776) (hB : B ≤ w.heap.size) :
    Calls Tryd.prog 80 #[v, .int .u64 x] w fun e w' => ∃ v', e = .returned v' ∧ newBytes w' B v' (l ++ numB x) ∧ Below B w w' := by
  have hz := szI_le x
  have hz2 : (szI x : Int) ≤ 8 := by omega
  obtain ⟨v1, w1, hr1, hn1, hb1⟩ := byte_append_run w B v l (szI x) (by omega) (by omega) hv (by omega) hB
  have hk1 : (1 : Int) + (szI x : Int) - 1 = (szI x : Int) := by omega
  have HX : Hid (numB x = _) := num_take x
  have HN : Hid _ := hn1
  have HB : Hid _ := hb1
  clear hn1 hb1
  go_enter Tryd.func80, Tryd.ntmps80
  go_wp2_with (first | (go_at_call 78; refine (numberSize_any x h0 h1 _).mono ?_; rintro e w' ⟨rfl, hw⟩; obtain rfl := hw.symm; clear hw) | (at_builtin; refine wpList_append_run rfl _ _ _ rfl rfl rfl hr1 ?_))
  go_loopw [0, 16] (fun v i wr => ∃ k : Nat, k ≤ szI x ∧ i = .int .i64 k ∧ newBytes wr B v (l ++ ([(szI x : Int)] ++ (digsI x (szI x)).take k)) ∧ Below B w wr) (fun _ i _ => szI x - (intOf i).toNat)
  case atStart => exact ⟨0, by omega, rfl, HN.out, HB.out⟩
  case round =>
    clear HN HB hr1 hv
    obtain ⟨k, hk, rfl, hn, hb⟩ := hrel
    by_cases hlt : k < szI x
    · have b0 : (0 : Int) ≤ (k : Int) := by omega
      have b1 : (k : Int) < (szI x : Int) := by omega
      have hd := digI_byte x (szI x) k
      obtain ⟨v2, w2, hr2, hn2, hb2⟩ := byte_append_run wr B u0 _ (digI x (szI x) k) hd.1 hd.2 hn (by simp; omega) (by have := hb.size; omega)
      have HN : Hid _ := hn2
      have HB : Hid _ := hb.trans hb2
      have HS : Hid _ := digs_take_succ x (szI x) k hlt
      clear hn2 hb2 hn hb hd
      go_wp2_with (first | (at_builtin; refine wpList_append_run rfl _ _ _ rfl rfl rfl hr2 ?_))
      go_light
      exact ⟨⟨k + 1, by omega, by go_num, by rw [HS.out, ← List.append_assoc, ← List.append_assoc, List.append_assoc l]; exact HN.out, HB.out⟩, by simp [intOf]; omega⟩
    · obtain rfl : k = szI x := by omega
      have HR : Hid _ := hn
      go_wp2
      go_ret
      exact ⟨_, rfl, by rw [HX.out]; exact HR.out, hb⟩
end Go.Proofs.YtkgegihkhdgdoaaDoor

namespace Go.Proofs.YtkgegihkhdgdoaaDoor
open Go.RowKit Go.Deep

/-- THE VALUE v IS A SLICE OF n ELEMENTS OF ONE CELL EACH. -/
def isRow (w : World) (v : Value) (n : Nat) (f : Nat → Value) : Prop :=
  (v = .slice none 0 0 ∧ n = 0) ∨ ∃ pb po cap : Nat, v = .slice (some ⟨pb, po, none⟩) n cap ∧ pb < w.heap.size ∧ n ≤ maxLen ∧ ∀ i, i < n → w.cell? ⟨pb, po + i, none⟩ = some (f i)
theorem isRow.below {w w' : World} {B : Nat} {v : Value} {n : Nat} {f : Nat → Value} (h : isRow w v n f) (hb : Below B w w') (hB : w.heap.size ≤ B) : isRow w' v n f := by
  rcases h with h | ⟨pb, po, cap, h1, h2, h3, h4⟩
  · exact Or.inl h
  · exact Or.inr ⟨pb, po, cap, h1, Nat.lt_of_lt_of_le h2 hb.size, h3, fun i hi => by rw [hb.cell (p := ⟨pb, po + i, none⟩) (Nat.lt_of_lt_of_le h2 hB)]; exact h4 i hi⟩
theorem isRow.open {w : World} {v : Value} {n : Nat} {f : Nat → Value} (h : isRow w v n f) :
    ∃ a cap, v = .slice a n cap ∧ n ≤ maxLen ∧ ∀ k, k < n → ∃ qb qo, a = some ⟨qb, qo, none⟩ ∧ qb < w.heap.size ∧ w.cell? ⟨qb, qo + k, none⟩ = some (f k) := by
  rcases h with ⟨rfl, rfl⟩ | ⟨pb, po, cap, rfl, h2, h3, h4⟩
  · exact ⟨_, _, rfl, Nat.zero_le _, fun k hk => by omega⟩
  · exact ⟨_, _, rfl, h3, fun k hk => ⟨pb, po, rfl, h2, h4 k hk⟩⟩
theorem isParts.open {w : World} {v : Value} {n : Nat} {ps : Nat → List Int} (h : isParts w v n ps) :
    ∃ a cap, v = .slice a n cap ∧ n ≤ maxLen ∧ ∀ k, k < n → ∃ qb qo u, a = some ⟨qb, qo, none⟩ ∧ qb < w.heap.size ∧ w.cell? ⟨qb, qo + k, none⟩ = some u ∧ anyBytes w u (ps k) := by
  rcases h with ⟨rfl, rfl⟩ | ⟨pb, po, cap, sv, rfl, h2, h3, h4⟩
  · exact ⟨_, _, rfl, Nat.zero_le _, fun k hk => by omega⟩
  · exact ⟨_, _, rfl, h3, fun k hk => ⟨pb, po, sv k, rfl, h2, (h4 k hk).1, (h4 k hk).2⟩⟩
/-- .. OR NONE, wherever it says that they lie. -/
def anyParts (w : World) (v : Value) (n : Nat) (ps : Nat → List Int) : Prop := isParts w v n ps ∨ ((∃ a, v = .slice a 0 0) ∧ n = 0)
theorem isParts.any {w : World} {v : Value} {n : Nat} {ps : Nat → List Int} (h : isParts w v n ps) : anyParts w v n ps := Or.inl h
theorem anyParts.below {w w' : World} {B : Nat} {v : Value} {n : Nat} {ps : Nat → List Int} (h : anyParts w v n ps) (hb : Below B w w') (hB : w.heap.size ≤ B) : anyParts w' v n ps := by
  rcases h with h | h
  · exact Or.inl (h.below hb hB)
  · exact Or.inr h
theorem anyParts.open {w : World} {v : Value} {n : Nat} {ps : Nat → List Int} (h : anyParts w v n ps) :
    ∃ a cap, v = .slice a n cap ∧ n ≤ maxLen ∧ ∀ k, k < n → ∃ qb qo u, a = some ⟨qb, qo, none⟩ ∧ qb < w.heap.size ∧ w.cell? ⟨qb, qo + k, none⟩ = some u ∧ anyBytes w u (ps k) := by
  rcases h with h | ⟨⟨a, rfl⟩, rfl⟩
  · exact h.open
  · exact ⟨_, _, rfl, Nat.zero_le _, fun k hk => by omega⟩
theorem flatTo_len_le (ps : Nat → List Int) (m : Nat) (h : ∀ i, (ps i).length ≤ m) : ∀ k, (flatTo ps k).length ≤ m * k
  | 0 => by simp [flatTo]
  | k + 1 => by
    have := flatTo_len_le ps m h k
    have h2 := h k
    rw [flatTo, List.length_append, Nat.mul_succ]; omega

/-- the numbers' bytes. -/
def numsB (f : Nat → Int) (i : Nat) : List Int := numB (f i)
theorem numsB_le (f : Nat → Int) (i : Nat) : (numsB f i).length ≤ 9 := by rw [numsB, numB_length]; have := szI_le (f i); omega
end Go.Proofs.YtkgegihkhdgdoaaDoor

/- append of a string to bytes of the call's own. -/
namespace Go.Proofs.YtkgegihkhdgdoaaDoor
open Go.RowKit Go.Deep

/-- a string's bytes. -/
def sBytes (s : ByteArray) : List Int := s.data.toList.map fun c => (c.toNat : Int)
section
variable {P : Program}
theorem wp_append2_run {o : Oper} {a : Act} {w w' : World} {K : Act → World → Prop} {Q : Exit → Act → World → Prop} {v y r : Value} (s x : Operand) (t t' : TypeId)
    (ho : o.op = .call { callee := .builtin .append, args := #[s, x], argTypes := #[t, t'] }) (hs : a.eval s = v) (hx : a.eval x = y)
    (hr : (Builtin.append_ #[t, t'] o.type #[v, y]).run P w = .ok r w') (h : K (a.put o.dst r) w') : o.wp P a w K Q := by
  unfold Oper.wp execOp
  simp only [ho, resolve, invoke, builtin, Sem.run_bind, Sem.run_pure, Result.andThen_ok, List.map_toArray, List.map_cons, List.map_nil, hs, hx, hr]
  exact h
theorem wpList_append2_run {ops : Array Oper} {rest : List Oper} {o : Oper} {a : Act} {w w' : World} {Q : Exit → Act → World → Prop} {v y r : Value} (hgd : o.guard = none) (s x : Operand) (t t' : TypeId)
    (ho : o.op = .call { callee := .builtin .append, args := #[s, x], argTypes := #[t, t'] }) (hs : a.eval s = v) (hx : a.eval x = y)
    (hr : (Builtin.append_ #[t, t'] o.type #[v, y]).run P w = .ok r w') (h : wpList P ops Q rest (a.put o.dst r) w') : wpList P ops Q (o :: rest) a w :=
  wpList_plain hgd fun _ hK => wp_append2_run s x t t' ho hs hx hr (hK _ _ h)
end
end Go.Proofs.YtkgegihkhdgdoaaDoor

namespace Go.Proofs.YtkgegihkhdgdoaaDoor
set_option maxRecDepth 100000
open Go.RowKit Go.Deep

/-- a blob. -/
def blobB (p : List Int) : List Int := numB p.length ++ p
def blobsB (ps : Nat → List Int) (i : Nat) : List Int := blobB (ps i)
theorem blobB_length (p : List Int) : (blobB p).length = 1 + szI p.length + p.length := by rw [blobB, List.length_append, numB_length]
set_option maxHeartbeats 1000000 in
theorem blob_any' (l : List Int) (v u : Value) (n : Nat) (ps : Nat → List Int) (w : World) (hv : isBytes w v l) (hu : anyParts w u n ps) (hs : ∀ i, i ≤ n → l.length + (flatTo (blobsB ps) i).length ≤ 1000000000000) :
    Calls Tryd.prog 81 #[v, u] w fun e w' => ∃ v', e = .returned v' ∧ newBytes w' w.heap.size v' (l ++ flatTo (blobsB ps) n) ∧ Below w.heap.size w w' := by
  obtain ⟨a, cap, rfl, hnm, hcell⟩ := hu.open
  clear hu
  unfold maxLen at hnm
  go_enter Tryd.func81, Tryd.ntmps81
  go_wp2
  go_loopw [5, 13] (fun z i wr => ∃ k : Nat, k ≤ n ∧ i = .int .i64 k ∧ z = .int .i64 ((flatTo (blobsB ps) k).length : Int) ∧ wr = w) (fun _ i _ => n - (intOf i).toNat)
  case atStart => exact ⟨0, by omega, rfl, rfl, rfl⟩
  case round =>
    obtain ⟨k, hk, rfl, rfl, hwr⟩ := hrel
    obtain rfl := hwr.symm
    clear hwr
    have hlk := hs k hk
    by_cases hlt : k < n
    · obtain ⟨qb, qo, y, rfl, hq, hc, hy⟩ := hcell k hlt
      obtain ⟨ya, yc, rfl, hym⟩ := hy.slice
      clear hy
      have b0 : (0 : Int) ≤ (k : Int) := by omega
      have b1 : (k : Int) < (n : Int) := by omega
      have hsz := szI_le ((ps k).length : Int)
      have hsk := hs (k + 1) hlt
      have HL0 : (flatTo (blobsB ps) (k + 1)).length = (flatTo (blobsB ps) k).length + (1 + szI ((ps k).length : Int) + (ps k).length) := by rw [flatTo, List.length_append, blobsB, blobB_length]
      rw [HL0] at hsk
      have HL : Hid _ := HL0
      clear HL0
      generalize hLL : (flatTo (blobsB ps) k).length = L at *
      have hM : (ps k).length ≤ 1000000000000 := by omega
      have hM2 : ((ps k).length : Int) ≤ 1000000000000 := by omega
      have hL : (L : Int) ≤ 1000000000000 := by omega
      go_wp2_with (first | (go_at_call 97; refine (partSize_any (ps k).length (by omega) _).mono ?_; rintro e w' ⟨rfl, hw⟩; obtain rfl := hw.symm; clear hw))
      go_light
      exact ⟨⟨k + 1, by omega, by go_num, by rw [HL.out]; go_num, trivial⟩, by simp [intOf]; omega⟩
    · obtain rfl : k = n := by omega
      have HS : Hid _ := hs
      clear hs
      generalize hLL : (flatTo (blobsB ps) k).length = L at *
      go_wp2_with (first | (go_at_call 79; refine (withRoom_any l v L _ hv (by omega)).mono ?_; rintro e w1 ⟨v1, rfl, hn1, hb1⟩))
      have HN : Hid _ := hn1
      have HB : Hid _ := hb1
      clear hn1 hb1 hLL
      go_loopw [8, 28] (fun z i wr => ∃ j : Nat, j ≤ k ∧ i = .int .i64 j ∧ newBytes wr w.heap.size z (l ++ flatTo (blobsB ps) j) ∧ Below w.heap.size w wr) (fun _ i _ => k - (intOf i).toNat)
      case atStart => exact ⟨0, by omega, rfl, by rw [flatTo, List.append_nil]; exact HN.out, HB.out⟩
      case round =>
        clear HN HB
        obtain ⟨j, hj, rfl, hn, hb⟩ := hrel
        by_cases hlt2 : j < k
        · obtain ⟨qb, qo, y, rfl, hq, hc, hy⟩ := hcell j hlt2
          have HYB : Hid _ := fun (w9 : World) (h9 : Below w.heap.size w w9) => hy.below h9 (Nat.le_refl _)
          obtain ⟨ya, yc, rfl, hym⟩ := hy.slice
          clear hy
          have b0 : (0 : Int) ≤ (j : Int) := by omega
          have b1 : (j : Int) < (k : Int) := by omega
          have hlj := HS.out (j + 1) hlt2
          rw [flatTo, List.length_append, blobsB, blobB_length] at hlj
          rw [← hb.cell (p := ⟨qb, qo + j, none⟩) hq] at hc
          have HN : Hid _ := hn
          have hbs := hb.size
          clear hn
          have hM : (ps j).length ≤ 1000000000000 := by omega
          have hM2 : ((ps j).length : Int) ≤ 1000000000000 := by omega
          go_wp2_with fail
          refine (addNumber_any ((ps j).length : Int) (by omega) (by omega) _ _ _ _ HN.out (by rw [List.length_append]; omega) hb.size).mono ?_
          rintro e w2 ⟨v2, rfl, hn2, hb2⟩
          obtain ⟨v3, w3, hr3, hn3, hg3, _⟩ := any_append_run w2 w.heap.size v2 _ _ (ps j) hn2 (HYB.out w2 (hb.trans hb2)) (by rw [List.length_append, List.length_append, numB_length]; omega) (by have := hb2.size; omega)
          have hb3 := below_grown hg3 (fun q hq2 => (hn2.block q hq2).1) (by have := hb2.size; omega)
          have HN3 : Hid _ := hn3
          have HB3 : Hid _ := hb.trans (hb2.trans hb3)
          clear hn2 hb2 hn3 hb3 hb HN hg3
          go_wp2_with (first | (at_builtin; refine wpList_append2_run rfl _ _ _ _ rfl rfl rfl hr3 ?_))
          go_light
          exact ⟨⟨j + 1, by omega, by go_num, by rw [flatTo, ← List.append_assoc, blobsB, blobB, ← List.append_assoc]; exact HN3.out, HB3.out⟩, by simp [intOf]; omega⟩
        · obtain rfl : j = k := by omega
          have HN : Hid _ := hn
          clear hn
          go_wp2
          go_ret
          exact ⟨_, rfl, HN.out, hb⟩
end Go.Proofs.YtkgegihkhdgdoaaDoor

/- Books: empty, Note, Of, Calls; Preimage. -/
namespace Go.Proofs.YtkgegihkhdgdoaaDoor
set_option linter.unusedSimpArgs false
set_option linter.unusedVariables false
open Go.RowKit Go.Deep

/-- what is hashed. -/
def preB (kind : Int) (n : Nat) (ps : Nat → List Int) : List Int := [kind % 256] ++ flatTo (blobsB ps) n
theorem convA (w : World) (v : Value) (l : List Int) (h : anyBytes w v l) : (convert 23 9 v).run Tryd.prog w = .ok (.string (strOf l)) w :=
  run_convert_any (P := Tryd.prog) w 23 9 5 v l Tryd.underlying23 Tryd.underlying5 Tryd.underlying9 h
set_option maxRecDepth 100000 in
theorem pre_any (kind : Int) (n : Nat) (v : Value) (ps : Nat → List Int) (w : World) (hp : anyParts w v n ps) (hs : ∀ i, i ≤ n → 1 + (flatTo (blobsB ps) i).length ≤ 1000000000000) :
    Calls Tryd.prog 88 #[.int .i64 kind, v] w fun e w' => ∃ v', e = .returned v' ∧ newBytes w' w.heap.size v' (preB kind n ps) ∧ Below w.heap.size w w' := by
  have hb0 : Below w.heap.size w (w.alloc (.cells #[.int .u8 (kind % 256)] 5)) := (Below.refl _ _).alloc (Nat.le_refl _) _
  have hk : 0 ≤ kind % 256 ∧ kind % 256 ≤ 255 := by omega
  have h1 : isBytes (w.alloc (.cells #[.int .u8 (kind % 256)] 5)) (.slice (some ⟨w.heap.size, 0, none⟩) 1 1) [kind % 256] :=
    Or.inr ⟨w.heap.size, 0, 1, rfl, by simp, by unfold maxLen; omega, by simp, fun i hi => by
      obtain rfl : i = 0 := by simpa using hi
      exact one_cell w _ _, fun i => by
      match i with
      | 0 => exact hk
      | _ + 1 => exact ⟨by simp, by simp⟩⟩
  have X := blob_any' [kind % 256] _ v n ps _ h1 (hp.below hb0 (Nat.le_refl _)) (fun i hi => by have := hs i hi; simp; omega)
  obtain ⟨a, cap, rfl, _, _⟩ := hp.open
  go_enter Tryd.func88, Tryd.ntmps88
  go_wp2_with fail
  refine X.mono ?_
  rintro e w1 ⟨v1, rfl, hn1, hb1⟩
  go_wp2
  go_ret
  exact ⟨_, rfl, hn1.mono (by simp), hb0.trans (hb1.mono (by simp))⟩

/-- A BOOK in block k, all its memory in F. -/
def bookAt (w : World) (F : Nat → Prop) (k : Nat) (N : List Nt) (c : Int) : Prop :=
  F k ∧ (∀ j, F j → j < w.heap.size) ∧ ∃ pv, w.rowIs k 65 1 (fun _ => pv) ∧
    ((pv = .pointer none ∧ N = [] ∧ c = 0) ∨ ∃ nb, pv = .pointer (some ⟨nb, 0, none⟩) ∧ nb ≠ k ∧ notesAt w (fun j => F j ∧ j ≠ k) nb N c)
theorem bookAt.far {w w' : World} {F : Nat → Prop} {k : Nat} {N : List Nt} {c : Int} (h : bookAt w F k N c) (hb : ∀ j, F j → j < w.heap.size → w'.heap[j]? = w.heap[j]?) (hs : w.heap.size ≤ w'.heap.size) : bookAt w' F k N c := by
  obtain ⟨h1, h2, pv, h3, h4⟩ := h
  refine ⟨h1, fun j hj => Nat.lt_of_lt_of_le (h2 j hj) hs, pv, h3.of_block (hb k h1 (h2 k h1)), ?_⟩
  rcases h4 with h4 | ⟨nb, a1, a2, a3⟩
  · exact Or.inl h4
  · exact Or.inr ⟨nb, a1, a2, a3.far (fun j hj hl => hb j hj.1 hl) hs⟩
theorem bookAt.below {w w' : World} {F : Nat → Prop} {k B : Nat} {N : List Nt} {c : Int} (h : bookAt w F k N c) (hb : Below B w w') (hB : w.heap.size ≤ B) : bookAt w' F k N c :=
  h.far (fun j _ hj => hb.block j (Nat.lt_of_lt_of_le hj hB)) hb.size
theorem notesAt.grow {w : World} {F G : Nat → Prop} {nb : Nat} {N : List Nt} {c : Int} (h : notesAt w F nb N c) (hG : ∀ k, F k → G k) (hl : ∀ k, G k → k < w.heap.size) : notesAt w G nb N c := by
  obtain ⟨lv, mv, h1, h2, h3, h4, h5, h6⟩ := h
  exact ⟨lv, mv, h1, hG _ h2, h3.far (fun _ _ _ => rfl) hG, h4.far (fun _ _ _ => rfl) hG, h5, hl⟩
theorem bookAt.grow {w : World} {F G : Nat → Prop} {k : Nat} {N : List Nt} {c : Int} (h : bookAt w F k N c) (hG : ∀ k, F k → G k) (hl : ∀ k, G k → k < w.heap.size) : bookAt w G k N c := by
  obtain ⟨h1, h2, pv, h3, h4⟩ := h
  refine ⟨hG _ h1, hl, pv, h3, ?_⟩
  rcases h4 with h4 | ⟨nb, a1, a2, a3⟩
  · exact Or.inl h4
  · exact Or.inr ⟨nb, a1, a2, a3.grow (fun j hj => ⟨hG j hj.1, hj.2⟩) (fun j hj => hl j hj.1)⟩
/-- a new book. -/
theorem bookAt.new (w : World) (W : World) (k : Nat) (hW : W.rowIs k 65 1 (fun _ => .pointer none)) : bookAt W (fun j => j = k) k [] 0 :=
  ⟨rfl, fun j hj => hj ▸ hW.lt, .pointer none, hW, Or.inl ⟨rfl, rfl, rfl⟩⟩

theorem zero_notes : ∀ w : World, (Instr.build 105 #[]).run Tryd.prog w = .ok (.agg (rowV 3 (notesV (.slice none 0 0) (.map none) 0))) w := fun w => by kernel_rfl

theorem exec_build2 {P : Program} {o : Oper} {ev : Operand → Value} {w : World} {v : Value} (t : TypeId) (i j : Nat) (x y : Operand) (a b : Value) (ho : o.op = .build t #[(i, x), (j, y)]) (hx : ev x = a) (hy : ev y = b)
    (hr : (Instr.build t #[(i, a), (j, b)]).run P w = .ok v w) : (execOp ev o).run P w = .ok (.value v) w := by
  unfold execOp
  simp only [ho, List.map_toArray, List.map_cons, List.map_nil, hx, hy, Sem.run_bind, hr, Result.andThen_ok, Sem.run_pure]
theorem isBytes.far' {w w' : World} {v : Value} {l : List Int} (h : isBytes w v l) (hb : 0 < l.length → ∀ k, v.ownBlock = some k → w'.heap[k]? = w.heap[k]?) (hs : w.heap.size ≤ w'.heap.size) : isBytes w' v l := by
  rcases h with h | ⟨pb, po, cap, rfl, h2, h3, h4, h6, h7⟩
  · exact Or.inl h
  · exact Or.inr ⟨pb, po, cap, rfl, h2, h3, by omega, fun i hi => by rw [World.cell?_of_block (w := w) (hb (by omega) pb rfl)]; exact h6 i hi, h7⟩
/-- behind the test of the notes. -/
def midN (w : World) (F : Nat → Prop) (k : Nat) (N : List Nt) (c : Int) (q : List Int) (wx : World) : Prop :=
  ∃ (nb : Nat) (G : Nat → Prop), wx.rowIs k 65 1 (fun _ => .pointer (some ⟨nb, 0, none⟩)) ∧ notesAt wx G nb N c ∧ (∀ j, G j → (F j ∧ j ≠ k) ∨ (w.heap.size < j ∧ j < wx.heap.size)) ∧ Fr F w wx ∧ wx.rowIs w.heap.size 32 32 (arrV q)
theorem build_note2 (q : List Int) (t : ByteArray) (w : World) : (Instr.build 107 #[(0, .agg (rowV 32 (arrV q))), (1, .string t)]).run Tryd.prog w = .ok (.agg (rowV 33 (noteV (q, t)))) w := by
  show (_ : Result Value) = _
  kernel_rfl
set_option maxHeartbeats 1000000 in
set_option maxRecDepth 100000 in
theorem note_any' (F : Nat → Prop) (k : Nat) (N : List Nt) (c : Int) (q l : List Int) (v : Value) (w : World) (h : bookAt w F k N c) (hq : isSum q) (hv : anyBytes w v l) (hvF : 0 < l.length → ∀ j, v.ownBlock = some j → ¬ F j) (hN : N.length < 1000000) :
    Calls Tryd.prog 90 #[.pointer (some ⟨k, 0, none⟩), sumV q, v] w fun e w' => e = .returned (.tuple #[]) ∧ bookAt w' (Gr F w w') k (addN N (q, strOf l)) c ∧ Fr F w w' := by
  obtain ⟨hF, hlt, pv, hpv, hcase⟩ := h
  have hk := hlt k hF
  have b1 : Below w.heap.size w (w.alloc (.cells (rowV 32 (arrV q)) 32)) := (Below.refl _ _).alloc (Nat.le_refl _) _
  have rq : (w.alloc (.cells (rowV 32 (arrV q)) 32)).rowIs w.heap.size 32 32 (arrV q) := rowIs_box w _ _ _
  have r1 : (w.alloc (.cells (rowV 32 (arrV q)) 32)).rowIs k 65 1 (fun _ => pv) := b1.row hpv hk
  have c1 : (w.alloc (.cells (rowV 32 (arrV q)) 32)).cell? ⟨k, 0, none⟩ = some pv := r1.cell (i := 0) (by omega)
  have s1 : (w.alloc (.cells (rowV 32 (arrV q)) 32)).heap.size = w.heap.size + 1 := by simp
  have hbu := zero_notes
  obtain ⟨va, vc, rfl, _⟩ := hv.slice
  have HV : Hid _ := hv
  have HVF : Hid _ := hvF
  have HLT : Hid _ := hlt
  clear hv hvF hlt
  unfold sumV
  obtain ⟨bn, hbn, hbg, hbi⟩ : ∃ bn : Bool, (∀ wz : World, (binOp .eql 63 pv (.pointer none)).run Tryd.prog wz = .ok (.bool bn) wz) ∧ (∀ wz : World, (eqGuard .eql 63 (.tmp 11) (.const (.pointer none)) pv (.pointer none)).run Tryd.prog wz = .ok () wz) ∧ (bn = true ↔ pv = .pointer none) := by
    rcases hcase with ⟨rfl, _⟩ | ⟨nb, rfl, _⟩
    · exact ⟨true, fun wz => by kernel_rfl, fun wz => by kernel_rfl, by simp⟩
    · exact ⟨false, fun wz => by kernel_rfl, fun wz => by kernel_rfl, by simp⟩
  go_enter Tryd.func90, Tryd.ntmps90
  go_upto_if 12 with fail
  go_cut [4] (fun t wx => t = .pointer (some ⟨w.heap.size, 0, none⟩) ∧ midN w F k N c q wx)
  case first =>
    rcases hcase with ⟨rfl, rfl, rfl⟩ | ⟨nb, rfl, hnk, hnn⟩
    · obtain rfl : bn = true := hbi.2 rfl
      have r2 : ((w.alloc (.cells (rowV 32 (arrV q)) 32)).alloc (.cells #[.slice none 0 0, .map none, .int .i64 0] 105)).rowIs k 65 1 (fun _ => .pointer none) := World.rowIs.alloc r1 _
      have z2 := World.rowIs.frozen r2 0
      have c2 : ((w.alloc (.cells (rowV 32 (arrV q)) 32)).alloc (.cells #[.slice none 0 0, .map none, .int .i64 0] 105)).cell? ⟨k, 0, none⟩ = some (.pointer none) := r2.cell (i := 0) (by omega)
      have sz : (w.setCell ⟨k, 0, none⟩ (.pointer (some ⟨w.heap.size + 1, 0, none⟩))).heap.size = w.heap.size := nblk_setCell _ _ _
      have sz2 : ((w.setCell ⟨k, 0, none⟩ (.pointer (some ⟨w.heap.size + 1, 0, none⟩))).alloc (.cells (rowV 32 (arrV q)) 32)).heap.size = w.heap.size + 1 := by simp [nblk_setCell]
      have MID : Hid (midN w F k [] 0 q (((w.setCell ⟨k, 0, none⟩ (.pointer (some ⟨w.heap.size + 1, 0, none⟩))).alloc (.cells (rowV 32 (arrV q)) 32)).alloc (.cells #[.slice none 0 0, .map none, .int .i64 0] 105))) := (show midN w F k [] 0 q (((w.setCell ⟨k, 0, none⟩ (.pointer (some ⟨w.heap.size + 1, 0, none⟩))).alloc (.cells (rowV 32 (arrV q)) 32)).alloc (.cells #[.slice none 0 0, .map none, .int .i64 0] 105)) from by
        refine ⟨w.heap.size + 1, fun j => j = w.heap.size + 1, World.rowIs.alloc (World.rowIs.alloc ((World.rowIs.set hpv 0 _).congr (fun i hi => by
          have : i = 0 := by omega
          simp [this])) _) _, ⟨.slice none 0 0, .map none, ?_, rfl, listAt_nil _ _, Or.inl ⟨rfl, rfl⟩, fun x hx => by simp at hx, fun j hj => by rw [hj]; simp [nblk_setCell]⟩, fun j hj => Or.inr ⟨by omega, by rw [hj]; simp [nblk_setCell]⟩, ?_, ?_⟩
        · have := rowIs_new ((w.setCell ⟨k, 0, none⟩ (.pointer (some ⟨w.heap.size + 1, 0, none⟩))).alloc (.cells (rowV 32 (arrV q)) 32)) #[.slice none 0 0, .map none, .int .i64 0] 105 3 (notesV (.slice none 0 0) (.map none) 0) rfl (fun i hi => by
            match i, hi with
            | 0, _ => rfl
            | 1, _ => rfl
            | 2, _ => rfl)
          rw [sz2] at this; exact this
        · exact (((Fr.refl F w).setCell (Or.inl hF) _).alloc _).alloc _
        · have := rowIs_box (w.setCell ⟨k, 0, none⟩ (.pointer (some ⟨w.heap.size + 1, 0, none⟩))) 32 32 (arrV q)
          rw [sz] at this
          exact World.rowIs.alloc this _)
      clear r1 r2 rq b1 hpv hbu
      go_wp2_with fail
      go_meet
      case rel => exact ⟨rfl, MID.out⟩
    · obtain rfl : bn = false := by
        cases bn with
        | false => rfl
        | true => exact absurd (hbi.1 rfl) (by simp)
      have MID : Hid (midN w F k N c q (w.alloc (.cells (rowV 32 (arrV q)) 32))) := (show midN w F k N c q (w.alloc (.cells (rowV 32 (arrV q)) 32)) from ⟨nb, fun j => F j ∧ j ≠ k, r1, hnn.below b1 (Nat.le_refl _), fun j hj => Or.inl hj, Fr.of_below F b1, rq⟩)
      clear r1 rq b1 hpv hbu hnn
      go_wp2_with fail
      go_meet
      case rel => exact ⟨rfl, MID.out⟩
  case rest =>
    obtain ⟨rfl, hmid⟩ := hcut
    clear r1 rq b1 hpv hbu c1 s1 hcase hbn hbg hbi
    obtain ⟨wR, hwR⟩ : ∃ wR, wR = wc := ⟨_, rfl⟩
    subst hwR
    obtain ⟨nb, G, m1, m2, m3, m4, m5⟩ := hmid
    go_upto_region 4 with fail
    have hkR : k < wR.heap.size := Nat.lt_of_lt_of_le hk m4.size
    have hqR : w.heap.size < wR.heap.size := m5.lt
    have hGk : ¬ G k := fun g => by
      rcases m3 k g with h | h
      · exact h.2 rfl
      · omega
    have hGq : ¬ G w.heap.size := fun g => by
      rcases m3 _ g with h | h
      · have := HLT.out _ h.1; omega
      · omega
    have k0 : wR.cell? ⟨k, 0, none⟩ = some (.pointer (some ⟨nb, 0, none⟩)) := m1.cell (i := 0) (by omega)
    have k1 : ∀ i, i < 32 → wR.cell? ⟨w.heap.size, 0 + i, none⟩ = some (arrV q i) := fun i hi => by rw [Nat.zero_add]; exact m5.cell hi
    have kv : anyBytes wR (.slice va l.length vc) l := by
      rcases HV.out with h | h
      · exact Or.inl (h.far' (fun hl j hj => m4.block j (h.block j hj) (HVF.out hl j hj)) m4.size)
      · exact Or.inr h
    have hcvv := convA wR.drew _ _ kv
    have KX := add_note G nb N c (q, strOf l) wR.drew m2.drew hq hN
    have XX : Hid _ := KX
    have M1 : Hid _ := m1
    have M3 : Hid _ := m3
    have M4 : Hid _ := m4
    have M5 : Hid _ := m5
    clear KX m1 m2 m3 m4 m5
    refine wp_region_noPanic ?_
    refine wp_region_held_drew (S := fun w' => w'.cell? ⟨k, 0, none⟩ = some (.pointer (some ⟨nb, 0, none⟩)) ∧ (∀ i, i < 32 → w'.cell? ⟨w.heap.size, 0 + i, none⟩ = some (arrV q i)) ∧ (convert 23 9 (.slice va l.length vc)).run Tryd.prog w' = .ok (.string (strOf l)) w') (by kernel_rfl) ⟨k0, k1, hcvv⟩ (fun hHeld => ?_)
    refine take_op (i := 0) (v := ?vz0) rfl (by kernel_rfl) (by kernel_rfl) (by kernel_rfl) (fun _ _ _ h => h) rfl hHeld ?yz0 ?rz0
    case yz0 => (intro wz hz; go_simp; first | done | with_reducible rfl)
    try simp only [Act.put, List.setIfInBounds_toArray, List.set_cons_zero, List.set_cons_succ]
    refine take_op (i := 1) (v := ?vz1) rfl (by kernel_rfl) (by kernel_rfl) (by kernel_rfl) (fun _ _ _ h => h) rfl hHeld ?yz1 ?rz1
    case yz1 => (intro wz hz; go_simp; first | done | with_reducible rfl)
    try simp only [Act.put, List.setIfInBounds_toArray, List.set_cons_zero, List.set_cons_succ]
    refine take_op (i := 2) (v := ?vz2) rfl (by kernel_rfl) (by kernel_rfl) (by kernel_rfl) (fun _ _ _ h => h) rfl hHeld ?yz2 ?rz2
    case yz2 => (intro wz hz; go_simp; first | done | with_reducible rfl)
    try simp only [Act.put, List.setIfInBounds_toArray, List.set_cons_zero, List.set_cons_succ]
    refine take_op (i := 3) (v := ?vz3) rfl (by kernel_rfl) (by kernel_rfl) (by kernel_rfl) (fun _ _ _ h => h) rfl hHeld ?yz3 ?rz3
    case yz3 => (intro wz hz; have hcz := hz.1; go_simp; first | done | with_reducible rfl)
    try simp only [Act.put, List.setIfInBounds_toArray, List.set_cons_zero, List.set_cons_succ]
    refine take_load (i := 4) rfl (by kernel_rfl) (by kernel_rfl) (by kernel_rfl) 32 _ rfl w.heap.size 0 32 (arrV q) rfl _ Tryd.underlying32 rfl (by kernel_rfl) (fun _ _ _ h => h) rfl hHeld (fun wz hz => hz.2.1) ?_
    try simp only [Act.put, List.setIfInBounds_toArray, List.set_cons_zero, List.set_cons_succ]
    refine take_op (i := 5) (v := ?vz5) rfl (by kernel_rfl) (by kernel_rfl) (by kernel_rfl) (fun _ _ _ h => h) rfl hHeld ?yz5 ?rz5
    case yz5 => (intro wz hz; go_simp; first | done | with_reducible rfl)
    try simp only [Act.put, List.setIfInBounds_toArray, List.set_cons_zero, List.set_cons_succ]
    refine take_op (i := 6) (v := ?vz6) rfl (by kernel_rfl) (by kernel_rfl) (by kernel_rfl) (fun _ _ _ h => h) rfl hHeld ?yz6 ?rz6
    case yz6 => (intro wz hz; have hcz := hz.2.2; go_simp; first | done | with_reducible rfl)
    try simp only [Act.put, List.setIfInBounds_toArray, List.set_cons_zero, List.set_cons_succ]
    refine take_op (i := 7) (v := .agg (rowV 33 (noteV (q, strOf l)))) rfl (by kernel_rfl) (by kernel_rfl) (by kernel_rfl) (fun _ _ _ h => h) rfl hHeld (fun wz hz => exec_build2 107 0 1 _ _ (.agg (rowV 32 (arrV q))) (.string (strOf l)) rfl (by kernel_rfl) (by kernel_rfl) (build_note2 q (strOf l) wz)) ?_
    try simp only [Act.put, List.setIfInBounds_toArray, List.set_cons_zero, List.set_cons_succ]
    refine take_one (i := 8) rfl (by kernel_rfl) rfl (fun K hK => ?_)
    go_simp
    refine Calls.mono XX.out ?_
    rintro e w9 ⟨rfl, hn9, hf9⟩
    have kv9 : anyBytes w9 (.slice va l.length vc) l := by
      rcases HV.out with h | h
      · refine Or.inl (h.far' (fun hl j hj => ?_) (Nat.le_trans M4.out.size hf9.size))
        have hjl := h.block j hj
        exact (hf9.block j (Nat.lt_of_lt_of_le hjl M4.out.size) (fun g => by
          rcases M3.out j g with h2 | h2
          · exact HVF.out hl j hj h2.1
          · omega)).trans (M4.out.block j hjl (HVF.out hl j hj))
      · exact Or.inr h
    refine hK.out _ _ ⟨(World.cell?_of_block (w := wR) (hf9.block k hkR hGk)).trans k0, fun i hi => (World.cell?_of_block (w := wR) (hf9.block _ hqR hGq)).trans (k1 i hi), convA w9 _ _ kv9⟩ (fun hHeld => ?_)
    clear hK K
    try simp only [Act.put, List.setIfInBounds_toArray, List.set_cons_zero, List.set_cons_succ]
    refine wpAnyH_done (by kernel_rfl) ?_ _
    refine NoPanic.normal ?_
    clear hHeld
    have HN9 : Hid _ := hn9
    have HF9 : Hid _ := hf9
    clear hn9 hf9
    go_wp2
    go_end0
    have hs9 := HF9.out.size
    have hs9' : wR.heap.size ≤ w9.heap.size := hs9
    have hsR := M4.out.size
    refine ⟨rfl, ⟨Or.inl hF, fun j hj => ?_, _, World.rowIs.of_block M1.out (HF9.out.block k hkR hGk), Or.inr ⟨nb, rfl, ?_, notesAt.grow HN9.out (fun j hj => ?_) (fun j hj => ?_)⟩⟩, ?_⟩
    · rcases hj with h | h
      · have := HLT.out j h; omega
      · exact h.2
    · rintro rfl
      obtain ⟨_, _, r, _⟩ := HN9.out
      have := rowIs_block r
      rw [rowIs_block (World.rowIs.of_block M1.out (HF9.out.block nb hkR hGk))] at this
      injection this with this
      injection this with _ h2
      exact absurd h2 (by decide)
    · rcases hj with h | h
      · rcases M3.out j h with h2 | h2
        · exact ⟨Or.inl h2.1, h2.2⟩
        · exact ⟨Or.inr ⟨by omega, by omega⟩, by omega⟩
      · have h1 : wR.heap.size ≤ j := h.1
        exact ⟨Or.inr ⟨by omega, h.2⟩, by omega⟩
    · rcases hj.1 with h | h
      · have := HLT.out j h; omega
      · exact h.2
    · exact Fr.trans M4.out (G := G) ⟨HF9.out.os, HF9.out.tape, HF9.out.output, hs9, HF9.out.block⟩ (fun j hj g => by
        rcases M3.out j g with h | h
        · exact h.1
        · omega)
theorem note_any (F : Nat → Prop) (k : Nat) (N : List Nt) (c : Int) (q l : List Int) (v : Value) (w : World) (h : bookAt w F k N c) (hq : isSum q) (hv : anyBytes w v l) (hvF : ∀ j, v.ownBlock = some j → ¬ F j) (hN : N.length < 1000000) :
    Calls Tryd.prog 90 #[.pointer (some ⟨k, 0, none⟩), sumV q, v] w fun e w' => e = .returned (.tuple #[]) ∧ bookAt w' (Gr F w w') k (addN N (q, strOf l)) c ∧ Fr F w w' :=
  note_any' F k N c q l v w h hq hv (fun _ => hvF) hN
end Go.Proofs.YtkgegihkhdgdoaaDoor

/- Books: Of. -/
namespace Go.Proofs.YtkgegihkhdgdoaaDoor
set_option linter.unusedSimpArgs false
set_option linter.unusedVariables false
open Go.RowKit Go.Deep

theorem sumI_byte' {l : List Int} (i : Nat) : 0 ≤ sumI l i ∧ sumI l i ≤ 255 := by unfold sumI sumByte; omega
/-- a sum's bytes. -/
def sumL (l : List Int) : List Int := (List.range 32).map (sumI l)
theorem sumL_getD (l : List Int) (i : Nat) (h : i < 32) : (sumL l).getD i 0 = sumI l i := by
  rw [sumL, List.getD_eq_getElem?_getD, List.getElem?_map, List.getElem?_range h]; rfl
theorem sumL_is (l : List Int) : isSum (sumL l) := ⟨by simp [sumL], fun i => by
  by_cases h : i < 32
  · rw [sumL_getD l i h]; exact sumI_byte' i
  · rw [List.getD_eq_getElem?_getD, List.getElem?_eq_none (by simp [sumL]; omega)]; exact ⟨by simp, by simp⟩⟩
theorem sumL_row (l : List Int) : rowV 32 (fun i => .int .u8 (sumI l i)) = rowV 32 (arrV (sumL l)) := rowV_congr fun i hi => by rw [arrV, sumL_getD l i hi]
theorem addN_ne (N : List Nt) (x : Nt) : addN N x ≠ [] := by
  by_cases h : x ∈ N
  · rw [addN_in h]; intro e; rw [e] at h; simp at h
  · rw [addN_out h]; simp
theorem addN_len (N : List Nt) (x : Nt) : (addN N x).length ≤ N.length + 1 := by
  by_cases h : x ∈ N
  · rw [addN_in h]; omega
  · rw [addN_out h]; simp
/-- sha.Sum(b). -/
theorem sum_one (l : List Int) (v : Value) (B : Nat) (w : World) (h : newBytes w B v l) (hl : l.length < 1000000000) (ht : tabIs w) :
    Calls Tryd.prog 89 #[.slice (some ⟨w.heap.size, 0, none⟩) 1 1] (w.alloc (.cells #[v] 23)) fun e w' => e = .returned (.agg (rowV 32 (arrV (sumL l)))) ∧ Below w.heap.size w w' := by
  have hb0 : Below w.heap.size w (w.alloc (.cells #[v] 23)) := (Below.refl _ _).alloc (Nat.le_refl _) _
  have hp : isParts (w.alloc (.cells #[v] 23)) (.slice (some ⟨w.heap.size, 0, none⟩) 1 1) 1 (fun _ => l) := Or.inr ⟨w.heap.size, 0, 1, fun _ => v, rfl, by simp, by unfold maxLen; omega, fun i hi => by
    obtain rfl : i = 0 := by omega
    exact ⟨one_cell w _ _, Or.inl (h.is.below hb0 (Nat.le_refl _))⟩⟩
  refine (shaSum_any 1 _ (fun _ => l) _ hp (fun i hi => ?_) (ht.below hb0 ht.1)).mono ?_
  · have : i = 0 ∨ i = 1 := by omega
    rcases this with rfl | rfl
    · simp [flatTo]
    · simp [flatTo]; omega
  · rintro e w' ⟨rfl, hb⟩
    refine ⟨?_, hb0.trans (hb.mono (by simp))⟩
    rw [sumL_row]; rfl
theorem hi32' : (Tryd.prog.info? 32).map (·.size) = some 32 := by kernel_rfl
theorem notesAt.count {w : World} {F : Nat → Prop} {nb : Nat} {N : List Nt} {c : Int} (h : notesAt w F nb N c) (c' : Int) : notesAt (w.setCell ⟨nb, 2, none⟩ (.int .i64 c')) F nb N c' := by
  obtain ⟨lv, mv, h1, h2, h3, h4, h5, h6⟩ := h
  refine ⟨lv, mv, (World.rowIs.set h1 2 _).congr fun i hi => ?_, h2, h3.own fun k cur _ hc => blk_setCell_other _ _ _ _ ?_, h4.own fun k es cl _ hc => blk_setCell_other _ _ _ _ ?_, h5, fun k hk => by rw [nblk_setCell]; exact h6 k hk⟩
  · simp only [notesV]
    have : i = 0 ∨ i = 1 ∨ i = 2 := by omega
    rcases this with rfl | rfl | rfl <;> simp
  · rintro rfl
    have := rowIs_block h1
    rw [hc] at this
    injection this with this
    injection this with _ h2
    exact absurd h2 (by decide)
  · rintro rfl
    have := rowIs_block h1
    rw [hc] at this; cases this
set_option maxHeartbeats 1000000 in
set_option maxRecDepth 100000 in
theorem of_any (F : Nat → Prop) (k : Nat) (N : List Nt) (c kind : Int) (n : Nat) (v : Value) (ps : Nat → List Int) (w : World) (h : bookAt w F k N c) (hp : anyParts w v n ps) (hs : ∀ i, i ≤ n → 1 + (flatTo (blobsB ps) i).length ≤ 100000000) (ht : tabIs w) (hF0 : ¬ F 1) (hN : N.length < 1000000) (hc : 0 ≤ c ∧ c < 1000000000) :
    Calls Tryd.prog 69 #[.pointer (some ⟨k, 0, none⟩), .int .i64 kind, v] w fun e w' => e = .returned (sumV (sumL (preB kind n ps))) ∧ bookAt w' (Gr F w w') k (addN N (sumL (preB kind n ps), strOf (preB kind n ps))) (c + 1) ∧ Fr F w w' := by
  have hlt := h.2.1
  have HLT : Hid _ := hlt
  have HBK : Hid _ := h
  have hk0 := hlt k h.1
  have ht0 := ht.1
  obtain ⟨pl, hpl⟩ : ∃ pl, pl = preB kind n ps := ⟨_, rfl⟩
  have hpll : pl.length ≤ 100000000 := by
    rw [hpl, preB, List.length_append]; have := hs n (Nat.le_refl _); simp; omega
  have r0 := rowIs_zero w (Array.replicate 32 (.int .u8 0)) 32 32 (.int .u8 0) rfl
  have hb0 : Below w.heap.size w (w.alloc (.cells (Array.replicate 32 (.int .u8 0)) 32)) := (Below.refl w.heap.size w).alloc (Nat.le_refl _) _
  have hs0 : (w.alloc (.cells (Array.replicate 32 (.int .u8 0)) 32)).heap.size = w.heap.size + 1 := by simp
  have X := pre_any kind n v ps _ (hp.below hb0 (Nat.le_refl _)) (fun i hi => by have := hs i hi; omega)
  rw [← hpl] at X ⊢
  clear hpl
  obtain ⟨a, cap, rfl, _, _⟩ := hp.open
  clear h hlt hp hs
  go_enter Tryd.func69, Tryd.ntmps69
  go_wp2_with fail
  refine X.mono ?_
  rintro e w1 ⟨v1, rfl, hn1, hb1⟩
  have hb1' : Below (w.alloc (.cells (Array.replicate 32 (.int .u8 0)) 32)).heap.size (w.alloc (.cells (Array.replicate 32 (.int .u8 0)) 32)) w1 := hb1
  have hn1' : newBytes w1 (w.alloc (.cells (Array.replicate 32 (.int .u8 0)) 32)).heap.size v1 pl := hn1
  rw [hs0] at hb1' hn1'
  have hB1 : Below w.heap.size w w1 := hb0.trans (hb1'.mono (by omega))
  have r1 : w1.rowIs w.heap.size 32 32 (fun _ => .int .u8 0) := hb1'.row r0 (by omega)
  have hs1 : w.heap.size + 1 ≤ w1.heap.size := by have := hb1'.size; omega
  obtain ⟨va, vc, rfl, _⟩ := hn1'.is.slice
  have Y := sum_one pl _ _ w1 hn1' (by omega) (ht.below hB1 ht0)
  clear X hb1 hn1 hb0 r0 hs0 hb1'
  go_wp2_with fail
  refine Y.mono ?_
  rintro e w3 ⟨rfl, hb3⟩
  have hs3 := hb3.size
  have r3 := hb3.row r1 (by omega)
  have hB3 : Below w.heap.size w w3 := hB1.trans (hb3.mono (by omega))
  have hn3 := hn1'.below hb3 (Nat.le_refl _)
  have r4 := rowIs_zero w3 (Array.replicate 32 (.int .u8 0)) 32 32 (.int .u8 0) rfl
  have hs4 : (w3.alloc (.cells (Array.replicate 32 (.int .u8 0)) 32)).heap.size = w3.heap.size + 1 := by simp
  have hb4 : Below w3.heap.size w3 (w3.alloc (.cells (Array.replicate 32 (.int .u8 0)) 32)) := (Below.refl _ _).alloc (Nat.le_refl _) _
  clear Y hb3 r1 hB1 hn1'
  go_upto_if 16 with (first | (refine wpList_store_row rfl 32 (.tmp 8) (.tmp 14) rfl rfl w3.heap.size 0 32 (arrV (sumL pl)) rfl rfl hi32' (fun _ _ => rfl) _ _ _ r4 (by omega) ?_; intro w5 r5 hz5 hb5))
  have hz5' : w5.heap.size = w3.heap.size + 1 := hz5.trans hs4
  have hb5' : But (w3.heap.size + 1) w3.heap.size (w3.alloc (.cells (Array.replicate 32 (.int .u8 0)) 32)) w5 := hs4 ▸ hb5
  have hB35 : Below w3.heap.size w3 w5 := hb4.trans ((hb5'.mono (by omega)).below (Nat.le_refl _))
  have hB5 : Below w.heap.size w w5 := hB3.trans (hB35.mono (by omega))
  have r5' : w5.rowIs w3.heap.size 32 32 (arrV (sumL pl)) := r5.congr fun i hi => by rw [if_pos (by omega), Nat.sub_zero]
  have r5w := hB35.row r3 (by omega)
  have hv5 := hn3.below hB35 (Nat.le_refl _)
  have Z := note_any F k N c (sumL pl) pl (.slice va pl.length vc) w5 (bookAt.below HBK.out hB5 (Nat.le_refl _)) (sumL_is pl) (Or.inl hv5.is) (fun j hj hf => by
    have h1 := HLT.out j hf
    have h2 := hv5.block j hj
    omega) hN
  unfold sumV at Z
  have R5 : Hid _ := r5'
  have ld5 : ∀ i, i < 32 → w5.cell? ⟨w3.heap.size, 0 + i, none⟩ = some (arrV (sumL pl) i) := fun i hi => by rw [Nat.zero_add]; exact r5'.cell hi
  have LD5 : Hid _ := ld5
  clear ld5
  have R5W : Hid _ := r5w
  have HB5 : Hid _ := hB5
  clear r5 r5' r5w hB35 hb5 hb5' hz5 hb4 hs4 r4 r3 hn3 hv5 hB5 hB3
  go_wp2_with (first | (refine wpList_load_seg rfl 32 (.tmp 8) rfl w3.heap.size 0 32 (arrV (sumL pl)) rfl _ Tryd.underlying32 rfl hi32' LD5.out ?_))
  refine Z.mono ?_
  rintro e w6 ⟨rfl, hbk6, hf6⟩
  clear Z
  have hs6 := hf6.size
  have hbk6' := hbk6
  obtain ⟨hF6, hlt6, pv, hpv6, ⟨_, hnil, _⟩ | ⟨nb, rfl, hnk, hnn⟩⟩ := hbk6
  · exact absurd hnil (addN_ne _ _)
  obtain ⟨lv, mv, rn, hFn, _⟩ := hnn
  have hnbw : nb < w.heap.size ∨ w5.heap.size ≤ nb := by
    rcases hFn.1 with h | h
    · exact Or.inl (HLT.out nb h)
    · exact Or.inr h.1
  have hF3 : ¬ F w3.heap.size := fun f => by have := HLT.out _ f; omega
  have hFw : ¬ F w.heap.size := fun f => by have := HLT.out _ f; omega
  have c0 : w6.cell? ⟨k, 0, none⟩ = some (.pointer (some ⟨nb, 0, none⟩)) := hpv6.cell (i := 0) (by omega)
  have c2 : w6.cell? ⟨nb, 2, none⟩ = some (.int .i64 c) := rn.cell (i := 2) (by omega)
  have z2 := World.rowIs.frozen rn 2
  have q1 : (0 : Int) ≤ c := hc.1
  have q2 : c < 1000000000 := hc.2
  have rs6 : w6.rowIs w3.heap.size 32 32 (arrV (sumL pl)) := World.rowIs.of_block R5.out (hf6.block _ (by omega) hF3)
  have rw6 : w6.rowIs w.heap.size 32 32 (fun _ => .int .u8 0) := World.rowIs.of_block R5W.out (hf6.block _ (by omega) hFw)
  have rs7 : (w6.setCell ⟨nb, 2, none⟩ (.int .i64 (c + 1))).rowIs w3.heap.size 32 32 (arrV (sumL pl)) := World.rowIs.setOther rs6 (show w3.heap.size ≠ nb by omega) _
  have rw7 : (w6.setCell ⟨nb, 2, none⟩ (.int .i64 (c + 1))).rowIs w.heap.size 32 32 (fun _ => .int .u8 0) := World.rowIs.setOther rw6 (show w.heap.size ≠ nb by omega) _
  have BK7 : Hid (bookAt (w6.setCell ⟨nb, 2, none⟩ (.int .i64 (c + 1))) (Gr F w5 w6) k (addN N (sumL pl, strOf pl)) (c + 1)) := (show bookAt (w6.setCell ⟨nb, 2, none⟩ (.int .i64 (c + 1))) (Gr F w5 w6) k (addN N (sumL pl, strOf pl)) (c + 1) from by
    obtain ⟨_, _, pv', hpv', h4⟩ := hbk6'
    have hpe : pv' = .pointer (some ⟨nb, 0, none⟩) := by
      have a := hpv'.cell (i := 0) (by omega)
      rw [c0] at a; exact (Option.some.inj a).symm
    subst hpe
    refine ⟨hF6, fun j hj => by rw [nblk_setCell]; exact hlt6 j hj, _, World.rowIs.setOther hpv' hnk.symm _, Or.inr ⟨nb, rfl, hnk, ?_⟩⟩
    rcases h4 with ⟨h, _⟩ | ⟨nb', h, _, hnn'⟩
    · cases h
    · obtain rfl : nb = nb' := by injection h with h; injection h with h; injection h
      exact hnn'.count (c + 1))
  have FR7 : Hid (Fr (Gr F w5 w6) w6 (w6.setCell ⟨nb, 2, none⟩ (.int .i64 (c + 1)))) := (show Fr (Gr F w5 w6) w6 (w6.setCell ⟨nb, 2, none⟩ (.int .i64 (c + 1))) from (Fr.refl _ _).setCell (Or.inl hFn.1) _)
  have ld7 : ∀ i, i < 32 → (w6.setCell ⟨nb, 2, none⟩ (.int .i64 (c + 1))).cell? ⟨w3.heap.size, 0 + i, none⟩ = some (arrV (sumL pl) i) := fun i hi => by rw [Nat.zero_add]; exact rs7.cell hi
  have RS7 : Hid _ := ld7
  clear ld7
  have F6 : Hid _ := hf6
  have HL6 : Hid _ := hlt6
  clear hbk6' hpv6 rn rs6 rw6 rs7 hf6 hlt6
  go_wp2_with (first | (refine wpList_load_seg rfl 32 (.tmp 8) rfl w3.heap.size 0 32 (arrV (sumL pl)) rfl _ Tryd.underlying32 rfl hi32' RS7.out ?_) | (refine wpList_store_row rfl 32 (.tmp 6) (.tmp 31) rfl rfl w.heap.size 0 32 (arrV (sumL pl)) rfl rfl hi32' (fun _ _ => rfl) _ _ _ rw7 (by omega) ?_; intro w8 r8 hz8 hb8))
  have hz8' : w8.heap.size = w6.heap.size := by rw [hz8, nblk_setCell]
  have hb8' : But w6.heap.size w.heap.size (w6.setCell ⟨nb, 2, none⟩ (.int .i64 (c + 1))) w8 := by
    have : (w6.setCell ⟨nb, 2, none⟩ (.int .i64 (c + 1))).heap.size = w6.heap.size := nblk_setCell _ _ _
    rw [← this]; exact hb8
  refine bodyPost_ret (results_cell_seg rfl _ _ w.heap.size 32 32 (arrV (sumL pl)) _ rfl Tryd.underlying32 rfl hi32' (r8.congr fun i hi => ?_)) rfl ⟨rfl, ?_, ?_⟩
  · rw [if_pos (by omega), Nat.sub_zero]
  · refine bookAt.grow (bookAt.far BK7.out (fun j hj hl => hb8'.block j (HL6.out j hj) ?_) (by rw [nblk_setCell]; omega)) (fun j hj => ?_) (fun j hj => ?_)
    · rintro rfl
      rcases hj with h | h
      · exact hFw h
      · omega
    · rcases hj with h | h
      · exact Or.inl h
      · exact Or.inr ⟨by omega, by rw [hz8']; exact h.2⟩
    · rcases hj with h | h
      · have := HLT.out j h; omega
      · exact h.2
  · have f1 : Fr F w w5 := Fr.of_below F HB5.out
    have f2 : Fr F w w6 := f1.trans F6.out (fun _ _ h => h)
    have f3 : Fr F w (w6.setCell ⟨nb, 2, none⟩ (.int .i64 (c + 1))) := f2.trans FR7.out (fun j hj h => by
      rcases h with h | h
      · exact h
      · omega)
    refine f3.trans (G := fun j => j = w.heap.size) ⟨hb8.os, hb8.tape, hb8.output, hb8.size, fun j hj hne => hb8.block j hj hne⟩ (fun j hj e => ?_)
    omega
end Go.Proofs.YtkgegihkhdgdoaaDoor
