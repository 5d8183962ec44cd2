import Derived.Deep.Cut
import Derived.Deep.CutRange
import Derived.Deep.Light
import Derived.Test.YtcfbaijibghcaaaDoorSealMem
import Derived.Test.YtcfbaijibghcaaaDoorDrawnS
import Derived.Test.YtcfbaijibghcaaaDoorBuildRun
/- slices.Index, slices.Contains of notes. -/
namespace Go.Proofs.YtcfbaijibghcaaaDoor
set_option linter.unusedSimpArgs false
set_option linter.unusedVariables false
open Go.RowKit Go.Deep

set_option maxHeartbeats 1000000 in
set_option maxRecDepth 100000 in
theorem index_any (a : Option Addr) (m cap : Nat) (X : Nat → Nt) (x : Nt) (w : World) (hX : ∀ i, i < m → isSum (X i).1) (hx : isSum x.1) (hm : m ≤ maxLen)
    (hc : ∀ i, i < m → ∃ g o, a = some ⟨g, o, none⟩ ∧ g < w.heap.size ∧ ∀ j, j < 33 → w.cell? ⟨g, o + i * 33 + j, none⟩ = some (noteV (X i) j)) :
    Calls Tryd.prog 47 #[.slice a m cap, noteA x] w fun e w' => ∃ r : Int, e = .returned (.int .i64 r) ∧ ((0 ≤ r ∧ ∃ i, i < m ∧ X i = x) ∨ (r = -1 ∧ ∀ i, i < m → X i ≠ x)) ∧ Below w.heap.size w w' := by
  unfold maxLen at hm
  have q0 : (m : Int) ≤ 9223372036854775807 := by omega
  unfold noteA
  go_enter Tryd.func47, Tryd.ntmps47
  go_wp2
  have r0 := rowIs_box w 62 33 (noteV x)
  have hb0 : Below w.heap.size w (w.alloc (.cells (rowV 33 (noteV x)) 62)) := (Below.refl _ _).alloc (Nat.le_refl _) _
  go_loopw [8] (fun i wr => ∃ k : Nat, k ≤ m ∧ i = .int .i64 k ∧ (∀ j, j < k → X j ≠ x) ∧ Below (w.heap.size + 1) (w.alloc (.cells (rowV 33 (noteV x)) 62)) wr) (fun i _ => m - (intOf i).toNat)
  case atStart => exact ⟨0, by omega, rfl, fun j hj => by omega, Below.refl _ _⟩
  case round =>
    obtain ⟨k, hk, rfl, hne, hb⟩ := hrel
    have B0 : Hid _ := hb0
    have R0 : Hid _ := r0
    clear hb0 r0
    by_cases hlt : k < m
    · obtain ⟨g, o, rfl, hg, hcell⟩ := hc k hlt
      have b0 : (0 : Int) ≤ (k : Int) := by omega
      have b1 : (k : Int) < (m : Int) := by omega
      have XC : Hid (∀ wz, Below (w.heap.size + 1) (w.alloc (.cells (rowV 33 (noteV x)) 62)) wz → ∀ i, i < 33 → wz.cell? ⟨w.heap.size, 0 + i, none⟩ = some (noteV x i)) := (show ∀ wz, Below (w.heap.size + 1) (w.alloc (.cells (rowV 33 (noteV x)) 62)) wz → ∀ i, i < 33 → wz.cell? ⟨w.heap.size, 0 + i, none⟩ = some (noteV x i) from fun wz hz i hi => by
        rw [Nat.zero_add, hz.cell (p := ⟨w.heap.size, i, none⟩) (Nat.lt_succ_self _)]; exact World.rowIs.cell R0.out hi)
      have YC : Hid (∀ wz, Below (w.heap.size + 1) (w.alloc (.cells (rowV 33 (noteV x)) 62)) wz → ∀ i, i < 33 → wz.cell? ⟨g, o + k * 33 + i, none⟩ = some (noteV (X k) i)) := (show ∀ wz, Below (w.heap.size + 1) (w.alloc (.cells (rowV 33 (noteV x)) 62)) wz → ∀ i, i < 33 → wz.cell? ⟨g, o + k * 33 + i, none⟩ = some (noteV (X k) i) from fun wz hz i hi => by
        rw [hz.cell (p := ⟨g, o + k * 33 + i, none⟩) (show g < w.heap.size + 1 by omega), B0.out.cell (p := ⟨g, o + k * 33 + i, none⟩) hg]; exact hcell i hi)
      have heq : ∀ wz : World, (Op.equalIn 10000 62 (.agg (rowV 33 (noteV x))) (.agg (rowV 33 (noteV (X k))))).run Tryd.prog wz = .ok (decide (x = X k)) wz := fun wz => run_eq_notes wz hx (hX k hlt)
      have HB : Hid _ := hb
      have hne' : Hid _ := hne
      clear hcell hb hne
      go_upto_region 4 with fail
      go_cut [8, 16] from 8 to 18 (fun i c wx => i = .int .i64 (k : Int) ∧ c = .bool (decide (x = X k)) ∧ Below (w.heap.size + 1) (w.alloc (.cells (rowV 33 (noteV x)) 62)) wx)
      case first =>
        refine wp_region_noPanic ?_
        refine wp_region_held_drew (S := fun w' => Below (w.heap.size + 1) (w.alloc (.cells (rowV 33 (noteV x)) 62)) w') (by kernel_rfl) (HB.out.drew) (fun hHeld => ?_)
        refine take_load (i := 0) rfl (by kernel_rfl) (by kernel_rfl) (by kernel_rfl) 62 _ rfl w.heap.size 0 33 (noteV x) rfl _ Tryd.underlying62 rfl (by kernel_rfl) (fun _ _ _ h => h) rfl hHeld (fun wz hz => XC.out wz hz) ?_
        try simp only [Act.put, List.setIfInBounds_toArray, List.set_cons_zero, List.set_cons_succ]
        refine take_op (i := 1) (v := ?vi1) rfl (by kernel_rfl) (by kernel_rfl) (by kernel_rfl) (fun _ _ _ h => h) rfl hHeld ?yi1 ?ri1
        case yi1 => (intro wz hz; go_simp; first | done | with_reducible rfl)
        try simp only [Act.put, List.setIfInBounds_toArray, List.set_cons_zero, List.set_cons_succ]
        refine take_op (i := 2) (v := ?vi2) rfl (by kernel_rfl) (by kernel_rfl) (by kernel_rfl) (fun _ _ _ h => h) rfl hHeld ?yi2 ?ri2
        case yi2 => (intro wz hz; go_simp; first | done | with_reducible rfl)
        try simp only [Act.put, List.setIfInBounds_toArray, List.set_cons_zero, List.set_cons_succ]
        refine take_op (i := 3) (v := ?vi3) rfl (by kernel_rfl) (by kernel_rfl) (by kernel_rfl) (fun _ _ _ h => h) rfl hHeld ?yi3 ?ri3
        case yi3 => (intro wz hz; go_simp; first | done | with_reducible rfl)
        try simp only [Act.put, List.setIfInBounds_toArray, List.set_cons_zero, List.set_cons_succ]
        refine take_load (i := 4) rfl (by kernel_rfl) (by kernel_rfl) (by kernel_rfl) 62 _ rfl g (o + k * 33) 33 (noteV (X k)) rfl _ Tryd.underlying62 rfl (by kernel_rfl) (fun _ _ _ h => h) rfl hHeld (fun wz hz => YC.out wz hz) ?_
        try simp only [Act.put, List.setIfInBounds_toArray, List.set_cons_zero, List.set_cons_succ]
        refine take_op (i := 5) (v := ?vi5) rfl (by kernel_rfl) (by kernel_rfl) (by kernel_rfl) (fun _ _ _ h => h) rfl hHeld ?yi5 ?ri5
        case yi5 => (intro wz hz; have hez := heq wz; go_simp; first | done | with_reducible rfl)
        try simp only [Act.put, List.setIfInBounds_toArray, List.set_cons_zero, List.set_cons_succ]
        refine wpAnyH_done (by kernel_rfl) ?_ _
        refine NoPanic.normal ?_
        have HB2 : Hid _ := hHeld
        clear hHeld
        go_wp2_with fail
        go_meet
        case rel => exact ⟨rfl, rfl, HB2.out⟩
      case rest =>
        obtain ⟨rfl, rfl, hb2⟩ := hcut
        have HB2 : Hid _ := hb2
        clear hb2 HB XC YC heq
        by_cases hxe : x = X k
        · have hd : decide (x = X k) = true := decide_eq_true hxe
          rw [hd]
          go_wp2
          go_ret
          exact ⟨_, rfl, Or.inl ⟨by omega, k, hlt, hxe.symm⟩, B0.out.trans (HB2.out.mono (by omega))⟩
        · have hd : decide (x = X k) = false := decide_eq_false hxe
          rw [hd]
          go_wp2
          go_light
          refine ⟨⟨k + 1, by omega, by go_num, fun j hj => ?_, HB2.out⟩, by simp [intOf]; omega⟩
          by_cases e : j < k
          · exact hne'.out j e
          · obtain rfl : j = k := by omega
            exact fun h => hxe h.symm
    · obtain rfl : k = m := by omega
      have HB : Hid _ := hb
      have hne' : Hid _ := hne
      clear hb hne
      go_wp2
      go_ret
      exact ⟨_, rfl, Or.inr ⟨rfl, hne'.out⟩, B0.out.trans (HB.out.mono (by omega))⟩
set_option maxHeartbeats 1000000 in
set_option maxRecDepth 100000 in
theorem contains_any (a : Option Addr) (m cap : Nat) (X : Nat → Nt) (x : Nt) (w : World) (hX : ∀ i, i < m → isSum (X i).1) (hx : isSum x.1) (hm : m ≤ maxLen)
    (hc : ∀ i, i < m → ∃ g o, a = some ⟨g, o, none⟩ ∧ g < w.heap.size ∧ ∀ j, j < 33 → w.cell? ⟨g, o + i * 33 + j, none⟩ = some (noteV (X i) j)) :
    Calls Tryd.prog 35 #[.slice a m cap, noteA x] w fun e w' => ∃ r : Bool, e = .returned (.bool r) ∧ (r = true ↔ ∃ i, i < m ∧ X i = x) ∧ Below w.heap.size w w' := by
  have r0 := rowIs_box w 62 33 (noteV x)
  have hb0 : Below w.heap.size w (w.alloc (.cells (rowV 33 (noteV x)) 62)) := (Below.refl _ _).alloc (Nat.le_refl _) _
  have XX := index_any a m cap X x (w.alloc (.cells (rowV 33 (noteV x)) 62)) hX hx hm (fun i hi => by
    obtain ⟨g, o, h1, h2, h3⟩ := hc i hi
    exact ⟨g, o, h1, by simp; omega, fun j hj => (hb0.cell (p := ⟨g, o + i * 33 + j, none⟩) h2).trans (h3 j hj)⟩)
  unfold noteA at XX ⊢
  go_enter Tryd.func35, Tryd.ntmps35
  go_wp2_with (first | (refine wpList_load_seg rfl 62 _ rfl w.heap.size 0 33 (noteV x) rfl _ Tryd.underlying62 rfl (by kernel_rfl) (fun i hi => by rw [Nat.zero_add]; exact r0.cell hi) ?_))
  refine XX.mono ?_
  rintro e w1 ⟨r, rfl, hr, hb1⟩
  have HB : Hid _ := hb0.trans (hb1.mono (by simp))
  clear hb1 XX
  rcases hr with ⟨h0, hex⟩ | ⟨rfl, hall⟩
  · go_wp2
    go_ret
    exact ⟨_, rfl, ⟨fun _ => hex, fun _ => by simp⟩, HB.out⟩
  · go_wp2
    go_ret
    refine ⟨_, rfl, ⟨fun h => ?_, fun ⟨i, hi, he⟩ => absurd he (hall i hi)⟩, HB.out⟩
    simp at h
end Go.Proofs.YtcfbaijibghcaaaDoor
