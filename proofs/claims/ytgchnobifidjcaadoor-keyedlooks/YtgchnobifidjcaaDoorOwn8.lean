import Derived.Deep.QuietTactic
import Derived.BigQuiet
import Derived.Test.YtgchnobifidjcaaDoorOwn1
import Derived.Test.YtgchnobifidjcaaDoorOwn4
import Derived.Test.YtgchnobifidjcaaDoorOwn5
import Derived.Test.YtgchnobifidjcaaDoorOwn7
set_option linter.unusedVariables false
set_option linter.unusedSimpArgs false
/- The document's Says. -/
namespace Go.Proofs.YtgchnobifidjcaaDoor
set_option linter.unusedSimpArgs false
set_option linter.unusedVariables false
open Go.RowKit Go.Deep

def rsaysB (cnt : Int) (m : Nat) (y : Nat → Sp) (key : List Int) : Bool := decide (0 ≤ cnt) && saysB cnt m y key
set_option maxHeartbeats 4000000 in
set_option maxRecDepth 100000 in
/-- of a count below 0; of none; of more than two. -/
theorem rsays_other (cnt : Int) (m : Nat) (hm : cnt < 0 ∨ m = 0 ∨ 3 ≤ m) (sv tv : Value) (y : Nat → Sp) (key : List Int) (w : World) (hp : spotsAt w sv m y) (hk : anyBytes w tv key) :
    Calls Tryd.prog 50 #[tv, .agg #[.int .i64 cnt, sv]] w fun e w' => e = .returned (.bool (rsaysB cnt m y key)) ∧ Below w.heap.size w w' := by
  obtain ⟨a, cap, rfl, h2, h3, _⟩ := hp
  unfold maxLen at h3
  obtain ⟨w1, hw1⟩ : ∃ w1, w1 = w.alloc (.cells #[.int .i64 cnt, .slice a m cap] 29) := ⟨_, rfl⟩
  have b1 : Below w.heap.size w w1 := by rw [hw1]; exact (Below.refl _ _).alloc (Nat.le_refl _) _
  have z1 : w1.heap.size = w.heap.size + 1 := by rw [hw1]; simp
  have hb0 : w1.heap[w.heap.size]? = some (.cells #[.int .i64 cnt, .slice a m cap] 29) := by rw [hw1, blk_alloc_new]
  have c0 : w1.cell? ⟨w.heap.size, 0, none⟩ = some (.int .i64 cnt) := by rw [cell_of_row _ _ _ _ _ _ hb0]; rfl
  have c1 : w1.cell? ⟨w.heap.size, 1, none⟩ = some (.slice a m cap) := by rw [cell_of_row _ _ _ _ _ _ hb0]; rfl
  have FACT : Hid (∀ wz, Below w1.heap.size w1 wz → Below w.heap.size w wz ∧ wz.cell? ⟨w.heap.size, 1, none⟩ = some (.slice a m cap) ∧ (convert 23 9 tv).run Tryd.prog wz = .ok (.string (strOf key)) wz ∧ wz.cell? ⟨w.heap.size, 0, none⟩ = some (.int .i64 cnt)) := (show _ from fun wz hz => by
    have hz' : Below w.heap.size w wz := b1.trans (hz.mono (by omega))
    exact ⟨hz', (hz.cell (p := ⟨w.heap.size, 1, none⟩) (by show w.heap.size < _; omega)).trans c1, convK wz _ _ (hk.below hz' (Nat.le_refl _)), (hz.cell (p := ⟨w.heap.size, 0, none⟩) (by show w.heap.size < _; omega)).trans c0⟩)
  obtain ⟨ta, tcap, rfl, _⟩ := hk.slice
  clear hk b1 z1 hb0 c0 c1
  go_enter Tryd.func50, Tryd.ntmps50
  go_upto_region 1 with fail
  rw [← hw1]
  clear hw1
  refine wp_region_noPanic ?_
  refine wp_region_held_drew (S := fun w' => Below w1.heap.size w1 w') (by kernel_rfl) (Below.refl w1.heap.size w1).drew (fun hHeld => ?_)
  generalize w1.drew = W at hHeld ⊢
  refine take_op (i := 0) (v := ?va0) rfl (by kernel_rfl) (by kernel_rfl) (by kernel_rfl) (fun _ _ _ h => h) rfl hHeld ?ya0 ?ra0
  case ya0 => (intro wz hz; go_simp; first | done | with_reducible rfl)
  try simp only [Act.put, List.setIfInBounds_toArray, List.set_cons_zero, List.set_cons_succ]
  refine take_op (i := 1) (v := ?va1) rfl (by kernel_rfl) (by kernel_rfl) (by kernel_rfl) (fun _ _ _ h => h) rfl hHeld ?ya1 ?ra1
  case ya1 => (intro wz hz; have hcz := (FACT.out wz hz).2.1; go_simp; first | done | with_reducible rfl)
  try simp only [Act.put, List.setIfInBounds_toArray, List.set_cons_zero, List.set_cons_succ]
  refine take_op (i := 2) (v := ?va2) rfl (by kernel_rfl) (by kernel_rfl) (by kernel_rfl) (fun _ _ _ h => h) rfl hHeld ?ya2 ?ra2
  case ya2 => (intro wz hz; go_simp; first | done | with_reducible rfl)
  try simp only [Act.put, List.setIfInBounds_toArray, List.set_cons_zero, List.set_cons_succ]
  refine take_op (i := 3) (v := ?va3) rfl (by kernel_rfl) (by kernel_rfl) (by kernel_rfl) (fun _ _ _ h => h) rfl hHeld ?ya3 ?ra3
  case ya3 => (intro wz hz; have hcz := (FACT.out wz hz).2.2.1; go_simp; first | done | with_reducible rfl)
  try simp only [Act.put, List.setIfInBounds_toArray, List.set_cons_zero, List.set_cons_succ]
  refine take_op (i := 4) (v := ?va4) rfl (by kernel_rfl) (by kernel_rfl) (by kernel_rfl) (fun _ _ _ h => h) rfl hHeld ?ya4 ?ra4
  case ya4 => (intro wz hz; go_simp; first | done | with_reducible rfl)
  try simp only [Act.put, List.setIfInBounds_toArray, List.set_cons_zero, List.set_cons_succ]
  refine take_op (i := 5) (v := ?va5) rfl (by kernel_rfl) (by kernel_rfl) (by kernel_rfl) (fun _ _ _ h => h) rfl hHeld ?ya5 ?ra5
  case ya5 => (intro wz hz; go_simp; first | done | with_reducible rfl)
  try simp only [Act.put, List.setIfInBounds_toArray, List.set_cons_zero, List.set_cons_succ]
  refine wpAnyH_done (by kernel_rfl) ?_ _
  refine NoPanic.normal ?_
  have HW : Hid (Below w1.heap.size w1 W) := (show Below w1.heap.size w1 W from hHeld)
  clear hHeld
  obtain ⟨bw, d1, _, d0⟩ := FACT.out W HW.out
  have BW : Hid (Below w.heap.size w W) := (show Below w.heap.size w W from bw)
  clear bw
  by_cases hc : cnt < 0
  · have EV : Hid (rsaysB cnt m y key = false) := (show rsaysB cnt m y key = false from by unfold rsaysB; rw [decide_eq_false (by omega)]; rfl)
    go_wp2
    go_ret
    exact ⟨by rw [EV.out]; rfl, BW.out⟩
  · by_cases h3' : 3 ≤ m
    · have EV : Hid (rsaysB cnt m y key = false) := (show rsaysB cnt m y key = false from by unfold rsaysB saysB; rw [if_neg (by omega), if_neg (by omega), if_neg (by omega), Bool.and_false])
      have q : (m : Int) > 2 := by omega
      go_wp2
      go_ret
      exact ⟨by rw [EV.out]; rfl, BW.out⟩
    · obtain rfl : m = 0 := by omega
      have EV : Hid (rsaysB cnt 0 y key = (cnt == 0)) := (show rsaysB cnt 0 y key = (cnt == 0) from by unfold rsaysB saysB; rw [if_pos rfl, decide_eq_true (by omega : 0 ≤ cnt), Bool.true_and, Bool.eq_iff_iff, decide_eq_true_iff, beq_iff_eq])
      go_wp2
      go_ret
      exact ⟨by rw [EV.out]; rfl, BW.out⟩
set_option maxHeartbeats 8000000 in
set_option maxRecDepth 100000 in
theorem rsays_one (cnt : Int) (hcn : 0 ≤ cnt ∧ cnt ≤ 9223372036854775807) (sv tv : Value) (y : Nat → Sp) (key : List Int) (w : World) (hp : spotsAt w sv 1 y) (hk : anyBytes w tv key) :
    Calls Tryd.prog 50 #[tv, .agg #[.int .i64 cnt, sv]] w fun e w' => e = .returned (.bool (rsaysB cnt 1 y key)) ∧ Below w.heap.size w w' := by
  obtain ⟨g, o, cap, rfl, hg, hc⟩ := hp.at (by omega)
  obtain ⟨ka, kcap, va, vcap, pa, pcap, hin, H0⟩ := hc 0 (by omega)
  obtain ⟨w1, hw1⟩ : ∃ w1, w1 = w.alloc (.cells #[.int .i64 cnt, .slice (some ⟨g, o, none⟩) 1 cap] 29) := ⟨_, rfl⟩
  have b1 : Below w.heap.size w w1 := by rw [hw1]; exact (Below.refl _ _).alloc (Nat.le_refl _) _
  have z1 : w1.heap.size = w.heap.size + 1 := by rw [hw1]; simp
  have hb0 : w1.heap[w.heap.size]? = some (.cells #[.int .i64 cnt, .slice (some ⟨g, o, none⟩) 1 cap] 29) := by rw [hw1, blk_alloc_new]
  have c0 : w1.cell? ⟨w.heap.size, 0, none⟩ = some (.int .i64 cnt) := by rw [cell_of_row _ _ _ _ _ _ hb0]; rfl
  have c1 : w1.cell? ⟨w.heap.size, 1, none⟩ = some (.slice (some ⟨g, o, none⟩) 1 cap) := by rw [cell_of_row _ _ _ _ _ _ hb0]; rfl
  have FACT : Hid (∀ wz, Below w1.heap.size w1 wz → Below w.heap.size w wz ∧ wz.cell? ⟨w.heap.size, 1, none⟩ = some (.slice (some ⟨g, o, none⟩) 1 cap) ∧ (convert 23 9 tv).run Tryd.prog wz = .ok (.string (strOf key)) wz ∧ wz.cell? ⟨w.heap.size, 0, none⟩ = some (.int .i64 cnt)) := (show _ from fun wz hz => by
    have hz' : Below w.heap.size w wz := b1.trans (hz.mono (by omega))
    exact ⟨hz', (hz.cell (p := ⟨w.heap.size, 1, none⟩) (by show w.heap.size < _; omega)).trans c1, convK wz _ _ (hk.below hz' (Nat.le_refl _)), (hz.cell (p := ⟨w.heap.size, 0, none⟩) (by show w.heap.size < _; omega)).trans c0⟩)
  obtain ⟨ta, tcap, rfl, _⟩ := hk.slice
  have HK : Hid (anyBytes w (.slice ta key.length tcap) key) := (show _ from hk)
  have hwc : IntKind.wrap .i64 (cnt - 1) = cnt - 1 := IntWalk.i64_in _ ⟨by omega, by omega⟩
  have hcn0 : ¬ cnt < 0 := by omega
  have ES : Hid (rsaysB cnt 1 y key = decide (cmpI (y 0).pr.1 key = 0 ∨ (0 < cmpI (y 0).pr.1 key ∧ (y 0).at_ = 0) ∨ (cmpI (y 0).pr.1 key < 0 ∧ (y 0).at_ = cnt - 1))) := (show rsaysB cnt 1 y key = decide (cmpI (y 0).pr.1 key = 0 ∨ (0 < cmpI (y 0).pr.1 key ∧ (y 0).at_ = 0) ∨ (cmpI (y 0).pr.1 key < 0 ∧ (y 0).at_ = cnt - 1)) from by unfold rsaysB saysB; rw [decide_eq_true hcn.1, Bool.true_and, if_neg (by omega), if_pos rfl])
  clear hp hc hk b1 z1 hb0 c0 c1 hg
  go_enter Tryd.func50, Tryd.ntmps50
  go_upto_region 1 with fail
  rw [← hw1]
  clear hw1
  refine wp_region_noPanic ?_
  refine wp_region_held_drew (S := fun w' => Below w1.heap.size w1 w') (by kernel_rfl) (Below.refl w1.heap.size w1).drew (fun hHeld => ?_)
  generalize w1.drew = W at hHeld ⊢
  refine take_op (i := 0) (v := ?va0) rfl (by kernel_rfl) (by kernel_rfl) (by kernel_rfl) (fun _ _ _ h => h) rfl hHeld ?ya0 ?ra0
  case ya0 => (intro wz hz; go_simp; first | done | with_reducible rfl)
  try simp only [Act.put, List.setIfInBounds_toArray, List.set_cons_zero, List.set_cons_succ]
  refine take_op (i := 1) (v := ?va1) rfl (by kernel_rfl) (by kernel_rfl) (by kernel_rfl) (fun _ _ _ h => h) rfl hHeld ?ya1 ?ra1
  case ya1 => (intro wz hz; have hcz := (FACT.out wz hz).2.1; go_simp; first | done | with_reducible rfl)
  try simp only [Act.put, List.setIfInBounds_toArray, List.set_cons_zero, List.set_cons_succ]
  refine take_op (i := 2) (v := ?va2) rfl (by kernel_rfl) (by kernel_rfl) (by kernel_rfl) (fun _ _ _ h => h) rfl hHeld ?ya2 ?ra2
  case ya2 => (intro wz hz; go_simp; first | done | with_reducible rfl)
  try simp only [Act.put, List.setIfInBounds_toArray, List.set_cons_zero, List.set_cons_succ]
  refine take_op (i := 3) (v := ?va3) rfl (by kernel_rfl) (by kernel_rfl) (by kernel_rfl) (fun _ _ _ h => h) rfl hHeld ?ya3 ?ra3
  case ya3 => (intro wz hz; have hcz := (FACT.out wz hz).2.2.1; go_simp; first | done | with_reducible rfl)
  try simp only [Act.put, List.setIfInBounds_toArray, List.set_cons_zero, List.set_cons_succ]
  refine take_op (i := 4) (v := ?va4) rfl (by kernel_rfl) (by kernel_rfl) (by kernel_rfl) (fun _ _ _ h => h) rfl hHeld ?ya4 ?ra4
  case ya4 => (intro wz hz; go_simp; first | done | with_reducible rfl)
  try simp only [Act.put, List.setIfInBounds_toArray, List.set_cons_zero, List.set_cons_succ]
  refine take_op (i := 5) (v := ?va5) rfl (by kernel_rfl) (by kernel_rfl) (by kernel_rfl) (fun _ _ _ h => h) rfl hHeld ?ya5 ?ra5
  case ya5 => (intro wz hz; go_simp; first | done | with_reducible rfl)
  try simp only [Act.put, List.setIfInBounds_toArray, List.set_cons_zero, List.set_cons_succ]
  refine wpAnyH_done (by kernel_rfl) ?_ _
  refine NoPanic.normal ?_
  have HW : Hid (Below w1.heap.size w1 W) := (show Below w1.heap.size w1 W from hHeld)
  clear hHeld
  obtain ⟨bw, d1, _, d0⟩ := FACT.out W HW.out
  obtain ⟨s0, s1, s2, s3, s4, _, _⟩ := H0 W bw
  simp only [Nat.zero_mul, Nat.add_zero] at s0 s1 s2 s3
  have v1 := convK W _ _ s4
  have L1 := less_cmp s4 HK.out
  have E1 := beq_cmp s4 HK.out
  have BW : Hid (Below w.heap.size w W) := (show Below w.heap.size w W from bw)
  clear bw s4 H0 FACT HK hcn s2 s3
  generalize cmpI (y 0).pr.1 key = cm at ES L1 E1 ⊢
  generalize hA : strOf (y 0).pr.1 = A at v1 L1 E1 ⊢
  generalize hB : strOf key = B at L1 E1 ⊢
  clear hA hB
  generalize (y 0).at_ = t at s0 ES ⊢
  by_cases h0 : cm = 0
  · rw [decide_eq_true h0] at E1
    rw [decide_eq_false (by omega)] at L1
    have EV : Hid (rsaysB cnt 1 y key = true) := (show rsaysB cnt 1 y key = true from by rw [ES.out]; exact decide_eq_true (Or.inl h0))
    have hEq : ∀ ty, (binOp .eql ty (.string A) (.string B)) = pure (.bool true) := fun ty => by simp [binOp, Op.stringOp, E1]
    clear ES h0
    go_upto_region 8 with fail
    go_quiet (fail)
    go_wp2
    go_ret
    exact ⟨by rw [EV.out]; rfl, BW.out.drewN _⟩
  · rw [decide_eq_false h0] at E1
    by_cases h1 : cm < 0
    · rw [decide_eq_true h1] at L1
      have hG : ∀ ty, (binOp .gtr ty (.string A) (.string B)) = pure (.bool false) := fun ty => by simp [binOp, Op.stringOp, L1]
      by_cases h2 : t = cnt - 1
      · have EV : Hid (rsaysB cnt 1 y key = true) := (show rsaysB cnt 1 y key = true from by rw [ES.out]; exact decide_eq_true (Or.inr (Or.inr ⟨h1, h2⟩)))
        clear ES
        go_upto_region 8 with fail
        go_quiet (fail)
        go_wp2
        go_ret
        exact ⟨by rw [EV.out]; rfl, BW.out.drewN _⟩
      · have EV : Hid (rsaysB cnt 1 y key = false) := (show rsaysB cnt 1 y key = false from by rw [ES.out]; exact decide_eq_false (by omega))
        have h2' : (t == cnt - 1) = false := by simp [h2]
        clear ES
        go_upto_region 8 with fail
        go_quiet (fail)
        go_wp2
        go_ret
        exact ⟨by rw [EV.out]; rfl, BW.out.drewN _⟩
    · rw [decide_eq_false h1] at L1
      have hG : ∀ ty, (binOp .gtr ty (.string A) (.string B)) = pure (.bool true) := fun ty => by simp [binOp, Op.stringOp, L1, E1]
      by_cases h2 : t = 0
      · have EV : Hid (rsaysB cnt 1 y key = true) := (show rsaysB cnt 1 y key = true from by rw [ES.out]; exact decide_eq_true (Or.inr (Or.inl ⟨by omega, h2⟩)))
        clear ES
        go_upto_region 8 with fail
        go_quiet (fail)
        go_wp2
        go_ret
        exact ⟨by rw [EV.out]; rfl, BW.out.drewN _⟩
      · have EV : Hid (rsaysB cnt 1 y key = false) := (show rsaysB cnt 1 y key = false from by rw [ES.out]; exact decide_eq_false (by omega))
        have h2' : (t == 0) = false := by simp [h2]
        clear ES
        go_upto_region 8 with fail
        go_quiet (fail)
        go_wp2
        go_ret
        exact ⟨by rw [EV.out]; rfl, BW.out.drewN _⟩
set_option maxHeartbeats 8000000 in
set_option maxRecDepth 100000 in
theorem rsays_two (cnt : Int) (hcn : 0 ≤ cnt ∧ cnt ≤ 9223372036854775807) (sv tv : Value) (y : Nat → Sp) (key : List Int) (w : World) (hp : spotsAt w sv 2 y) (hk : anyBytes w tv key) :
    Calls Tryd.prog 50 #[tv, .agg #[.int .i64 cnt, sv]] w fun e w' => e = .returned (.bool (rsaysB cnt 2 y key)) ∧ Below w.heap.size w w' := by
  obtain ⟨g, o, cap, rfl, hg, hc⟩ := hp.at (by omega)
  obtain ⟨ka, kcap, va, vcap, pa, pcap, hin, H0⟩ := hc 0 (by omega)
  obtain ⟨kb, kbcap, vb, vbcap, pb, pbcap, hin1, H1⟩ := hc 1 (by omega)
  obtain ⟨w1, hw1⟩ : ∃ w1, w1 = w.alloc (.cells #[.int .i64 cnt, .slice (some ⟨g, o, none⟩) 2 cap] 29) := ⟨_, rfl⟩
  have b1 : Below w.heap.size w w1 := by rw [hw1]; exact (Below.refl _ _).alloc (Nat.le_refl _) _
  have z1 : w1.heap.size = w.heap.size + 1 := by rw [hw1]; simp
  have hb0 : w1.heap[w.heap.size]? = some (.cells #[.int .i64 cnt, .slice (some ⟨g, o, none⟩) 2 cap] 29) := by rw [hw1, blk_alloc_new]
  have c0 : w1.cell? ⟨w.heap.size, 0, none⟩ = some (.int .i64 cnt) := by rw [cell_of_row _ _ _ _ _ _ hb0]; rfl
  have c1 : w1.cell? ⟨w.heap.size, 1, none⟩ = some (.slice (some ⟨g, o, none⟩) 2 cap) := by rw [cell_of_row _ _ _ _ _ _ hb0]; rfl
  have FACT : Hid (∀ wz, Below w1.heap.size w1 wz → Below w.heap.size w wz ∧ wz.cell? ⟨w.heap.size, 1, none⟩ = some (.slice (some ⟨g, o, none⟩) 2 cap) ∧ (convert 23 9 tv).run Tryd.prog wz = .ok (.string (strOf key)) wz ∧ wz.cell? ⟨w.heap.size, 0, none⟩ = some (.int .i64 cnt)) := (show _ from fun wz hz => by
    have hz' : Below w.heap.size w wz := b1.trans (hz.mono (by omega))
    exact ⟨hz', (hz.cell (p := ⟨w.heap.size, 1, none⟩) (by show w.heap.size < _; omega)).trans c1, convK wz _ _ (hk.below hz' (Nat.le_refl _)), (hz.cell (p := ⟨w.heap.size, 0, none⟩) (by show w.heap.size < _; omega)).trans c0⟩)
  obtain ⟨ta, tcap, rfl, _⟩ := hk.slice
  have HK : Hid (anyBytes w (.slice ta key.length tcap) key) := (show _ from hk)
  have hcn0 : ¬ cnt < 0 := by omega
  have ES : Hid (rsaysB cnt 2 y key = decide (cmpI (y 0).pr.1 key < 0 ∧ 0 < cmpI (y 1).pr.1 key ∧ 0 ≤ (y 0).at_ ∧ (y 1).at_ = (y 0).at_ + 1)) := (show rsaysB cnt 2 y key = decide (cmpI (y 0).pr.1 key < 0 ∧ 0 < cmpI (y 1).pr.1 key ∧ 0 ≤ (y 0).at_ ∧ (y 1).at_ = (y 0).at_ + 1) from by unfold rsaysB saysB; rw [decide_eq_true hcn.1, Bool.true_and, if_neg (by omega), if_neg (by omega), if_pos rfl])
  have hsw := cmpI_swap key (y 1).pr.1
  unfold inI64 at hin hin1
  clear hp hc hk b1 z1 hb0 c0 c1 hg
  go_enter Tryd.func50, Tryd.ntmps50
  go_upto_region 1 with fail
  rw [← hw1]
  clear hw1
  refine wp_region_noPanic ?_
  refine wp_region_held_drew (S := fun w' => Below w1.heap.size w1 w') (by kernel_rfl) (Below.refl w1.heap.size w1).drew (fun hHeld => ?_)
  generalize w1.drew = W at hHeld ⊢
  refine take_op (i := 0) (v := ?va0) rfl (by kernel_rfl) (by kernel_rfl) (by kernel_rfl) (fun _ _ _ h => h) rfl hHeld ?ya0 ?ra0
  case ya0 => (intro wz hz; go_simp; first | done | with_reducible rfl)
  try simp only [Act.put, List.setIfInBounds_toArray, List.set_cons_zero, List.set_cons_succ]
  refine take_op (i := 1) (v := ?va1) rfl (by kernel_rfl) (by kernel_rfl) (by kernel_rfl) (fun _ _ _ h => h) rfl hHeld ?ya1 ?ra1
  case ya1 => (intro wz hz; have hcz := (FACT.out wz hz).2.1; go_simp; first | done | with_reducible rfl)
  try simp only [Act.put, List.setIfInBounds_toArray, List.set_cons_zero, List.set_cons_succ]
  refine take_op (i := 2) (v := ?va2) rfl (by kernel_rfl) (by kernel_rfl) (by kernel_rfl) (fun _ _ _ h => h) rfl hHeld ?ya2 ?ra2
  case ya2 => (intro wz hz; go_simp; first | done | with_reducible rfl)
  try simp only [Act.put, List.setIfInBounds_toArray, List.set_cons_zero, List.set_cons_succ]
  refine take_op (i := 3) (v := ?va3) rfl (by kernel_rfl) (by kernel_rfl) (by kernel_rfl) (fun _ _ _ h => h) rfl hHeld ?ya3 ?ra3
  case ya3 => (intro wz hz; have hcz := (FACT.out wz hz).2.2.1; go_simp; first | done | with_reducible rfl)
  try simp only [Act.put, List.setIfInBounds_toArray, List.set_cons_zero, List.set_cons_succ]
  refine take_op (i := 4) (v := ?va4) rfl (by kernel_rfl) (by kernel_rfl) (by kernel_rfl) (fun _ _ _ h => h) rfl hHeld ?ya4 ?ra4
  case ya4 => (intro wz hz; go_simp; first | done | with_reducible rfl)
  try simp only [Act.put, List.setIfInBounds_toArray, List.set_cons_zero, List.set_cons_succ]
  refine take_op (i := 5) (v := ?va5) rfl (by kernel_rfl) (by kernel_rfl) (by kernel_rfl) (fun _ _ _ h => h) rfl hHeld ?ya5 ?ra5
  case ya5 => (intro wz hz; go_simp; first | done | with_reducible rfl)
  try simp only [Act.put, List.setIfInBounds_toArray, List.set_cons_zero, List.set_cons_succ]
  refine wpAnyH_done (by kernel_rfl) ?_ _
  refine NoPanic.normal ?_
  have HW : Hid (Below w1.heap.size w1 W) := (show Below w1.heap.size w1 W from hHeld)
  clear hHeld
  obtain ⟨bw, d1, _, d0⟩ := FACT.out W HW.out
  obtain ⟨s0, s1, s2, s3, s4, _, _⟩ := H0 W bw
  obtain ⟨r0, r1, r2, r3, r4, _, _⟩ := H1 W bw
  simp only [Nat.zero_mul, Nat.one_mul, Nat.add_zero, Nat.add_assoc, Nat.reduceAdd] at s0 s1 s2 s3 r0 r1 r2 r3
  have v1 := convK W _ _ s4
  have v2 : ∀ n, (convert 23 9 (.slice kb (y 1).pr.1.length kbcap)).run Tryd.prog (W.drewN n) = .ok (.string (strOf (y 1).pr.1)) (W.drewN n) := fun n => convK (W.drewN n) _ _ (r4.below ((Below.refl W.heap.size W).drewN n) (Nat.le_refl _))
  have L1 := less_cmp s4 HK.out
  have L2 := less_cmp HK.out r4
  have BW : Hid (Below w.heap.size w W) := (show Below w.heap.size w W from bw)
  clear bw s4 r4 H0 H1 FACT HK hcn s2 s3 r2 r3
  generalize cmpI (y 0).pr.1 key = cm at ES L1 ⊢
  rw [hsw] at L2
  generalize cmpI (y 1).pr.1 key = cn at ES L2 hsw ⊢
  clear hsw
  generalize hA : strOf (y 0).pr.1 = A at v1 L1 ⊢
  generalize hB : strOf key = B at L1 L2 ⊢
  generalize hC : strOf (y 1).pr.1 = C at v2 L2 ⊢
  clear hA hB hC
  generalize (y 0).at_ = t at s0 ES hin ⊢
  generalize (y 1).at_ = u at r0 ES hin1 ⊢
  by_cases h0 : t ≥ 0
  · by_cases h1 : u > 0
    · have hws : IntKind.wrap .i64 (u - 1) = u - 1 := IntWalk.i64_in _ ⟨by omega, by omega⟩
      by_cases h2 : u - 1 = t
      · by_cases h3 : cm < 0
        · rw [decide_eq_true h3] at L1
          by_cases h4 : 0 < cn
          · rw [decide_eq_true (by omega)] at L2
            have EV : Hid (rsaysB cnt 2 y key = true) := (show rsaysB cnt 2 y key = true from by rw [ES.out]; exact decide_eq_true ⟨h3, h4, h0, by omega⟩)
            clear ES
            go_upto_region 9 with fail
            go_quiet (fail)
            go_wp2
            go_ret
            exact ⟨by rw [EV.out]; rfl, BW.out.drewN _⟩
          · rw [decide_eq_false (by omega)] at L2
            have EV : Hid (rsaysB cnt 2 y key = false) := (show rsaysB cnt 2 y key = false from by rw [ES.out]; exact decide_eq_false (by omega))
            clear ES
            go_upto_region 9 with fail
            go_quiet (fail)
            go_wp2
            go_ret
            exact ⟨by rw [EV.out]; rfl, BW.out.drewN _⟩
        · rw [decide_eq_false h3] at L1
          have EV : Hid (rsaysB cnt 2 y key = false) := (show rsaysB cnt 2 y key = false from by rw [ES.out]; exact decide_eq_false (by omega))
          clear ES
          go_upto_region 9 with fail
          go_quiet (fail)
          go_wp2
          go_ret
          exact ⟨by rw [EV.out]; rfl, BW.out.drewN _⟩
      · have EV : Hid (rsaysB cnt 2 y key = false) := (show rsaysB cnt 2 y key = false from by rw [ES.out]; exact decide_eq_false (by omega))
        have h2' : (u - 1 == t) = false := by simp [h2]
        clear ES
        go_upto_region 9 with fail
        go_quiet (fail)
        go_wp2
        go_ret
        exact ⟨by rw [EV.out]; rfl, BW.out.drewN _⟩
    · have EV : Hid (rsaysB cnt 2 y key = false) := (show rsaysB cnt 2 y key = false from by rw [ES.out]; exact decide_eq_false (by omega))
      have h1' : decide (u > 0) = false := decide_eq_false h1
      clear ES
      go_upto_region 9 with fail
      go_quiet (fail)
      go_wp2
      go_ret
      exact ⟨by rw [EV.out]; rfl, BW.out.drewN _⟩
  · have EV : Hid (rsaysB cnt 2 y key = false) := (show rsaysB cnt 2 y key = false from by rw [ES.out]; exact decide_eq_false (by omega))
    have h0' : decide (t ≥ 0) = false := decide_eq_false h0
    clear ES
    go_upto_region 9 with fail
    go_quiet (fail)
    go_wp2
    go_ret
    exact ⟨by rw [EV.out]; rfl, BW.out.drewN _⟩
theorem rsays_any (cnt : Int) (hcn : inI64 cnt) (m : Nat) (sv tv : Value) (y : Nat → Sp) (key : List Int) (w : World) (hp : spotsAt w sv m y) (hk : anyBytes w tv key) :
    Calls Tryd.prog 50 #[tv, .agg #[.int .i64 cnt, sv]] w fun e w' => e = .returned (.bool (rsaysB cnt m y key)) ∧ Below w.heap.size w w' := by
  by_cases h0 : cnt < 0
  · exact rsays_other cnt m (Or.inl h0) sv tv y key w hp hk
  have hc : 0 ≤ cnt ∧ cnt ≤ 9223372036854775807 := ⟨by omega, hcn.2⟩
  by_cases h1 : m = 1
  · subst h1; exact rsays_one cnt hc sv tv y key w hp hk
  by_cases h2 : m = 2
  · subst h2; exact rsays_two cnt hc sv tv y key w hp hk
  · exact rsays_other cnt m (by omega) sv tv y key w hp hk
end Go.Proofs.YtgchnobifidjcaaDoor

/- The document's leaf of a pair, and whole. -/
namespace Go.Proofs.YtgchnobifidjcaaDoor
set_option linter.unusedSimpArgs false
set_option linter.unusedVariables false
open Go.RowKit Go.Deep

set_option maxHeartbeats 2000000 in
set_option maxRecDepth 100000 in
theorem rleaf_any (kc vc : Value) (x : Pr) (w : World) (h1 : anyBytes w kc x.1) (h2 : anyBytes w vc x.2) (hx : x.1.length + x.2.length ≤ 1000000) :
    Calls Tryd.prog 52 #[.agg #[kc, vc]] w fun e w' => e = .returned (sumV (leafS x)) ∧ Below w.heap.size w w' := by
  have hz32 := zero_s32
  obtain ⟨w1, hw1⟩ : ∃ w1, w1 = (w.alloc (.cells #[kc, vc] 38)).alloc (.cells (rowV 32 (fun _ => .int .u8 0)) 32) := ⟨_, rfl⟩
  have b1 : Below w.heap.size w w1 := by rw [hw1]; exact ((Below.refl _ _).alloc (Nat.le_refl _) _).alloc (by simp) _
  have z1 : w1.heap.size = w.heap.size + 2 := by rw [hw1]; simp
  have rz : w1.rowIs (w.heap.size + 1) 32 32 (fun _ => .int .u8 0) := by
    have r := rowIs_box (w.alloc (.cells #[kc, vc] 38)) 32 32 (fun _ => .int .u8 0)
    rw [World.size_alloc] at r; rw [hw1]; exact r
  have hb0 : w1.heap[w.heap.size]? = some (.cells #[kc, vc] 38) := by rw [hw1, blk_alloc_lt _ _ _ (by simp), blk_alloc_new]
  have c0 : w1.cell? ⟨w.heap.size, 0, none⟩ = some kc := by rw [cell_of_row _ _ _ _ _ _ hb0]; rfl
  have c1 : w1.cell? ⟨w.heap.size, 1, none⟩ = some vc := by rw [cell_of_row _ _ _ _ _ _ hb0]; rfl
  obtain ⟨w2, hw2⟩ : ∃ w2, w2 = w1.alloc (.cells #[kc, vc] 23) := ⟨_, rfl⟩
  have b2 : Below w1.heap.size w1 w2 := by rw [hw2]; exact (Below.refl _ _).alloc (Nat.le_refl _) _
  have z2 : w2.heap.size = w1.heap.size + 1 := by rw [hw2]; simp
  have b02 : Below w.heap.size w w2 := b1.trans (b2.mono (by omega))
  have hp : isParts w2 (.slice (some ⟨w1.heap.size, 0, none⟩) 2 2) 2 (prPs x) := by rw [hw2]; exact parts_two w1 kc vc x (h1.below b1 (Nat.le_refl _)) (h2.below b1 (Nat.le_refl _))
  have X := rof_any 4 2 _ (prPs x) w2 hp.any (prPs_light x hx)
  have X' : Calls Tryd.prog 72 #[.int .i64 4, .slice (some ⟨w1.heap.size, 0, none⟩) 2 2] w2 fun e w' => e = .returned (.agg (rowV 32 (arrV (leafS x)))) ∧ Below w2.heap.size w2 w' := X
  have HX : Hid (∀ w3, Below w2.heap.size w2 w3 → w3.rowIs (w.heap.size + 1) 32 32 (fun _ => .int .u8 0) ∧ ∀ w4, But w3.heap.size (w.heap.size + 1) w3 w4 → w4.heap.size = w3.heap.size → Below w.heap.size w w4) := (show _ from fun w3 b3 => by
    have b13 := b2.trans (b3.mono (by omega))
    refine ⟨b13.row rz (by omega), fun w4 b4 z4 => ?_⟩
    have b03 := b1.trans (b13.mono (by omega))
    exact b03.trans ((b4.mono b03.size).below (by omega)))
  obtain ⟨ka, kcap, rfl, _⟩ := h1.slice
  obtain ⟨va, vcap, rfl, _⟩ := h2.slice
  clear X h1 h2 hp b1 b2 b02 z1 z2 rz hb0 hx
  unfold sumV
  go_enter Tryd.func52, Tryd.ntmps52
  go_upto_region 1 with fail
  rw [← hw1]
  clear hw1
  go_wp2_with fail
  rw [← hw2]
  clear hw2 c0 c1
  refine X'.mono ?_
  rintro e w3 ⟨rfl, f3⟩
  obtain ⟨r3, K3⟩ := HX.out w3 f3
  have HK3 : Hid _ := K3
  clear X' HX f3 K3
  go_wp2_with (refine wpList_store_row rfl 32 _ _ rfl rfl (w.heap.size + 1) 0 32 (arrV (leafS x)) rfl rfl hi32' (fun _ _ => rfl) _ _ _ r3 (by omega) ?_; intro w4 r4 hz4 hb4)
  exact bodyPost_ret (results_cell_seg rfl _ _ (w.heap.size + 1) 32 32 (arrV (leafS x)) _ rfl Tryd.underlying32 rfl hi32' (r4.congr fun i hi => by rw [if_pos (by omega), Nat.sub_zero])) rfl ⟨rfl, HK3.out w4 hb4 hz4⟩
set_option maxHeartbeats 4000000 in
set_option maxRecDepth 100000 in
theorem rwhole_any (count : Int) (s : List Int) (w : World) (h0 : 0 ≤ count) (h63 : count ≤ 9223372036854775807) (hs : isSum s) :
    Calls Tryd.prog 41 #[.int .i64 count, .agg (rowV 32 (arrV s))] w fun e w' => e = .returned (sumV (krootS count s)) ∧ Below w.heap.size w w' := by
  have hz32 := zero_s32
  obtain ⟨w1, hw1⟩ : ∃ w1, w1 = (w.alloc (.cells (rowV 32 (arrV s)) 32)).alloc (.cells (rowV 32 (fun _ => .int .u8 0)) 32) := ⟨_, rfl⟩
  have b1 : Below w.heap.size w w1 := by rw [hw1]; exact ((Below.refl _ _).alloc (Nat.le_refl _) _).alloc (by simp) _
  have z1 : w1.heap.size = w.heap.size + 2 := by rw [hw1]; simp
  have rs : w1.rowIs w.heap.size 32 32 (arrV s) := by
    have r := rowIs_box w 32 32 (arrV s)
    rw [hw1]; exact ((Below.refl (w.alloc (.cells (rowV 32 (arrV s)) 32)).heap.size _).alloc (Nat.le_refl _) _).row r (by simp)
  have rz : w1.rowIs (w.heap.size + 1) 32 32 (fun _ => .int .u8 0) := by
    have r := rowIs_box (w.alloc (.cells (rowV 32 (arrV s)) 32)) 32 32 (fun _ => .int .u8 0)
    rw [World.size_alloc] at r; rw [hw1]; exact r
  have hwu : IntKind.wrap .u64 count = count := wrapU63 count h0 h63
  have FACT : Hid (∀ wz, Below w1.heap.size w1 wz → Below w.heap.size w wz ∧ wz.rowIs w.heap.size 32 32 (arrV s) ∧ wz.rowIs (w.heap.size + 1) 32 32 (fun _ => .int .u8 0)) := (show _ from fun wz hz => by
    have hz' : Below w.heap.size w wz := b1.trans (hz.mono (by omega))
    exact ⟨hz', hz.row rs (by omega), hz.row rz (by omega)⟩)
  have Z1 : Hid (w1.heap.size = w.heap.size + 2) := (show w1.heap.size = w.heap.size + 2 from z1)
  clear b1 z1 rs rz
  unfold sumV
  go_enter Tryd.func41, Tryd.ntmps41
  go_upto_region 1 with fail
  rw [← hw1]
  clear hw1
  refine wp_region_noPanic ?_
  refine wp_region_held_drew (S := fun w' => True) (by kernel_rfl) trivial (fun hHeld => ?_)
  refine take_op (i := 0) (v := ?va0) rfl (by kernel_rfl) (by kernel_rfl) (by kernel_rfl) (fun _ _ _ h => h) rfl hHeld ?ya0 ?ra0
  case ya0 => (intro wz hz; go_simp; first | done | with_reducible rfl)
  try simp only [Act.put, List.setIfInBounds_toArray, List.set_cons_zero, List.set_cons_succ]
  refine take_op (i := 1) (v := ?va1) rfl (by kernel_rfl) (by kernel_rfl) (by kernel_rfl) (fun _ _ _ h => h) rfl hHeld ?ya1 ?ra1
  case ya1 => (intro wz hz; go_simp; first | done | with_reducible rfl)
  try simp only [Act.put, List.setIfInBounds_toArray, List.set_cons_zero, List.set_cons_succ]
  refine take_op (i := 3) (v := ?va3) rfl (by kernel_rfl) (by kernel_rfl) (by kernel_rfl) (fun _ _ _ h => h) rfl hHeld ?ya3 ?ra3
  case ya3 => (intro wz hz; go_simp; first | done | with_reducible rfl)
  try simp only [Act.put, List.setIfInBounds_toArray, List.set_cons_zero, List.set_cons_succ]
  refine take_one (i := 2) rfl (by kernel_rfl) rfl (fun K hK => ?_)
  have XN := rnumber_any count h0 (by omega) w1.drew
  go_simp
  refine Calls.mono XN ?_
  rintro e w3 ⟨nv, rfl, n3, b3⟩
  have b13 : Below w1.heap.size w1 w3 := ((Below.refl w1.heap.size w1).drew).trans (b3.mono (Below.refl w1.heap.size w1).drew.size)
  have hn3 := n3.is
  obtain ⟨na, nc, rfl, _⟩ := hn3.slice
  refine hK.out _ _ trivial (fun hHeld => ?_)
  clear hK K XN b3 n3
  try simp only [Act.put, List.setIfInBounds_toArray, List.set_cons_zero, List.set_cons_succ]
  refine take_one (i := 4) rfl (by kernel_rfl) rfl (fun K hK => ?_)
  refine wp_of_run (exec_bslice2' 130 2 0 1 (.tmp 7) (.tmp 8) (.slice na (numB count).length nc) (.slice (some ⟨w.heap.size, 0, none⟩) 32 32) rfl rfl rfl (build_parts2 _ _ _ _ _ _ w3)) ?_
  obtain ⟨w4, hw4⟩ : ∃ w4, w4 = w3.alloc (.cells #[.slice na (numB count).length nc, .slice (some ⟨w.heap.size, 0, none⟩) 32 32] 23) := ⟨_, rfl⟩
  have b34 : Below w3.heap.size w3 w4 := by rw [hw4]; exact (Below.refl _ _).alloc (Nat.le_refl _) _
  have z4 : w4.heap.size = w3.heap.size + 1 := by rw [hw4]; simp
  have hp4 : isParts w4 (.slice (some ⟨w3.heap.size, 0, none⟩) 2 2) 2 (kroot count s) := by
    have hpp := parts_two w3 _ _ (numB count, s) (Or.inl hn3) (Or.inl (row_bytes (FACT.out w3 b13).2.1 hs))
    rw [hw4]; exact hpp
  have b14 : Below w1.heap.size w1 w4 := b13.trans (b34.mono b13.size)
  obtain ⟨b04, _, rz4⟩ := FACT.out w4 b14
  have X := rof_any 5 2 _ (kroot count s) w4 hp4.any (kroot_light count s hs)
  have X' : Calls Tryd.prog 72 #[.int .i64 5, .slice (some ⟨w3.heap.size, 0, none⟩) 2 2] w4 fun e w' => e = .returned (.agg (rowV 32 (arrV (krootS count s)))) ∧ Below w4.heap.size w4 w' := X
  have s13 := b13.size
  rw [← hw4]
  refine hK.out _ _ trivial (fun hHeld => ?_)
  clear hK K hw4 X hn3 hp4 b13 b34 b14
  try simp only [Act.put, List.setIfInBounds_toArray, List.set_cons_zero, List.set_cons_succ]
  refine take_one (i := 5) rfl (by kernel_rfl) rfl (fun K hK => ?_)
  go_simp
  refine Calls.mono X' ?_
  rintro e w5 ⟨rfl, f5⟩
  have s4 := f5.size
  have rz5 : w5.rowIs (w.heap.size + 1) 32 32 (fun _ => .int .u8 0) := f5.row rz4 (by have := Z1.out; omega)
  have b05 : Below w.heap.size w w5 := b04.trans (f5.mono b04.size)
  refine hK.out _ _ trivial (fun hHeld => ?_)
  clear hK K X' rz4
  try simp only [Act.put, List.setIfInBounds_toArray, List.set_cons_zero, List.set_cons_succ]
  obtain ⟨r6, z6, bu6⟩ := stow32T_row w5 (w.heap.size + 1) (krootS count s) rz5
  have hst := stow32T_run w5 (w.heap.size + 1) (krootS count s) rz5
  generalize w5.setCells (w.heap.size + 1) 0 (rowV 32 (arrV (krootS count s))).toList = w6 at r6 z6 bu6 hst
  have DONE : Hid (Below w.heap.size w w6) := (show _ from b05.trans ((bu6.mono b05.size).below (by omega)))
  refine take_one (i := 6) rfl (by kernel_rfl) rfl (fun K hK => ?_)
  unfold Oper.wp execOp
  simp only [Instr.storeAt, Instr.sureAddr, Sem.run_bind, Sem.run_pure, Result.andThen_ok]
  simp [Act.eval, hst, Oper.upon]
  refine hK.out _ _ trivial (fun hHeld => ?_)
  clear hK K hst bu6 z6 f5 b04 b05 rz5
  try simp only [Act.put, List.setIfInBounds_toArray, List.set_cons_zero, List.set_cons_succ]
  refine wpAnyH_done (by kernel_rfl) ?_ _
  refine NoPanic.normal ?_
  have R6 : Hid (w6.rowIs (w.heap.size + 1) 32 32 (arrV (krootS count s))) := (show w6.rowIs (w.heap.size + 1) 32 32 (arrV (krootS count s)) from r6)
  clear r6
  go_wp2
  exact bodyPost_ret (results_cell_seg rfl _ _ (w.heap.size + 1) 32 32 (arrV (krootS count s)) _ rfl Tryd.underlying32 rfl hi32' R6.out) rfl ⟨rfl, DONE.out⟩
end Go.Proofs.YtgchnobifidjcaaDoor

/- How long a path is. -/
namespace Go.Proofs.YtgchnobifidjcaaDoor
open Go.RowKit Go.Deep

theorem wayI_there {n p : Nat} (h : p < n) : wayI (n : Int) (p : Int) = wayL n p := by
  unfold wayI
  rw [if_pos (by simp [thereB]; omega), Int.toNat_natCast, Int.toNat_natCast]
end Go.Proofs.YtgchnobifidjcaaDoor

/- The document's There. -/
namespace Go.Proofs.YtgchnobifidjcaaDoor
set_option linter.unusedSimpArgs false
set_option linter.unusedVariables false
open Go.RowKit Go.Deep

theorem rthere_any (n at_ : Int) (w : World) : Calls Tryd.prog 76 #[.int .i64 n, .int .i64 at_] w fun e w' => e = .returned (.bool (thereB n at_)) ∧ w' = w := by
  by_cases h0 : 0 ≤ at_
  · have h0' : -1 < at_ := by omega
    by_cases h1 : at_ < n
    · have E : Hid (thereB n at_ = true) := (show thereB n at_ = true from by simp [thereB, h0, h1])
      go_enter Tryd.func76, Tryd.ntmps76
      go_wp2
      go_ret
      exact ⟨by rw [E.out]; rfl, rfl⟩
    · have E : Hid (thereB n at_ = false) := (show thereB n at_ = false from by simp [thereB, h1])
      go_enter Tryd.func76, Tryd.ntmps76
      go_wp2
      go_ret
      exact ⟨by rw [E.out]; rfl, rfl⟩
  · have h0' : ¬ -1 < at_ := by omega
    have E : Hid (thereB n at_ = false) := (show thereB n at_ = false from by simp [thereB, h0])
    go_enter Tryd.func76, Tryd.ntmps76
    go_wp2
    go_ret
    exact ⟨by rw [E.out]; rfl, rfl⟩
end Go.Proofs.YtgchnobifidjcaaDoor

/- The document's Path. -/
namespace Go.Proofs.YtgchnobifidjcaaDoor
set_option linter.unusedSimpArgs false
set_option linter.unusedVariables false
open Go.RowKit Go.Deep

end Go.Proofs.YtgchnobifidjcaaDoor

/- The document's Lead. -/
namespace Go.Proofs.YtgchnobifidjcaaDoor
set_option linter.unusedSimpArgs false
set_option linter.unusedVariables false
open Go.RowKit Go.Deep

def zeroA : Value := .agg (rowV 32 (fun _ => .int .u8 0))
/-- where a leaf leads, or that it is refused. -/
def leadR (n at_ : Int) (leaf : List Int) (path : List (List Int)) : Value := if okLead n at_ path = true then .tuple #[sumV (leadF (ups (wayI n at_) path) leaf), .bool true] else .tuple #[zeroA, .bool false]
theorem leadR_no {n at_ : Int} {leaf : List Int} {path : List (List Int)} (h : okLead n at_ path = false) : leadR n at_ leaf path = .tuple #[zeroA, .bool false] := by unfold leadR; rw [if_neg (by rw [h]; simp)]
theorem leadR_yes {n at_ : Int} {leaf : List Int} {path : List (List Int)} (h : okLead n at_ path = true) : leadR n at_ leaf path = .tuple #[sumV (leadF (ups (wayI n at_) path) leaf), .bool true] := by unfold leadR; rw [if_pos h]
/-- one step: the last sum of the path is the root's. -/
theorem lead_down {n p : Nat} (h : 2 ≤ n) (hp : p < n) (q : List (List Int)) (y leaf : List Int) :
    (p < halfN n → okLead (n : Int) (p : Int) (q ++ [y]) = okLead (halfN n : Int) (p : Int) q ∧ (okLead (halfN n : Int) (p : Int) q = true → leadF (ups (wayI (n : Int) (p : Int)) (q ++ [y])) leaf = nodeS [leadF (ups (wayI (halfN n : Int) (p : Int)) q) leaf, y])) ∧
    (¬ p < halfN n → okLead (n : Int) (p : Int) (q ++ [y]) = okLead ((n : Int) - (halfN n : Int)) ((p : Int) - (halfN n : Int)) q ∧ (okLead ((n : Int) - (halfN n : Int)) ((p : Int) - (halfN n : Int)) q = true → leadF (ups (wayI (n : Int) (p : Int)) (q ++ [y])) leaf = nodeS [y, leadF (ups (wayI ((n : Int) - (halfN n : Int)) ((p : Int) - (halfN n : Int))) q) leaf])) := by
  have hh := halfN_is h
  have key : ∀ m r : Nat, r < m → okLead (m : Int) (r : Int) q = decide (q.length = (wayL m r).length) := fun m r hr => by
    unfold okLead; rw [wayI_there hr]; simp [thereB]; omega
  have key2 : okLead (n : Int) (p : Int) (q ++ [y]) = decide (q.length + 1 = (wayL n p).length) := by
    unfold okLead; rw [wayI_there hp]; simp [thereB]; omega
  constructor
  · intro hl
    have e1 := key (halfN n) p hl
    have e3 := wayL_len2 (p := p) h
    rw [if_pos hl] at e3
    refine ⟨?_, fun ho => ?_⟩
    · rw [key2, e1, e3]; congr 1; simp
    · rw [e1] at ho
      rw [wayI_there hp, wayI_there hl]
      exact leadS_left h hl (of_decide_eq_true ho)
  · intro hl
    have c1 : ((n : Int) - (halfN n : Int)) = ((n - halfN n : Nat) : Int) := by omega
    have c2 : ((p : Int) - (halfN n : Int)) = ((p - halfN n : Nat) : Int) := by omega
    rw [c1, c2]
    have e1 := key (n - halfN n) (p - halfN n) (by omega)
    have e3 := wayL_len2 (p := p) h
    rw [if_neg hl] at e3
    refine ⟨?_, fun ho => ?_⟩
    · rw [key2, e1, e3]; congr 1; simp
    · rw [e1] at ho
      rw [wayI_there hp, wayI_there (show p - halfN n < n - halfN n by omega)]
      exact leadS_right h hl (of_decide_eq_true ho)
set_option maxHeartbeats 4000000 in
set_option maxRecDepth 100000 in
theorem rlead_any : ∀ (k : Nat) (n at_ : Int) (leaf : List Int) (path : List (List Int)) (pv : Value) (w : World), path.length ≤ k → k ≤ 1000 → (-9223372036854775808 ≤ n ∧ n ≤ 9223372036854775807) → (-9223372036854775808 ≤ at_ ∧ at_ ≤ 9223372036854775807) → isSum leaf → sumsAt w pv path →
    Calls Tryd.prog 51 #[.int .i64 n, .int .i64 at_, sumV leaf, pv] w fun e w' => e = .returned (leadR n at_ leaf path) ∧ Below w.heap.size w w' := by
  intro k
  induction k using Nat.strongRecOn with
  | _ k ih =>
  intro n at_ leaf path pv w hk h1000 hn ha hleaf h
  have hz32 := zero_s32
  have hsl : ∃ a cap, pv = .slice a path.length cap := by
    obtain ⟨_, a, cap, e, _⟩ := h; exact ⟨a, cap, e⟩
  obtain ⟨w1, hw1⟩ : ∃ w1, w1 = (w.alloc (.cells (rowV 32 (arrV leaf)) 32)).alloc (.cells (rowV 32 (fun _ => .int .u8 0)) 32) := ⟨_, rfl⟩
  have s1 : w1.heap.size = w.heap.size + 2 := by rw [hw1]; simp
  have b1 : Below w.heap.size w w1 := by rw [hw1]; exact ((Below.refl _ _).alloc (Nat.le_refl _) _).alloc (by simp) _
  have r1 : w1.rowIs (w.heap.size + 1) 32 32 (fun _ => .int .u8 0) := by
    rw [hw1]
    have := rowIs_box (w.alloc (.cells (rowV 32 (arrV leaf)) 32)) 32 32 (fun _ => .int .u8 0)
    rwa [World.size_alloc] at this
  have l1 : w1.rowIs w.heap.size 32 32 (arrV leaf) := by
    rw [hw1]
    exact ((Below.refl (w.alloc (.cells (rowV 32 (arrV leaf)) 32)).heap.size _).alloc (Nat.le_refl _) _).row (rowIs_box w 32 32 (arrV leaf)) (by simp)
  have X := rthere_any n at_ w1
  have q1 : (path.length : Int) ≤ 1000 := by omega
  have q2 : (0 : Int) ≤ (path.length : Int) := by omega
  by_cases href : thereB n at_ = false ∨ ¬ (n = 1 ↔ path.length = 0)
  · have hno : okLead n at_ path = false := by
      rcases href with h0 | h0
      · simp [okLead, h0]
      · cases hth : thereB n at_ with
        | false => simp [okLead, hth]
        | true =>
          have hab : 0 ≤ at_ ∧ at_ < n := by simpa [thereB] using hth
          obtain ⟨m, rfl⟩ : ∃ m : Nat, n = (m : Int) := ⟨n.toNat, by omega⟩
          obtain ⟨p, rfl⟩ : ∃ p : Nat, at_ = (p : Int) := ⟨at_.toNat, by omega⟩
          have hp : p < m := by omega
          unfold okLead
          rw [wayI_there hp, hth]
          have : path.length ≠ (wayL m p).length := fun e => by
            by_cases hm : m = 1
            · subst hm
              rw [wayL_end (Nat.le_refl _)] at e
              exact h0 ⟨fun _ => by simpa using e, fun _ => rfl⟩
            · have e3 := wayL_len2 (n := m) (p := p) (by omega)
              exact h0 ⟨fun e5 => by omega, fun e5 => by omega⟩
          simp [this]
    rw [leadR_no hno]
    unfold zeroA
    obtain ⟨pa, pc, rfl⟩ := hsl
    have B1 : Hid _ := b1
    have S1 : Hid _ := s1
    unfold sumV
    cases hth : thereB n at_ with
    | false =>
      rw [hth] at X
      clear hth href ih h hno s1 b1 l1 hleaf
      go_enter Tryd.func51, Tryd.ntmps51
      go_upto_region 1 with fail
      rw [← hw1]
      clear hw1
      go_wp2_with fail
      refine X.mono ?_
      rintro e w' ⟨rfl, hw⟩
      obtain rfl := hw.symm
      clear X hw
      go_wp2_with (refine wpList_store_row rfl 32 _ _ rfl rfl (w.heap.size + 1) 0 32 (fun _ => .int .u8 0) rfl rfl hi32' (fun _ _ => rfl) _ _ _ r1 (by omega) ?_; intro w6 r6 hz6 hb6)
      exact bodyPost_ret (results_cell_seg2 rfl _ _ (w.heap.size + 1) 32 32 (fun _ => .int .u8 0) _ rfl Tryd.underlying32 rfl hi32' (r6.congr fun i hi => by rw [if_pos (by omega)])) rfl ⟨rfl, B1.out.trans (((hb6.mono (show w.heap.size ≤ _ by have := S1.out; omega)).below (by omega)))⟩
    | true =>
      rw [hth] at X
      have hne : ¬ (n = 1 ↔ path.length = 0) := by
        rcases href with h0 | h0
        · rw [hth] at h0; cases h0
        · exact h0
      by_cases e1 : n = 1
      · have e2 : ¬ (path.length : Int) = 0 := fun e => hne ⟨fun _ => by omega, fun _ => e1⟩
        have e3 : ¬ path.length = 0 := by omega
        have e5 : ((path.length : Int) == 0) = false := by rw [beq_eq_false_iff_ne]; exact e2
        subst e1
        clear hth href hne ih h hno s1 b1 l1 hleaf
        go_enter Tryd.func51, Tryd.ntmps51
        go_upto_region 1 with fail
        rw [← hw1]
        clear hw1
        go_wp2_with fail
        refine X.mono ?_
        rintro e w' ⟨rfl, hw⟩
        obtain rfl := hw.symm
        clear X hw
        go_wp2_with (refine wpList_store_row rfl 32 _ _ rfl rfl (w.heap.size + 1) 0 32 (fun _ => .int .u8 0) rfl rfl hi32' (fun _ _ => rfl) _ _ _ r1 (by omega) ?_; intro w6 r6 hz6 hb6)
        exact bodyPost_ret (results_cell_seg2 rfl _ _ (w.heap.size + 1) 32 32 (fun _ => .int .u8 0) _ rfl Tryd.underlying32 rfl hi32' (r6.congr fun i hi => by rw [if_pos (by omega)])) rfl ⟨rfl, B1.out.trans (((hb6.mono (show w.heap.size ≤ _ by have := S1.out; omega)).below (by omega)))⟩
      · have e2 : path.length = 0 := by
          by_cases e : path.length = 0
          · exact e
          · exact absurd ⟨fun h => absurd h e1, fun h => absurd h e⟩ hne
        rw [e2] at q1 q2 ⊢
        have e5 : (n == 1) = false := by rw [beq_eq_false_iff_ne]; exact e1
        clear hth href hne ih h hno s1 b1 l1 hleaf
        go_enter Tryd.func51, Tryd.ntmps51
        go_upto_region 1 with fail
        rw [← hw1]
        clear hw1
        go_wp2_with fail
        refine X.mono ?_
        rintro e w' ⟨rfl, hw⟩
        obtain rfl := hw.symm
        clear X hw
        go_wp2_with (refine wpList_store_row rfl 32 _ _ rfl rfl (w.heap.size + 1) 0 32 (fun _ => .int .u8 0) rfl rfl hi32' (fun _ _ => rfl) _ _ _ r1 (by omega) ?_; intro w6 r6 hz6 hb6)
        exact bodyPost_ret (results_cell_seg2 rfl _ _ (w.heap.size + 1) 32 32 (fun _ => .int .u8 0) _ rfl Tryd.underlying32 rfl hi32' (r6.congr fun i hi => by rw [if_pos (by omega)])) rfl ⟨rfl, B1.out.trans (((hb6.mono (show w.heap.size ≤ _ by have := S1.out; omega)).below (by omega)))⟩
  have hth : thereB n at_ = true := by
    cases e : thereB n at_ with
    | true => rfl
    | false => exact absurd (Or.inl e) href
  have hiff : n = 1 ↔ path.length = 0 := by
    by_cases e : n = 1 ↔ path.length = 0
    · exact e
    · exact absurd (Or.inr e) href
  have hab : 0 ≤ at_ ∧ at_ < n := by simpa [thereB] using hth
  rw [hth] at X
  by_cases e1 : n = 1
  · have e2 := hiff.1 e1
    have e3 := List.eq_nil_of_length_eq_zero e2
    subst e3
    subst e1
    have e4 : at_ = 0 := by omega
    subst e4
    rw [leadR_yes (by decide +kernel)]
    have B1 : Hid _ := b1
    have S1 : Hid _ := s1
    have ll : ∀ j, j < 32 → w1.cell? ⟨w.heap.size, 0 + j, none⟩ = some (arrV leaf j) := fun j hj => by rw [Nat.zero_add]; exact l1.cell hj
    have EL : Hid (leadF (ups (wayI 1 0) []) leaf = leaf) := (show leadF (ups (wayI 1 0) []) leaf = leaf from by
      have : ups (wayI 1 0) [] = [] := by unfold ups; simp
      rw [this]; rfl)
    rw [EL.out]
    unfold sumV
    obtain ⟨pa, pc, rfl⟩ := hsl
    simp only [List.length_nil] at *
    clear hth href hiff ih h s1 b1 l1 hleaf hab e2
    go_enter Tryd.func51, Tryd.ntmps51
    go_upto_region 1 with fail
    rw [← hw1]
    clear hw1
    go_wp2_with fail
    refine X.mono ?_
    rintro e w' ⟨rfl, hw⟩
    obtain rfl := hw.symm
    clear X hw
    go_wp2_with (first | (refine wpList_load_seg rfl 32 (.tmp 6) rfl w.heap.size 0 32 (arrV leaf) rfl _ Tryd.underlying32 rfl hi32' ll ?_) | (refine wpList_store_row rfl 32 _ _ rfl rfl (w.heap.size + 1) 0 32 (arrV leaf) rfl rfl hi32' (fun _ _ => rfl) _ _ _ r1 (by omega) ?_; intro w6 r6 hz6 hb6))
    exact bodyPost_ret (results_cell_seg2 rfl _ _ (w.heap.size + 1) 32 32 (arrV leaf) _ rfl Tryd.underlying32 rfl hi32' (r6.congr fun i hi => by rw [if_pos (by omega), Nat.sub_zero])) rfl ⟨rfl, B1.out.trans (((hb6.mono (show w.heap.size ≤ _ by have := S1.out; omega)).below (by omega)))⟩
  obtain ⟨q, y, rfl⟩ : ∃ q y, path = q ++ [y] := by
    rcases List.eq_nil_or_concat path with rfl | ⟨q, y, rfl⟩
    · exact absurd (hiff.2 rfl) e1
    · exact ⟨q, y, by simp⟩
  have hq : (q ++ [y]).length = q.length + 1 := by simp
  obtain ⟨nn, rfl⟩ : ∃ nn : Nat, n = (nn : Int) := ⟨n.toNat, by omega⟩
  obtain ⟨p, rfl⟩ : ∃ p : Nat, at_ = (p : Int) := ⟨at_.toNat, by omega⟩
  have hn2 : 2 ≤ nn := by omega
  have hh := halfN_is hn2
  have DN := lead_down (n := nn) (p := p) hn2 (by omega) q y leaf
  have XH := rhalf_any (nn : Int) hn.1 hn.2 w1
  have hI : halfI (nn : Int) = (halfN nn : Int) := by unfold halfI; rw [Int.toNat_natCast]
  rw [hI] at XH
  obtain ⟨hN, hNe⟩ : ∃ hN, hN = halfN nn := ⟨_, rfl⟩
  rw [← hNe] at hh DN XH
  obtain ⟨u, ra, su, ou, xu, yu, rfl⟩ := h.to' q.length (by omega)
  rw [List.take_left] at su
  have hys : isSum y := h.1 y (by simp)
  obtain ⟨pa, pc, rfl⟩ := hsl
  obtain ⟨_, a', cap', ep, _, _, hc⟩ := h
  obtain ⟨g, o, rfl, hg, hc⟩ := hc (by omega)
  injection ep with ep1 ep2 ep3
  subst ep1 ep3
  have ly : ∀ j, j < 32 → w1.cell? ⟨g, o + q.length * 32 + j, none⟩ = some (arrV y j) := fun j hj => by
    rw [b1.cell (p := ⟨g, o + q.length * 32 + j, none⟩) hg, hc q.length (by omega) j hj]
    simp
  rw [hq] at ra q1 q2 hk ⊢
  obtain ⟨w2a, hw2a⟩ : ∃ w2a, w2a = w1.alloc (.cells (rowV 32 (fun _ => .int .u8 0)) 32) := ⟨_, rfl⟩
  have r2a : w2a.rowIs w1.heap.size 32 32 (fun _ => .int .u8 0) := by rw [hw2a]; exact rowIs_box _ _ _ _
  have b2a : Below w1.heap.size w1 w2a := by rw [hw2a]; exact (Below.refl _ _).alloc (Nat.le_refl _) _
  have z2a : w2a.heap.size = w1.heap.size + 1 := by rw [hw2a]; simp
  have HW2A : Hid (w2a = w1.alloc (.cells (rowV 32 (fun _ => .int .u8 0)) 32)) := (show w2a = w1.alloc (.cells (rowV 32 (fun _ => .int .u8 0)) 32) from hw2a)
  clear hw2a
  -- behind the last sum's box
  have ST : Hid (∀ w2, w2.rowIs w1.heap.size 32 32 (arrV y) → w2.heap.size = w2a.heap.size → But w2a.heap.size w1.heap.size w2a w2 → w2.rowIs w.heap.size 32 32 (arrV leaf) ∧ sumsAt w2 (.slice xu q.length yu) q ∧
      ∀ w3, Below w2.heap.size w2 w3 → Below w.heap.size w w3 ∧ w1.heap.size < w3.heap.size ∧ w3.rowIs (w.heap.size + 1) 32 32 (fun _ => .int .u8 0) ∧ w3.rowIs w1.heap.size 32 32 (arrV y)) := (show _ from by
    intro w2 r2 z2 c2
    have b12 : Below w1.heap.size w1 w2 := b2a.trans ((c2.mono (by omega)).below (Nat.le_refl _))
    have b02 : Below w.heap.size w w2 := b1.trans (b12.mono (by omega))
    refine ⟨b12.row l1 (by omega), su.below b02 (Nat.le_refl _), fun w3 b3 => ⟨b02.trans (b3.mono b02.size), by have := b3.size; omega, b3.row (b12.row r1 (by omega)) (by omega), b3.row r2 (by omega)⟩⟩)
  have e2 : ¬ (nn : Int) = 1 := e1
  have e3 : ((nn : Int) == 1) = false := by rw [beq_eq_false_iff_ne]; exact e1
  have i0 : (0 : Int) ≤ (q.length : Int) := by omega
  have i1 : (q.length : Int) < (q.length : Int) + 1 := by omega
  have i2 : (q.length : Int) ≤ 1000 := by omega
  have i3 : ¬ (q.length : Int) + 1 = 0 := by omega
  have i4 : ((q.length : Int) + 1 == 0) = false := by rw [beq_eq_false_iff_ne]; exact i3
  have n0 : (0 : Int) ≤ (nn : Int) := by omega
  have n1 : (nn : Int) ≤ 9223372036854775807 := hn.2
  have p0 : (0 : Int) ≤ (p : Int) := by omega
  have p1 : (p : Int) < (nn : Int) := by omega
  have h0 : (0 : Int) ≤ (hN : Int) := by omega
  have h1 : (hN : Int) < (nn : Int) := by omega
  have HLF : Hid _ := hleaf
  have HYS : Hid _ := hys
  have IH := fun (n' at' : Int) (b : -9223372036854775808 ≤ n' ∧ n' ≤ 9223372036854775807) (c : -9223372036854775808 ≤ at' ∧ at' ≤ 9223372036854775807) (w2 : World) (hs : sumsAt w2 (.slice xu q.length yu) q) => ih (k - 1) (by omega) n' at' leaf q (.slice xu q.length yu) w2 (by omega) (by omega) b c hleaf hs
  have HIH : Hid _ := IH
  by_cases hl : p < hN
  · obtain ⟨d1, d2⟩ := DN.1 hl
    have hli : (p : Int) < (hN : Int) := by omega
    have D2 : Hid _ := d2
    have D1 : Hid _ := d1
    have b3a : -9223372036854775808 ≤ (hN : Int) ∧ (hN : Int) ≤ 9223372036854775807 := by omega
    have b3b : -9223372036854775808 ≤ (p : Int) ∧ (p : Int) ≤ 9223372036854775807 := by omega
    have s0 : (0 : Int) ≤ (hN : Int) := by omega
    have s1' : (0 : Int) ≤ (p : Int) := by omega
    unfold sumV
    clear hth href hiff hab ih IH DN d1 d2 hh hI hNe su ou h1000 hk hc hq hys b2a z2a r1 l1 b1 s1 hleaf hg e1 hn ha hn2
    go_enter Tryd.func51, Tryd.ntmps51
    go_upto_region 1 with fail
    rw [← hw1]
    clear hw1
    go_wp2_with fail
    refine X.mono ?_
    rintro e w' ⟨rfl, hw⟩
    obtain rfl := hw.symm
    clear X hw
    go_wp2_with fail
    refine XH.mono ?_
    rintro e w' ⟨rfl, hw⟩
    obtain rfl := hw.symm
    clear XH hw
    have HW3 := HW2A.out
    go_upto_region 8 with (first | (refine wpList_load_seg rfl 32 (.tmp 39) rfl g (o + q.length * 32) 32 (arrV y) rfl _ Tryd.underlying32 rfl hi32' ly ?_) | (rw [← HW3]; clear HW3; refine wpList_store_row rfl 32 (.tmp 11) _ rfl rfl w1.heap.size 0 32 (arrV y) rfl rfl hi32' (fun _ _ => rfl) _ _ _ r2a (by omega) ?_; intro w2 r2 hz2 hb2))
    obtain ⟨lf2, sq2, ST3⟩ := ST.out w2 (r2.congr fun i hi => by rw [if_pos (by omega), Nat.sub_zero]) hz2 hb2
    have Y := HIH.out (hN : Int) (p : Int) b3a b3b w2 sq2
    unfold sumV at Y
    have ll2 : ∀ j, j < 32 → w2.cell? ⟨w.heap.size, 0 + j, none⟩ = some (arrV leaf j) := fun j hj => by rw [Nat.zero_add]; exact lf2.cell hj
    have HST3 : Hid _ := ST3
    clear ST ST3 r2 hz2 hb2 r2a lf2 sq2 ly ra HIH b3a b3b
    go_wp2_with (refine wpList_load_seg rfl 32 (.tmp 6) rfl w.heap.size 0 32 (arrV leaf) rfl _ Tryd.underlying32 rfl hi32' ll2 ?_)
    refine Y.mono ?_
    rintro e w3 ⟨rfl, b3⟩
    clear Y ll2
    have r3 := rowIs_box w3 32 32 (fun _ => .int .u8 0)
    have ba3 : Below w3.heap.size w3 (w3.alloc (.cells (rowV 32 (fun _ => .int .u8 0)) 32)) := (Below.refl _ _).alloc (Nat.le_refl _) _
    cases hok : okLead (hN : Int) (p : Int) q with
    | false =>
      rw [leadR_no hok]
      unfold zeroA
      have EN : Hid (leadR (nn : Int) (p : Int) leaf (q ++ [y]) = .tuple #[.agg (rowV 32 (fun _ => .int .u8 0)), .bool false]) := (show _ from leadR_no (D1.out.trans hok))
      go_upto_region 10 with (refine wpList_store_row rfl 32 (.tmp 13) _ rfl rfl w3.heap.size 0 32 (fun _ => .int .u8 0) rfl rfl hi32' (fun _ _ => rfl) _ _ _ r3 (by omega) ?_; intro w4 r4 hz4 hb4)
      have b34 : Below w3.heap.size w3 w4 := ba3.trans ((hb4.mono (by simp)).below (Nat.le_refl _))
      obtain ⟨b04, l4, rr4, ry4⟩ := HST3.out w4 (b3.trans (b34.mono b3.size))
      have B04 : Hid (Below w.heap.size w w4) := (show Below w.heap.size w w4 from b04)
      have Z4 : Hid (w.heap.size ≤ w4.heap.size) := (show w.heap.size ≤ w4.heap.size from b04.size)
      clear b34 b04 ry4 r4 hz4 hb4 r3 ba3 b3 HST3 D1 D2 hok
      go_wp2_with (refine wpList_store_row rfl 32 (.tmp 8) _ rfl rfl (w.heap.size + 1) 0 32 (fun _ => .int .u8 0) rfl rfl hi32' (fun _ _ => rfl) _ _ _ rr4 (by omega) ?_; intro w6 r6 hz6 hb6)
      exact bodyPost_ret (results_cell_seg2 rfl _ _ (w.heap.size + 1) 32 32 (fun _ => .int .u8 0) _ rfl Tryd.underlying32 rfl hi32' (r6.congr fun i hi => by rw [if_pos (by omega)])) rfl ⟨by rw [EN.out]; rfl, B04.out.trans ((hb6.mono Z4.out).below (by omega))⟩
    | true =>
      rw [leadR_yes hok]
      obtain ⟨S, hS⟩ : ∃ S, S = leadF (ups (wayI (hN : Int) (p : Int)) q) leaf := ⟨_, rfl⟩
      have hSs : isSum S := by rw [hS]; exact leadF_sum _ _ HLF.out
      have EN : Hid (leadR (nn : Int) (p : Int) leaf (q ++ [y]) = .tuple #[.agg (rowV 32 (arrV (nodeS [S, y]))), .bool true]) := (show _ from by
        rw [leadR_yes (D1.out.trans hok), D2.out hok, hS]; rfl)
      rw [← hS]
      unfold sumV
      clear hS
      go_upto_region 10 with (refine wpList_store_row rfl 32 (.tmp 13) _ rfl rfl w3.heap.size 0 32 (arrV S) rfl rfl hi32' (fun _ _ => rfl) _ _ _ r3 (by omega) ?_; intro w4 r4 hz4 hb4)
      have b34 : Below w3.heap.size w3 w4 := ba3.trans ((hb4.mono (by simp)).below (Nat.le_refl _))
      obtain ⟨b04, l4, rr4, ry4⟩ := HST3.out w4 (b3.trans (b34.mono b3.size))
      have r4' : w4.rowIs w3.heap.size 32 32 (arrV S) := r4.congr fun i hi => by rw [if_pos (by omega), Nat.sub_zero]
      have ls : ∀ j, j < 32 → w4.cell? ⟨w3.heap.size, 0 + j, none⟩ = some (arrV S j) := fun j hj => by rw [Nat.zero_add]; exact r4'.cell hj
      have lyy : ∀ j, j < 32 → w4.cell? ⟨w1.heap.size, 0 + j, none⟩ = some (arrV y j) := fun j hj => by rw [Nat.zero_add]; exact ry4.cell hj
      have XN := rnode_any S y w4 hSs HYS.out
      unfold sumV at XN
      have B04 : Hid (Below w.heap.size w w4) := (show Below w.heap.size w w4 from b04)
      have hr4 := rr4.lt
      clear b34 b04 ry4 r4 r4' hz4 hb4 r3 ba3 b3 HST3 D1 D2 hok
      go_wp2_with (first | (refine wpList_load_seg rfl 32 (.tmp 13) rfl w3.heap.size 0 32 (arrV S) rfl _ Tryd.underlying32 rfl hi32' ls ?_) | (refine wpList_load_seg rfl 32 (.tmp 11) rfl w1.heap.size 0 32 (arrV y) rfl _ Tryd.underlying32 rfl hi32' lyy ?_))
      refine XN.mono ?_
      rintro e w5 ⟨rfl, b5⟩
      have rr5 := b5.row rr4 hr4
      have B05 : Hid (Below w.heap.size w w5) := (show Below w.heap.size w w5 from (show Below w.heap.size w w4 from B04.out).trans (b5.mono (show w.heap.size ≤ w4.heap.size from Below.size B04.out)))
      clear XN b5 rr4 ls lyy
      go_wp2_with (refine wpList_store_row rfl 32 (.tmp 8) _ rfl rfl (w.heap.size + 1) 0 32 (arrV (nodeS [S, y])) rfl rfl hi32' (fun _ _ => rfl) _ _ _ rr5 (by omega) ?_; intro w6 r6 hz6 hb6)
      exact bodyPost_ret (results_cell_seg2 rfl _ _ (w.heap.size + 1) 32 32 (arrV (nodeS [S, y])) _ rfl Tryd.underlying32 rfl hi32' (r6.congr fun i hi => by rw [if_pos (by omega), Nat.sub_zero])) rfl ⟨by rw [EN.out]; rfl, (show Below w.heap.size w w5 from B05.out).trans ((hb6.mono (show w.heap.size ≤ w5.heap.size from Below.size B05.out)).below (by omega))⟩
  · obtain ⟨d1, d2⟩ := DN.2 hl
    have hli : ¬ (p : Int) < (hN : Int) := by omega
    have D2 : Hid _ := d2
    have D1 : Hid _ := d1
    have b3a : -9223372036854775808 ≤ ((nn : Int) - (hN : Int)) ∧ ((nn : Int) - (hN : Int)) ≤ 9223372036854775807 := by omega
    have b3b : -9223372036854775808 ≤ ((p : Int) - (hN : Int)) ∧ ((p : Int) - (hN : Int)) ≤ 9223372036854775807 := by omega
    have s0 : (0 : Int) ≤ ((nn : Int) - (hN : Int)) := by omega
    have s1' : (0 : Int) ≤ ((p : Int) - (hN : Int)) := by omega
    unfold sumV
    clear hth href hiff hab ih IH DN d1 d2 hh hI hNe su ou h1000 hk hc hq hys b2a z2a r1 l1 b1 s1 hleaf hg e1 hn ha hn2
    go_enter Tryd.func51, Tryd.ntmps51
    go_upto_region 1 with fail
    rw [← hw1]
    clear hw1
    go_wp2_with fail
    refine X.mono ?_
    rintro e w' ⟨rfl, hw⟩
    obtain rfl := hw.symm
    clear X hw
    go_wp2_with fail
    refine XH.mono ?_
    rintro e w' ⟨rfl, hw⟩
    obtain rfl := hw.symm
    clear XH hw
    have HW3 := HW2A.out
    go_upto_region 8 with (first | (refine wpList_load_seg rfl 32 (.tmp 39) rfl g (o + q.length * 32) 32 (arrV y) rfl _ Tryd.underlying32 rfl hi32' ly ?_) | (rw [← HW3]; clear HW3; refine wpList_store_row rfl 32 (.tmp 11) _ rfl rfl w1.heap.size 0 32 (arrV y) rfl rfl hi32' (fun _ _ => rfl) _ _ _ r2a (by omega) ?_; intro w2 r2 hz2 hb2))
    obtain ⟨lf2, sq2, ST3⟩ := ST.out w2 (r2.congr fun i hi => by rw [if_pos (by omega), Nat.sub_zero]) hz2 hb2
    have Y := HIH.out ((nn : Int) - (hN : Int)) ((p : Int) - (hN : Int)) b3a b3b w2 sq2
    unfold sumV at Y
    have ll2 : ∀ j, j < 32 → w2.cell? ⟨w.heap.size, 0 + j, none⟩ = some (arrV leaf j) := fun j hj => by rw [Nat.zero_add]; exact lf2.cell hj
    have HST3 : Hid _ := ST3
    clear ST ST3 r2 hz2 hb2 r2a lf2 sq2 ly ra HIH b3a b3b
    go_wp2_with (refine wpList_load_seg rfl 32 (.tmp 6) rfl w.heap.size 0 32 (arrV leaf) rfl _ Tryd.underlying32 rfl hi32' ll2 ?_)
    refine Y.mono ?_
    rintro e w3 ⟨rfl, b3⟩
    clear Y ll2
    have r3 := rowIs_box w3 32 32 (fun _ => .int .u8 0)
    have ba3 : Below w3.heap.size w3 (w3.alloc (.cells (rowV 32 (fun _ => .int .u8 0)) 32)) := (Below.refl _ _).alloc (Nat.le_refl _) _
    cases hok : okLead ((nn : Int) - (hN : Int)) ((p : Int) - (hN : Int)) q with
    | false =>
      rw [leadR_no hok]
      unfold zeroA
      have EN : Hid (leadR (nn : Int) (p : Int) leaf (q ++ [y]) = .tuple #[.agg (rowV 32 (fun _ => .int .u8 0)), .bool false]) := (show _ from leadR_no (D1.out.trans hok))
      go_upto_region 14 with (refine wpList_store_row rfl 32 (.tmp 15) _ rfl rfl w3.heap.size 0 32 (fun _ => .int .u8 0) rfl rfl hi32' (fun _ _ => rfl) _ _ _ r3 (by omega) ?_; intro w4 r4 hz4 hb4)
      have b34 : Below w3.heap.size w3 w4 := ba3.trans ((hb4.mono (by simp)).below (Nat.le_refl _))
      obtain ⟨b04, l4, rr4, ry4⟩ := HST3.out w4 (b3.trans (b34.mono b3.size))
      have B04 : Hid (Below w.heap.size w w4) := (show Below w.heap.size w w4 from b04)
      have Z4 : Hid (w.heap.size ≤ w4.heap.size) := (show w.heap.size ≤ w4.heap.size from b04.size)
      clear b34 b04 ry4 r4 hz4 hb4 r3 ba3 b3 HST3 D1 D2 hok
      go_wp2_with (refine wpList_store_row rfl 32 (.tmp 8) _ rfl rfl (w.heap.size + 1) 0 32 (fun _ => .int .u8 0) rfl rfl hi32' (fun _ _ => rfl) _ _ _ rr4 (by omega) ?_; intro w6 r6 hz6 hb6)
      exact bodyPost_ret (results_cell_seg2 rfl _ _ (w.heap.size + 1) 32 32 (fun _ => .int .u8 0) _ rfl Tryd.underlying32 rfl hi32' (r6.congr fun i hi => by rw [if_pos (by omega)])) rfl ⟨by rw [EN.out]; rfl, B04.out.trans ((hb6.mono Z4.out).below (by omega))⟩
    | true =>
      rw [leadR_yes hok]
      obtain ⟨S, hS⟩ : ∃ S, S = leadF (ups (wayI ((nn : Int) - (hN : Int)) ((p : Int) - (hN : Int))) q) leaf := ⟨_, rfl⟩
      have hSs : isSum S := by rw [hS]; exact leadF_sum _ _ HLF.out
      have EN : Hid (leadR (nn : Int) (p : Int) leaf (q ++ [y]) = .tuple #[.agg (rowV 32 (arrV (nodeS [y, S]))), .bool true]) := (show _ from by
        rw [leadR_yes (D1.out.trans hok), D2.out hok, hS]; rfl)
      rw [← hS]
      unfold sumV
      clear hS
      go_upto_region 14 with (refine wpList_store_row rfl 32 (.tmp 15) _ rfl rfl w3.heap.size 0 32 (arrV S) rfl rfl hi32' (fun _ _ => rfl) _ _ _ r3 (by omega) ?_; intro w4 r4 hz4 hb4)
      have b34 : Below w3.heap.size w3 w4 := ba3.trans ((hb4.mono (by simp)).below (Nat.le_refl _))
      obtain ⟨b04, l4, rr4, ry4⟩ := HST3.out w4 (b3.trans (b34.mono b3.size))
      have r4' : w4.rowIs w3.heap.size 32 32 (arrV S) := r4.congr fun i hi => by rw [if_pos (by omega), Nat.sub_zero]
      have ls : ∀ j, j < 32 → w4.cell? ⟨w3.heap.size, 0 + j, none⟩ = some (arrV S j) := fun j hj => by rw [Nat.zero_add]; exact r4'.cell hj
      have lyy : ∀ j, j < 32 → w4.cell? ⟨w1.heap.size, 0 + j, none⟩ = some (arrV y j) := fun j hj => by rw [Nat.zero_add]; exact ry4.cell hj
      have XN := rnode_any y S w4 HYS.out hSs
      unfold sumV at XN
      have B04 : Hid (Below w.heap.size w w4) := (show Below w.heap.size w w4 from b04)
      have hr4 := rr4.lt
      clear b34 b04 ry4 r4 r4' hz4 hb4 r3 ba3 b3 HST3 D1 D2 hok
      go_wp2_with (first | (refine wpList_load_seg rfl 32 (.tmp 15) rfl w3.heap.size 0 32 (arrV S) rfl _ Tryd.underlying32 rfl hi32' ls ?_) | (refine wpList_load_seg rfl 32 (.tmp 11) rfl w1.heap.size 0 32 (arrV y) rfl _ Tryd.underlying32 rfl hi32' lyy ?_))
      refine XN.mono ?_
      rintro e w5 ⟨rfl, b5⟩
      have rr5 := b5.row rr4 hr4
      have B05 : Hid (Below w.heap.size w w5) := (show Below w.heap.size w w5 from (show Below w.heap.size w w4 from B04.out).trans (b5.mono (show w.heap.size ≤ w4.heap.size from Below.size B04.out)))
      clear XN b5 rr4 ls lyy
      go_wp2_with (refine wpList_store_row rfl 32 (.tmp 8) _ rfl rfl (w.heap.size + 1) 0 32 (arrV (nodeS [y, S])) rfl rfl hi32' (fun _ _ => rfl) _ _ _ rr5 (by omega) ?_; intro w6 r6 hz6 hb6)
      exact bodyPost_ret (results_cell_seg2 rfl _ _ (w.heap.size + 1) 32 32 (arrV (nodeS [y, S])) _ rfl Tryd.underlying32 rfl hi32' (r6.congr fun i hi => by rw [if_pos (by omega), Nat.sub_zero])) rfl ⟨by rw [EN.out]; rfl, (show Below w.heap.size w w5 from B05.out).trans ((hb6.mono (show w.heap.size ≤ w5.heap.size from Below.size B05.out)).below (by omega))⟩
end Go.Proofs.YtgchnobifidjcaaDoor

/- A region that draws its order, in two stages: until its first store (operation s) S holds; every read waits for none of the stores, every store waits for all reads. -/
namespace Go.Proofs.YtgchnobifidjcaaDoor
open Go.RowKit Go.Deep

section
variable {P : Program} {md : Region.Mode} {ops : Array Oper} {Q : Exit → Act → World → Prop} {J : Nat → World → Prop}
/-- whatever order is picked from here on; S holds behind every operation ahead of s. -/
def wpAnyT (P : Program) (md : Region.Mode) (ops : Array Oper) (Q : Exit → Act → World → Prop) (J : Nat → World → Prop) : Nat → Array Bool → Act → World → Prop
  | 0, listed, a, w => Region.ready md ops listed = [] ∧ Q .normal a w
  | fuel + 1, listed, a, w =>
    (Region.ready md ops listed = [] → Q .normal a w) ∧
    ∀ i ∈ Region.ready md ops listed, wpOp P ops Q i (fun a' w' => (∀ s, (listed.setIfInBounds i true).getD s true = false → J s w') ∧ wpAnyT P md ops Q J fuel (listed.setIfInBounds i true) a' w') a w
theorem wpAny_of_T : ∀ (fuel : Nat) (listed : Array Bool) (a : Act) (w : World), wpAnyT P md ops Q J fuel listed a w → wpAny P md ops Q fuel listed a w
  | 0, _, _, _, h => h
  | fuel + 1, _, _, _, h => ⟨h.1, fun i hi => wpOp_mono (fun a' w' h' => wpAny_of_T fuel _ a' w' h'.2) (h.2 i hi)⟩
theorem wpAnyT_first {i : Nat} {oi : Oper} {v : Value} (σ : List Nat) (hi : ops[i]? = some oi) (hsel : ∀ (j : Nat) (o : Oper) cs b, ops[j]? = some o → o.op ≠ .select cs b)
    (hQ : ∀ c a w, Q (.panic c) (a.put oi.dst v) w → Q (.panic c) a w) (hJi : ∀ w, J i w) (hwait : ∀ s ∈ σ, s ≠ i ∧ ∃ os, ops[s]? = some os ∧ ∃ e ∈ os.after, Region.binds md e = true ∧ e.on = i) :
    ∀ (fuel : Nat) (listed : Array Bool) (a : Act) (w : World),
      (∀ j oj, ops[j]? = some oj → j ≠ i → listed.getD j true = false → (∀ e ∈ oj.after, Region.binds md e = true → e.on ≠ i) → oi.apart ops oj = true) →
      i ∈ Region.ready md ops listed → YieldsIf P ops (fun w => ∀ s ∈ σ, J s w) oi v a → (∀ s, listed.getD s true = false → J s w) → (∀ s ∈ σ, listed.getD s true = false) →
      wpAnyT P md ops Q J fuel (listed.setIfInBounds i true) (a.put oi.dst v) w → wpAnyT P md ops Q J (fuel + 1) listed a w := by
  intro fuel
  induction fuel with
  | zero =>
    intro listed a w _ hr hy hS hs H
    refine ⟨fun h => (by rw [h] at hr; cases hr), fun j hj => ?_⟩
    by_cases hji : j = i
    · subst hji
      refine hy.wpOp hi (fun s h => hS s (hs s h)) ⟨fun s h => ?_, H⟩
      by_cases e : j = s
      · rw [← e]; exact hJi w
      · exact hS s (by rw [getD_set_ne true e] at h; exact h)
    · have := ready_mono hj hji
      rw [H.1] at this
      cases this
  | succ fuel ih =>
    intro listed a w hfree hr hy hS hs H
    refine ⟨fun h => (by rw [h] at hr; cases hr), fun j hj => ?_⟩
    by_cases hji : j = i
    · subst hji
      refine hy.wpOp hi (fun s h => hS s (hs s h)) ⟨fun s h => ?_, H⟩
      by_cases e : j = s
      · rw [← e]; exact hJi w
      · exact hS s (by rw [getD_set_ne true e] at h; exact h)
    · have h1 := H.2 j (ready_mono hj hji)
      obtain ⟨hjun, oj, hoj, hall⟩ := mem_ready.1 hj
      have hiun : listed.getD i true = false := (mem_ready.1 hr).1
      have hni : ∀ b, listed.getD i b = false := fun b => by
        rcases Nat.lt_or_ge i listed.size with h' | h'
        · simp [h'] at hiun ⊢; exact hiun
        · simp [Array.getElem?_eq_none h'] at hiun
      have hsj : ∀ s ∈ σ, s ≠ j := fun s hsσ e => by
        obtain ⟨_, os, hos, e2, he2, hb, hon⟩ := hwait s hsσ
        rw [e] at hos
        rw [hoj] at hos
        have := hall e2 (by rw [Option.some.inj hos]; exact he2) hb
        rw [hon, hni] at this
        cases this
      have hnot : ∀ e ∈ oj.after, Region.binds md e = true → e.on ≠ i := fun e he hb heq => by
        have h1 := hall e he hb
        rw [heq, hni] at h1
        cases h1
      have h2 := wpOp_putIf hoj (hfree j oj hoj hji hjun hnot) (fun cs b => hsel i oi cs b hi) (fun cs b => hsel j oj cs b hoj) hQ hy h1
      have hfree' : ∀ k ok, ops[k]? = some ok → k ≠ i → (listed.setIfInBounds j true).getD k true = false →
          (∀ e ∈ ok.after, Region.binds md e = true → e.on ≠ i) → oi.apart ops ok = true := fun k ok hk hki hun hno => by
        refine hfree k ok hk hki ?_ hno
        by_cases hjk : j = k
        · subst hjk; exact hjun
        · rw [getD_set_ne true hjk] at hun; exact hun
      have hsl : ∀ s ∈ σ, (listed.setIfInBounds j true).getD s true = false := fun s h => by rw [getD_set_ne true (Ne.symm (hsj s h))]; exact hs s h
      refine wpOp_mono (fun a' w' h3 => ?_) h2
      have hJ' : ∀ s, (listed.setIfInBounds j true).getD s true = false → J s w' := fun s h => by
        by_cases e : i = s
        · rw [← e]; exact hJi w'
        · exact h3.2.1 s (by
            by_cases e2 : j = s
            · subst e2
              rcases Nat.lt_or_ge j listed.size with h' | h'
              · simp [h'] at h
              · simp [Array.getElem?_eq_none h'] at hjun
            · rw [getD_set_ne true e2, getD_set_ne true e]
              rw [getD_set_ne true e2] at h; exact h)
      refine ⟨hJ', ih (listed.setIfInBounds j true) a' w' hfree' (ready_mono hr (Ne.symm hji)) h3.1 hJ' hsl ?_⟩
      rw [Array.setIfInBounds_comm _ _ hji]
      exact h3.2.2
/-- does s wait for i? -/
def waits (md : Region.Mode) (ops : Array Oper) (s i : Nat) : Bool := s != i && match ops[s]? with
  | some os => os.after.any fun e => Region.binds md e && e.on == i
  | none => false
theorem waits_is {s i : Nat} (h : waits md ops s i = true) : s ≠ i ∧ ∃ os, ops[s]? = some os ∧ ∃ e ∈ os.after, Region.binds md e = true ∧ e.on = i := by
  unfold waits at h
  rw [Bool.and_eq_true] at h
  refine ⟨by simpa using h.1, ?_⟩
  have h2 := h.2
  split at h2
  · rename_i os hos
    rw [← Array.any_toList, List.any_eq_true] at h2
    obtain ⟨e, he', hb⟩ := h2
    have he : e ∈ os.after := Array.mem_toList_iff.1 he'
    rw [Bool.and_eq_true] at hb
    exact ⟨os, hos, e, he, hb.1, by simpa using hb.2⟩
  · cases h2
theorem wp_region_T {id : Nat} {a : Act} {w : World} (J : Nat → World → Prop) (hm : P.follows .mixedOrders = true)
    (h : wpAnyT P .any ops Q J ops.size (Array.replicate ops.size false) a w.drew) : (Code.region id ops true).wp P Q a w := by
  exact wp_region_any hm (wpAny_of_T _ _ _ _ h)
end
section
variable {P : Program} {md : Region.Mode} {l : List Oper} {Q : Exit → Act → World → Prop} {J : Nat → World → Prop}
/-- all that J asks, of the stores that are still to come. -/
def heldJ (J : Nat → World → Prop) (listed : Array Bool) (w : World) : Prop := ∀ s, listed.getD s true = false → J s w
theorem take_opT {i : Nat} {oi : Oper} {v : Value} {fuel : Nat} {listed : Array Bool} {a : Act} {w : World} (s : Nat) (hi : l[i]? = some oi)
    (hs : Region.noSelect l.toArray = true) (hf : Region.free md l.toArray listed i = true) (hr : (Region.ready md l.toArray listed).contains i = true) (hwt : waits md l.toArray s i = true) (hsl : listed.getD s true = false) (hJi : ∀ w, J i w)
    (hQ : ∀ c a w, Q (.panic c) (a.put oi.dst v) w → Q (.panic c) a w) (hw : Region.wanted oi (yielded l.toArray a.tmps) = true) (hS : ∀ s, J s w) (hy : ∀ w, J s w → (execOp a.eval oi).run P w = .ok (.value v) w)
    (h : wpAnyT P md l.toArray Q J fuel (listed.setIfInBounds i true) (a.put oi.dst v) w) : wpAnyT P md l.toArray Q J (fuel + 1) listed a w :=
  wpAnyT_first [s] ((list_toArray_get l i).trans hi) (Region.noSelect_spec hs) hQ hJi (fun s' h => by rw [List.mem_singleton.1 h]; exact waits_is hwt) fuel listed a w (Region.free_spec ((list_toArray_get l i).trans hi) hf) (by simpa using hr) (Or.inl ⟨hw, fun w hw => hy w (hw s (List.mem_singleton.2 rfl))⟩) (fun s _ => hS s) (fun s' h => by rw [List.mem_singleton.1 h]; exact hsl) h
theorem take_loadT {i : Nat} {oi : Oper} {fuel : Nat} {listed : Array Bool} {a : Act} {w : World} (s : Nat) (hi : l[i]? = some oi)
    (hs : Region.noSelect l.toArray = true) (hf : Region.free md l.toArray listed i = true) (hr : (Region.ready md l.toArray listed).contains i = true) (hwt : waits md l.toArray s i = true) (hsl : listed.getD s true = false) (hJi : ∀ w, J i w)
    (ty : TypeId) (x : Operand) (ho : oi.op = .load ty x) (b o m : Nat) (g : Nat → Value) (hx : a.eval x = .pointer (some ⟨b, o, none⟩)) (d : TypeDesc) (hu : P.underlying ty = some d) (hd : d.isRow = true) (hn : (P.info? ty).map (·.size) = some m)
    (hQ : ∀ c a w, Q (.panic c) (a.put oi.dst (.agg (rowV m g))) w → Q (.panic c) a w) (hw : Region.wanted oi (yielded l.toArray a.tmps) = true) (hS : ∀ s, J s w)
    (hrow : ∀ w, J s w → ∀ i, i < m → w.cell? ⟨b, o + i, none⟩ = some (g i))
    (h : wpAnyT P md l.toArray Q J fuel (listed.setIfInBounds i true) (a.put oi.dst (.agg (rowV m g))) w) : wpAnyT P md l.toArray Q J (fuel + 1) listed a w := by
  refine wpAnyT_first [s] ((list_toArray_get l i).trans hi) (Region.noSelect_spec hs) hQ hJi (fun s' h => by rw [List.mem_singleton.1 h]; exact waits_is hwt) fuel listed a w (Region.free_spec ((list_toArray_get l i).trans hi) hf) (by simpa using hr) ?_ (fun s _ => hS s) (fun s' h => by rw [List.mem_singleton.1 h]; exact hsl) h
  have e : (rowV m g) = (rowV m g).toList.toArray := by rw [Array.toArray_toList]
  rw [e]
  exact yieldsIf_load_mid hw ty x ho b o hx (rowV m g).toList d (fun w hw => range_of_cells (hrow w (hw s (List.mem_singleton.2 rfl)))) hu hd (by rw [hn, Array.length_toList, rowV_size])
/-- an operation that may come up now: by its walk. -/
theorem wpOp_T {i : Nat} {oi : Oper} {fuel : Nat} {listed : Array Bool} {a : Act} {w : World} (hi : l[i]? = some oi) (hw : Region.wanted oi (yielded l.toArray a.tmps) = true)
    (h : ∀ K' : Act → World → Prop, Shut (∀ a w, heldJ J (listed.setIfInBounds i true) w → wpAnyT P md l.toArray Q J fuel (listed.setIfInBounds i true) a w → K' a w) → Oper.wp P oi a w K' Q) :
    wpOp P l.toArray Q i (fun a' w' => (∀ s, (listed.setIfInBounds i true).getD s true = false → J s w') ∧ wpAnyT P md l.toArray Q J fuel (listed.setIfInBounds i true) a' w') a w := by
  unfold wpOp
  rw [(list_toArray_get l i).trans hi]
  simp only
  rw [if_pos hw]
  exact Or.inl (h _ (fun a' w' hS hk => ⟨hS, hk⟩))
/-- the one operation that is left to come up. -/
theorem take_oneT {i : Nat} {oi : Oper} {fuel : Nat} {listed : Array Bool} {a : Act} {w : World} (hi : l[i]? = some oi) (hr : Region.ready md l.toArray listed = [i]) (hw : Region.wanted oi (yielded l.toArray a.tmps) = true)
    (h : ∀ K' : Act → World → Prop, Shut (∀ a w, heldJ J (listed.setIfInBounds i true) w → wpAnyT P md l.toArray Q J fuel (listed.setIfInBounds i true) a w → K' a w) → Oper.wp P oi a w K' Q) : wpAnyT P md l.toArray Q J (fuel + 1) listed a w := by
  refine ⟨fun h => (by rw [hr] at h; cases h), fun j hj => ?_⟩
  rw [hr] at hj
  obtain rfl := List.mem_singleton.1 hj
  exact wpOp_T hi hw h
theorem doneT {listed : Array Bool} {a : Act} {w : World} (hr : Region.ready md l.toArray listed = []) (h : Q .normal a w) : ∀ fuel, wpAnyT P md l.toArray Q J fuel listed a w
  | 0 => ⟨hr, h⟩
  | _ + 1 => ⟨fun _ => h, by rw [hr]; simp⟩
/-- two conditions: A until operation sa, B until operation sb. -/
def JJ (sa : Nat) (A : World → Prop) (sb : Nat) (B : World → Prop) (s : Nat) (w : World) : Prop := (s = sa → A w) ∧ (s = sb → B w)
theorem heldJ_all {sa sb : Nat} {A B : World → Prop} {listed : Array Bool} {w : World} (hA : A w) (hB : B w) : heldJ (JJ sa A sb B) listed w := fun _ _ => ⟨fun _ => hA, fun _ => hB⟩
theorem heldJ_none {sa sb : Nat} {A B : World → Prop} {listed : Array Bool} {w : World} (hs : listed.getD sa true = true) (hs2 : listed.getD sb true = true) : heldJ (JJ sa A sb B) listed w := fun s h => ⟨fun e => (by rw [e, hs] at h; cases h), fun e => (by rw [e, hs2] at h; cases h)⟩
theorem JJ_all {sa sb : Nat} {A B : World → Prop} {w : World} (hA : A w) (hB : B w) : ∀ s, JJ sa A sb B s w := fun _ => ⟨fun _ => hA, fun _ => hB⟩
theorem JJ_free {sa sb i : Nat} {A B : World → Prop} (h1 : (i != sa) = true) (h2 : (i != sb) = true) : ∀ w, JJ sa A sb B i w := fun _ => ⟨fun e => (by rw [e] at h1; simp at h1), fun e => (by rw [e] at h2; simp at h2)⟩
end
end Go.Proofs.YtgchnobifidjcaaDoor

/- keyed.Show, without a book. -/
namespace Go.Proofs.YtgchnobifidjcaaDoor
set_option linter.unusedSimpArgs false
set_option linter.unusedVariables false
open Go.RowKit Go.Deep

theorem newBytes.notrow {w : World} {B b n : Nat} {v : Value} {l : List Int} {t : TypeId} {f : Nat → Value} (h : newBytes w B v l) (hr : w.rowIs b t n f) (ht : t ≠ 5) : ∀ k, v.ownBlock = some k → k ≠ b := by
  obtain ⟨⟨_, h | ⟨g, cap, cur, rfl, hB, hbk, _⟩⟩, _⟩ := h
  · intro k hk; rw [h.1] at hk; cases hk
  · intro k hk e
    have : g = k := by simpa [Value.ownBlock] using hk
    subst this; subst e
    rw [rowIs_block hr] at hbk
    injection hbk with e1
    injection e1 with _ e2
    exact ht e2
theorem exec_build3' {P : Program} {o : Oper} {ev : Operand → Value} {w w' : World} {v : Value} (t : TypeId) (i j k : Nat) (x y z : Operand) (a b c : Value) (ho : o.op = .build t #[(i, x), (j, y), (k, z)]) (hx : ev x = a) (hy : ev y = b) (hz : ev z = c)
    (hr : (Instr.build t #[(i, a), (j, b), (k, c)]).run P w = .ok v w') : (execOp ev o).run P w = .ok (.value v) w' := by
  unfold execOp
  simp only [ho, List.map_toArray, List.map_cons, List.map_nil, hx, hy, hz, Sem.run_bind, hr, Result.andThen_ok, Sem.run_pure]
def frNone : Nat → Prop := fun _ => False
theorem frNone_below {w w' : World} (h : Fr frNone w w') : Below w.heap.size w w' := h.below (fun _ h => h.elim) (Nat.le_refl _)
theorem bkNone (w : World) (N : List Nt) (c : Int) : bkAt (.pointer none) w frNone N c := Or.inl ⟨rfl, fun _ h => h.elim⟩
/-- the loop of Show: box b8 holds what is shown so far. -/
def shL (w6 : World) (b8 : Nat) (n k : Nat) (y : Nat → Sp) (wr : World) : Prop := But w6.heap.size b8 w6 wr ∧ ∃ sv, wr.rowIs b8 29 2 (seG n sv) ∧ ownSpots wr w6.heap.size b8 sv k y
set_option maxHeartbeats 8000000 in
set_option maxRecDepth 100000 in
theorem show_nil (n : Nat) (v tv : Value) (x : Nat → Pr) (key : List Int) (w : World) (hp : pairsAt w v n x) (hkey : anyBytes w tv key) (ht : tabIs w) (hn : n ≤ 1000) (hx : ∀ i, i < n → (x i).1.length + (x i).2.length ≤ 1000000) :
    Calls Tryd.prog 12 #[.pointer none, v, tv] w fun e w' => showPost n x key w e w' := by
  have hzse := zero_se
  have hb0' := build_se0
  have hb1' := build_se1
  obtain ⟨a, cap, hv, hnc, hcm, _⟩ := (id hp : pairsAt w v n x)
  obtain ⟨w1, hw1⟩ : ∃ w1, w1 = w.alloc (.cells (rowV 2 (seG 0 (.slice none 0 0))) 29) := ⟨_, rfl⟩
  have b1 : Below w.heap.size w w1 := by rw [hw1]; exact (Below.refl _ _).alloc (Nat.le_refl _) _
  have z1 : w1.heap.size = w.heap.size + 1 := by rw [hw1]; simp
  have r1 : w1.rowIs w.heap.size 29 2 (seG 0 (.slice none 0 0)) := by rw [hw1]; exact rowIs_box _ _ _ _
  have XM := may_any n v x w1 (hp.below b1 (Nat.le_refl _))
  have HP : Hid (∀ wz, Below w.heap.size w wz → pairsAt wz v n x ∧ anyBytes wz tv key ∧ tabIs wz) := (show _ from fun wz hz => ⟨hp.below hz (Nat.le_refl _), hkey.below hz (Nat.le_refl _), ht.below hz ht.1⟩)
  have HQ : Hid (n ≤ 1000 ∧ (∀ i, i < n → (x i).1.length + (x i).2.length ≤ 1000000) ∧ Below w.heap.size w w1 ∧ w1.heap.size = w.heap.size + 1 ∧ w1.rowIs w.heap.size 29 2 (seG 0 (.slice none 0 0)) ∧ 1 < w.heap.size) := (show _ from ⟨hn, hx, b1, z1, r1, ht.1⟩)
  have hn0 : (0 : Int) ≤ (n : Int) := by omega
  have hn1 : (n : Int) ≤ 1000 := by omega
  obtain ⟨ta, tcap, rfl, _⟩ := hkey.slice
  subst hv
  clear hp hkey ht hn hx b1 z1 r1 hnc hcm
  go_enter Tryd.func12, Tryd.ntmps12
  go_upto_region 1 with fail
  rw [← hw1]
  clear hw1
  go_wp2_with fail
  refine XM.mono ?_
  rintro e w2 ⟨rfl, hb2⟩
  clear XM
  obtain ⟨hn, hx, b1, z1, r1, h00⟩ := HQ.out
  have r2 : w2.rowIs w.heap.size 29 2 (seG 0 (.slice none 0 0)) := hb2.row r1 (by omega)
  have b02 : Below w.heap.size w w2 := b1.trans (hb2.mono (by omega))
  have s2 := hb2.size
  cases hmb : mayB x n with
  | false =>
    have MB : Hid (mayB x n = false) := (show mayB x n = false from hmb)
    have B02 : Hid (Below w.heap.size w w2 ∧ w.heap.size < w2.heap.size) := (show _ ∧ _ from ⟨b02, by omega⟩)
    clear hmb HP HQ hb2 b02 b1 z1 r1 h00 s2 hx
    go_wp2_with (first | (refine wpList_store_row rfl 29 _ _ rfl rfl w.heap.size 0 2 (seG 0 (.slice none 0 0)) rfl rfl hiSe (seG_one _ _ _ _) _ _ _ r2 (by omega) ?_; intro w6 r7 hz6 hb6))
    exact bodyPost_ret (results_cell_seg rfl _ _ w.heap.size 29 2 (seG 0 (.slice none 0 0)) _ rfl Tryd.underlying29 rfl hiSe (r7.congr fun i hi => by rw [if_pos (by omega), Nat.sub_zero])) rfl (by
      exact ⟨Or.inl ⟨MB.out, rfl⟩, B02.out.1.trans (hb6.mono (by have := B02.out.2; omega) |>.below (by omega))⟩)
  | true =>
    have hmp := (mayB_is x n).1 hmb
    have MB : Hid (mayB x n = true) := (show mayB x n = true from hmb)
    have XLV := leaves_k frNone w2.heap.size (.pointer none) [] 0 n (.slice a n cap) x w2 (bkNone _ _ _) (fun _ h => h.elim) (Nat.le_refl _) (fun wz hz => ⟨(HP.out wz (b02.trans (hz.mono (by omega)))).1, (HP.out wz (b02.trans (hz.mono (by omega)))).2.2⟩) (by omega) hx (fun h => h.elim) (by simp) (by omega)
    have B02 : Hid (Below w.heap.size w w2 ∧ w.heap.size < w2.heap.size ∧ w2.rowIs w.heap.size 29 2 (seG 0 (.slice none 0 0))) := (show _ ∧ _ ∧ _ from ⟨b02, by omega, r2⟩)
    have HMP : Hid (mayP x n) := (show mayP x n from hmp)
    clear hmb hmp hb2 b02 b1 z1 r1 r2 s2 hx
    go_wp2_with fail
    refine XLV.mono ?_
    rintro e w3 ⟨s, rfl, hns, _, _, _, _, f23⟩
    have b23 := frNone_below f23
    obtain ⟨b02, s2, r2⟩ := B02.out
    have s3 := b23.size
    obtain ⟨w4, hw4⟩ : ∃ w4, w4 = w3.alloc (.cells (rowV 2 (seG 0 (.slice none 0 0))) 29) := ⟨_, rfl⟩
    have r4 : w4.rowIs w3.heap.size 29 2 (seG 0 (.slice none 0 0)) := by rw [hw4]; exact rowIs_box _ _ _ _
    have b4 : Below w3.heap.size w3 w4 := by rw [hw4]; exact (Below.refl _ _).alloc (Nat.le_refl _) _
    have z4 : w4.heap.size = w3.heap.size + 1 := by rw [hw4]; simp
    have hsl : ∃ sa sc, s = .slice sa (leavesTo x n).length sc := by
      obtain ⟨_, sa, sc, e, _⟩ := hns.is
      exact ⟨sa, sc, e⟩
    have hll := leavesTo_len x n
    rw [hll] at hsl
    obtain ⟨sa, sc, rfl⟩ := hsl
    clear XLV f23
    go_upto_region 5 with (first | (rw [← hw4]; clear hw4; refine wpList_store_row rfl 29 _ _ rfl rfl w3.heap.size 0 2 (seG n (.slice none 0 0)) rfl rfl hiSe (seG_one _ _ _ _) _ _ _ r4 (by omega) ?_; intro w5 r5 hz5 hb5))
    have b35 : Below w3.heap.size w3 w5 := b4.trans ((hb5.mono (by omega)).below (by omega))
    have b25 : Below w2.heap.size w2 w5 := b23.trans (b35.mono (by omega))
    have b05 : Below w.heap.size w w5 := b02.trans (b25.mono (by omega))
    have XA := around_any n (.slice a n cap) _ x key w5 (HP.out w5 b05).1 (HP.out w5 b05).2.1 HMP.out hn
    have r5' : w5.rowIs w3.heap.size 29 2 (seG n (.slice none 0 0)) := r5.congr fun i hi => by rw [if_pos (by omega), Nat.sub_zero]
    go_wp2_with fail
    refine XA.mono ?_
    rintro e w6 ⟨p, hpos, rfl, b56⟩
    clear XA
    rw [arF_shF]
    have s5 := b35.size
    have s6 := b56.size
    have b06 : Below w.heap.size w w6 := b05.trans (b56.mono (by omega))
    have r6 : w6.rowIs w3.heap.size 29 2 (seG n (.slice none 0 0)) := b56.row r5' (by omega)
    have hns6 : newSums w6 w2.heap.size (.slice sa n sc) (leavesTo x n) := (hns.below b35 (Nat.le_refl _)).below b56 (Nat.le_refl _)
    have hnsb := hns.block
    -- the loop's facts
    have FACT : Hid (∀ wr, But w6.heap.size w3.heap.size w6 wr → Below w.heap.size w wr ∧ pairsAt wr (.slice a n cap) n x ∧ tabIs wr ∧ newSums wr w2.heap.size (.slice sa n sc) (leavesTo x n) ∧ wr.rowIs w.heap.size 29 2 (seG 0 (.slice none 0 0))) := (show _ from fun wr hr => by
      have hb : Below w.heap.size w wr := b06.trans ((hr.mono (by omega)).below (by omega))
      refine ⟨hb, (HP.out wr hb).1, (HP.out wr hb).2.2, hns6.far (fun j hj => hr.block j (by have := hnsb j hj; omega) (by have := hnsb j hj; omega)), ?_⟩
      exact World.rowIs.of_block (b56.row (b25.row r2 (by omega)) (by omega)) (hr.block _ (by omega) (by omega)))
    obtain ⟨f, hf⟩ : ∃ f, f = shF x n key p := ⟨_, rfl⟩
    obtain ⟨la, hla⟩ : ∃ la, la = arL x n key p := ⟨_, rfl⟩
    obtain ⟨m, hm⟩ : ∃ m, m = shM x n key p := ⟨_, rfl⟩
    obtain ⟨y, hy⟩ : ∃ y, y = shY x n key p := ⟨_, rfl⟩
    have hml : ∀ k, k < m ↔ ((f + k : Nat) : Int) ≤ la := by rw [hm, hf, hla]; exact shM_lt x n key p
    have hlan : la < (n : Int) := by rw [hla]; exact (arL_lt x n key p).1
    have hyq : ∀ k, y k = ⟨((f + k : Nat) : Int), x (f + k), pathI (leavesTo x n) ((f + k : Nat) : Int)⟩ := by rw [hy, hf]; exact fun _ => rfl
    have DONE : Hid (∀ V sv, Below w.heap.size w V → spotsAt V sv m y → showPost n x key w (.returned (.agg (rowV 2 (seG n sv)))) V) := (show _ from fun V sv hV hs => ⟨Or.inr ⟨MB.out, p, sv, hpos, rfl, by rw [← hm, ← hy]; exact hs⟩, hV⟩)
    have S0 : Hid (shL w6 w3.heap.size n 0 y w6) := (show shL w6 w3.heap.size n 0 y w6 from ⟨But.refl _ _ _, _, r6, ownSpots.nil _ _ _ _⟩)
    have HYQ : Hid ((∀ k, k < m ↔ ((f + k : Nat) : Int) ≤ la) ∧ la < (n : Int) ∧ ∀ k, y k = ⟨((f + k : Nat) : Int), x (f + k), pathI (leavesTo x n) ((f + k : Nat) : Int)⟩) := (show _ from ⟨hml, hlan, hyq⟩)
    have HSZ : Hid (w.heap.size < w2.heap.size ∧ w2.heap.size ≤ w3.heap.size ∧ w3.heap.size < w6.heap.size ∧ (∀ j, (Value.slice sa n sc).ownBlock = some j → w2.heap.size ≤ j ∧ j < w3.heap.size)) := (show _ from ⟨by omega, by omega, by omega, hnsb⟩)
    rw [← hf, ← hla]
    clear hf hla hm hy hml hlan hyq hpos MB r6 r5' r5 hz5 hb5 b35 b25 b05 b56 b06 b02 b23 b4 z4 s2 s3 s5 s6 r2 r4 hns hns6 hnsb hll B02 HMP
    go_wp2_with fail
    go_loopw [11] (fun i wr => ∃ k : Nat, k ≤ m ∧ i = .int .i64 ((f + k : Nat) : Int) ∧ shL w6 w3.heap.size n k y wr) (fun i _ => f + m - (intOf i).toNat)
    case atStart => exact ⟨0, by omega, rfl, S0.out⟩
    case round =>
      obtain ⟨k, hkm, rfl, hbut, sv, r8, hos⟩ := hrel
      clear S0
      obtain ⟨q, hq⟩ : ∃ q, q = f + k := ⟨_, rfl⟩
      have hyk := HYQ.out.2.2 k
      rw [← hq] at hyk ⊢
      have HQK : Hid (q = f + k) := (show q = f + k from hq)
      clear hq
      have p0 : (0 : Int) ≤ (q : Int) := by omega
      have hsl : ∃ oa oc, sv = .slice oa k oc := by
        obtain ⟨oa, oc, e, _⟩ := hos.is
        exact ⟨oa, oc, e⟩
      obtain ⟨oa, oc, rfl⟩ := hsl
      by_cases hlt : k < m
      · have p1 : (q : Int) ≤ la := by rw [HQK.out]; exact (HYQ.out.1 k).1 hlt
        have hqn : q < n := by have := HYQ.out.2.1; omega
        have p2 : (q : Int) < (n : Int) := by omega
        obtain ⟨g, o, cap', e, hg, _, _, hcell⟩ := (HP.out w (Below.refl _ _)).1.at (by omega)
        injection e with e1 e2 e3
        subst e1
        subst e3
        obtain ⟨ka, kcap, va, vcap, H⟩ := hcell q hqn
        have bwr := (FACT.out wr hbut).1
        have swr := bwr.size
        have FC : Hid (∀ wz, Below wr.heap.size wr wz → wz.cell? ⟨g, o + q * 2, none⟩ = some (.slice ka (x q).1.length kcap) ∧ wz.cell? ⟨g, o + q * 2 + 1, none⟩ = some (.slice va (x q).2.length vcap)) := (show _ from fun wz hz => by
          obtain ⟨q0, q1, _⟩ := H wz (bwr.trans (hz.mono swr))
          exact ⟨q0, q1⟩)
        have hxq := HQ.out.2.1 q hqn
        have CLK : Hid (∀ W, Below wr.heap.size wr W → Calls Tryd.prog 36 #[.slice ka (x q).1.length kcap] W fun e w' => ∃ u, e = .returned u ∧ newBytes w' W.heap.size u (x q).1 ∧ Below W.heap.size W w') := (show _ from fun W hW => clone_x _ _ W (H W (bwr.trans (hW.mono swr))).2.2.1 (by omega))
        have CLV : Hid (∀ W, Below wr.heap.size wr W → Calls Tryd.prog 36 #[.slice va (x q).2.length vcap] W fun e w' => ∃ u, e = .returned u ∧ newBytes w' W.heap.size u (x q).2 ∧ Below W.heap.size W w') := (show _ from fun W hW => clone_x _ _ W (H W (bwr.trans (hW.mono swr))).2.2.2 (by omega))
        have HB : Hid (But w6.heap.size w3.heap.size w6 wr) := (show But w6.heap.size w3.heap.size w6 wr from hbut)
        have HR8 : Hid (wr.rowIs w3.heap.size 29 2 (seG n (.slice oa k oc))) := (show wr.rowIs w3.heap.size 29 2 (seG n (.slice oa k oc)) from r8)
        have HOS : Hid (ownSpots wr w6.heap.size w3.heap.size (.slice oa k oc) k y) := (show ownSpots wr w6.heap.size w3.heap.size (.slice oa k oc) k y from hos)
        clear hcell H bwr swr hxq hbut r8 hos
        go_upto_region 9 with fail
        go_cut [12] from 35 to 47 (fun p12 wx => ∃ (b9 : Nat) (ua : Option Addr) (uc : Nat) (va2 : Option Addr) (vc2 : Nat), p12 = .pointer (some ⟨b9, 0, none⟩) ∧ Below wr.heap.size wr wx ∧ wx.rowIs b9 38 2 (prG (.slice ua (x q).1.length uc) (.slice va2 (x q).2.length vc2)) ∧ wr.heap.size ≤ b9 ∧ newBytes wx wr.heap.size (.slice ua (x q).1.length uc) (x q).1 ∧ newBytes wx wr.heap.size (.slice va2 (x q).2.length vc2) (x q).2)
        case first =>
          have BD : Below wr.heap.size wr wr.drew := (Below.refl _ _).drew
          have H : pst wr (x q).1 (x q).2 wr.drew none none none := ⟨BD, (fun u h => by cases h), (fun u h => by cases h), fun b h => by cases h⟩
          refine wp_region_noPanic ?_
          refine wp_region_held_drew (S := fun w' => Below wr.heap.size wr w') (by kernel_rfl) BD (fun hHeld => ?_)
          clear BD
          generalize wr.drew = W at hHeld H ⊢
          refine take_op (i := 0) (v := ?va0) rfl (by kernel_rfl) (by kernel_rfl) (by kernel_rfl) (fun _ _ _ h => h) rfl hHeld ?ya0 ?ra0
          case ya0 => (intro wz hz; go_simp; first | done | with_reducible rfl)
          try simp only [Act.put, List.setIfInBounds_toArray, List.set_cons_zero, List.set_cons_succ]
          refine take_op (i := 1) (v := ?va1) rfl (by kernel_rfl) (by kernel_rfl) (by kernel_rfl) (fun _ _ _ h => h) rfl hHeld ?ya1 ?ra1
          case ya1 => (intro wz hz; go_simp; first | done | with_reducible rfl)
          try simp only [Act.put, List.setIfInBounds_toArray, List.set_cons_zero, List.set_cons_succ]
          refine take_op (i := 2) (v := ?va2) rfl (by kernel_rfl) (by kernel_rfl) (by kernel_rfl) (fun _ _ _ h => h) rfl hHeld ?ya2 ?ra2
          case ya2 => (intro wz hz; go_simp; first | done | with_reducible rfl)
          try simp only [Act.put, List.setIfInBounds_toArray, List.set_cons_zero, List.set_cons_succ]
          refine take_op (i := 3) (v := ?va3) rfl (by kernel_rfl) (by kernel_rfl) (by kernel_rfl) (fun _ _ _ h => h) rfl hHeld ?ya3 ?ra3
          case ya3 => (intro wz hz; go_simp; first | done | with_reducible rfl)
          try simp only [Act.put, List.setIfInBounds_toArray, List.set_cons_zero, List.set_cons_succ]
          refine take_op (i := 4) (v := ?va4) rfl (by kernel_rfl) (by kernel_rfl) (by kernel_rfl) (fun _ _ _ h => h) rfl hHeld ?ya4 ?ra4
          case ya4 => (intro wz hz; have hcz := (FC.out wz hz).1; go_simp; first | done | with_reducible rfl)
          try simp only [Act.put, List.setIfInBounds_toArray, List.set_cons_zero, List.set_cons_succ]
          refine take_op (i := 6) (v := ?va6) rfl (by kernel_rfl) (by kernel_rfl) (by kernel_rfl) (fun _ _ _ h => h) rfl hHeld ?ya6 ?ra6
          case ya6 => (intro wz hz; go_simp; first | done | with_reducible rfl)
          try simp only [Act.put, List.setIfInBounds_toArray, List.set_cons_zero, List.set_cons_succ]
          refine take_op (i := 7) (v := ?va7) rfl (by kernel_rfl) (by kernel_rfl) (by kernel_rfl) (fun _ _ _ h => h) rfl hHeld ?ya7 ?ra7
          case ya7 => (intro wz hz; go_simp; first | done | with_reducible rfl)
          try simp only [Act.put, List.setIfInBounds_toArray, List.set_cons_zero, List.set_cons_succ]
          refine take_op (i := 8) (v := ?va8) rfl (by kernel_rfl) (by kernel_rfl) (by kernel_rfl) (fun _ _ _ h => h) rfl hHeld ?ya8 ?ra8
          case ya8 => (intro wz hz; go_simp; first | done | with_reducible rfl)
          try simp only [Act.put, List.setIfInBounds_toArray, List.set_cons_zero, List.set_cons_succ]
          refine take_op (i := 9) (v := ?va9) rfl (by kernel_rfl) (by kernel_rfl) (by kernel_rfl) (fun _ _ _ h => h) rfl hHeld ?ya9 ?ra9
          case ya9 => (intro wz hz; go_simp; first | done | with_reducible rfl)
          try simp only [Act.put, List.setIfInBounds_toArray, List.set_cons_zero, List.set_cons_succ]
          refine take_op (i := 10) (v := ?va10) rfl (by kernel_rfl) (by kernel_rfl) (by kernel_rfl) (fun _ _ _ h => h) rfl hHeld ?ya10 ?ra10
          case ya10 => (intro wz hz; have hcz := (FC.out wz hz).2; go_simp; first | done | with_reducible rfl)
          try simp only [Act.put, List.setIfInBounds_toArray, List.set_cons_zero, List.set_cons_succ]
          refine regionKK (fun G hG => ?_)
          refine actKK (p := fun a => G 5 _ a W) (fun a0 ha0 => ?_)
          refine listKK (p := fun l => G 5 l a0 W) (fun l0 hl0 => ?_)
          have HG : Hid _ := hG
          have HA0 : Hid _ := ha0
          have HL0 : Hid _ := hl0
          clear hG ha0 hl0 hHeld
          have ST111 : Hid (∀ (ua : Option Addr) (uc : Nat), ∀ (va2 : Option Addr) (vc2 : Nat), ∀ (b9 : Nat), ∀ W : World, pst wr (x q).1 (x q).2 W (some (.slice ua (x q).1.length uc)) (some (.slice va2 (x q).2.length vc2)) (some b9) → G 1 ((((l0.setIfInBounds 5 true).setIfInBounds 11 true).setIfInBounds 13 true).setIfInBounds 12 true) ((((a0.put (some 40) (.slice ua (x q).1.length uc)).put (some 46) (.slice va2 (x q).2.length vc2)).put (some 12) (.pointer (some ⟨b9, 0, none⟩))).put (some 47) (.agg (rowV 2 (prG (.slice ua (x q).1.length uc) (.slice va2 (x q).2.length vc2))))) W) := (show ∀ (ua : Option Addr) (uc : Nat), ∀ (va2 : Option Addr) (vc2 : Nat), ∀ (b9 : Nat), ∀ W : World, pst wr (x q).1 (x q).2 W (some (.slice ua (x q).1.length uc)) (some (.slice va2 (x q).2.length vc2)) (some b9) → G 1 ((((l0.setIfInBounds 5 true).setIfInBounds 11 true).setIfInBounds 13 true).setIfInBounds 12 true) ((((a0.put (some 40) (.slice ua (x q).1.length uc)).put (some 46) (.slice va2 (x q).2.length vc2)).put (some 12) (.pointer (some ⟨b9, 0, none⟩))).put (some 47) (.agg (rowV 2 (prG (.slice ua (x q).1.length uc) (.slice va2 (x q).2.length vc2))))) W from by
            intro ua uc va2 vc2 b9 W H
            rw [HA0.out, HL0.out, HG.out]
            try simp only [Act.put, List.setIfInBounds_toArray, List.set_cons_zero, List.set_cons_succ]
            obtain ⟨V, e1, r1, z1, c1⟩ := pr_store W b9 (prG (.slice ua (x q).1.length uc) (.slice va2 (x q).2.length vc2)) (H.2.2.2 b9 rfl).2 (prG_one _ _ _ _ _ _)
            have hb9 := (H.2.2.2 b9 rfl).1
            have bV : Below wr.heap.size wr V := H.1.trans ((c1.mono H.1.size).below (by omega))
            have n1 : newBytes V wr.heap.size (.slice ua (x q).1.length uc) (x q).1 := (H.2.1 _ rfl).apart (fun j hj => c1.block j ((H.2.1 _ rfl).block j hj).2 ((H.2.1 _ rfl).notrow (H.2.2.2 b9 rfl).2 (by decide) j hj))
            have n2 : newBytes V wr.heap.size (.slice va2 (x q).2.length vc2) (x q).2 := (H.2.2.1 _ rfl).apart (fun j hj => c1.block j ((H.2.2.1 _ rfl).block j hj).2 ((H.2.2.1 _ rfl).notrow (H.2.2.2 b9 rfl).2 (by decide) j hj))
            refine take_one (i := 14) rfl (by kernel_rfl) rfl (fun K hK => ?_)
            unfold Oper.wp execOp
            simp only [Instr.storeAt, Instr.sureAddr, Sem.run_bind, Sem.run_pure, Result.andThen_ok]
            simp [Act.eval, e1, Oper.upon]
            refine hK.out _ _ bV (fun hHeld => ?_)
            clear hK K
            try simp only [Act.put, List.setIfInBounds_toArray, List.set_cons_zero, List.set_cons_succ]
            refine wpAnyH_done (by kernel_rfl) ?_ _
            refine NoPanic.normal ?_
            clear e1 H hHeld c1 z1
            go_wp2_with fail
            go_meet
            case rel => exact ⟨b9, _, _, _, _, rfl, bV, r1, hb9, n1, n2⟩)
          have ST110 : Hid (∀ (ua : Option Addr) (uc : Nat), ∀ (va2 : Option Addr) (vc2 : Nat), ∀ W : World, pst wr (x q).1 (x q).2 W (some (.slice ua (x q).1.length uc)) (some (.slice va2 (x q).2.length vc2)) none → G 2 (((l0.setIfInBounds 5 true).setIfInBounds 11 true).setIfInBounds 12 true) (((a0.put (some 40) (.slice ua (x q).1.length uc)).put (some 46) (.slice va2 (x q).2.length vc2)).put (some 47) (.agg (rowV 2 (prG (.slice ua (x q).1.length uc) (.slice va2 (x q).2.length vc2))))) W) := (show ∀ (ua : Option Addr) (uc : Nat), ∀ (va2 : Option Addr) (vc2 : Nat), ∀ W : World, pst wr (x q).1 (x q).2 W (some (.slice ua (x q).1.length uc)) (some (.slice va2 (x q).2.length vc2)) none → G 2 (((l0.setIfInBounds 5 true).setIfInBounds 11 true).setIfInBounds 12 true) (((a0.put (some 40) (.slice ua (x q).1.length uc)).put (some 46) (.slice va2 (x q).2.length vc2)).put (some 47) (.agg (rowV 2 (prG (.slice ua (x q).1.length uc) (.slice va2 (x q).2.length vc2))))) W from by
            intro ua uc va2 vc2 W H
            rw [HA0.out, HL0.out, HG.out]
            try simp only [Act.put, List.setIfInBounds_toArray, List.set_cons_zero, List.set_cons_succ]
            refine take_one (i := 13) rfl (by kernel_rfl) rfl (fun K hK => ?_)
            refine wp_of_run (exec_allocPr rfl) ?_
            have H2 := H.box
            refine hK.out _ _ H2.1 (fun hHeld => ?_)
            try simp only [Act.put, List.setIfInBounds_toArray, List.set_cons_zero, List.set_cons_succ]
            have T := ST111.out ua uc va2 vc2 W.heap.size (W.alloc (.cells (rowV 2 prZ) 38)) H2
            rw [HA0.out, HL0.out, HG.out] at T
            try simp only [Act.put, List.setIfInBounds_toArray, List.set_cons_zero, List.set_cons_succ] at T
            exact lcongK (by kernel_rfl) T)
          have ST101 : Hid (∀ (ua : Option Addr) (uc : Nat), ∀ (b9 : Nat), ∀ W : World, pst wr (x q).1 (x q).2 W (some (.slice ua (x q).1.length uc)) none (some b9) → G 3 ((l0.setIfInBounds 5 true).setIfInBounds 13 true) ((a0.put (some 40) (.slice ua (x q).1.length uc)).put (some 12) (.pointer (some ⟨b9, 0, none⟩))) W) := (show ∀ (ua : Option Addr) (uc : Nat), ∀ (b9 : Nat), ∀ W : World, pst wr (x q).1 (x q).2 W (some (.slice ua (x q).1.length uc)) none (some b9) → G 3 ((l0.setIfInBounds 5 true).setIfInBounds 13 true) ((a0.put (some 40) (.slice ua (x q).1.length uc)).put (some 12) (.pointer (some ⟨b9, 0, none⟩))) W from by
            intro ua uc b9 W H
            rw [HA0.out, HL0.out, HG.out]
            try simp only [Act.put, List.setIfInBounds_toArray, List.set_cons_zero, List.set_cons_succ]
            refine take_one (i := 11) rfl (by kernel_rfl) rfl (fun K hK => ?_)
            go_simp
            refine Calls.mono (CLV.out W H.1) ?_
            rintro e W2 ⟨u, rfl, hn, hb⟩
            obtain ⟨va2, vc2, rfl⟩ := hn.slen
            have H2 := H.val hb hn
            refine hK.out _ _ H2.1 (fun hHeld => ?_)
            try simp only [Act.put, List.setIfInBounds_toArray, List.set_cons_zero, List.set_cons_succ]
            refine take_op (i := 12) (v := .agg (rowV 2 (prG (.slice ua (x q).1.length uc) (.slice va2 (x q).2.length vc2)))) rfl (by kernel_rfl) (by kernel_rfl) (by kernel_rfl) (fun _ _ _ h => h) rfl hHeld (fun wz hz => exec_build2 38 0 1 (.tmp 40) (.tmp 46) (.slice ua (x q).1.length uc) (.slice va2 (x q).2.length vc2) rfl rfl rfl (build_pr ua va2 (x q).1.length uc (x q).2.length vc2 wz)) ?_
            try simp only [Act.put, List.setIfInBounds_toArray, List.set_cons_zero, List.set_cons_succ]
            have T := ST111.out ua uc va2 vc2 b9 W2 H2
            rw [HA0.out, HL0.out, HG.out] at T
            try simp only [Act.put, List.setIfInBounds_toArray, List.set_cons_zero, List.set_cons_succ] at T
            exact lcongK (by kernel_rfl) T)
          have ST100 : Hid (∀ (ua : Option Addr) (uc : Nat), ∀ W : World, pst wr (x q).1 (x q).2 W (some (.slice ua (x q).1.length uc)) none none → G 4 (l0.setIfInBounds 5 true) (a0.put (some 40) (.slice ua (x q).1.length uc)) W) := (show ∀ (ua : Option Addr) (uc : Nat), ∀ W : World, pst wr (x q).1 (x q).2 W (some (.slice ua (x q).1.length uc)) none none → G 4 (l0.setIfInBounds 5 true) (a0.put (some 40) (.slice ua (x q).1.length uc)) W from by
            intro ua uc W H
            rw [HA0.out, HL0.out, HG.out]
            try simp only [Act.put, List.setIfInBounds_toArray, List.set_cons_zero, List.set_cons_succ]
            refine take_pair (i := 11) (j := 13) rfl rfl (by kernel_rfl) rfl rfl (fun K hK => ?_) (fun K hK => ?_)
            · go_simp
              refine Calls.mono (CLV.out W H.1) ?_
              rintro e W2 ⟨u, rfl, hn, hb⟩
              obtain ⟨va2, vc2, rfl⟩ := hn.slen
              have H2 := H.val hb hn
              refine hK.out _ _ H2.1 (fun hHeld => ?_)
              try simp only [Act.put, List.setIfInBounds_toArray, List.set_cons_zero, List.set_cons_succ]
              refine take_op (i := 12) (v := .agg (rowV 2 (prG (.slice ua (x q).1.length uc) (.slice va2 (x q).2.length vc2)))) rfl (by kernel_rfl) (by kernel_rfl) (by kernel_rfl) (fun _ _ _ h => h) rfl hHeld (fun wz hz => exec_build2 38 0 1 (.tmp 40) (.tmp 46) (.slice ua (x q).1.length uc) (.slice va2 (x q).2.length vc2) rfl rfl rfl (build_pr ua va2 (x q).1.length uc (x q).2.length vc2 wz)) ?_
              try simp only [Act.put, List.setIfInBounds_toArray, List.set_cons_zero, List.set_cons_succ]
              have T := ST110.out ua uc va2 vc2 W2 H2
              rw [HA0.out, HL0.out, HG.out] at T
              try simp only [Act.put, List.setIfInBounds_toArray, List.set_cons_zero, List.set_cons_succ] at T
              exact lcongK (by kernel_rfl) T
            · refine wp_of_run (exec_allocPr rfl) ?_
              have H2 := H.box
              refine hK.out _ _ H2.1 (fun hHeld => ?_)
              try simp only [Act.put, List.setIfInBounds_toArray, List.set_cons_zero, List.set_cons_succ]
              have T := ST101.out ua uc W.heap.size (W.alloc (.cells (rowV 2 prZ) 38)) H2
              rw [HA0.out, HL0.out, HG.out] at T
              try simp only [Act.put, List.setIfInBounds_toArray, List.set_cons_zero, List.set_cons_succ] at T
              exact lcongK (by kernel_rfl) T)
          have ST001 : Hid (∀ (b9 : Nat), ∀ W : World, pst wr (x q).1 (x q).2 W none none (some b9) → G 4 (l0.setIfInBounds 13 true) (a0.put (some 12) (.pointer (some ⟨b9, 0, none⟩))) W) := (show ∀ (b9 : Nat), ∀ W : World, pst wr (x q).1 (x q).2 W none none (some b9) → G 4 (l0.setIfInBounds 13 true) (a0.put (some 12) (.pointer (some ⟨b9, 0, none⟩))) W from by
            intro b9 W H
            rw [HA0.out, HL0.out, HG.out]
            try simp only [Act.put, List.setIfInBounds_toArray, List.set_cons_zero, List.set_cons_succ]
            refine take_one (i := 5) rfl (by kernel_rfl) rfl (fun K hK => ?_)
            go_simp
            refine Calls.mono (CLK.out W H.1) ?_
            rintro e W2 ⟨u, rfl, hn, hb⟩
            obtain ⟨ua, uc, rfl⟩ := hn.slen
            have H2 := H.key hb hn
            refine hK.out _ _ H2.1 (fun hHeld => ?_)
            try simp only [Act.put, List.setIfInBounds_toArray, List.set_cons_zero, List.set_cons_succ]
            have T := ST101.out ua uc b9 W2 H2
            rw [HA0.out, HL0.out, HG.out] at T
            try simp only [Act.put, List.setIfInBounds_toArray, List.set_cons_zero, List.set_cons_succ] at T
            exact lcongK (by kernel_rfl) T)
          have ST000 : Hid (∀ W : World, pst wr (x q).1 (x q).2 W none none none → G 5 l0 a0 W) := (show ∀ W : World, pst wr (x q).1 (x q).2 W none none none → G 5 l0 a0 W from by
            intro W H
            rw [HA0.out, HL0.out, HG.out]
            try simp only [Act.put, List.setIfInBounds_toArray, List.set_cons_zero, List.set_cons_succ]
            refine take_pair (i := 5) (j := 13) rfl rfl (by kernel_rfl) rfl rfl (fun K hK => ?_) (fun K hK => ?_)
            · go_simp
              refine Calls.mono (CLK.out W H.1) ?_
              rintro e W2 ⟨u, rfl, hn, hb⟩
              obtain ⟨ua, uc, rfl⟩ := hn.slen
              have H2 := H.key hb hn
              refine hK.out _ _ H2.1 (fun hHeld => ?_)
              try simp only [Act.put, List.setIfInBounds_toArray, List.set_cons_zero, List.set_cons_succ]
              have T := ST100.out ua uc W2 H2
              rw [HA0.out, HL0.out, HG.out] at T
              try simp only [Act.put, List.setIfInBounds_toArray, List.set_cons_zero, List.set_cons_succ] at T
              exact lcongK (by kernel_rfl) T
            · refine wp_of_run (exec_allocPr rfl) ?_
              have H2 := H.box
              refine hK.out _ _ H2.1 (fun hHeld => ?_)
              try simp only [Act.put, List.setIfInBounds_toArray, List.set_cons_zero, List.set_cons_succ]
              have T := ST001.out W.heap.size (W.alloc (.cells (rowV 2 prZ) 38)) H2
              rw [HA0.out, HL0.out, HG.out] at T
              try simp only [Act.put, List.setIfInBounds_toArray, List.set_cons_zero, List.set_cons_succ] at T
              exact lcongK (by kernel_rfl) T)
          exact ST000.out W H
        case rest =>
          obtain ⟨b9, ua, uc, va2, vc2, rfl, bV, r9, hb9, n1, n2⟩ := hcut
          rename World => V
          have hbut := HB.out
          have r8 := HR8.out
          have hos := HOS.out
          obtain ⟨z02, z23, z36, hsb⟩ := HSZ.out
          have sbut := hbut.size
          have sV := bV.size
          have r8V : V.rowIs w3.heap.size 29 2 (seG n (.slice oa k oc)) := bV.row r8 (by omega)
          have l9 : ∀ j, j < 2 → V.cell? ⟨b9, 0 + j, none⟩ = some ((prG (.slice ua (x q).1.length uc) (.slice va2 (x q).2.length vc2)) j) := fun j hj => by rw [Nat.zero_add]; exact r9.cell hj
          have c8 : V.cell? ⟨w3.heap.size, 1, none⟩ = some (.slice oa k oc) := r8V.cell (i := 1) (by omega)
          have HJ : Hid (∀ s, (JJ 12 (fun w' => w'.cell? ⟨w3.heap.size, 1, none⟩ = some (.slice oa k oc) ∧ ∀ j, j < 2 → w'.cell? ⟨b9, 0 + j, none⟩ = some (prG (.slice ua (x q).1.length uc) (.slice va2 (x q).2.length vc2) j)) 12 (fun w' => w'.cell? ⟨w3.heap.size, 1, none⟩ = some (.slice oa k oc) ∧ ∀ j, j < 2 → w'.cell? ⟨b9, 0 + j, none⟩ = some (prG (.slice ua (x q).1.length uc) (.slice va2 (x q).2.length vc2) j))) s V.drew) := (show ∀ s, (JJ 12 (fun w' => w'.cell? ⟨w3.heap.size, 1, none⟩ = some (.slice oa k oc) ∧ ∀ j, j < 2 → w'.cell? ⟨b9, 0 + j, none⟩ = some (prG (.slice ua (x q).1.length uc) (.slice va2 (x q).2.length vc2) j)) 12 (fun w' => w'.cell? ⟨w3.heap.size, 1, none⟩ = some (.slice oa k oc) ∧ ∀ j, j < 2 → w'.cell? ⟨b9, 0 + j, none⟩ = some (prG (.slice ua (x q).1.length uc) (.slice va2 (x q).2.length vc2) j))) s V.drew from JJ_all ⟨c8, l9⟩ ⟨c8, l9⟩)
          obtain ⟨fa1, fa2, fa3, fa4, fa5⟩ := FACT.out wr hbut
          have bwV : Below w.heap.size w V := fa1.trans (bV.mono fa1.size)
          have hnsV : newSums V w2.heap.size (.slice sa n sc) (leavesTo x n) := fa4.below bV (Nat.le_refl _)
          have hll := leavesTo_len x n
          have XP := path_k frNone (.pointer none) [] 0 (leavesTo x n) (.slice sa n sc) (q : Int) V.drew ⟨by omega, by omega⟩ (bkNone _ _ _) (hnsV.is.below (Below.refl V.heap.size V).drew (Nat.le_refl _)) (fun _ _ _ h => h.elim) (by rw [hll]; omega) ((HP.out V bwV).2.2.below (Below.refl V.heap.size V).drew (HP.out V bwV).2.2.1) (fun h => h.elim) (by rw [hll]; simp; omega) (by omega)
          have HV : Hid (V.heap.size = V.drew.heap.size ∧ wr.heap.size ≤ V.heap.size ∧ w6.heap.size ≤ wr.heap.size) := (show _ ∧ _ ∧ _ from ⟨rfl, sV, sbut⟩)
          have RV : Hid (V.drew.rowIs w3.heap.size 29 2 (seG n (.slice oa k oc)) ∧ V.drew.rowIs b9 38 2 (prG (.slice ua (x q).1.length uc) (.slice va2 (x q).2.length vc2)) ∧ Below wr.heap.size wr V.drew) := (show _ ∧ _ ∧ _ from ⟨r8V, r9, bV.trans ((Below.refl V.heap.size V).drew.mono sV)⟩)
          have N12 : Hid (newBytes V.drew wr.heap.size (.slice ua (x q).1.length uc) (x q).1 ∧ newBytes V.drew wr.heap.size (.slice va2 (x q).2.length vc2) (x q).2) := (show _ ∧ _ from ⟨n1.below (Below.refl V.heap.size V).drew (Nat.le_refl _), n2.below (Below.refl V.heap.size V).drew (Nat.le_refl _)⟩)
          clear n1 n2 r8V l9 c8 fa1 fa2 fa3 fa4 fa5 bwV hnsV hll hos r8 hbut r9 bV z02 hsb
          go_upto_region 10 with fail
          refine wp_region_noPanic ?_
          refine wp_region_T (JJ 12 (fun w' => w'.cell? ⟨w3.heap.size, 1, none⟩ = some (.slice oa k oc) ∧ ∀ j, j < 2 → w'.cell? ⟨b9, 0 + j, none⟩ = some (prG (.slice ua (x q).1.length uc) (.slice va2 (x q).2.length vc2) j)) 12 (fun w' => w'.cell? ⟨w3.heap.size, 1, none⟩ = some (.slice oa k oc) ∧ ∀ j, j < 2 → w'.cell? ⟨b9, 0 + j, none⟩ = some (prG (.slice ua (x q).1.length uc) (.slice va2 (x q).2.length vc2) j))) (by kernel_rfl) ?_
          generalize V.drew = V0 at HJ XP HV RV N12 ⊢
          refine take_opT (i := 0) (v := ?vu0) 12 rfl (by kernel_rfl) (by kernel_rfl) (by kernel_rfl) (by kernel_rfl) (by kernel_rfl) (JJ_free rfl rfl) (fun _ _ _ h => h) rfl HJ.out ?yu0 ?ru0
          case yu0 => (intro wz hz0; have hz := hz0.1 rfl; go_simp; first | done | with_reducible rfl)
          try simp only [Act.put, List.setIfInBounds_toArray, List.set_cons_zero, List.set_cons_succ]
          refine take_opT (i := 1) (v := ?vu1) 12 rfl (by kernel_rfl) (by kernel_rfl) (by kernel_rfl) (by kernel_rfl) (by kernel_rfl) (JJ_free rfl rfl) (fun _ _ _ h => h) rfl HJ.out ?yu1 ?ru1
          case yu1 => (intro wz hz0; have hz := hz0.1 rfl; have hz1 := hz.1; go_simp; first | done | with_reducible rfl)
          try simp only [Act.put, List.setIfInBounds_toArray, List.set_cons_zero, List.set_cons_succ]
          refine take_opT (i := 2) (v := ?vu2) 12 rfl (by kernel_rfl) (by kernel_rfl) (by kernel_rfl) (by kernel_rfl) (by kernel_rfl) (JJ_free rfl rfl) (fun _ _ _ h => h) rfl HJ.out ?yu2 ?ru2
          case yu2 => (intro wz hz0; have hz := hz0.1 rfl; go_simp; first | done | with_reducible rfl)
          try simp only [Act.put, List.setIfInBounds_toArray, List.set_cons_zero, List.set_cons_succ]
          refine take_loadT (i := 3) 12 rfl (by kernel_rfl) (by kernel_rfl) (by kernel_rfl) (by kernel_rfl) (by kernel_rfl) (JJ_free rfl rfl) 38 _ rfl b9 0 2 (prG (.slice ua (x q).1.length uc) (.slice va2 (x q).2.length vc2)) rfl _ Tryd.underlying38 rfl (by kernel_rfl) (fun _ _ _ h => h) rfl HJ.out (fun wz hz => (hz.1 rfl).2) ?_
          try simp only [Act.put, List.setIfInBounds_toArray, List.set_cons_zero, List.set_cons_succ]
          refine take_opT (i := 4) (v := ?vu4) 12 rfl (by kernel_rfl) (by kernel_rfl) (by kernel_rfl) (by kernel_rfl) (by kernel_rfl) (JJ_free rfl rfl) (fun _ _ _ h => h) rfl HJ.out ?yu4 ?ru4
          case yu4 => (intro wz hz0; have hz := hz0.1 rfl; go_simp; first | done | with_reducible rfl)
          try simp only [Act.put, List.setIfInBounds_toArray, List.set_cons_zero, List.set_cons_succ]
          refine take_opT (i := 5) (v := ?vu5) 12 rfl (by kernel_rfl) (by kernel_rfl) (by kernel_rfl) (by kernel_rfl) (by kernel_rfl) (JJ_free rfl rfl) (fun _ _ _ h => h) rfl HJ.out ?yu5 ?ru5
          case yu5 => (intro wz hz0; have hz := hz0.1 rfl; go_simp; first | done | with_reducible rfl)
          try simp only [Act.put, List.setIfInBounds_toArray, List.set_cons_zero, List.set_cons_succ]
          refine take_opT (i := 6) (v := ?vu6) 12 rfl (by kernel_rfl) (by kernel_rfl) (by kernel_rfl) (by kernel_rfl) (by kernel_rfl) (JJ_free rfl rfl) (fun _ _ _ h => h) rfl HJ.out ?yu6 ?ru6
          case yu6 => (intro wz hz0; have hz := hz0.1 rfl; go_simp; first | done | with_reducible rfl)
          try simp only [Act.put, List.setIfInBounds_toArray, List.set_cons_zero, List.set_cons_succ]
          refine take_oneT (i := 7) rfl (by kernel_rfl) rfl (fun K hK => ?_)
          go_simp
          refine Calls.mono XP ?_
          rintro e V1 ⟨pv, Fi, rfl, hps, _, _, _, fP⟩
          have b01 := frNone_below fP
          clear XP fP
          have hsp : ∃ pa pc, pv = .slice pa (pathI (leavesTo x n) q).length pc := by
            obtain ⟨_, pa, pc, e, _⟩ := hps.is
            exact ⟨pa, pc, e⟩
          obtain ⟨pa, pc, rfl⟩ := hsp
          obtain ⟨zd, sV, sw⟩ := HV.out
          have s01 := b01.size
          obtain ⟨rr8, rr9, bw0⟩ := RV.out
          have q8 : V1.rowIs w3.heap.size 29 2 (seG n (.slice oa k oc)) := b01.row rr8 (by omega)
          have q9 : V1.rowIs b9 38 2 (prG (.slice ua (x q).1.length uc) (.slice va2 (x q).2.length vc2)) := b01.row rr9 rr9.lt
          refine hK.out _ _ (heldJ_all ⟨q8.cell (i := 1) (by omega), fun j hj => by rw [Nat.zero_add]; exact q9.cell hj⟩ ⟨q8.cell (i := 1) (by omega), fun j hj => by rw [Nat.zero_add]; exact q9.cell hj⟩) ?_
          clear hK K
          try simp only [Act.put, List.setIfInBounds_toArray, List.set_cons_zero, List.set_cons_succ]
          have HJ1 : Hid (∀ s, (JJ 12 (fun w' => w'.cell? ⟨w3.heap.size, 1, none⟩ = some (.slice oa k oc) ∧ ∀ j, j < 2 → w'.cell? ⟨b9, 0 + j, none⟩ = some (prG (.slice ua (x q).1.length uc) (.slice va2 (x q).2.length vc2) j)) 12 (fun w' => w'.cell? ⟨w3.heap.size, 1, none⟩ = some (.slice oa k oc) ∧ ∀ j, j < 2 → w'.cell? ⟨b9, 0 + j, none⟩ = some (prG (.slice ua (x q).1.length uc) (.slice va2 (x q).2.length vc2) j))) s V1) := (show ∀ s, (JJ 12 (fun w' => w'.cell? ⟨w3.heap.size, 1, none⟩ = some (.slice oa k oc) ∧ ∀ j, j < 2 → w'.cell? ⟨b9, 0 + j, none⟩ = some (prG (.slice ua (x q).1.length uc) (.slice va2 (x q).2.length vc2) j)) 12 (fun w' => w'.cell? ⟨w3.heap.size, 1, none⟩ = some (.slice oa k oc) ∧ ∀ j, j < 2 → w'.cell? ⟨b9, 0 + j, none⟩ = some (prG (.slice ua (x q).1.length uc) (.slice va2 (x q).2.length vc2) j))) s V1 from JJ_all ⟨q8.cell (i := 1) (by omega), fun j hj => by rw [Nat.zero_add]; exact q9.cell hj⟩ ⟨q8.cell (i := 1) (by omega), fun j hj => by rw [Nat.zero_add]; exact q9.cell hj⟩)
          refine take_opT (i := 8) (v := .agg (rowV 4 (spG q (.slice ua (x q).1.length uc) (.slice va2 (x q).2.length vc2) (.slice pa (pathI (leavesTo x n) q).length pc)))) 12 rfl (by kernel_rfl) (by kernel_rfl) (by kernel_rfl) (by kernel_rfl) (by kernel_rfl) (JJ_free rfl rfl) (fun _ _ _ h => h) rfl HJ1.out (fun wz hz => exec_build3' 41 0 1 2 (.tmp 50) (.tmp 51) (.tmp 55) (.int .i64 q) (.agg (rowV 2 (prG (.slice ua (x q).1.length uc) (.slice va2 (x q).2.length vc2)))) (.slice pa (pathI (leavesTo x n) q).length pc) rfl rfl rfl rfl (build_sp q ua va2 pa (x q).1.length uc (x q).2.length vc2 (pathI (leavesTo x n) q).length pc wz)) ?_
          try simp only [Act.put, List.setIfInBounds_toArray, List.set_cons_zero, List.set_cons_succ]
          obtain ⟨V2, hV2⟩ : ∃ V2, V2 = V1.alloc (.cells (rowV 4 (spG q (.slice ua (x q).1.length uc) (.slice va2 (x q).2.length vc2) (.slice pa (pathI (leavesTo x n) q).length pc))) 41) := ⟨_, rfl⟩
          have b12 : Below V1.heap.size V1 V2 := by rw [hV2]; exact (Below.refl _ _).alloc (Nat.le_refl _) _
          have z2 : V2.heap.size = V1.heap.size + 1 := by rw [hV2]; simp
          have rN : V2.rowIs V1.heap.size 41 4 (spG q (.slice ua (x q).1.length uc) (.slice va2 (x q).2.length vc2) (.slice pa (pathI (leavesTo x n) q).length pc)) := by rw [hV2]; exact rowIs_box _ _ _ _
          have q8' : V2.rowIs w3.heap.size 29 2 (seG n (.slice oa k oc)) := b12.row q8 q8.lt
          have q9' : V2.rowIs b9 38 2 (prG (.slice ua (x q).1.length uc) (.slice va2 (x q).2.length vc2)) := b12.row q9 q9.lt
          refine take_oneT (i := 9) rfl (by kernel_rfl) rfl (fun K hK => ?_)
          refine wp_of_run (exec_bslice1' 27 1 0 (.tmp 56) (.agg (rowV 4 (spG q (.slice ua (x q).1.length uc) (.slice va2 (x q).2.length vc2) (.slice pa (pathI (leavesTo x n) q).length pc)))) rfl rfl (build_sps (spG q (.slice ua (x q).1.length uc) (.slice va2 (x q).2.length vc2) (.slice pa (pathI (leavesTo x n) q).length pc)) V1)) ?_
          rw [← hV2]
          refine hK.out _ _ (heldJ_all ⟨q8'.cell (i := 1) (by omega), fun j hj => by rw [Nat.zero_add]; exact q9'.cell hj⟩ ⟨q8'.cell (i := 1) (by omega), fun j hj => by rw [Nat.zero_add]; exact q9'.cell hj⟩) ?_
          clear hK K hV2
          try simp only [Act.put, List.setIfInBounds_toArray, List.set_cons_zero, List.set_cons_succ]
          have b02 : Below V0.heap.size V0 V2 := b01.trans (b12.mono s01)
          have bw2 : Below wr.heap.size wr V2 := bw0.trans (b02.mono (by omega))
          obtain ⟨m1, m2⟩ := N12.out
          have hosb := HOS.out.block
          have hyk' := hyk
          have SF : spotFar V2 w3.heap.size (.slice oa k oc) (spG q (.slice ua (x q).1.length uc) (.slice va2 (x q).2.length vc2) (.slice pa (pathI (leavesTo x n) q).length pc)) (y k) := fun z hz => by
            obtain ⟨z36a, z36b, z36c, _⟩ := HSZ.out
            have e1 : newBytes V2 wr.heap.size (.slice ua (x q).1.length uc) (x q).1 := m1.below b02 (Nat.le_refl _)
            have e2 : newBytes V2 wr.heap.size (.slice va2 (x q).2.length vc2) (x q).2 := m2.below b02 (Nat.le_refl _)
            have e3 : newSums V2 V0.heap.size (.slice pa (pathI (leavesTo x n) q).length pc) (pathI (leavesTo x n) q) := hps.below b12 (Nat.le_refl _)
            have far : ∀ j, wr.heap.size ≤ j → j < V2.heap.size → z.heap[j]? = V2.heap[j]? := fun j h1 h2 => hz.2 j h2 (fun e => by have := (hosb j e).2; omega) (by omega)
            rw [hyk']
            refine ⟨_, _, _, rfl, Or.inl (e1.apart fun j hj => far j (e1.block j hj).1 (e1.block j hj).2).is, Or.inl (e2.apart fun j hj => far j (e2.block j hj).1 (e2.block j hj).2).is, (e3.far fun j hj => far j (by have := (e3.block j hj).1; omega) (e3.block j hj).2).is, ⟨by show -9223372036854775808 ≤ (q : Int); omega, by show (q : Int) ≤ 9223372036854775807; omega⟩⟩
          have HO2 : ownSpots V2 w6.heap.size w3.heap.size (.slice oa k oc) k y := HOS.out.below bw2 (Nat.le_refl _)
          obtain ⟨v', V3, hr, ho3, hg3, hat3⟩ := spots_append V2 w6.heap.size w3.heap.size (.slice oa k oc) k y HO2 V1.heap.size (spG q (.slice ua (x q).1.length uc) (.slice va2 (x q).2.length vc2) (.slice pa (pathI (leavesTo x n) q).length pc)) rN SF (by have := HQK.out; omega) (by omega)
          have HAT : Hid (v'.ownBlock = (Value.slice oa k oc).ownBlock ∨ v'.ownBlock = some V2.heap.size) := hat3
          have n8 : ∀ (j : Nat), (Value.slice oa k oc).ownBlock = some j → w6.heap.size ≤ j ∧ j < wr.heap.size := hosb
          have g3 := hg3.size
          have q8'' : V3.rowIs w3.heap.size 29 2 (seG n (.slice oa k oc)) := World.rowIs.of_block q8' (hg3.block _ q8'.lt (fun e => by have := (n8 _ e.symm).1; omega))
          have q9'' : V3.rowIs b9 38 2 (prG (.slice ua (x q).1.length uc) (.slice va2 (x q).2.length vc2)) := World.rowIs.of_block q9' (hg3.block _ q9'.lt (fun e => by have := (n8 _ e.symm).2; omega))
          refine take_oneT (i := 10) rfl (by kernel_rfl) rfl (fun K hK => ?_)
          refine wp_append_run (.tmp 49) (.tmp 57) 27 rfl rfl rfl hr ?_
          refine hK.out _ _ (heldJ_all ⟨q8''.cell (i := 1) (by omega), fun j hj => by rw [Nat.zero_add]; exact q9''.cell hj⟩ ⟨q8''.cell (i := 1) (by omega), fun j hj => by rw [Nat.zero_add]; exact q9''.cell hj⟩) ?_
          clear hK K
          try simp only [Act.put, List.setIfInBounds_toArray, List.set_cons_zero, List.set_cons_succ]
          have hsv : ∃ na nc, v' = .slice na (k + 1) nc := by
            obtain ⟨na, nc, e, _⟩ := ho3.is
            exact ⟨na, nc, e⟩
          obtain ⟨na, nc, rfl⟩ := hsv
          refine take_oneT (i := 11) rfl (by kernel_rfl) rfl (fun K hK => ?_)
          go_simp
          refine hK.out _ _ (heldJ_all ⟨q8''.cell (i := 1) (by omega), fun j hj => by rw [Nat.zero_add]; exact q9''.cell hj⟩ ⟨q8''.cell (i := 1) (by omega), fun j hj => by rw [Nat.zero_add]; exact q9''.cell hj⟩) ?_
          clear hK K
          try simp only [Act.put, List.setIfInBounds_toArray, List.set_cons_zero, List.set_cons_succ]
          have c3 := q8''.cell (i := 1) (by omega)
          have f3 := q8''.frozen 1
          refine take_oneT (i := 12) rfl (by kernel_rfl) rfl (fun K hK => ?_)
          go_simp
          refine hK.out _ _ (heldJ_none rfl rfl) ?_
          clear hK K c3 f3
          try simp only [Act.put, List.setIfInBounds_toArray, List.set_cons_zero, List.set_cons_succ]
          refine doneT (by kernel_rfl) ?_ _
          refine NoPanic.normal ?_
          have NX : Hid (∀ V4, V4 = V3.setCell ⟨w3.heap.size, 1, none⟩ (.slice na (k + 1) nc) → shL w6 w3.heap.size n (k + 1) y V4) := (show _ from fun V4 h4 => by
            obtain ⟨zz1, zz2, zz3, _⟩ := HSZ.out
            have hb := HB.out
            have bt : But V3.heap.size w3.heap.size V3 V4 := by
              rw [h4]
              exact but_setCells (b := w3.heap.size) [.slice na (k + 1) nc] 1 (But.refl _ _ _)
            have z4 := bt.size
            have r4 : V4.rowIs w3.heap.size 29 2 (seG n (.slice na (k + 1) nc)) := by
              rw [h4]
              refine (q8''.set 1 (.slice na (k + 1) nc)).congr fun i hi => ?_
              have : i = 0 ∨ i = 1 := by omega
              rcases this with rfl | rfl <;> rfl
            refine ⟨⟨bt.os.trans (hg3.os.trans (bw2.os.trans hb.os)), bt.tape.trans (hg3.tape.trans (bw2.tape.trans hb.tape)), bt.output.trans (hg3.output.trans (bw2.output.trans hb.output)), by have := hb.size; have := bw2.size; omega, fun j hj hn => ?_⟩, _, r4, ho3.same (by omega) (by omega) fun j hj hn => bt.block j hj (by omega)⟩
            have h1 := hb.size
            have h2 := bw2.size
            exact (bt.block j (by omega) hn).trans ((hg3.block j (by omega) (fun e => by have := (n8 _ e.symm).1; omega)).trans ((bw2.block j (by omega)).trans (hb.block j hj hn))))
          obtain ⟨V4, hV4⟩ : ∃ V4, V4 = V3.setCell ⟨w3.heap.size, 1, none⟩ (.slice na (k + 1) nc) := ⟨_, rfl⟩
          rw [← hV4]
          have NX4 : Hid (shL w6 w3.heap.size n (k + 1) y V4) := (show shL w6 w3.heap.size n (k + 1) y V4 from NX.out V4 hV4)
          clear NX hV4 ho3 hat3 hg3 q8'' q9'' hr SF HO2 q8 q9 q8' q9' rN b12 b01 b02 bw2 bw0 rr8 rr9 m1 m2 hyk' hyk hps n8 hosb HAT HJ1
          go_wp2_with fail
          go_light
          exact ⟨⟨k + 1, by omega, by have := HQK.out; go_num, NX4.out⟩, by have := HQK.out; simp [intOf]; omega⟩
      · have p1 : ¬ (q : Int) ≤ la := by rw [HQK.out]; exact fun h => hlt ((HYQ.out.1 k).2 h)
        obtain rfl : k = m := by omega
        obtain ⟨fa1, _, _, _, fa5⟩ := FACT.out wr hbut
        obtain ⟨z02, z23, z36, _⟩ := HSZ.out
        have sbut := hbut.size
        have l8 : ∀ j, j < 2 → wr.cell? ⟨w3.heap.size, 0 + j, none⟩ = some (seG n (.slice oa k oc) j) := fun j hj => by rw [Nat.zero_add]; exact r8.cell hj
        have HOSS : Hid (ownSpots wr w6.heap.size w3.heap.size (.slice oa k oc) k y) := (show ownSpots wr w6.heap.size w3.heap.size (.slice oa k oc) k y from hos)
        have FI : Hid (∀ V, But wr.heap.size w.heap.size wr V → showPost n x key w (.returned (.agg (rowV 2 (seG n (.slice oa k oc))))) V) := (show _ from fun V hV => by
          have sV := hV.size
          have hbV : Below w.heap.size w V := fa1.trans ((hV.mono fa1.size).below (Nat.le_refl _))
          exact DONE.out V _ hbV (HOSS.out.same (w' := V) (by omega) hV.size (fun j hj hn => hV.block j hj (by omega))).is)
        clear fa1 hbut r8 hos
        go_wp2_with (first | (refine wpList_load_w 29 (.tmp 8) rfl rfl w3.heap.size 0 2 (seG n (.slice oa k oc)) rfl _ Tryd.underlying29 rfl hiSe l8 ?_) | (refine wpList_store_row rfl 29 _ _ rfl rfl w.heap.size 0 2 (seG n (.slice oa k oc)) rfl rfl hiSe (seG_one _ _ _ _) _ _ _ fa5 (by omega) ?_; intro w9 r9 hz9 hb9))
        exact bodyPost_ret (results_cell_seg rfl _ _ w.heap.size 29 2 (seG n (.slice oa k oc)) _ rfl Tryd.underlying29 rfl hiSe (r9.congr fun i hi => by rw [if_pos (by omega), Nat.sub_zero])) rfl (by exact FI.out w9 hb9)
end Go.Proofs.YtgchnobifidjcaaDoor

/- rows of pairs of one's own. -/
namespace Go.Proofs.YtgchnobifidjcaaDoor
set_option linter.unusedSimpArgs false
set_option linter.unusedVariables false
open Go.RowKit Go.Deep

def c2 (u : Nat → Value) : List Value := [u 0, u 1]
theorem c2_get (u : Nat → Value) (j : Nat) (hj : j < 2) : (c2 u)[j]? = some (u j) := by
  match j, hj with
  | 0, _ => rfl
  | 1, _ => rfl
theorem c2s_get : ∀ (U : List (Nat → Value)) (i j : Nat) (u : Nat → Value), U[i]? = some u → j < 2 → (U.flatMap c2)[i * 2 + j]? = some (u j)
  | [], i, j, u, h, _ => by simp at h
  | y :: N, 0, j, u, h, hj => by
    have e : y = u := by simpa using h
    subst e
    rw [List.flatMap_cons, Nat.zero_mul, Nat.zero_add, List.getElem?_append_left (by rw [show (c2 y).length = 2 from rfl]; exact hj)]
    exact c2_get _ _ hj
  | y :: N, i + 1, j, u, h, hj => by
    rw [List.flatMap_cons, List.getElem?_append_right (by rw [show (c2 y).length = 2 from rfl]; omega), show (c2 y).length = 2 from rfl, show (i + 1) * 2 + j - 2 = i * 2 + j by omega]
    exact c2s_get N i j u (by simpa using h) hj
/-- one pair's cells hold it. -/
def pairIn (w : World) (u : Nat → Value) (s : Pr) : Prop := ∃ kc vc, u = prG kc vc ∧ anyBytes w kc s.1 ∧ anyBytes w vc s.2
/-- .. and go on to hold it while no block from B on turns but v's own. -/
def pairFar (w : World) (B : Nat) (v : Value) (u : Nat → Value) (s : Pr) : Prop := ∀ w', (w.heap.size ≤ w'.heap.size ∧ ∀ j, j < w.heap.size → ¬ v.ownBlock = some j → B ≤ j → w'.heap[j]? = w.heap[j]?) → pairIn w' u s
theorem pairFar.now {w : World} {B : Nat} {v : Value} {u : Nat → Value} {s : Pr} (h : pairFar w B v u s) : pairIn w u s := h w ⟨Nat.le_refl _, fun _ _ _ _ => rfl⟩
theorem pairFar.below {w w' : World} {C B : Nat} {v : Value} {u : Nat → Value} {s : Pr} (h : pairFar w B v u s) (hb : Below C w w') (hC : w.heap.size ≤ C) : pairFar w' B v u s := fun z hz =>
  h z ⟨Nat.le_trans hb.size hz.1, fun j hj hn hb' => (hz.2 j (Nat.lt_of_lt_of_le hj hb.size) hn hb').trans (hb.block j (by omega))⟩
/-- v is a row of k pairs, in memory of its own from B on. -/
def ownPairs (w : World) (B : Nat) (v : Value) (k : Nat) (x : Nat → Pr) : Prop :=
  ∃ U : List (Nat → Value), U.length = k ∧ w.ownsRow B 38 2 v k (U.flatMap c2) ∧ ∀ i, i < k → ∃ u, U[i]? = some u ∧ pairFar w B v u (x i)
theorem ownPairs.nil (w : World) (B : Nat) (x : Nat → Pr) : ownPairs w B (.slice none 0 0) 0 x := ⟨[], rfl, ⟨rfl, Or.inl ⟨rfl, rfl⟩⟩, fun i hi => by omega⟩
theorem ownPairs.is {w : World} {B : Nat} {v : Value} {k : Nat} {x : Nat → Pr} (h : ownPairs w B v k x) : pairsAt w v k x := by
  obtain ⟨U, hU, ho, hy⟩ := h
  obtain ⟨a, c, rfl, hc, hm, hg⟩ := ownsRow_slice ho
  refine ⟨a, c, rfl, hc, hm, fun i hi => ?_⟩
  obtain ⟨g, rfl, hlt, _, hcell⟩ := hg (by omega)
  obtain ⟨u, hu, hf⟩ := hy i hi
  obtain ⟨kc, vc, rfl, h1, h2⟩ := hf.now
  have hq := fun j hj => hcell _ _ (c2s_get U i j _ hu hj)
  refine ⟨g, 0, kc, vc, rfl, hlt, ?_, ?_, h1, h2⟩
  · have := hq 0 (by omega); rw [Nat.zero_add]; exact this
  · have := hq 1 (by omega); rw [Nat.zero_add]; exact this
theorem ownPairs.block {w : World} {B : Nat} {v : Value} {k : Nat} {x : Nat → Pr} (h : ownPairs w B v k x) (j : Nat) (hj : v.ownBlock = some j) : B ≤ j ∧ j < w.heap.size := by
  obtain ⟨U, _, ho, _⟩ := h
  exact ownsRow_block ho j hj
theorem ownPairs.below {w w' : World} {B C : Nat} {v : Value} {k : Nat} {x : Nat → Pr} (h : ownPairs w B v k x) (hb : Below C w w') (hC : w.heap.size ≤ C) : ownPairs w' B v k x := by
  obtain ⟨U, hU, ho, hy⟩ := h
  refine ⟨U, hU, ownsRow_far ho fun j hj => hb.block j (Nat.lt_of_lt_of_le (ownsRow_block ho j hj).2 hC), fun i hi => ?_⟩
  obtain ⟨u, hu, hs⟩ := hy i hi
  exact ⟨u, hu, hs.below hb hC⟩
theorem infoPr : (Tryd.prog.info? 38).map (fun i => (i.zero, i.size, i.bytes)) = some (some (.agg (rowV 2 prZ)), 2, 48) := by kernel_rfl
theorem build_pr1 (f : Nat → Value) (w : World) : (Instr.buildSlice 22 1 #[(0, .agg (rowV 2 f))]).run Tryd.prog w = .ok (.slice (some ⟨w.heap.size, 0, none⟩) 1 1) (w.alloc (.cells (rowV 2 f) 38)) := by
  show (_ : Result Value) = _
  kernel_rfl
theorem build_b0 (w : World) : (Instr.buildSlice 23 0 #[]).run Tryd.prog w = .ok (.slice (some ⟨w.heap.size, 0, none⟩) 0 0) (w.alloc (.cells #[] 5)) := by
  show (_ : Result Value) = _
  kernel_rfl
theorem exec_bslice0' {P : Program} {o : Oper} {ev : Operand → Value} {w w' : World} {v : Value} (t : TypeId) (n : Nat) (ho : o.op = .buildSlice t n #[])
    (hr : (Instr.buildSlice t n #[]).run P w = .ok v w') : (execOp ev o).run P w = .ok (.value v) w' := by
  unfold execOp
  simp only [ho, List.map_toArray, List.map_cons, List.map_nil, Sem.run_bind, hr, Result.andThen_ok, Sem.run_pure]
theorem newBytes.zero (w : World) (B : Nat) (hB : B ≤ w.heap.size) : newBytes (w.alloc (.cells #[] 5)) B (.slice (some ⟨w.heap.size, 0, none⟩) 0 0) [] :=
  ⟨⟨rfl, Or.inr ⟨w.heap.size, 0, #[], rfl, hB, blk_alloc_new _ _, Nat.le_refl _, by unfold maxLen; omega, rfl, rfl⟩⟩, fun i => by simp⟩
/-- append of one pair to pairs of one's own. -/
theorem pairs_append (w : World) (B : Nat) (v : Value) (k : Nat) (x : Nat → Pr) (hv : ownPairs w B v k x) (b : Nat) (u : Nat → Value) (hb : w.rowIs b 38 2 u) (hu : pairFar w B v u (x k)) (hn : k < 1000000) (hB : B ≤ w.heap.size) :
    ∃ v' w', (Builtin.append_ #[22, 22] 22 #[v, .slice (some ⟨b, 0, none⟩) 1 1]).run Tryd.prog w = .ok v' w' ∧ ownPairs w' B v' (k + 1) x ∧ w.grownBy w' v.ownBlock ∧ (v'.ownBlock = v.ownBlock ∨ v'.ownBlock = some w.heap.size) := by
  obtain ⟨U, hU, ho, hy⟩ := hv
  have h4 : ∀ j, j < 2 → (u j).oneCell' = true := by
    obtain ⟨kc, vc, rfl, h1, h2⟩ := hu.now
    obtain ⟨ka, kcap, rfl, _⟩ := h1.slice
    obtain ⟨va, vcap, rfl, _⟩ := h2.slice
    exact prG_one _ _ _ _ _ _
  obtain ⟨a', c', w', hr, ho', hg, hat⟩ := row_append (P := Tryd.prog) w 22 22 38 _ 2 48 Tryd.underlying22 infoPr (by simp [Value.cells, rowV_size]) (by omega)
    B v k _ ho (.slice (some ⟨b, 0, none⟩) 1 1) 1 (c2 u) rfl
    ⟨_, _, rfl, fun _ => ⟨b, 0, rfl, fun j x hj => by
      have hl : j < 2 := (List.getElem?_eq_some_iff.1 hj).1
      rw [c2_get _ _ hl] at hj
      rw [Nat.zero_add, ← Option.some.inj hj]; exact hb.cell hl⟩⟩
    (fun x hx => by
      obtain ⟨j, hj, rfl⟩ := List.mem_iff_getElem.1 hx
      have hl : j < 2 := hj
      have := c2_get u j hl
      rw [List.getElem?_eq_getElem hj] at this
      rw [Option.some.inj this]; exact h4 j hl) (by unfold maxLen; omega) (by omega) hB
  have hfar : ∀ (u' : Nat → Value) (s : Pr), pairFar w B v u' s → pairFar w' B (.slice a' (k + 1) c') u' s := fun u' s h z hz => h z ⟨Nat.le_trans hg.size hz.1, fun j hj hn hne => by
    have h1 := hg.block j hj (fun e => hn e.symm)
    refine (hz.2 j (Nat.lt_of_lt_of_le hj hg.size) (fun e => ?_) hne).trans h1
    rcases hat with h | h
    · rw [h] at e; exact hn e
    · rw [h] at e; have := Option.some.inj e; omega⟩
  refine ⟨_, w', hr, ⟨U ++ [u], by simp [hU], ?_, fun i hi => ?_⟩, hg, hat⟩
  · rw [List.flatMap_append, show [u].flatMap c2 = c2 u from List.append_nil _]; exact ho'
  · by_cases e : i < k
    · obtain ⟨u', hu', hf⟩ := hy i e
      exact ⟨u', by rw [List.getElem?_append_left (by omega)]; exact hu', hfar _ _ hf⟩
    · obtain rfl : i = k := by omega
      exact ⟨u, by rw [List.getElem?_append_right (by omega), hU, Nat.sub_self]; rfl, hfar _ _ hu⟩
/-- the two copies of a pair's parts, how far they are: none, an empty one, the whole. -/
def pq (wr W : World) (k v : Option (Value × List Int)) : Prop :=
  Below wr.heap.size wr W ∧ (∀ u l, k = some (u, l) → newBytes W wr.heap.size u l) ∧ (∀ u l, v = some (u, l) → newBytes W wr.heap.size u l) ∧ ∀ a la b lb, k = some (a, la) → v = some (b, lb) → ∀ j, a.ownBlock = some j → ¬ b.ownBlock = some j
theorem pq.swap {wr W : World} {k v : Option (Value × List Int)} (h : pq wr W k v) : pq wr W v k := ⟨h.1, h.2.2.1, h.2.1, fun a la b lb h1 h2 j hj hb => h.2.2.2 b lb a la h2 h1 j hb hj⟩
theorem pq.make {wr W : World} {v : Option (Value × List Int)} (h : pq wr W none v) : pq wr (W.alloc (.cells #[] 5)) (some (.slice (some ⟨W.heap.size, 0, none⟩) 0 0, [])) v := by
  have hb : Below W.heap.size W (W.alloc (.cells #[] 5)) := (Below.refl _ _).alloc (Nat.le_refl _) _
  have hs := h.1.size
  refine ⟨h.1.trans (hb.mono hs), fun u l e => ?_, fun u l e => (h.2.2.1 u l e).below hb (Nat.le_refl _), fun a la b lb e1 e2 j hj hk => ?_⟩
  · have e' := Option.some.inj e
    rw [← (Prod.mk.inj e').1, ← (Prod.mk.inj e').2]
    exact newBytes.zero W _ hs
  · have e' := Option.some.inj e1
    rw [← (Prod.mk.inj e').1] at hj
    have : W.heap.size = j := by simpa [Value.ownBlock] using hj
    have := ((h.2.2.1 b lb e2).block j hk).2
    omega
theorem pq.fill {wr W : World} {u y : Value} {m : List Int} {v : Option (Value × List Int)} (h : pq wr W (some (u, [])) v) (hy : anyBytes W y m) (hm : m.length ≤ 1000000) : ∃ u' W', (Builtin.append_ #[23, 23] 23 #[u, y]).run Tryd.prog W = .ok u' W' ∧ pq wr W' (some (u', m)) v := by
  have hn := h.2.1 u [] rfl
  obtain ⟨u', W', hr, hn', hg, hat⟩ := any_append_run W wr.heap.size u y [] m hn hy (by simp; omega) h.1.size
  have hb := below_grown hg (fun k hk => (hn.block k hk).1) h.1.size
  refine ⟨u', W', hr, h.1.trans hb, fun a l e => ?_, fun b lb e => ?_, fun a la b lb e1 e2 j hj hk => ?_⟩
  · have e' := Option.some.inj e
    rw [← (Prod.mk.inj e').1, ← (Prod.mk.inj e').2]
    rw [List.nil_append] at hn'; exact hn'
  · have h1 := h.2.2.1 b lb e
    exact h1.apart fun j hj => hg.block j (h1.block j hj).2 (fun e' => h.2.2.2 u [] b lb rfl e j e'.symm hj)
  · have e' := Option.some.inj e1
    rw [← (Prod.mk.inj e').1] at hj
    have h1 := h.2.2.1 b lb e2
    rcases hat with ha | ha
    · rw [ha] at hj; exact h.2.2.2 u [] b lb rfl e2 j hj hk
    · rw [ha] at hj; have := Option.some.inj hj; have := (h1.block j hk).2; omega
end Go.Proofs.YtgchnobifidjcaaDoor
