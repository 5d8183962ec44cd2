import Derived.ProofKit
import Derived.OpenShut
import Derived.Test.YtppfeilndcdoeabDoorRows
import Derived.ChangeSlices
import Derived.Deep.Slices
import Derived.Deep.Strs
import Derived.Test.YtppfeilndcdoeabDoorCards
import Derived.Deep.DeepHandedRow
import Derived.Lib.LaidTab
import Derived.Test.YtppfeilndcdoeabDoorOwn1
import Derived.Test.YtppfeilndcdoeabDoorOwn3
import Derived.Test.YtppfeilndcdoeabDoorOwn7
set_option linter.unusedVariables false
set_option linter.unusedSimpArgs false
/- The chapter's examples. -/
namespace Go.Proofs.YtppfeilndcdoeabDoor
set_option linter.unusedSimpArgs false
set_option linter.unusedVariables false
open Go.RowKit Go.Deep

theorem half_five : halfI 1 = 0 ∧ halfI 2 = 1 ∧ halfI 5 = 4 ∧ halfI 8 = 4 := by decide +kernel
theorem way_five : wayI 5 2 = [(4, true), (2, false), (1, true)] ∧ (wayI 5 0).length = 3 ∧ (wayI 5 4).length = 1 ∧ (wayI 5 5).length = 0 := by decide +kernel
theorem path_five (a b c d e : List Int) : pathI [a, b, c, d, e] 2 = [d, rootS [a, b], e] := by
  unfold pathI
  rw [show (([a, b, c, d, e] : List (List Int)).length : Int) = 5 from rfl, way_five.1]
  simp [downF, rootS_one]
theorem okLead_five (a b c d e : List Int) : okLead 5 2 (pathI [a, b, c, d, e] 2) = true ∧ okLead 5 4 [] = false := by
  rw [path_five]
  unfold okLead
  rw [way_five.1, way_five.2.2.1]
  constructor <;> simp [thereB]
theorem lead_five (a b c d e : List Int) : leadF (ups (wayI 5 2) (pathI [a, b, c, d, e] 2)) c = rootS [a, b, c, d, e] := by
  have h := lead_path 5 [a, b, c, d, e] 2 (by simp) (by simp)
  rw [show (2 : Int) = ((2 : Nat) : Int) from rfl, pathI_there (by simp)]
  exact h
theorem leaves_five : leavesL 5 = [leafS 0, leafS 1, leafS 2, leafS 3, leafS 4] := rfl
set_option maxHeartbeats 2000000 in
set_option maxRecDepth 100000 in
theorem awake_any (w : World) (ht : tabIs w) : Calls Tryd.prog 5 #[] w fun e w' => e = .returned (.bool true) ∧ Below w.heap.size w w' := by
  have hh := half_five
  have hw := way_five
  have X0 := leaves_any 5 (by omega) w
  have hz32 := zero_s32
  go_enter Tryd.func5, Tryd.ntmps5
  go_wp2_with fail
  refine X0.mono ?_
  rintro e w1 ⟨v1, rfl, n1, b1⟩
  clear X0
  rw [leaves_five] at n1
  have hs : ∀ i, i < 5 → isSum (leafS i) := fun i hi => leafS_sum (by omega)
  have P5 := path_five (leafS 0) (leafS 1) (leafS 2) (leafS 3) (leafS 4)
  have O5 := okLead_five (leafS 0) (leafS 1) (leafS 2) (leafS 3) (leafS 4)
  have L5 := lead_five (leafS 0) (leafS 1) (leafS 2) (leafS 3) (leafS 4)
  obtain ⟨a0, h0⟩ : ∃ q, q = leafS 0 := ⟨_, rfl⟩
  obtain ⟨a1, h1⟩ : ∃ q, q = leafS 1 := ⟨_, rfl⟩
  obtain ⟨a2, h2⟩ : ∃ q, q = leafS 2 := ⟨_, rfl⟩
  obtain ⟨a3, h3⟩ : ∃ q, q = leafS 3 := ⟨_, rfl⟩
  obtain ⟨a4, h4⟩ : ∃ q, q = leafS 4 := ⟨_, rfl⟩
  have s2 : isSum a2 := h2 ▸ hs 2 (by omega)
  have s3 : isSum a3 := h3 ▸ hs 3 (by omega)
  have s4 : isSum a4 := h4 ▸ hs 4 (by omega)
  rw [← h0, ← h1, ← h2, ← h3, ← h4] at n1 P5 O5 L5
  clear h0 h1 h2 h3 h4 hs
  have t1 := ht.below b1 ht.1
  have y1 := n1.is
  have X1 := path_k (fun _ => False) (.pointer none) [] 0 [a0, a1, a2, a3, a4] v1 2 w1 (by omega) (bkAt.none w1 [] 0) y1 (fun _ _ _ h => h) (by simp) t1 (fun h => h) (by simp) (by omega)
  obtain ⟨g1', c1, rfl, _, _, k1⟩ := ownsRow_slice n1.2
  obtain ⟨g1, rfl, hg1, _, hc1⟩ := k1 (by simp)
  have cell1 : ∀ i q, ([a0, a1, a2, a3, a4] : List (List Int))[i]? = some q → ∀ j, j < 32 → w1.cell? ⟨g1, i * 32 + j, none⟩ = some (arrV q j) := fun i q hi j hj => hc1 _ _ (sumsC_get _ i j q hi hj)
  have N1 : Hid _ := n1
  have B1 : Hid _ := b1
  have T1 : Hid _ := t1
  clear n1 b1 t1 hc1 k1
  simp only [List.length_cons, List.length_nil, Nat.zero_add, Nat.reduceAdd] at X1 y1 ⊢
  go_wp2_with fail
  refine X1.mono ?_
  rintro e w2 ⟨v2, Fi, rfl, n2, -, -, -, f2⟩
  clear X1
  have b2 := Fr.none f2
  have y2 := n2.is
  rw [P5] at n2
  have X2 := lead_yes (fun _ => False) (.pointer none) [] 0 5 2 (by omega) (by omega) a2 _ v2 w2 s2 (bkAt.none w2 [] 0) y2 (fun _ _ _ h => h) (tabIs.below T1.out b2 T1.out.1) (fun h => h) (by rw [P5]; simp) (by omega) (by rw [P5]; simp) O5.1
  rw [L5] at X2
  obtain ⟨g2', c2, rfl, _, _, k2⟩ := ownsRow_slice n2.2
  obtain ⟨g2, rfl, hg2, _, hc2⟩ := k2 (by simp)
  have cell2 : ∀ i q, ([a3, rootS [a0, a1], a4] : List (List Int))[i]? = some q → ∀ j, j < 32 → w2.cell? ⟨g2, i * 32 + j, none⟩ = some (arrV q j) := fun i q hi j hj => hc2 _ _ (sumsC_get _ i j q hi hj)
  have ld2 : ∀ j, j < 32 → w2.cell? ⟨g1, 64 + j, none⟩ = some (arrV a2 j) := fun j hj => (b2.cell (p := ⟨g1, 64 + j, none⟩) hg1).trans (cell1 2 a2 rfl j hj)
  have hR : isSum (rootS [a0, a1, a2, a3, a4]) := rootS_sum y1.1
  obtain ⟨R, hRe⟩ : ∃ R, R = rootS [a0, a1, a2, a3, a4] := ⟨_, rfl⟩
  rw [← hRe] at X2 hR
  unfold sumV at X2
  have B2 : Hid _ := b2
  have HRE : Hid _ := hRe
  have O52 : Hid _ := O5.2
  clear n2 f2 y2 hc2 k2 hRe P5 O5 L5
  simp only [List.length_cons, List.length_nil, Nat.zero_add, Nat.reduceAdd] at X2 ⊢
  go_wp2_with (first | (refine wpList_load_w 28 (.tmp 12) rfl rfl g1 64 32 (arrV a2) rfl _ Tryd.underlying28 rfl hi32' ld2 ?_))
  refine X2.mono ?_
  rintro e w3 ⟨rfl, -, f3⟩
  clear X2 ld2
  have b3 := Fr.none f3
  have r3 := rowIs_box w3 28 32 (fun _ => .int .u8 0)
  go_upto_region 4 with (first | (refine wpList_store_row rfl 28 _ _ rfl rfl w3.heap.size 0 32 (arrV R) rfl rfl hi32' (fun _ _ => rfl) _ _ _ r3 (by omega) ?_; intro w4 r4 hz4 hb4))
  have s4w : w4.heap.size = w3.heap.size + 1 := by rw [hz4]; simp
  have ba3 : Below w3.heap.size w3 (w3.alloc (.cells (rowV 32 (fun _ => .int .u8 0)) 28)) := (Below.refl _ _).alloc (Nat.le_refl _) _
  have b34 : Below w3.heap.size w3 w4 := ba3.trans ((hb4.mono (by simp)).below (Nat.le_refl _))
  have b14 : Below w1.heap.size w1 w4 := B2.out.trans ((b3.mono B2.out.size).trans (b34.mono (by have := B2.out.size; have := b3.size; omega)))
  have b24 : Below w2.heap.size w2 w4 := b3.trans (b34.mono b3.size)
  have rR4 : w4.rowIs w3.heap.size 28 32 (arrV R) := r4.congr fun i hi => by rw [if_pos (by omega), Nat.sub_zero]
  have ld4 : ∀ j, j < 32 → w4.cell? ⟨g1, 128 + j, none⟩ = some (arrV a4 j) := fun j hj => (b14.cell (p := ⟨g1, 128 + j, none⟩) hg1).trans (cell1 4 a4 rfl j hj)
  have X3 := lead_no (.pointer none) 5 4 (by omega) (by omega) a4 [] (.slice none 0 0) w4 (sumsAt.nil w4) (by simp) O52.out
  unfold sumV at X3
  have B14 : Hid _ := b14
  have B24 : Hid _ := b24
  have RR4 : Hid _ := rR4
  have S4 : Hid _ := s4w
  clear b3 r3 f3 ba3 b34 b14 b24 hz4 hb4 r4 rR4 s4w O52
  go_wp2_with (first | (refine wpList_load_w 28 (.tmp 20) rfl rfl g1 128 32 (arrV a4) rfl _ Tryd.underlying28 rfl hi32' ld4 ?_))
  refine X3.mono ?_
  rintro e w5 ⟨rfl, b5⟩
  clear X3 ld4
  have r5 := rowIs_box w5 28 32 (fun _ => .int .u8 0)
  have s5 := b5.size
  have B15 : Hid (Below w1.heap.size w1 w5) := (show Below w1.heap.size w1 w5 from B14.out.trans (b5.mono B14.out.size))
  have B25 : Hid (Below w2.heap.size w2 w5) := (show Below w2.heap.size w2 w5 from B24.out.trans (b5.mono B24.out.size))
  have RR5 : Hid (w5.rowIs w3.heap.size 28 32 (arrV R)) := (show w5.rowIs w3.heap.size 28 32 (arrV R) from b5.row RR4.out (by have := S4.out; omega))
  have L35 : Hid (w3.heap.size < w5.heap.size) := (show w3.heap.size < w5.heap.size from by have := S4.out; omega)
  clear b5 s5 B14 B24 RR4 S4
  go_wp2_with (first | (refine wpList_store_row rfl 28 _ _ rfl rfl w5.heap.size 0 32 (fun _ => .int .u8 0) rfl rfl hi32' (fun _ _ => rfl) _ _ _ r5 (by omega) ?_; intro w6 r6 hz6 hb6))
  have s6 : w6.heap.size = w5.heap.size + 1 := by rw [hz6]; simp
  have ba5 : Below w5.heap.size w5 (w5.alloc (.cells (rowV 32 (fun _ => .int .u8 0)) 28)) := (Below.refl _ _).alloc (Nat.le_refl _) _
  have b56 : Below w5.heap.size w5 w6 := ba5.trans ((hb6.mono (by simp)).below (Nat.le_refl _))
  have b16 : Below w1.heap.size w1 w6 := B15.out.trans (b56.mono B15.out.size)
  have b26 : Below w2.heap.size w2 w6 := B25.out.trans (b56.mono B25.out.size)
  have rR6 : w6.rowIs w3.heap.size 28 32 (arrV R) := b56.row RR5.out L35.out
  have z16 := b16.size
  have z26 := b26.size
  have l36 : w3.heap.size < w6.heap.size := by have := L35.out; omega
  have K1 : Hid (∀ wz, Below w6.heap.size w6 wz → sumsAt wz (.slice (some ⟨g1, 0, none⟩) 5 c1) [a0, a1, a2, a3, a4] ∧ tabIs wz) := (show _ from fun wz hz => ⟨(y1.below b16 (Nat.le_refl _)).below hz (Nat.le_refl _), tabIs.below (tabIs.below T1.out b16 T1.out.1) hz (by have := T1.out.1; omega)⟩)
  have LP0 : Hid (∀ wz, Below w6.heap.size w6 wz → ∀ j, j < 32 → wz.cell? ⟨g2, 0 + j, none⟩ = some (arrV a3 j)) := (show _ from fun wz hz j hj => ((hz.cell (p := ⟨g2, 0 + j, none⟩) (Nat.lt_of_lt_of_le hg2 z26)).trans (b26.cell (p := ⟨g2, 0 + j, none⟩) hg2)).trans (cell2 0 a3 rfl j hj))
  have LP2 : Hid (∀ wz, Below w6.heap.size w6 wz → ∀ j, j < 32 → wz.cell? ⟨g2, 64 + j, none⟩ = some (arrV a4 j)) := (show _ from fun wz hz j hj => ((hz.cell (p := ⟨g2, 64 + j, none⟩) (Nat.lt_of_lt_of_le hg2 z26)).trans (b26.cell (p := ⟨g2, 64 + j, none⟩) hg2)).trans (cell2 2 a4 rfl j hj))
  have LL3 : Hid (∀ wz, Below w6.heap.size w6 wz → ∀ j, j < 32 → wz.cell? ⟨g1, 96 + j, none⟩ = some (arrV a3 j)) := (show _ from fun wz hz j hj => ((hz.cell (p := ⟨g1, 96 + j, none⟩) (Nat.lt_of_lt_of_le hg1 z16)).trans (b16.cell (p := ⟨g1, 96 + j, none⟩) hg1)).trans (cell1 3 a3 rfl j hj))
  have LL4 : Hid (∀ wz, Below w6.heap.size w6 wz → ∀ j, j < 32 → wz.cell? ⟨g1, 128 + j, none⟩ = some (arrV a4 j)) := (show _ from fun wz hz j hj => ((hz.cell (p := ⟨g1, 128 + j, none⟩) (Nat.lt_of_lt_of_le hg1 z16)).trans (b16.cell (p := ⟨g1, 128 + j, none⟩) hg1)).trans (cell1 4 a4 rfl j hj))
  have LR : Hid (∀ wz, Below w6.heap.size w6 wz → ∀ j, j < 32 → wz.cell? ⟨w3.heap.size, 0 + j, none⟩ = some (arrV R j)) := (show _ from fun wz hz j hj => by rw [Nat.zero_add]; exact (hz.row rR6 l36).cell hj)
  have E3 : Hid (∀ wz : World, (Op.equalIn 10000 28 (.agg (rowV 32 (arrV a3))) (.agg (rowV 32 (arrV a3)))).run Tryd.prog wz = .ok true wz) := (show _ from fun wz => by have := run_eq_sums wz 9998 s3 s3; rwa [decide_eq_true rfl] at this)
  have E4 : Hid (∀ wz : World, (Op.equalIn 10000 28 (.agg (rowV 32 (arrV a4))) (.agg (rowV 32 (arrV a4)))).run Tryd.prog wz = .ok true wz) := (show _ from fun wz => by have := run_eq_sums wz 9998 s4 s4; rwa [decide_eq_true rfl] at this)
  have ER : Hid (∀ wz : World, (Op.equalIn 10000 28 (.agg (rowV 32 (arrV R))) (.agg (rowV 32 (arrV R)))).run Tryd.prog wz = .ok true wz) := (show _ from fun wz => by have := run_eq_sums wz 9998 hR hR; rwa [decide_eq_true rfl] at this)
  have BF : Hid (Below w.heap.size w w6) := (show Below w.heap.size w w6 from B1.out.trans (b16.mono B1.out.size))
  have ZF : Hid (w.heap.size ≤ w6.heap.size) := (show w.heap.size ≤ w6.heap.size from by have := B1.out.size; omega)
  clear s6 ba5 b56 b16 b26 rR6 z16 z26 l36 B15 B25 RR5 L35 hz6 hb6 r6 r5 y1 cell1 cell2 hg1 hg2 s2 s3 s4 hR T1 N1 B1 B2 hz32
  have HH : Hid _ := hh
  have HW : Hid _ := hw
  clear hh hw
  have hw6 : Below w6.heap.size w6 w6.drew := (Below.refl w6.heap.size w6).drew
  refine wp_region_noPanic ?_
  refine wp_region_held_drew (S := fun w' => Below w6.heap.size w6 w') (by kernel_rfl) hw6 (fun hHeld => ?_)
  have Y1 := half_any 1 (by omega) (by omega) w6.drew
  rw [HH.out.1] at Y1
  refine take_one (i := 0) rfl (by kernel_rfl) rfl (fun K hK => ?_)
  go_simp
  refine Calls.mono Y1 ?_
  rintro e wz ⟨rfl, hwz⟩
  obtain rfl := hwz.symm
  clear Y1 hwz
  refine hK.out _ _ hHeld (fun hHeld => ?_)
  clear hK K
  try simp only [Act.put, List.setIfInBounds_toArray, List.set_cons_zero, List.set_cons_succ]
  refine take_op (i := 1) (v := ?vz1) rfl (by kernel_rfl) (by kernel_rfl) (by kernel_rfl) (fun _ _ _ h => h) rfl hHeld ?yz1 ?rz1
  case yz1 => (intro wz hz; go_simp; first | done | with_reducible rfl)
  try simp only [Act.put, List.setIfInBounds_toArray, List.set_cons_zero, List.set_cons_succ]
  refine take_op (i := 2) (v := ?vz2) rfl (by kernel_rfl) (by kernel_rfl) (by kernel_rfl) (fun _ _ _ h => h) rfl hHeld ?yz2 ?rz2
  case yz2 => (intro wz hz; go_simp; first | done | with_reducible rfl)
  try simp only [Act.put, List.setIfInBounds_toArray, List.set_cons_zero, List.set_cons_succ]
  have Y2 := half_any 2 (by omega) (by omega) w6.drew
  rw [HH.out.2.1] at Y2
  refine take_one (i := 3) rfl (by kernel_rfl) rfl (fun K hK => ?_)
  go_simp
  refine Calls.mono Y2 ?_
  rintro e wz ⟨rfl, hwz⟩
  obtain rfl := hwz.symm
  clear Y2 hwz
  refine hK.out _ _ hHeld (fun hHeld => ?_)
  clear hK K
  try simp only [Act.put, List.setIfInBounds_toArray, List.set_cons_zero, List.set_cons_succ]
  refine take_op (i := 4) (v := ?vz4) rfl (by kernel_rfl) (by kernel_rfl) (by kernel_rfl) (fun _ _ _ h => h) rfl hHeld ?yz4 ?rz4
  case yz4 => (intro wz hz; go_simp; first | done | with_reducible rfl)
  try simp only [Act.put, List.setIfInBounds_toArray, List.set_cons_zero, List.set_cons_succ]
  refine take_op (i := 5) (v := ?vz5) rfl (by kernel_rfl) (by kernel_rfl) (by kernel_rfl) (fun _ _ _ h => h) rfl hHeld ?yz5 ?rz5
  case yz5 => (intro wz hz; go_simp; first | done | with_reducible rfl)
  try simp only [Act.put, List.setIfInBounds_toArray, List.set_cons_zero, List.set_cons_succ]
  refine take_op (i := 6) (v := ?vz6) rfl (by kernel_rfl) (by kernel_rfl) (by kernel_rfl) (fun _ _ _ h => h) rfl hHeld ?yz6 ?rz6
  case yz6 => (intro wz hz; go_simp; first | done | with_reducible rfl)
  try simp only [Act.put, List.setIfInBounds_toArray, List.set_cons_zero, List.set_cons_succ]
  have Y3 := half_any 5 (by omega) (by omega) w6.drew
  rw [HH.out.2.2.1] at Y3
  refine take_one (i := 7) rfl (by kernel_rfl) rfl (fun K hK => ?_)
  go_simp
  refine Calls.mono Y3 ?_
  rintro e wz ⟨rfl, hwz⟩
  obtain rfl := hwz.symm
  clear Y3 hwz
  refine hK.out _ _ hHeld (fun hHeld => ?_)
  clear hK K
  try simp only [Act.put, List.setIfInBounds_toArray, List.set_cons_zero, List.set_cons_succ]
  refine take_op (i := 8) (v := ?vz8) rfl (by kernel_rfl) (by kernel_rfl) (by kernel_rfl) (fun _ _ _ h => h) rfl hHeld ?yz8 ?rz8
  case yz8 => (intro wz hz; go_simp; first | done | with_reducible rfl)
  try simp only [Act.put, List.setIfInBounds_toArray, List.set_cons_zero, List.set_cons_succ]
  refine take_op (i := 9) (v := ?vz9) rfl (by kernel_rfl) (by kernel_rfl) (by kernel_rfl) (fun _ _ _ h => h) rfl hHeld ?yz9 ?rz9
  case yz9 => (intro wz hz; go_simp; first | done | with_reducible rfl)
  try simp only [Act.put, List.setIfInBounds_toArray, List.set_cons_zero, List.set_cons_succ]
  refine take_op (i := 10) (v := ?vz10) rfl (by kernel_rfl) (by kernel_rfl) (by kernel_rfl) (fun _ _ _ h => h) rfl hHeld ?yz10 ?rz10
  case yz10 => (intro wz hz; go_simp; first | done | with_reducible rfl)
  try simp only [Act.put, List.setIfInBounds_toArray, List.set_cons_zero, List.set_cons_succ]
  have Y4 := half_any 8 (by omega) (by omega) w6.drew
  rw [HH.out.2.2.2] at Y4
  refine take_one (i := 11) rfl (by kernel_rfl) rfl (fun K hK => ?_)
  go_simp
  refine Calls.mono Y4 ?_
  rintro e wz ⟨rfl, hwz⟩
  obtain rfl := hwz.symm
  clear Y4 hwz
  refine hK.out _ _ hHeld (fun hHeld => ?_)
  clear hK K
  try simp only [Act.put, List.setIfInBounds_toArray, List.set_cons_zero, List.set_cons_succ]
  refine take_op (i := 12) (v := ?vz12) rfl (by kernel_rfl) (by kernel_rfl) (by kernel_rfl) (fun _ _ _ h => h) rfl hHeld ?yz12 ?rz12
  case yz12 => (intro wz hz; go_simp; first | done | with_reducible rfl)
  try simp only [Act.put, List.setIfInBounds_toArray, List.set_cons_zero, List.set_cons_succ]
  refine take_op (i := 13) (v := ?vz13) rfl (by kernel_rfl) (by kernel_rfl) (by kernel_rfl) (fun _ _ _ h => h) rfl hHeld ?yz13 ?rz13
  case yz13 => (intro wz hz; go_simp; first | done | with_reducible rfl)
  try simp only [Act.put, List.setIfInBounds_toArray, List.set_cons_zero, List.set_cons_succ]
  refine take_op (i := 14) (v := ?vz14) rfl (by kernel_rfl) (by kernel_rfl) (by kernel_rfl) (fun _ _ _ h => h) rfl hHeld ?yz14 ?rz14
  case yz14 => (intro wz hz; go_simp; first | done | with_reducible rfl)
  try simp only [Act.put, List.setIfInBounds_toArray, List.set_cons_zero, List.set_cons_succ]
  have Y5 := depth_any 5 0 (by omega) (by omega) w6.drew
  rw [HW.out.2.1] at Y5
  refine take_one (i := 15) rfl (by kernel_rfl) rfl (fun K hK => ?_)
  go_simp
  refine Calls.mono Y5 ?_
  rintro e x5 ⟨rfl, bz⟩
  have bx5 : Below w6.heap.size w6 x5 := hHeld.trans (bz.mono hHeld.size)
  clear Y5 bz
  refine hK.out _ _ bx5 (fun hHeld => ?_)
  clear hK K bx5
  try simp only [Act.put, List.setIfInBounds_toArray, List.set_cons_zero, List.set_cons_succ]
  refine take_op (i := 16) (v := ?vz16) rfl (by kernel_rfl) (by kernel_rfl) (by kernel_rfl) (fun _ _ _ h => h) rfl hHeld ?yz16 ?rz16
  case yz16 => (intro wz hz; go_simp; first | done | with_reducible rfl)
  try simp only [Act.put, List.setIfInBounds_toArray, List.set_cons_zero, List.set_cons_succ]
  refine take_op (i := 17) (v := ?vz17) rfl (by kernel_rfl) (by kernel_rfl) (by kernel_rfl) (fun _ _ _ h => h) rfl hHeld ?yz17 ?rz17
  case yz17 => (intro wz hz; go_simp; first | done | with_reducible rfl)
  try simp only [Act.put, List.setIfInBounds_toArray, List.set_cons_zero, List.set_cons_succ]
  refine take_op (i := 18) (v := ?vz18) rfl (by kernel_rfl) (by kernel_rfl) (by kernel_rfl) (fun _ _ _ h => h) rfl hHeld ?yz18 ?rz18
  case yz18 => (intro wz hz; go_simp; first | done | with_reducible rfl)
  try simp only [Act.put, List.setIfInBounds_toArray, List.set_cons_zero, List.set_cons_succ]
  have Y6 := depth_any 5 4 (by omega) (by omega) x5
  rw [HW.out.2.2.1] at Y6
  refine take_one (i := 19) rfl (by kernel_rfl) rfl (fun K hK => ?_)
  go_simp
  refine Calls.mono Y6 ?_
  rintro e x6 ⟨rfl, bz⟩
  have bx6 : Below w6.heap.size w6 x6 := hHeld.trans (bz.mono hHeld.size)
  clear Y6 bz
  refine hK.out _ _ bx6 (fun hHeld => ?_)
  clear hK K bx6
  try simp only [Act.put, List.setIfInBounds_toArray, List.set_cons_zero, List.set_cons_succ]
  refine take_op (i := 20) (v := ?vz20) rfl (by kernel_rfl) (by kernel_rfl) (by kernel_rfl) (fun _ _ _ h => h) rfl hHeld ?yz20 ?rz20
  case yz20 => (intro wz hz; go_simp; first | done | with_reducible rfl)
  try simp only [Act.put, List.setIfInBounds_toArray, List.set_cons_zero, List.set_cons_succ]
  refine take_op (i := 21) (v := ?vz21) rfl (by kernel_rfl) (by kernel_rfl) (by kernel_rfl) (fun _ _ _ h => h) rfl hHeld ?yz21 ?rz21
  case yz21 => (intro wz hz; go_simp; first | done | with_reducible rfl)
  try simp only [Act.put, List.setIfInBounds_toArray, List.set_cons_zero, List.set_cons_succ]
  refine take_op (i := 22) (v := ?vz22) rfl (by kernel_rfl) (by kernel_rfl) (by kernel_rfl) (fun _ _ _ h => h) rfl hHeld ?yz22 ?rz22
  case yz22 => (intro wz hz; go_simp; first | done | with_reducible rfl)
  try simp only [Act.put, List.setIfInBounds_toArray, List.set_cons_zero, List.set_cons_succ]
  have Y7 := depth_any 5 5 (by omega) (by omega) x6
  rw [HW.out.2.2.2] at Y7
  refine take_one (i := 23) rfl (by kernel_rfl) rfl (fun K hK => ?_)
  go_simp
  refine Calls.mono Y7 ?_
  rintro e x7 ⟨rfl, bz⟩
  have bx7 : Below w6.heap.size w6 x7 := hHeld.trans (bz.mono hHeld.size)
  clear Y7 bz
  refine hK.out _ _ bx7 (fun hHeld => ?_)
  clear hK K bx7
  try simp only [Act.put, List.setIfInBounds_toArray, List.set_cons_zero, List.set_cons_succ]
  refine take_op (i := 24) (v := ?vz24) rfl (by kernel_rfl) (by kernel_rfl) (by kernel_rfl) (fun _ _ _ h => h) rfl hHeld ?yz24 ?rz24
  case yz24 => (intro wz hz; go_simp; first | done | with_reducible rfl)
  try simp only [Act.put, List.setIfInBounds_toArray, List.set_cons_zero, List.set_cons_succ]
  refine take_op (i := 25) (v := ?vz25) rfl (by kernel_rfl) (by kernel_rfl) (by kernel_rfl) (fun _ _ _ h => h) rfl hHeld ?yz25 ?rz25
  case yz25 => (intro wz hz; go_simp; first | done | with_reducible rfl)
  try simp only [Act.put, List.setIfInBounds_toArray, List.set_cons_zero, List.set_cons_succ]
  refine take_op (i := 26) (v := ?vz26) rfl (by kernel_rfl) (by kernel_rfl) (by kernel_rfl) (fun _ _ _ h => h) rfl hHeld ?yz26 ?rz26
  case yz26 => (intro wz hz; go_simp; first | done | with_reducible rfl)
  try simp only [Act.put, List.setIfInBounds_toArray, List.set_cons_zero, List.set_cons_succ]
  refine take_op (i := 27) (v := ?vz27) rfl (by kernel_rfl) (by kernel_rfl) (by kernel_rfl) (fun _ _ _ h => h) rfl hHeld ?yz27 ?rz27
  case yz27 => (intro wz hz; go_simp; first | done | with_reducible rfl)
  try simp only [Act.put, List.setIfInBounds_toArray, List.set_cons_zero, List.set_cons_succ]
  refine take_op (i := 28) (v := ?vz28) rfl (by kernel_rfl) (by kernel_rfl) (by kernel_rfl) (fun _ _ _ h => h) rfl hHeld ?yz28 ?rz28
  case yz28 => (intro wz hz; go_simp; first | done | with_reducible rfl)
  try simp only [Act.put, List.setIfInBounds_toArray, List.set_cons_zero, List.set_cons_succ]
  refine take_op (i := 29) (v := ?vz29) rfl (by kernel_rfl) (by kernel_rfl) (by kernel_rfl) (fun _ _ _ h => h) rfl hHeld ?yz29 ?rz29
  case yz29 => (intro wz hz; go_simp; first | done | with_reducible rfl)
  try simp only [Act.put, List.setIfInBounds_toArray, List.set_cons_zero, List.set_cons_succ]
  refine take_op (i := 30) (v := ?vz30) rfl (by kernel_rfl) (by kernel_rfl) (by kernel_rfl) (fun _ _ _ h => h) rfl hHeld ?yz30 ?rz30
  case yz30 => (intro wz hz; go_simp; first | done | with_reducible rfl)
  try simp only [Act.put, List.setIfInBounds_toArray, List.set_cons_zero, List.set_cons_succ]
  refine take_op (i := 31) (v := ?vz31) rfl (by kernel_rfl) (by kernel_rfl) (by kernel_rfl) (fun _ _ _ h => h) rfl hHeld ?yz31 ?rz31
  case yz31 => (intro wz hz; go_simp; first | done | with_reducible rfl)
  try simp only [Act.put, List.setIfInBounds_toArray, List.set_cons_zero, List.set_cons_succ]
  refine take_op (i := 32) (v := ?vz32) rfl (by kernel_rfl) (by kernel_rfl) (by kernel_rfl) (fun _ _ _ h => h) rfl hHeld ?yz32 ?rz32
  case yz32 => (intro wz hz; go_simp; first | done | with_reducible rfl)
  try simp only [Act.put, List.setIfInBounds_toArray, List.set_cons_zero, List.set_cons_succ]
  refine take_op (i := 33) (v := ?vz33) rfl (by kernel_rfl) (by kernel_rfl) (by kernel_rfl) (fun _ _ _ h => h) rfl hHeld ?yz33 ?rz33
  case yz33 => (intro wz hz; go_simp; first | done | with_reducible rfl)
  try simp only [Act.put, List.setIfInBounds_toArray, List.set_cons_zero, List.set_cons_succ]
  refine take_load (i := 34) rfl (by kernel_rfl) (by kernel_rfl) (by kernel_rfl) 28 _ rfl g2 0 32 (arrV a3) rfl _ Tryd.underlying28 rfl (by kernel_rfl) (fun _ _ _ h => h) rfl hHeld (fun wz hz => LP0.out wz hz) ?_
  try simp only [Act.put, List.setIfInBounds_toArray, List.set_cons_zero, List.set_cons_succ]
  refine take_op (i := 35) (v := ?vz35) rfl (by kernel_rfl) (by kernel_rfl) (by kernel_rfl) (fun _ _ _ h => h) rfl hHeld ?yz35 ?rz35
  case yz35 => (intro wz hz; go_simp; first | done | with_reducible rfl)
  try simp only [Act.put, List.setIfInBounds_toArray, List.set_cons_zero, List.set_cons_succ]
  refine take_op (i := 36) (v := ?vz36) rfl (by kernel_rfl) (by kernel_rfl) (by kernel_rfl) (fun _ _ _ h => h) rfl hHeld ?yz36 ?rz36
  case yz36 => (intro wz hz; go_simp; first | done | with_reducible rfl)
  try simp only [Act.put, List.setIfInBounds_toArray, List.set_cons_zero, List.set_cons_succ]
  refine take_load (i := 37) rfl (by kernel_rfl) (by kernel_rfl) (by kernel_rfl) 28 _ rfl g1 96 32 (arrV a3) rfl _ Tryd.underlying28 rfl (by kernel_rfl) (fun _ _ _ h => h) rfl hHeld (fun wz hz => LL3.out wz hz) ?_
  try simp only [Act.put, List.setIfInBounds_toArray, List.set_cons_zero, List.set_cons_succ]
  refine take_op (i := 38) (v := ?vz38) rfl (by kernel_rfl) (by kernel_rfl) (by kernel_rfl) (fun _ _ _ h => h) rfl hHeld ?yz38 ?rz38
  case yz38 => (intro wz hz; have hcz := E3.out wz; go_simp; first | done | with_reducible rfl)
  try simp only [Act.put, List.setIfInBounds_toArray, List.set_cons_zero, List.set_cons_succ]
  refine take_op (i := 39) (v := ?vz39) rfl (by kernel_rfl) (by kernel_rfl) (by kernel_rfl) (fun _ _ _ h => h) rfl hHeld ?yz39 ?rz39
  case yz39 => (intro wz hz; go_simp; first | done | with_reducible rfl)
  try simp only [Act.put, List.setIfInBounds_toArray, List.set_cons_zero, List.set_cons_succ]
  refine take_op (i := 40) (v := ?vz40) rfl (by kernel_rfl) (by kernel_rfl) (by kernel_rfl) (fun _ _ _ h => h) rfl hHeld ?yz40 ?rz40
  case yz40 => (intro wz hz; go_simp; first | done | with_reducible rfl)
  try simp only [Act.put, List.setIfInBounds_toArray, List.set_cons_zero, List.set_cons_succ]
  refine take_op (i := 41) (v := ?vz41) rfl (by kernel_rfl) (by kernel_rfl) (by kernel_rfl) (fun _ _ _ h => h) rfl hHeld ?yz41 ?rz41
  case yz41 => (intro wz hz; go_simp; first | done | with_reducible rfl)
  try simp only [Act.put, List.setIfInBounds_toArray, List.set_cons_zero, List.set_cons_succ]
  refine take_op (i := 42) (v := ?vz42) rfl (by kernel_rfl) (by kernel_rfl) (by kernel_rfl) (fun _ _ _ h => h) rfl hHeld ?yz42 ?rz42
  case yz42 => (intro wz hz; go_simp; first | done | with_reducible rfl)
  try simp only [Act.put, List.setIfInBounds_toArray, List.set_cons_zero, List.set_cons_succ]
  refine take_load (i := 43) rfl (by kernel_rfl) (by kernel_rfl) (by kernel_rfl) 28 _ rfl g2 64 32 (arrV a4) rfl _ Tryd.underlying28 rfl (by kernel_rfl) (fun _ _ _ h => h) rfl hHeld (fun wz hz => LP2.out wz hz) ?_
  try simp only [Act.put, List.setIfInBounds_toArray, List.set_cons_zero, List.set_cons_succ]
  refine take_op (i := 44) (v := ?vz44) rfl (by kernel_rfl) (by kernel_rfl) (by kernel_rfl) (fun _ _ _ h => h) rfl hHeld ?yz44 ?rz44
  case yz44 => (intro wz hz; go_simp; first | done | with_reducible rfl)
  try simp only [Act.put, List.setIfInBounds_toArray, List.set_cons_zero, List.set_cons_succ]
  refine take_op (i := 45) (v := ?vz45) rfl (by kernel_rfl) (by kernel_rfl) (by kernel_rfl) (fun _ _ _ h => h) rfl hHeld ?yz45 ?rz45
  case yz45 => (intro wz hz; go_simp; first | done | with_reducible rfl)
  try simp only [Act.put, List.setIfInBounds_toArray, List.set_cons_zero, List.set_cons_succ]
  refine take_load (i := 46) rfl (by kernel_rfl) (by kernel_rfl) (by kernel_rfl) 28 _ rfl g1 128 32 (arrV a4) rfl _ Tryd.underlying28 rfl (by kernel_rfl) (fun _ _ _ h => h) rfl hHeld (fun wz hz => LL4.out wz hz) ?_
  try simp only [Act.put, List.setIfInBounds_toArray, List.set_cons_zero, List.set_cons_succ]
  refine take_op (i := 47) (v := ?vz47) rfl (by kernel_rfl) (by kernel_rfl) (by kernel_rfl) (fun _ _ _ h => h) rfl hHeld ?yz47 ?rz47
  case yz47 => (intro wz hz; have hcz := E4.out wz; go_simp; first | done | with_reducible rfl)
  try simp only [Act.put, List.setIfInBounds_toArray, List.set_cons_zero, List.set_cons_succ]
  refine take_op (i := 48) (v := ?vz48) rfl (by kernel_rfl) (by kernel_rfl) (by kernel_rfl) (fun _ _ _ h => h) rfl hHeld ?yz48 ?rz48
  case yz48 => (intro wz hz; go_simp; first | done | with_reducible rfl)
  try simp only [Act.put, List.setIfInBounds_toArray, List.set_cons_zero, List.set_cons_succ]
  refine take_op (i := 49) (v := ?vz49) rfl (by kernel_rfl) (by kernel_rfl) (by kernel_rfl) (fun _ _ _ h => h) rfl hHeld ?yz49 ?rz49
  case yz49 => (intro wz hz; go_simp; first | done | with_reducible rfl)
  try simp only [Act.put, List.setIfInBounds_toArray, List.set_cons_zero, List.set_cons_succ]
  refine take_op (i := 50) (v := ?vz50) rfl (by kernel_rfl) (by kernel_rfl) (by kernel_rfl) (fun _ _ _ h => h) rfl hHeld ?yz50 ?rz50
  case yz50 => (intro wz hz; go_simp; first | done | with_reducible rfl)
  try simp only [Act.put, List.setIfInBounds_toArray, List.set_cons_zero, List.set_cons_succ]
  refine take_op (i := 51) (v := ?vz51) rfl (by kernel_rfl) (by kernel_rfl) (by kernel_rfl) (fun _ _ _ h => h) rfl hHeld ?yz51 ?rz51
  case yz51 => (intro wz hz; go_simp; first | done | with_reducible rfl)
  try simp only [Act.put, List.setIfInBounds_toArray, List.set_cons_zero, List.set_cons_succ]
  refine take_op (i := 52) (v := ?vz52) rfl (by kernel_rfl) (by kernel_rfl) (by kernel_rfl) (fun _ _ _ h => h) rfl hHeld ?yz52 ?rz52
  case yz52 => (intro wz hz; go_simp; first | done | with_reducible rfl)
  try simp only [Act.put, List.setIfInBounds_toArray, List.set_cons_zero, List.set_cons_succ]
  refine take_op (i := 53) (v := ?vz53) rfl (by kernel_rfl) (by kernel_rfl) (by kernel_rfl) (fun _ _ _ h => h) rfl hHeld ?yz53 ?rz53
  case yz53 => (intro wz hz; go_simp; first | done | with_reducible rfl)
  try simp only [Act.put, List.setIfInBounds_toArray, List.set_cons_zero, List.set_cons_succ]
  refine take_load (i := 54) rfl (by kernel_rfl) (by kernel_rfl) (by kernel_rfl) 28 _ rfl w3.heap.size 0 32 (arrV R) rfl _ Tryd.underlying28 rfl (by kernel_rfl) (fun _ _ _ h => h) rfl hHeld (fun wz hz => LR.out wz hz) ?_
  try simp only [Act.put, List.setIfInBounds_toArray, List.set_cons_zero, List.set_cons_succ]
  refine take_op (i := 55) (v := ?vz55) rfl (by kernel_rfl) (by kernel_rfl) (by kernel_rfl) (fun _ _ _ h => h) rfl hHeld ?yz55 ?rz55
  case yz55 => (intro wz hz; go_simp; first | done | with_reducible rfl)
  try simp only [Act.put, List.setIfInBounds_toArray, List.set_cons_zero, List.set_cons_succ]
  have Y8 := root_nil 1000 _ _ x7 (by simp) (Nat.le_refl _) (K1.out x7 hHeld).1 (K1.out x7 hHeld).2
  rw [← HRE.out] at Y8
  unfold sumV at Y8
  refine take_one (i := 56) rfl (by kernel_rfl) rfl (fun K hK => ?_)
  go_simp
  refine Calls.mono Y8 ?_
  rintro e x8 ⟨rfl, bz⟩
  have bx8 : Below w6.heap.size w6 x8 := hHeld.trans (bz.mono hHeld.size)
  clear Y8 bz
  refine hK.out _ _ bx8 (fun hHeld => ?_)
  clear hK K bx8
  try simp only [Act.put, List.setIfInBounds_toArray, List.set_cons_zero, List.set_cons_succ]
  refine take_op (i := 57) (v := ?vz57) rfl (by kernel_rfl) (by kernel_rfl) (by kernel_rfl) (fun _ _ _ h => h) rfl hHeld ?yz57 ?rz57
  case yz57 => (intro wz hz; have hcz := ER.out wz; go_simp; first | done | with_reducible rfl)
  try simp only [Act.put, List.setIfInBounds_toArray, List.set_cons_zero, List.set_cons_succ]
  refine take_op (i := 58) (v := ?vz58) rfl (by kernel_rfl) (by kernel_rfl) (by kernel_rfl) (fun _ _ _ h => h) rfl hHeld ?yz58 ?rz58
  case yz58 => (intro wz hz; go_simp; first | done | with_reducible rfl)
  try simp only [Act.put, List.setIfInBounds_toArray, List.set_cons_zero, List.set_cons_succ]
  refine take_op (i := 59) (v := ?vz59) rfl (by kernel_rfl) (by kernel_rfl) (by kernel_rfl) (fun _ _ _ h => h) rfl hHeld ?yz59 ?rz59
  case yz59 => (intro wz hz; go_simp; first | done | with_reducible rfl)
  try simp only [Act.put, List.setIfInBounds_toArray, List.set_cons_zero, List.set_cons_succ]
  refine take_load (i := 60) rfl (by kernel_rfl) (by kernel_rfl) (by kernel_rfl) 28 _ rfl w3.heap.size 0 32 (arrV R) rfl _ Tryd.underlying28 rfl (by kernel_rfl) (fun _ _ _ h => h) rfl hHeld (fun wz hz => LR.out wz hz) ?_
  try simp only [Act.put, List.setIfInBounds_toArray, List.set_cons_zero, List.set_cons_succ]
  refine take_op (i := 61) (v := ?vz61) rfl (by kernel_rfl) (by kernel_rfl) (by kernel_rfl) (fun _ _ _ h => h) rfl hHeld ?yz61 ?rz61
  case yz61 => (intro wz hz; go_simp; first | done | with_reducible rfl)
  try simp only [Act.put, List.setIfInBounds_toArray, List.set_cons_zero, List.set_cons_succ]
  have Y9 := rroot_any 1000 _ _ x8 (by simp) (Nat.le_refl _) (K1.out x8 hHeld).1
  rw [← HRE.out] at Y9
  unfold sumV at Y9
  refine take_one (i := 62) rfl (by kernel_rfl) rfl (fun K hK => ?_)
  go_simp
  refine Calls.mono Y9 ?_
  rintro e x9 ⟨rfl, bz⟩
  have bx9 : Below w6.heap.size w6 x9 := hHeld.trans (bz.mono hHeld.size)
  clear Y9 bz
  refine hK.out _ _ bx9 (fun hHeld => ?_)
  clear hK K bx9
  try simp only [Act.put, List.setIfInBounds_toArray, List.set_cons_zero, List.set_cons_succ]
  refine take_op (i := 63) (v := ?vz63) rfl (by kernel_rfl) (by kernel_rfl) (by kernel_rfl) (fun _ _ _ h => h) rfl hHeld ?yz63 ?rz63
  case yz63 => (intro wz hz; have hcz := ER.out wz; go_simp; first | done | with_reducible rfl)
  try simp only [Act.put, List.setIfInBounds_toArray, List.set_cons_zero, List.set_cons_succ]
  refine take_op (i := 64) (v := ?vz64) rfl (by kernel_rfl) (by kernel_rfl) (by kernel_rfl) (fun _ _ _ h => h) rfl hHeld ?yz64 ?rz64
  case yz64 => (intro wz hz; go_simp; first | done | with_reducible rfl)
  try simp only [Act.put, List.setIfInBounds_toArray, List.set_cons_zero, List.set_cons_succ]
  refine take_op (i := 65) (v := ?vz65) rfl (by kernel_rfl) (by kernel_rfl) (by kernel_rfl) (fun _ _ _ h => h) rfl hHeld ?yz65 ?rz65
  case yz65 => (intro wz hz; go_simp; first | done | with_reducible rfl)
  try simp only [Act.put, List.setIfInBounds_toArray, List.set_cons_zero, List.set_cons_succ]
  refine take_op (i := 66) (v := ?vz66) rfl (by kernel_rfl) (by kernel_rfl) (by kernel_rfl) (fun _ _ _ h => h) rfl hHeld ?yz66 ?rz66
  case yz66 => (intro wz hz; go_simp; first | done | with_reducible rfl)
  try simp only [Act.put, List.setIfInBounds_toArray, List.set_cons_zero, List.set_cons_succ]
  refine take_op (i := 67) (v := ?vz67) rfl (by kernel_rfl) (by kernel_rfl) (by kernel_rfl) (fun _ _ _ h => h) rfl hHeld ?yz67 ?rz67
  case yz67 => (intro wz hz; go_simp; first | done | with_reducible rfl)
  try simp only [Act.put, List.setIfInBounds_toArray, List.set_cons_zero, List.set_cons_succ]
  refine take_op (i := 68) (v := ?vz68) rfl (by kernel_rfl) (by kernel_rfl) (by kernel_rfl) (fun _ _ _ h => h) rfl hHeld ?yz68 ?rz68
  case yz68 => (intro wz hz; go_simp; first | done | with_reducible rfl)
  try simp only [Act.put, List.setIfInBounds_toArray, List.set_cons_zero, List.set_cons_succ]
  refine take_op (i := 69) (v := ?vz69) rfl (by kernel_rfl) (by kernel_rfl) (by kernel_rfl) (fun _ _ _ h => h) rfl hHeld ?yz69 ?rz69
  case yz69 => (intro wz hz; go_simp; first | done | with_reducible rfl)
  try simp only [Act.put, List.setIfInBounds_toArray, List.set_cons_zero, List.set_cons_succ]
  refine wpAnyH_done (by kernel_rfl) ?_ _
  refine NoPanic.normal ?_
  have HHELD : Hid _ := hHeld
  clear hHeld
  go_wp2
  go_ret
  exact ⟨rfl, BF.out.trans (Below.mono HHELD.out ZF.out)⟩
end Go.Proofs.YtppfeilndcdoeabDoor

/- TreeShort: its walk. -/
namespace Go.Proofs.YtppfeilndcdoeabDoor
set_option linter.unusedSimpArgs false
set_option linter.unusedVariables false
open Go.RowKit Go.Deep

theorem and_pow : ∀ k : Fin 63, bits .and .i64 ((2 ^ k.val : Nat) : Int) (((2 ^ k.val : Nat) : Int) - 1) = 0 := by decide +kernel
theorem half_and {n : Int} (h1 : 1 < n) (h2 : n ≤ 9223372036854775807) : bits .and .i64 (halfI n) (halfI n - 1) = 0 := by
  have hp : halfN n.toNat = 2 ^ Nat.log2 (n.toNat - 1) := halfN_pow (by omega)
  have hl : Nat.log2 (n.toNat - 1) < 63 := (Nat.log2_lt (by omega)).2 (by have : (2 : Nat) ^ 63 = 9223372036854775808 := rfl; omega)
  unfold halfI
  rw [hp]
  exact and_pow ⟨_, hl⟩
theorem quo_two (a : Nat) : Int.tdiv (a : Int) 2 = ((a / 2 : Nat) : Int) := by rw [Int.tdiv_eq_ediv_of_nonneg (by omega)]; omega
set_option maxHeartbeats 2000000 in
theorem treeShort_any (n at_ : Int) (hn : -9223372036854775808 ≤ n ∧ n ≤ 9223372036854775807) (ha : -9223372036854775808 ≤ at_ ∧ at_ ≤ 9223372036854775807) (w : World) (ht : tabIs w) :
    Calls Tryd.prog 4 #[.int .i64 n, .int .i64 at_] w fun e w' => e = .returned (.bool true) ∧ Below w.heap.size w w' := by
  have X1 := half_any n hn.1 hn.2 w
  have X2 := depth_any n at_ hn ha w
  have HT : Hid _ := ht
  have hsm : n < 2 → halfI n = 0 := fun h => halfI_small h
  have hbg : 1 < n → 1 ≤ halfI n ∧ halfI n < n ∧ n ≤ 2 * halfI n ∧ bits .and .i64 (halfI n) (halfI n - 1) = 0 := fun h => by
    have := halfI_is (n := n) (by omega)
    exact ⟨this.1, this.2.1, this.2.2, half_and h hn.2⟩
  generalize halfI n = h at X1 hsm hbg
  obtain ⟨d, hd⟩ : ∃ d : Nat, d = (wayI n at_).length := ⟨_, rfl⟩
  rw [← hd] at X2
  have HD : Hid _ := hd
  have HSM : Hid _ := hsm
  have HBG : Hid _ := hbg
  clear ht hd hsm hbg
  go_enter Tryd.func4, Tryd.ntmps4
  go_wp2_with fail
  refine X1.mono ?_
  rintro e w' ⟨rfl, hw⟩
  obtain rfl := hw.symm
  clear X1 hw
  go_wp2_with fail
  refine X2.mono ?_
  rintro e w1 ⟨rfl, b1⟩
  clear X2
  have X5 := awake_any w1 (tabIs.below HT.out b1 HT.out.1)
  have B1 : Hid _ := b1
  clear b1
  by_cases hth : 0 ≤ at_ ∧ at_ < n
  · obtain ⟨t0, t1⟩ := hth
    have hway : wayI n at_ = wayL n.toNat at_.toNat := by unfold wayI; rw [if_pos (by simp [thereB, t0, t1])]
    have HW : Hid _ := hway
    clear hway
    have t2 : ¬ at_ < 0 := by omega
    have t3 : ¬ n ≤ at_ := by omega
    obtain ⟨m, hm⟩ : ∃ m : Nat, n = (m : Int) + 1 := ⟨(n - 1).toNat, by omega⟩
    subst hm
    have m0 : (m : Int) ≤ 9223372036854775806 := by omega
    have hdle : ∀ k, m < 2 ^ k → d ≤ k := fun k hk => by
      rw [HD.out, HW.out]
      exact wayL_len k _ _ (by omega)
    have hm63 : m < 2 ^ 63 := by have : (2 : Nat) ^ 63 = 9223372036854775808 := rfl; omega
    have HDL : Hid _ := hdle
    have HM : Hid _ := hm63
    clear hdle hm63
    go_upto_region 6 with fail
    go_loopw [7, 8] (fun g x wr => ∃ k : Nat, g = .int .i64 (k : Int) ∧ x = .int .i64 ((m / 2 ^ k : Nat) : Int) ∧ k ≤ 63 ∧ wr = w1) (fun _ x _ => (intOf x).toNat)
    case atStart => exact ⟨0, rfl, by simp, by omega, rfl⟩
    case round =>
      obtain ⟨k, rfl, rfl, hk, rfl⟩ := hrel
      obtain ⟨x, hx⟩ : ∃ x, x = m / 2 ^ k := ⟨_, rfl⟩
      rw [← hx]
      have hxm : x ≤ m := by rw [hx]; exact Nat.div_le_self _ _
      by_cases h0 : 0 < x
      · have x0 : (0 : Int) < (x : Int) := by omega
        have hk2 : k < 63 := by
          have h1 : 2 ^ k ≤ m := by
            rw [hx] at h0
            exact (Nat.div_pos_iff.1 h0).2
          exact (Nat.pow_lt_pow_iff_right (by omega)).1 (Nat.lt_of_le_of_lt h1 HM.out)
        have hn2 : x / 2 = m / 2 ^ (k + 1) := by rw [hx, Nat.div_div_eq_div_mul, Nat.pow_succ]
        have k0 : (k : Int) < 63 := by omega
        have x1 : (x : Int) ≤ 9223372036854775806 := by omega
        have hq := quo_two x
        have HN2 : Hid _ := hn2
        clear hx hn2
        go_wp2
        go_light
        exact ⟨⟨k + 1, by go_num, by rw [← HN2.out, ← quo_two]; go_num, by omega, trivial⟩, by simp [intOf]; omega⟩
      · obtain rfl : x = 0 := by omega
        have hm2 : m < 2 ^ k := by
          have := (Nat.div_eq_zero_iff).1 hx.symm
          rcases this with h | h
          · have := Nat.two_pow_pos k; omega
          · exact h
        have hdk := HDL.out k hm2
        have d0 : ¬ (d : Int) < 0 := by omega
        have d1 : ¬ (k : Int) < (d : Int) := by omega
        clear hx hm2 hdk
        by_cases hm0 : m = 0
        · subst hm0
          have hh := HSM.out (by omega)
          subst hh
          go_wp2_with fail
          refine X5.mono ?_
          rintro e w2 ⟨rfl, b2⟩
          have B2 : Hid _ := b2
          clear X5 b2
          go_wp2
          go_ret
          exact ⟨rfl, B1.out.trans (Below.mono B2.out (Below.size B1.out))⟩
        · obtain ⟨e1, e2, e3, e4⟩ := HBG.out (by omega)
          have c1 : ¬ (m : Int) + 1 = 1 := by omega
          have c2 : (1 : Int) < (m : Int) + 1 := by omega
          have c3 : ¬ h < 1 := by omega
          have c4 : ¬ (m : Int) + 1 ≤ h := by omega
          have c5 : ¬ h < (m : Int) + 1 - h := by omega
          go_wp2_with fail
          refine X5.mono ?_
          rintro e w2 ⟨rfl, b2⟩
          have B2 : Hid _ := b2
          clear X5 b2
          go_wp2
          go_ret
          exact ⟨rfl, B1.out.trans (Below.mono B2.out (Below.size B1.out))⟩
  · have hway : wayI n at_ = [] := by
      unfold wayI
      rw [if_neg (fun h => hth (by simpa [thereB] using h))]
    have hd0 : d = 0 := by rw [HD.out, hway]; rfl
    subst hd0
    by_cases hc : at_ < 0
    · go_wp2_with fail
      refine X5.mono ?_
      rintro e w2 ⟨rfl, b2⟩
      have B2 : Hid _ := b2
      clear X5 b2
      go_wp2
      go_ret
      exact ⟨rfl, B1.out.trans (Below.mono B2.out (Below.size B1.out))⟩
    · have hc2 : n ≤ at_ := by omega
      go_wp2_with fail
      refine X5.mono ?_
      rintro e w2 ⟨rfl, b2⟩
      have B2 : Hid _ := b2
      clear X5 b2
      go_wp2
      go_ret
      exact ⟨rfl, B1.out.trans (Below.mono B2.out (Below.size B1.out))⟩
end Go.Proofs.YtppfeilndcdoeabDoor

/- The frame of a law's row: what was read reads behind the call as it did, where nothing old has turned. -/
namespace Go.Proofs.YtppfeilndcdoeabDoor
open Go.RowKit Go.Deep Go.ChangeShapes Go.WideShapes Go.ChangeAt

theorem below_trodAll {H : Type} {enc : TypeId × Value → H} {P : Program} (hl : laidOutB P = true) {W W' : World} (hb : Below W.heap.size W W') :
    ∀ {ts : List TypeId} {vs : List Value} {ds : List (DataW H)} {ps : List MemPlace}, (∀ t ∈ ts, P.readableRec t = true ∧ t < P.types.size) → DataW.TrodAll enc P W 0 (fun _ => true) true ts vs ds ps → (∀ x ∈ ps, x.block < W.heap.size) →
      DataW.TrodAll enc P W' 0 (fun b => decide (b < W.heap.size)) true ts vs ds ps
  | [], [], [], _, _, h, _ => h
  | t :: ts, v :: vs, d :: ds, ps, hts, h, hlt => by
    obtain ⟨p, q, h1, h2, e⟩ := h
    subst e
    exact ⟨p, q, Below.trod hl (hts t List.mem_cons_self).1 (hts t List.mem_cons_self).2 h1 hb (fun x hx => hlt x (List.mem_append_left _ hx)), below_trodAll hl hb (fun u hu => hts u (List.mem_cons_of_mem _ hu)) h2 (fun x hx => hlt x (List.mem_append_right _ hx)), rfl⟩

/-- WHAT A LAW's ROW ASKS BEHIND THE CALL, where the answer is true and nothing old has turned. -/
theorem law_post {H : Type} {enc : TypeId × Value → H} {P : Program} {spec : ChangeSpec} {f : Func} {W W' : World} {args : Array Value} {ds gs : List (DataW H)} {before : List MemPlace} {tb : TypeId}
    (hl : laidOutB P = true) (hts : ∀ t ∈ f.params.toList, P.readableRec t = true ∧ t < P.types.size) (hvars : spec.vars = []) (hres : f.resultTypes = #[tb]) (hbool : P.underlying tb = some .bool)
    (hspec : spec.fn H (ds ++ gs) = { results := [.lit (.bool true)], args := ds })
    (hW : DataW.Whole enc P f.params.toList spec.vars false W args.toList ds gs before) (hb : Below W.heap.size W W') : spec.post enc P f false true false false W args (.bool true) W' := by
  have hW' := hW
  have hlt := hW.lt
  obtain ⟨p, q, hA, hV, rfl, hfz, hnd⟩ := hW
  rw [hvars] at hV
  obtain ⟨rfl, rfl⟩ := trodVars_none hV
  refine ⟨ds, [], p ++ [], [], p, [], hW', ?_, ?_, ?_, ?_, fun h => by cases h⟩
  · rw [hspec, hres]
    exact trodAll_cons_mk (shut_bool hbool _) trodAll_mk0
  · rw [hspec]
    exact below_trodAll hl hb hts hA (fun x hx => hlt x (List.mem_append_left _ hx))
  · rw [hspec, hvars]; exact hV
  · exact hb.frame _

/-- AN ARRAY OF BYTES, opened. -/
theorem open_bytes {H : Type} {enc : TypeId × Value → H} {P : Program} {w : World} {base b0 : Nat} {sp : Nat → Bool} {held : Bool} {r : Reach} {t e : TypeId} {n : Nat} {v : Value} {d : DataW H} {ps : List MemPlace}
    (hu : P.underlying t = some (.array n e)) (he : P.underlying e = some (.int .u8)) (hc : P.cellsOf e = 1) (hct : P.cellsOf t = n) (hval : Value.okWide P w r b0 t v) (hd : DataW.Trod enc P w base sp held t v d ps) :
    ∃ f : Nat → Int, v = .agg (rowV n fun i => .int .u8 (f i)) ∧ ∀ i, 0 ≤ f i ∧ f i ≤ 255 := by
  unfold Value.okWide at hval
  rw [hu] at hval
  obtain ⟨cs, rfl, hsz, _⟩ := hval
  obtain ⟨fuel, hf⟩ := hd
  obtain ⟨xs, m, rfl, _, hlen, _, hx⟩ := DataW.trod_array hu hf
  simp only [Value.cells] at hx hlen
  have hget : ∀ i, i < n → ∃ z : Int, cs[i]? = some (.int .u8 z) ∧ 0 ≤ z ∧ z ≤ 255 := fun i hi => by
    have h1 := hx i hi
    rw [hc, Nat.mul_one] at h1
    have hxi : i < xs.length := by omega
    rw [List.getElem?_eq_getElem hxi] at h1
    obtain ⟨z, hz, _, hw⟩ := DataW.trod_int he h1
    refine ⟨z, ?_, bounds_u8 hw⟩
    have hcs : cs.toList[i]? = some (.int .u8 z) := by
      have := congrArg (fun l => l[0]?) hz
      simpa [List.getElem?_take, List.getElem?_drop] using this
    rw [← Array.getElem?_toList]; exact hcs
  refine ⟨fun i => if h : i < n then Classical.choose (hget i h) else 0, ?_, fun i => ?_⟩
  · congr 1
    refine rowV_eq (by omega) fun i hi => ?_
    dsimp only
    rw [dif_pos hi]; exact (Classical.choose_spec (hget i hi)).1
  · dsimp only
    by_cases h : i < n
    · rw [dif_pos h]; exact (Classical.choose_spec (hget i h)).2
    · rw [dif_neg h]; omega
end Go.Proofs.YtppfeilndcdoeabDoor

/- The frame of a law's row, where no package variable is laid. -/
namespace Go.Proofs.YtppfeilndcdoeabDoor
open Go.RowKit Go.Deep Go.ChangeShapes Go.WideShapes Go.ChangeAt
theorem own : ownKnob Tryd.prog.godebug = none := by kernel_rfl
theorem laidOut : laidOutB Tryd.prog = true := by kernel_rfl
theorem bounds_u64 {a : Int} (h : (Lit.int .u64 a).wf = true) : 0 ≤ a ∧ a < 18446744073709551616 := by
  have h' : 0 ≤ a ∧ a ≤ 18446744073709551615 := by simpa [Lit.wf, IntKind.min, IntKind.max, IntKind.signed, IntKind.bits] using h
  omega
end Go.Proofs.YtppfeilndcdoeabDoor

/- Slices that came in, opened. -/
namespace Go.Proofs.YtppfeilndcdoeabDoor
open Go.RowKit Go.Deep Go.ChangeShapes Go.WideShapes

theorem bounds_i64 {a : Int} (h : (Lit.int .i64 a).wf = true) : -9223372036854775808 ≤ a ∧ a ≤ 9223372036854775807 := by
  simpa [Lit.wf, IntKind.min, IntKind.max, IntKind.signed, IntKind.bits] using h
/-- A SLICE, opened at every index. -/
theorem open_any {H : Type} {enc : TypeId × Value → H} {P : Program} {w : World} {base b0 : Nat} {sp : Nat → Bool} {held : Bool} {r : Reach} {t e : TypeId} {v : Value} {d : DataW H} {ps : List MemPlace} (c : Nat)
    (hu : P.underlying t = some (.slice e)) (hc : P.cellsOf e = c) (hval : Value.okWide P w r b0 t v) (hd : DataW.Trod enc P w base sp held t v d ps) :
    (v = .slice none 0 0) ∨ ∃ pb po len cap : Nat, v = .slice (some ⟨pb, po, none⟩) len cap ∧ len ≤ cap ∧ cap ≤ maxLen ∧ pb < w.heap.size ∧
      ∀ i, i < len → ∃ (cs' : List Value) (n : Nat) (D : DataW H × List MemPlace), cs'.length = c ∧ (∀ j, j < c → w.cell? ⟨pb, po + i * c + j, none⟩ = cs'[j]?) ∧ DataW.trod enc P w base sp held n e cs' = some D := by
  obtain ⟨a, len, cap, rfl⟩ := okWide_slice hu hval
  obtain ⟨fuel, hf⟩ := hd
  rcases open_slice hu hf with ⟨h0, _⟩ | ⟨a', len', cap', m, n, D, Pl, h0, _, h1, h2, h3, _, h4⟩
  · left; simpa [Value.cells] using h0
  · right
    have h0' : a = some a' ∧ len = len' ∧ cap = cap' := by simpa [Value.cells] using h0
    obtain ⟨rfl, rfl, rfl⟩ := h0'
    have hlm : len ≤ m := by rw [h3]; split <;> omega
    simp only [Value.okWide, hu, Cell.okWide, Cell.ok] at hval
    obtain ⟨_, _, _, hsp, row, cells, hsh, _⟩ := hval
    obtain ⟨pb, po, spot⟩ := a'
    obtain rfl : spot = none := hsp
    refine ⟨pb, po, len, cap, rfl, h1, h2, ?_, fun i hi => ?_⟩
    · unfold World.shape? at hsh
      cases hq : w.heap[pb]? with
      | none => rw [hq] at hsh; cases hsh
      | some o => exact (Array.getElem?_eq_some_iff.1 hq).1
    · obtain ⟨cs', g1, g2⟩ := h4 i (by omega)
      rw [hc] at g1
      obtain ⟨_, hlen, hcell⟩ := World.cells?_some g1
      refine ⟨cs', n, _, hlen, fun j hj => ?_, g2⟩
      have e0 := hcell j (by omega)
      rw [add_add, Addr.add_mid] at e0
      rw [Nat.add_assoc]; exact e0
theorem open_bytes_slice {H : Type} {enc : TypeId × Value → H} {P : Program} {w : World} {base b0 : Nat} {sp : Nat → Bool} {held : Bool} {r : Reach} {t e : TypeId} {v : Value} {d : DataW H} {ps : List MemPlace}
    (hu : P.underlying t = some (.slice e)) (he : P.underlying e = some (.int .u8)) (hc : P.cellsOf e = 1) (hval : Value.okWide P w r b0 t v) (hd : DataW.Trod enc P w base sp held t v d ps) : ∃ l, isBytes w v l := by
  rcases open_any 1 hu hc hval hd with rfl | ⟨pb, po, len, cap, rfl, h1, h2, h3, h4⟩
  · exact ⟨[], Or.inl ⟨rfl, rfl⟩⟩
  · have each : ∀ i, i < len → ∃ z : Int, w.cell? ⟨pb, po + i, none⟩ = some (.int .u8 z) ∧ 0 ≤ z ∧ z ≤ 255 := fun i hi => by
      obtain ⟨cs', n, D, g1, g2, g3⟩ := h4 i hi
      obtain ⟨z, rfl, _, hw⟩ := DataW.trod_int he g3
      have := g2 0 (by omega)
      rw [Nat.mul_one, Nat.add_zero] at this
      exact ⟨z, this, bounds_u8 hw⟩
    obtain ⟨f, hf⟩ := choose_lt each
    have hg : ∀ i, i < len → ((List.range len).map f).getD i 0 = f i := fun i hi => by
      rw [List.getD_eq_getElem?_getD, List.getElem?_map, List.getElem?_range hi]; rfl
    refine ⟨(List.range len).map f, Or.inr ⟨pb, po, cap, by simp, by simpa using h1, h2, h3, fun i hi => ?_, fun i => ?_⟩⟩
    · have hi' : i < len := by simpa using hi
      rw [hg i hi']; exact (hf i hi').1
    · by_cases hi : i < len
      · rw [hg i hi]; exact (hf i hi).2
      · rw [List.getD_eq_getElem?_getD, List.getElem?_eq_none (by simp; omega)]; exact ⟨by simp, by simp⟩
end Go.Proofs.YtppfeilndcdoeabDoor

/- The table of the rounds' constants, as the row lists it; a world that holds it, for the witness. -/
namespace Go.Proofs.YtppfeilndcdoeabDoor
set_option maxRecDepth 100000
open Go.RowKit Go.Deep Go.ChangeShapes Go.WideShapes Go.ChangeAt

/-- the table's name. -/
def tabName : String := Rows.treeUnlikeRow.named.getD 0 ""
theorem gTab : Tryd.prog.globalNamed tabName = some 0 := by kernel_rfl
theorem gTabType : (Tryd.prog.globals[0]?).map (·.type) = some 105 := by kernel_rfl
theorem cellsTab : Tryd.prog.cellsOf 105 = 64 := by kernel_rfl
theorem cellsWord : Tryd.prog.cellsOf 67 = 1 := by kernel_rfl
/-- what the row's list gives. -/
theorem laid_tab {W : World} (h : laidMetH Tryd.prog Rows.treeUnlikeRow.laid W) : tabIs W := by
  have ht : Lib.TabIs Tryd.prog W tabName .u32 kList := Lib.tabIs_of_head (rest := []) gTab gTabType Tryd.underlying105 Tryd.underlying67 cellsWord cellsTab h
  refine ⟨?_, fun i hi => ht.cell gTab i (by simpa [kList] using hi)⟩
  have h0 := ht.cell gTab 0 (by decide)
  exact block_lt_of_cell h0
/-- the table's block, laid. -/
def kObj : Obj → Obj
  | .cells _ t frozen => .cells #[.int .u32 1116352408, .int .u32 1899447441, .int .u32 3049323471, .int .u32 3921009573, .int .u32 961987163, .int .u32 1508970993, .int .u32 2453635748, .int .u32 2870763221, .int .u32 3624381080, .int .u32 310598401, .int .u32 607225278, .int .u32 1426881987, .int .u32 1925078388, .int .u32 2162078206, .int .u32 2614888103, .int .u32 3248222580, .int .u32 3835390401, .int .u32 4022224774, .int .u32 264347078, .int .u32 604807628, .int .u32 770255983, .int .u32 1249150122, .int .u32 1555081692, .int .u32 1996064986, .int .u32 2554220882, .int .u32 2821834349, .int .u32 2952996808, .int .u32 3210313671, .int .u32 3336571891, .int .u32 3584528711, .int .u32 113926993, .int .u32 338241895, .int .u32 666307205, .int .u32 773529912, .int .u32 1294757372, .int .u32 1396182291, .int .u32 1695183700, .int .u32 1986661051, .int .u32 2177026350, .int .u32 2456956037, .int .u32 2730485921, .int .u32 2820302411, .int .u32 3259730800, .int .u32 3345764771, .int .u32 3516065817, .int .u32 3600352804, .int .u32 4094571909, .int .u32 275423344, .int .u32 430227734, .int .u32 506948616, .int .u32 659060556, .int .u32 883997877, .int .u32 958139571, .int .u32 1322822218, .int .u32 1537002063, .int .u32 1747873779, .int .u32 1955562222, .int .u32 2024104815, .int .u32 2227730452, .int .u32 2361852424, .int .u32 2428436474, .int .u32 2756734187, .int .u32 3204031479, .int .u32 3329325298] t frozen
  | o => o
end Go.Proofs.YtppfeilndcdoeabDoor
