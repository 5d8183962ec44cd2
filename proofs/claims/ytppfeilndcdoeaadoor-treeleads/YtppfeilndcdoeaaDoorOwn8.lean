import Derived.ProofKit
import Derived.OpenShut
import Derived.Test.YtppfeilndcdoeaaDoorOwn1
import Derived.Test.YtppfeilndcdoeaaDoorOwn3
import Derived.Test.YtppfeilndcdoeaaDoorOwn5
import Derived.Test.YtppfeilndcdoeaaDoorOwn7
set_option linter.unusedVariables false
set_option linter.unusedSimpArgs false
/- The chapter's examples. -/
namespace Go.Proofs.YtppfeilndcdoeaaDoor
set_option linter.unusedSimpArgs false
set_option linter.unusedVariables false
open Go.RowKit Go.Deep

theorem half_five : halfI 1 = 0 ∧ halfI 2 = 1 ∧ halfI 5 = 4 ∧ halfI 8 = 4 := by decide +kernel
theorem way_five : wayI 5 2 = [(4, true), (2, false), (1, true)] ∧ (wayI 5 0).length = 3 ∧ (wayI 5 4).length = 1 ∧ (wayI 5 5).length = 0 := by decide +kernel
theorem path_five (a b c d e : List Int) : pathI [a, b, c, d, e] 2 = [d, rootS [a, b], e] := by
  unfold pathI
  rw [show (([a, b, c, d, e] : List (List Int)).length : Int) = 5 from rfl, way_five.1]
  simp [downF, rootS_one]
theorem okLead_five (a b c d e : List Int) : okLead 5 2 (pathI [a, b, c, d, e] 2) = true ∧ okLead 5 4 [] = false := by
  rw [path_five]
  unfold okLead
  rw [way_five.1, way_five.2.2.1]
  constructor <;> simp [thereB]
theorem lead_five (a b c d e : List Int) : leadF (ups (wayI 5 2) (pathI [a, b, c, d, e] 2)) c = rootS [a, b, c, d, e] := by
  have h := lead_path 5 [a, b, c, d, e] 2 (by simp) (by simp)
  rw [show (2 : Int) = ((2 : Nat) : Int) from rfl, pathI_there (by simp)]
  exact h
theorem leaves_five : leavesL 5 = [leafS 0, leafS 1, leafS 2, leafS 3, leafS 4] := rfl
set_option maxHeartbeats 2000000 in
set_option maxRecDepth 100000 in
theorem awake_any (w : World) (ht : tabIs w) : Calls Tryd.prog 9 #[] w fun e w' => e = .returned (.bool true) ∧ Below w.heap.size w w' := by
  have hh := half_five
  have hw := way_five
  have X0 := leaves_any 5 (by omega) w
  have hz32 := zero_s32
  go_enter Tryd.func9, Tryd.ntmps9
  go_wp2_with fail
  refine X0.mono ?_
  rintro e w1 ⟨v1, rfl, n1, b1⟩
  clear X0
  rw [leaves_five] at n1
  have hs : ∀ i, i < 5 → isSum (leafS i) := fun i hi => leafS_sum (by omega)
  have P5 := path_five (leafS 0) (leafS 1) (leafS 2) (leafS 3) (leafS 4)
  have O5 := okLead_five (leafS 0) (leafS 1) (leafS 2) (leafS 3) (leafS 4)
  have L5 := lead_five (leafS 0) (leafS 1) (leafS 2) (leafS 3) (leafS 4)
  obtain ⟨a0, h0⟩ : ∃ q, q = leafS 0 := ⟨_, rfl⟩
  obtain ⟨a1, h1⟩ : ∃ q, q = leafS 1 := ⟨_, rfl⟩
  obtain ⟨a2, h2⟩ : ∃ q, q = leafS 2 := ⟨_, rfl⟩
  obtain ⟨a3, h3⟩ : ∃ q, q = leafS 3 := ⟨_, rfl⟩
  obtain ⟨a4, h4⟩ : ∃ q, q = leafS 4 := ⟨_, rfl⟩
  have s2 : isSum a2 := h2 ▸ hs 2 (by omega)
  have s3 : isSum a3 := h3 ▸ hs 3 (by omega)
  have s4 : isSum a4 := h4 ▸ hs 4 (by omega)
  rw [← h0, ← h1, ← h2, ← h3, ← h4] at n1 P5 O5 L5
  clear h0 h1 h2 h3 h4 hs
  have t1 := ht.below b1 ht.1
  have y1 := n1.is
  have X1 := path_k (fun _ => False) (.pointer none) [] 0 [a0, a1, a2, a3, a4] v1 2 w1 (by omega) (bkAt.none w1 [] 0) y1 (fun _ _ _ h => h) (by simp) t1 (fun h => h) (by simp) (by omega)
  obtain ⟨g1', c1, rfl, _, _, k1⟩ := ownsRow_slice n1.2
  obtain ⟨g1, rfl, hg1, _, hc1⟩ := k1 (by simp)
  have cell1 : ∀ i q, ([a0, a1, a2, a3, a4] : List (List Int))[i]? = some q → ∀ j, j < 32 → w1.cell? ⟨g1, i * 32 + j, none⟩ = some (arrV q j) := fun i q hi j hj => hc1 _ _ (sumsC_get _ i j q hi hj)
  have N1 : Hid _ := n1
  have B1 : Hid _ := b1
  have T1 : Hid _ := t1
  clear n1 b1 t1 hc1 k1
  simp only [List.length_cons, List.length_nil, Nat.zero_add, Nat.reduceAdd] at X1 y1 ⊢
  go_wp2_with fail
  refine X1.mono ?_
  rintro e w2 ⟨v2, Fi, rfl, n2, -, -, -, f2⟩
  clear X1
  have b2 := Fr.none f2
  have y2 := n2.is
  rw [P5] at n2
  have X2 := lead_yes (fun _ => False) (.pointer none) [] 0 5 2 (by omega) (by omega) a2 _ v2 w2 s2 (bkAt.none w2 [] 0) y2 (fun _ _ _ h => h) (tabIs.below T1.out b2 T1.out.1) (fun h => h) (by rw [P5]; simp) (by omega) (by rw [P5]; simp) O5.1
  rw [L5] at X2
  obtain ⟨g2', c2, rfl, _, _, k2⟩ := ownsRow_slice n2.2
  obtain ⟨g2, rfl, hg2, _, hc2⟩ := k2 (by simp)
  have cell2 : ∀ i q, ([a3, rootS [a0, a1], a4] : List (List Int))[i]? = some q → ∀ j, j < 32 → w2.cell? ⟨g2, i * 32 + j, none⟩ = some (arrV q j) := fun i q hi j hj => hc2 _ _ (sumsC_get _ i j q hi hj)
  have ld2 : ∀ j, j < 32 → w2.cell? ⟨g1, 64 + j, none⟩ = some (arrV a2 j) := fun j hj => (b2.cell (p := ⟨g1, 64 + j, none⟩) hg1).trans (cell1 2 a2 rfl j hj)
  have hR : isSum (rootS [a0, a1, a2, a3, a4]) := rootS_sum y1.1
  obtain ⟨R, hRe⟩ : ∃ R, R = rootS [a0, a1, a2, a3, a4] := ⟨_, rfl⟩
  rw [← hRe] at X2 hR
  unfold sumV at X2
  have B2 : Hid _ := b2
  have HRE : Hid _ := hRe
  have O52 : Hid _ := O5.2
  clear n2 f2 y2 hc2 k2 hRe P5 O5 L5
  simp only [List.length_cons, List.length_nil, Nat.zero_add, Nat.reduceAdd] at X2 ⊢
  go_wp2_with (first | (refine wpList_load_w 28 (.tmp 12) rfl rfl g1 64 32 (arrV a2) rfl _ Tryd.underlying28 rfl hi32' ld2 ?_))
  refine X2.mono ?_
  rintro e w3 ⟨rfl, -, f3⟩
  clear X2 ld2
  have b3 := Fr.none f3
  have r3 := rowIs_box w3 28 32 (fun _ => .int .u8 0)
  go_upto_region 4 with (first | (refine wpList_store_row rfl 28 _ _ rfl rfl w3.heap.size 0 32 (arrV R) rfl rfl hi32' (fun _ _ => rfl) _ _ _ r3 (by omega) ?_; intro w4 r4 hz4 hb4))
  have s4w : w4.heap.size = w3.heap.size + 1 := by rw [hz4]; simp
  have ba3 : Below w3.heap.size w3 (w3.alloc (.cells (rowV 32 (fun _ => .int .u8 0)) 28)) := (Below.refl _ _).alloc (Nat.le_refl _) _
  have b34 : Below w3.heap.size w3 w4 := ba3.trans ((hb4.mono (by simp)).below (Nat.le_refl _))
  have b14 : Below w1.heap.size w1 w4 := B2.out.trans ((b3.mono B2.out.size).trans (b34.mono (by have := B2.out.size; have := b3.size; omega)))
  have b24 : Below w2.heap.size w2 w4 := b3.trans (b34.mono b3.size)
  have rR4 : w4.rowIs w3.heap.size 28 32 (arrV R) := r4.congr fun i hi => by rw [if_pos (by omega), Nat.sub_zero]
  have ld4 : ∀ j, j < 32 → w4.cell? ⟨g1, 128 + j, none⟩ = some (arrV a4 j) := fun j hj => (b14.cell (p := ⟨g1, 128 + j, none⟩) hg1).trans (cell1 4 a4 rfl j hj)
  have X3 := lead_no (.pointer none) 5 4 (by omega) (by omega) a4 [] (.slice none 0 0) w4 (sumsAt.nil w4) (by simp) O52.out
  unfold sumV at X3
  have B14 : Hid _ := b14
  have B24 : Hid _ := b24
  have RR4 : Hid _ := rR4
  have S4 : Hid _ := s4w
  clear b3 r3 f3 ba3 b34 b14 b24 hz4 hb4 r4 rR4 s4w O52
  go_wp2_with (first | (refine wpList_load_w 28 (.tmp 20) rfl rfl g1 128 32 (arrV a4) rfl _ Tryd.underlying28 rfl hi32' ld4 ?_))
  refine X3.mono ?_
  rintro e w5 ⟨rfl, b5⟩
  clear X3 ld4
  have r5 := rowIs_box w5 28 32 (fun _ => .int .u8 0)
  have s5 := b5.size
  have B15 : Hid (Below w1.heap.size w1 w5) := (show Below w1.heap.size w1 w5 from B14.out.trans (b5.mono B14.out.size))
  have B25 : Hid (Below w2.heap.size w2 w5) := (show Below w2.heap.size w2 w5 from B24.out.trans (b5.mono B24.out.size))
  have RR5 : Hid (w5.rowIs w3.heap.size 28 32 (arrV R)) := (show w5.rowIs w3.heap.size 28 32 (arrV R) from b5.row RR4.out (by have := S4.out; omega))
  have L35 : Hid (w3.heap.size < w5.heap.size) := (show w3.heap.size < w5.heap.size from by have := S4.out; omega)
  clear b5 s5 B14 B24 RR4 S4
  go_wp2_with (first | (refine wpList_store_row rfl 28 _ _ rfl rfl w5.heap.size 0 32 (fun _ => .int .u8 0) rfl rfl hi32' (fun _ _ => rfl) _ _ _ r5 (by omega) ?_; intro w6 r6 hz6 hb6))
  have s6 : w6.heap.size = w5.heap.size + 1 := by rw [hz6]; simp
  have ba5 : Below w5.heap.size w5 (w5.alloc (.cells (rowV 32 (fun _ => .int .u8 0)) 28)) := (Below.refl _ _).alloc (Nat.le_refl _) _
  have b56 : Below w5.heap.size w5 w6 := ba5.trans ((hb6.mono (by simp)).below (Nat.le_refl _))
  have b16 : Below w1.heap.size w1 w6 := B15.out.trans (b56.mono B15.out.size)
  have b26 : Below w2.heap.size w2 w6 := B25.out.trans (b56.mono B25.out.size)
  have rR6 : w6.rowIs w3.heap.size 28 32 (arrV R) := b56.row RR5.out L35.out
  have z16 := b16.size
  have z26 := b26.size
  have l36 : w3.heap.size < w6.heap.size := by have := L35.out; omega
  have K1 : Hid (∀ wz, Below w6.heap.size w6 wz → sumsAt wz (.slice (some ⟨g1, 0, none⟩) 5 c1) [a0, a1, a2, a3, a4] ∧ tabIs wz) := (show _ from fun wz hz => ⟨(y1.below b16 (Nat.le_refl _)).below hz (Nat.le_refl _), tabIs.below (tabIs.below T1.out b16 T1.out.1) hz (by have := T1.out.1; omega)⟩)
  have LP0 : Hid (∀ wz, Below w6.heap.size w6 wz → ∀ j, j < 32 → wz.cell? ⟨g2, 0 + j, none⟩ = some (arrV a3 j)) := (show _ from fun wz hz j hj => ((hz.cell (p := ⟨g2, 0 + j, none⟩) (Nat.lt_of_lt_of_le hg2 z26)).trans (b26.cell (p := ⟨g2, 0 + j, none⟩) hg2)).trans (cell2 0 a3 rfl j hj))
  have LP2 : Hid (∀ wz, Below w6.heap.size w6 wz → ∀ j, j < 32 → wz.cell? ⟨g2, 64 + j, none⟩ = some (arrV a4 j)) := (show _ from fun wz hz j hj => ((hz.cell (p := ⟨g2, 64 + j, none⟩) (Nat.lt_of_lt_of_le hg2 z26)).trans (b26.cell (p := ⟨g2, 64 + j, none⟩) hg2)).trans (cell2 2 a4 rfl j hj))
  have LL3 : Hid (∀ wz, Below w6.heap.size w6 wz → ∀ j, j < 32 → wz.cell? ⟨g1, 96 + j, none⟩ = some (arrV a3 j)) := (show _ from fun wz hz j hj => ((hz.cell (p := ⟨g1, 96 + j, none⟩) (Nat.lt_of_lt_of_le hg1 z16)).trans (b16.cell (p := ⟨g1, 96 + j, none⟩) hg1)).trans (cell1 3 a3 rfl j hj))
  have LL4 : Hid (∀ wz, Below w6.heap.size w6 wz → ∀ j, j < 32 → wz.cell? ⟨g1, 128 + j, none⟩ = some (arrV a4 j)) := (show _ from fun wz hz j hj => ((hz.cell (p := ⟨g1, 128 + j, none⟩) (Nat.lt_of_lt_of_le hg1 z16)).trans (b16.cell (p := ⟨g1, 128 + j, none⟩) hg1)).trans (cell1 4 a4 rfl j hj))
  have LR : Hid (∀ wz, Below w6.heap.size w6 wz → ∀ j, j < 32 → wz.cell? ⟨w3.heap.size, 0 + j, none⟩ = some (arrV R j)) := (show _ from fun wz hz j hj => by rw [Nat.zero_add]; exact (hz.row rR6 l36).cell hj)
  have E3 : Hid (∀ wz : World, (Op.equalIn 10000 28 (.agg (rowV 32 (arrV a3))) (.agg (rowV 32 (arrV a3)))).run Tryd.prog wz = .ok true wz) := (show _ from fun wz => by have := run_eq_sums wz 9998 s3 s3; rwa [decide_eq_true rfl] at this)
  have E4 : Hid (∀ wz : World, (Op.equalIn 10000 28 (.agg (rowV 32 (arrV a4))) (.agg (rowV 32 (arrV a4)))).run Tryd.prog wz = .ok true wz) := (show _ from fun wz => by have := run_eq_sums wz 9998 s4 s4; rwa [decide_eq_true rfl] at this)
  have ER : Hid (∀ wz : World, (Op.equalIn 10000 28 (.agg (rowV 32 (arrV R))) (.agg (rowV 32 (arrV R)))).run Tryd.prog wz = .ok true wz) := (show _ from fun wz => by have := run_eq_sums wz 9998 hR hR; rwa [decide_eq_true rfl] at this)
  have BF : Hid (Below w.heap.size w w6) := (show Below w.heap.size w w6 from B1.out.trans (b16.mono B1.out.size))
  have ZF : Hid (w.heap.size ≤ w6.heap.size) := (show w.heap.size ≤ w6.heap.size from by have := B1.out.size; omega)
  clear s6 ba5 b56 b16 b26 rR6 z16 z26 l36 B15 B25 RR5 L35 hz6 hb6 r6 r5 y1 cell1 cell2 hg1 hg2 s2 s3 s4 hR T1 N1 B1 B2 hz32
  have HH : Hid _ := hh
  have HW : Hid _ := hw
  clear hh hw
  have hw6 : Below w6.heap.size w6 w6.drew := (Below.refl w6.heap.size w6).drew
  refine wp_region_noPanic ?_
  refine wp_region_held_drew (S := fun w' => Below w6.heap.size w6 w') (by kernel_rfl) hw6 (fun hHeld => ?_)
  have Y1 := half_any 1 (by omega) (by omega) w6.drew
  rw [HH.out.1] at Y1
  refine take_one (i := 0) rfl (by kernel_rfl) rfl (fun K hK => ?_)
  go_simp
  refine Calls.mono Y1 ?_
  rintro e wz ⟨rfl, hwz⟩
  obtain rfl := hwz.symm
  clear Y1 hwz
  refine hK.out _ _ hHeld (fun hHeld => ?_)
  clear hK K
  try simp only [Act.put, List.setIfInBounds_toArray, List.set_cons_zero, List.set_cons_succ]
  refine take_op (i := 1) (v := ?vz1) rfl (by kernel_rfl) (by kernel_rfl) (by kernel_rfl) (fun _ _ _ h => h) rfl hHeld ?yz1 ?rz1
  case yz1 => (intro wz hz; go_simp; first | done | with_reducible rfl)
  try simp only [Act.put, List.setIfInBounds_toArray, List.set_cons_zero, List.set_cons_succ]
  refine take_op (i := 2) (v := ?vz2) rfl (by kernel_rfl) (by kernel_rfl) (by kernel_rfl) (fun _ _ _ h => h) rfl hHeld ?yz2 ?rz2
  case yz2 => (intro wz hz; go_simp; first | done | with_reducible rfl)
  try simp only [Act.put, List.setIfInBounds_toArray, List.set_cons_zero, List.set_cons_succ]
  have Y2 := half_any 2 (by omega) (by omega) w6.drew
  rw [HH.out.2.1] at Y2
  refine take_one (i := 3) rfl (by kernel_rfl) rfl (fun K hK => ?_)
  go_simp
  refine Calls.mono Y2 ?_
  rintro e wz ⟨rfl, hwz⟩
  obtain rfl := hwz.symm
  clear Y2 hwz
  refine hK.out _ _ hHeld (fun hHeld => ?_)
  clear hK K
  try simp only [Act.put, List.setIfInBounds_toArray, List.set_cons_zero, List.set_cons_succ]
  refine take_op (i := 4) (v := ?vz4) rfl (by kernel_rfl) (by kernel_rfl) (by kernel_rfl) (fun _ _ _ h => h) rfl hHeld ?yz4 ?rz4
  case yz4 => (intro wz hz; go_simp; first | done | with_reducible rfl)
  try simp only [Act.put, List.setIfInBounds_toArray, List.set_cons_zero, List.set_cons_succ]
  refine take_op (i := 5) (v := ?vz5) rfl (by kernel_rfl) (by kernel_rfl) (by kernel_rfl) (fun _ _ _ h => h) rfl hHeld ?yz5 ?rz5
  case yz5 => (intro wz hz; go_simp; first | done | with_reducible rfl)
  try simp only [Act.put, List.setIfInBounds_toArray, List.set_cons_zero, List.set_cons_succ]
  refine take_op (i := 6) (v := ?vz6) rfl (by kernel_rfl) (by kernel_rfl) (by kernel_rfl) (fun _ _ _ h => h) rfl hHeld ?yz6 ?rz6
  case yz6 => (intro wz hz; go_simp; first | done | with_reducible rfl)
  try simp only [Act.put, List.setIfInBounds_toArray, List.set_cons_zero, List.set_cons_succ]
  have Y3 := half_any 5 (by omega) (by omega) w6.drew
  rw [HH.out.2.2.1] at Y3
  refine take_one (i := 7) rfl (by kernel_rfl) rfl (fun K hK => ?_)
  go_simp
  refine Calls.mono Y3 ?_
  rintro e wz ⟨rfl, hwz⟩
  obtain rfl := hwz.symm
  clear Y3 hwz
  refine hK.out _ _ hHeld (fun hHeld => ?_)
  clear hK K
  try simp only [Act.put, List.setIfInBounds_toArray, List.set_cons_zero, List.set_cons_succ]
  refine take_op (i := 8) (v := ?vz8) rfl (by kernel_rfl) (by kernel_rfl) (by kernel_rfl) (fun _ _ _ h => h) rfl hHeld ?yz8 ?rz8
  case yz8 => (intro wz hz; go_simp; first | done | with_reducible rfl)
  try simp only [Act.put, List.setIfInBounds_toArray, List.set_cons_zero, List.set_cons_succ]
  refine take_op (i := 9) (v := ?vz9) rfl (by kernel_rfl) (by kernel_rfl) (by kernel_rfl) (fun _ _ _ h => h) rfl hHeld ?yz9 ?rz9
  case yz9 => (intro wz hz; go_simp; first | done | with_reducible rfl)
  try simp only [Act.put, List.setIfInBounds_toArray, List.set_cons_zero, List.set_cons_succ]
  refine take_op (i := 10) (v := ?vz10) rfl (by kernel_rfl) (by kernel_rfl) (by kernel_rfl) (fun _ _ _ h => h) rfl hHeld ?yz10 ?rz10
  case yz10 => (intro wz hz; go_simp; first | done | with_reducible rfl)
  try simp only [Act.put, List.setIfInBounds_toArray, List.set_cons_zero, List.set_cons_succ]
  have Y4 := half_any 8 (by omega) (by omega) w6.drew
  rw [HH.out.2.2.2] at Y4
  refine take_one (i := 11) rfl (by kernel_rfl) rfl (fun K hK => ?_)
  go_simp
  refine Calls.mono Y4 ?_
  rintro e wz ⟨rfl, hwz⟩
  obtain rfl := hwz.symm
  clear Y4 hwz
  refine hK.out _ _ hHeld (fun hHeld => ?_)
  clear hK K
  try simp only [Act.put, List.setIfInBounds_toArray, List.set_cons_zero, List.set_cons_succ]
  refine take_op (i := 12) (v := ?vz12) rfl (by kernel_rfl) (by kernel_rfl) (by kernel_rfl) (fun _ _ _ h => h) rfl hHeld ?yz12 ?rz12
  case yz12 => (intro wz hz; go_simp; first | done | with_reducible rfl)
  try simp only [Act.put, List.setIfInBounds_toArray, List.set_cons_zero, List.set_cons_succ]
  refine take_op (i := 13) (v := ?vz13) rfl (by kernel_rfl) (by kernel_rfl) (by kernel_rfl) (fun _ _ _ h => h) rfl hHeld ?yz13 ?rz13
  case yz13 => (intro wz hz; go_simp; first | done | with_reducible rfl)
  try simp only [Act.put, List.setIfInBounds_toArray, List.set_cons_zero, List.set_cons_succ]
  refine take_op (i := 14) (v := ?vz14) rfl (by kernel_rfl) (by kernel_rfl) (by kernel_rfl) (fun _ _ _ h => h) rfl hHeld ?yz14 ?rz14
  case yz14 => (intro wz hz; go_simp; first | done | with_reducible rfl)
  try simp only [Act.put, List.setIfInBounds_toArray, List.set_cons_zero, List.set_cons_succ]
  have Y5 := depth_any 5 0 (by omega) (by omega) w6.drew
  rw [HW.out.2.1] at Y5
  refine take_one (i := 15) rfl (by kernel_rfl) rfl (fun K hK => ?_)
  go_simp
  refine Calls.mono Y5 ?_
  rintro e x5 ⟨rfl, bz⟩
  have bx5 : Below w6.heap.size w6 x5 := hHeld.trans (bz.mono hHeld.size)
  clear Y5 bz
  refine hK.out _ _ bx5 (fun hHeld => ?_)
  clear hK K bx5
  try simp only [Act.put, List.setIfInBounds_toArray, List.set_cons_zero, List.set_cons_succ]
  refine take_op (i := 16) (v := ?vz16) rfl (by kernel_rfl) (by kernel_rfl) (by kernel_rfl) (fun _ _ _ h => h) rfl hHeld ?yz16 ?rz16
  case yz16 => (intro wz hz; go_simp; first | done | with_reducible rfl)
  try simp only [Act.put, List.setIfInBounds_toArray, List.set_cons_zero, List.set_cons_succ]
  refine take_op (i := 17) (v := ?vz17) rfl (by kernel_rfl) (by kernel_rfl) (by kernel_rfl) (fun _ _ _ h => h) rfl hHeld ?yz17 ?rz17
  case yz17 => (intro wz hz; go_simp; first | done | with_reducible rfl)
  try simp only [Act.put, List.setIfInBounds_toArray, List.set_cons_zero, List.set_cons_succ]
  refine take_op (i := 18) (v := ?vz18) rfl (by kernel_rfl) (by kernel_rfl) (by kernel_rfl) (fun _ _ _ h => h) rfl hHeld ?yz18 ?rz18
  case yz18 => (intro wz hz; go_simp; first | done | with_reducible rfl)
  try simp only [Act.put, List.setIfInBounds_toArray, List.set_cons_zero, List.set_cons_succ]
  have Y6 := depth_any 5 4 (by omega) (by omega) x5
  rw [HW.out.2.2.1] at Y6
  refine take_one (i := 19) rfl (by kernel_rfl) rfl (fun K hK => ?_)
  go_simp
  refine Calls.mono Y6 ?_
  rintro e x6 ⟨rfl, bz⟩
  have bx6 : Below w6.heap.size w6 x6 := hHeld.trans (bz.mono hHeld.size)
  clear Y6 bz
  refine hK.out _ _ bx6 (fun hHeld => ?_)
  clear hK K bx6
  try simp only [Act.put, List.setIfInBounds_toArray, List.set_cons_zero, List.set_cons_succ]
  refine take_op (i := 20) (v := ?vz20) rfl (by kernel_rfl) (by kernel_rfl) (by kernel_rfl) (fun _ _ _ h => h) rfl hHeld ?yz20 ?rz20
  case yz20 => (intro wz hz; go_simp; first | done | with_reducible rfl)
  try simp only [Act.put, List.setIfInBounds_toArray, List.set_cons_zero, List.set_cons_succ]
  refine take_op (i := 21) (v := ?vz21) rfl (by kernel_rfl) (by kernel_rfl) (by kernel_rfl) (fun _ _ _ h => h) rfl hHeld ?yz21 ?rz21
  case yz21 => (intro wz hz; go_simp; first | done | with_reducible rfl)
  try simp only [Act.put, List.setIfInBounds_toArray, List.set_cons_zero, List.set_cons_succ]
  refine take_op (i := 22) (v := ?vz22) rfl (by kernel_rfl) (by kernel_rfl) (by kernel_rfl) (fun _ _ _ h => h) rfl hHeld ?yz22 ?rz22
  case yz22 => (intro wz hz; go_simp; first | done | with_reducible rfl)
  try simp only [Act.put, List.setIfInBounds_toArray, List.set_cons_zero, List.set_cons_succ]
  have Y7 := depth_any 5 5 (by omega) (by omega) x6
  rw [HW.out.2.2.2] at Y7
  refine take_one (i := 23) rfl (by kernel_rfl) rfl (fun K hK => ?_)
  go_simp
  refine Calls.mono Y7 ?_
  rintro e x7 ⟨rfl, bz⟩
  have bx7 : Below w6.heap.size w6 x7 := hHeld.trans (bz.mono hHeld.size)
  clear Y7 bz
  refine hK.out _ _ bx7 (fun hHeld => ?_)
  clear hK K bx7
  try simp only [Act.put, List.setIfInBounds_toArray, List.set_cons_zero, List.set_cons_succ]
  refine take_op (i := 24) (v := ?vz24) rfl (by kernel_rfl) (by kernel_rfl) (by kernel_rfl) (fun _ _ _ h => h) rfl hHeld ?yz24 ?rz24
  case yz24 => (intro wz hz; go_simp; first | done | with_reducible rfl)
  try simp only [Act.put, List.setIfInBounds_toArray, List.set_cons_zero, List.set_cons_succ]
  refine take_op (i := 25) (v := ?vz25) rfl (by kernel_rfl) (by kernel_rfl) (by kernel_rfl) (fun _ _ _ h => h) rfl hHeld ?yz25 ?rz25
  case yz25 => (intro wz hz; go_simp; first | done | with_reducible rfl)
  try simp only [Act.put, List.setIfInBounds_toArray, List.set_cons_zero, List.set_cons_succ]
  refine take_op (i := 26) (v := ?vz26) rfl (by kernel_rfl) (by kernel_rfl) (by kernel_rfl) (fun _ _ _ h => h) rfl hHeld ?yz26 ?rz26
  case yz26 => (intro wz hz; go_simp; first | done | with_reducible rfl)
  try simp only [Act.put, List.setIfInBounds_toArray, List.set_cons_zero, List.set_cons_succ]
  refine take_op (i := 27) (v := ?vz27) rfl (by kernel_rfl) (by kernel_rfl) (by kernel_rfl) (fun _ _ _ h => h) rfl hHeld ?yz27 ?rz27
  case yz27 => (intro wz hz; go_simp; first | done | with_reducible rfl)
  try simp only [Act.put, List.setIfInBounds_toArray, List.set_cons_zero, List.set_cons_succ]
  refine take_op (i := 28) (v := ?vz28) rfl (by kernel_rfl) (by kernel_rfl) (by kernel_rfl) (fun _ _ _ h => h) rfl hHeld ?yz28 ?rz28
  case yz28 => (intro wz hz; go_simp; first | done | with_reducible rfl)
  try simp only [Act.put, List.setIfInBounds_toArray, List.set_cons_zero, List.set_cons_succ]
  refine take_op (i := 29) (v := ?vz29) rfl (by kernel_rfl) (by kernel_rfl) (by kernel_rfl) (fun _ _ _ h => h) rfl hHeld ?yz29 ?rz29
  case yz29 => (intro wz hz; go_simp; first | done | with_reducible rfl)
  try simp only [Act.put, List.setIfInBounds_toArray, List.set_cons_zero, List.set_cons_succ]
  refine take_op (i := 30) (v := ?vz30) rfl (by kernel_rfl) (by kernel_rfl) (by kernel_rfl) (fun _ _ _ h => h) rfl hHeld ?yz30 ?rz30
  case yz30 => (intro wz hz; go_simp; first | done | with_reducible rfl)
  try simp only [Act.put, List.setIfInBounds_toArray, List.set_cons_zero, List.set_cons_succ]
  refine take_op (i := 31) (v := ?vz31) rfl (by kernel_rfl) (by kernel_rfl) (by kernel_rfl) (fun _ _ _ h => h) rfl hHeld ?yz31 ?rz31
  case yz31 => (intro wz hz; go_simp; first | done | with_reducible rfl)
  try simp only [Act.put, List.setIfInBounds_toArray, List.set_cons_zero, List.set_cons_succ]
  refine take_op (i := 32) (v := ?vz32) rfl (by kernel_rfl) (by kernel_rfl) (by kernel_rfl) (fun _ _ _ h => h) rfl hHeld ?yz32 ?rz32
  case yz32 => (intro wz hz; go_simp; first | done | with_reducible rfl)
  try simp only [Act.put, List.setIfInBounds_toArray, List.set_cons_zero, List.set_cons_succ]
  refine take_op (i := 33) (v := ?vz33) rfl (by kernel_rfl) (by kernel_rfl) (by kernel_rfl) (fun _ _ _ h => h) rfl hHeld ?yz33 ?rz33
  case yz33 => (intro wz hz; go_simp; first | done | with_reducible rfl)
  try simp only [Act.put, List.setIfInBounds_toArray, List.set_cons_zero, List.set_cons_succ]
  refine take_load (i := 34) rfl (by kernel_rfl) (by kernel_rfl) (by kernel_rfl) 28 _ rfl g2 0 32 (arrV a3) rfl _ Tryd.underlying28 rfl (by kernel_rfl) (fun _ _ _ h => h) rfl hHeld (fun wz hz => LP0.out wz hz) ?_
  try simp only [Act.put, List.setIfInBounds_toArray, List.set_cons_zero, List.set_cons_succ]
  refine take_op (i := 35) (v := ?vz35) rfl (by kernel_rfl) (by kernel_rfl) (by kernel_rfl) (fun _ _ _ h => h) rfl hHeld ?yz35 ?rz35
  case yz35 => (intro wz hz; go_simp; first | done | with_reducible rfl)
  try simp only [Act.put, List.setIfInBounds_toArray, List.set_cons_zero, List.set_cons_succ]
  refine take_op (i := 36) (v := ?vz36) rfl (by kernel_rfl) (by kernel_rfl) (by kernel_rfl) (fun _ _ _ h => h) rfl hHeld ?yz36 ?rz36
  case yz36 => (intro wz hz; go_simp; first | done | with_reducible rfl)
  try simp only [Act.put, List.setIfInBounds_toArray, List.set_cons_zero, List.set_cons_succ]
  refine take_load (i := 37) rfl (by kernel_rfl) (by kernel_rfl) (by kernel_rfl) 28 _ rfl g1 96 32 (arrV a3) rfl _ Tryd.underlying28 rfl (by kernel_rfl) (fun _ _ _ h => h) rfl hHeld (fun wz hz => LL3.out wz hz) ?_
  try simp only [Act.put, List.setIfInBounds_toArray, List.set_cons_zero, List.set_cons_succ]
  refine take_op (i := 38) (v := ?vz38) rfl (by kernel_rfl) (by kernel_rfl) (by kernel_rfl) (fun _ _ _ h => h) rfl hHeld ?yz38 ?rz38
  case yz38 => (intro wz hz; have hcz := E3.out wz; go_simp; first | done | with_reducible rfl)
  try simp only [Act.put, List.setIfInBounds_toArray, List.set_cons_zero, List.set_cons_succ]
  refine take_op (i := 39) (v := ?vz39) rfl (by kernel_rfl) (by kernel_rfl) (by kernel_rfl) (fun _ _ _ h => h) rfl hHeld ?yz39 ?rz39
  case yz39 => (intro wz hz; go_simp; first | done | with_reducible rfl)
  try simp only [Act.put, List.setIfInBounds_toArray, List.set_cons_zero, List.set_cons_succ]
  refine take_op (i := 40) (v := ?vz40) rfl (by kernel_rfl) (by kernel_rfl) (by kernel_rfl) (fun _ _ _ h => h) rfl hHeld ?yz40 ?rz40
  case yz40 => (intro wz hz; go_simp; first | done | with_reducible rfl)
  try simp only [Act.put, List.setIfInBounds_toArray, List.set_cons_zero, List.set_cons_succ]
  refine take_op (i := 41) (v := ?vz41) rfl (by kernel_rfl) (by kernel_rfl) (by kernel_rfl) (fun _ _ _ h => h) rfl hHeld ?yz41 ?rz41
  case yz41 => (intro wz hz; go_simp; first | done | with_reducible rfl)
  try simp only [Act.put, List.setIfInBounds_toArray, List.set_cons_zero, List.set_cons_succ]
  refine take_op (i := 42) (v := ?vz42) rfl (by kernel_rfl) (by kernel_rfl) (by kernel_rfl) (fun _ _ _ h => h) rfl hHeld ?yz42 ?rz42
  case yz42 => (intro wz hz; go_simp; first | done | with_reducible rfl)
  try simp only [Act.put, List.setIfInBounds_toArray, List.set_cons_zero, List.set_cons_succ]
  refine take_load (i := 43) rfl (by kernel_rfl) (by kernel_rfl) (by kernel_rfl) 28 _ rfl g2 64 32 (arrV a4) rfl _ Tryd.underlying28 rfl (by kernel_rfl) (fun _ _ _ h => h) rfl hHeld (fun wz hz => LP2.out wz hz) ?_
  try simp only [Act.put, List.setIfInBounds_toArray, List.set_cons_zero, List.set_cons_succ]
  refine take_op (i := 44) (v := ?vz44) rfl (by kernel_rfl) (by kernel_rfl) (by kernel_rfl) (fun _ _ _ h => h) rfl hHeld ?yz44 ?rz44
  case yz44 => (intro wz hz; go_simp; first | done | with_reducible rfl)
  try simp only [Act.put, List.setIfInBounds_toArray, List.set_cons_zero, List.set_cons_succ]
  refine take_op (i := 45) (v := ?vz45) rfl (by kernel_rfl) (by kernel_rfl) (by kernel_rfl) (fun _ _ _ h => h) rfl hHeld ?yz45 ?rz45
  case yz45 => (intro wz hz; go_simp; first | done | with_reducible rfl)
  try simp only [Act.put, List.setIfInBounds_toArray, List.set_cons_zero, List.set_cons_succ]
  refine take_load (i := 46) rfl (by kernel_rfl) (by kernel_rfl) (by kernel_rfl) 28 _ rfl g1 128 32 (arrV a4) rfl _ Tryd.underlying28 rfl (by kernel_rfl) (fun _ _ _ h => h) rfl hHeld (fun wz hz => LL4.out wz hz) ?_
  try simp only [Act.put, List.setIfInBounds_toArray, List.set_cons_zero, List.set_cons_succ]
  refine take_op (i := 47) (v := ?vz47) rfl (by kernel_rfl) (by kernel_rfl) (by kernel_rfl) (fun _ _ _ h => h) rfl hHeld ?yz47 ?rz47
  case yz47 => (intro wz hz; have hcz := E4.out wz; go_simp; first | done | with_reducible rfl)
  try simp only [Act.put, List.setIfInBounds_toArray, List.set_cons_zero, List.set_cons_succ]
  refine take_op (i := 48) (v := ?vz48) rfl (by kernel_rfl) (by kernel_rfl) (by kernel_rfl) (fun _ _ _ h => h) rfl hHeld ?yz48 ?rz48
  case yz48 => (intro wz hz; go_simp; first | done | with_reducible rfl)
  try simp only [Act.put, List.setIfInBounds_toArray, List.set_cons_zero, List.set_cons_succ]
  refine take_op (i := 49) (v := ?vz49) rfl (by kernel_rfl) (by kernel_rfl) (by kernel_rfl) (fun _ _ _ h => h) rfl hHeld ?yz49 ?rz49
  case yz49 => (intro wz hz; go_simp; first | done | with_reducible rfl)
  try simp only [Act.put, List.setIfInBounds_toArray, List.set_cons_zero, List.set_cons_succ]
  refine take_op (i := 50) (v := ?vz50) rfl (by kernel_rfl) (by kernel_rfl) (by kernel_rfl) (fun _ _ _ h => h) rfl hHeld ?yz50 ?rz50
  case yz50 => (intro wz hz; go_simp; first | done | with_reducible rfl)
  try simp only [Act.put, List.setIfInBounds_toArray, List.set_cons_zero, List.set_cons_succ]
  refine take_op (i := 51) (v := ?vz51) rfl (by kernel_rfl) (by kernel_rfl) (by kernel_rfl) (fun _ _ _ h => h) rfl hHeld ?yz51 ?rz51
  case yz51 => (intro wz hz; go_simp; first | done | with_reducible rfl)
  try simp only [Act.put, List.setIfInBounds_toArray, List.set_cons_zero, List.set_cons_succ]
  refine take_op (i := 52) (v := ?vz52) rfl (by kernel_rfl) (by kernel_rfl) (by kernel_rfl) (fun _ _ _ h => h) rfl hHeld ?yz52 ?rz52
  case yz52 => (intro wz hz; go_simp; first | done | with_reducible rfl)
  try simp only [Act.put, List.setIfInBounds_toArray, List.set_cons_zero, List.set_cons_succ]
  refine take_op (i := 53) (v := ?vz53) rfl (by kernel_rfl) (by kernel_rfl) (by kernel_rfl) (fun _ _ _ h => h) rfl hHeld ?yz53 ?rz53
  case yz53 => (intro wz hz; go_simp; first | done | with_reducible rfl)
  try simp only [Act.put, List.setIfInBounds_toArray, List.set_cons_zero, List.set_cons_succ]
  refine take_load (i := 54) rfl (by kernel_rfl) (by kernel_rfl) (by kernel_rfl) 28 _ rfl w3.heap.size 0 32 (arrV R) rfl _ Tryd.underlying28 rfl (by kernel_rfl) (fun _ _ _ h => h) rfl hHeld (fun wz hz => LR.out wz hz) ?_
  try simp only [Act.put, List.setIfInBounds_toArray, List.set_cons_zero, List.set_cons_succ]
  refine take_op (i := 55) (v := ?vz55) rfl (by kernel_rfl) (by kernel_rfl) (by kernel_rfl) (fun _ _ _ h => h) rfl hHeld ?yz55 ?rz55
  case yz55 => (intro wz hz; go_simp; first | done | with_reducible rfl)
  try simp only [Act.put, List.setIfInBounds_toArray, List.set_cons_zero, List.set_cons_succ]
  have Y8 := root_nil 1000 _ _ x7 (by simp) (Nat.le_refl _) (K1.out x7 hHeld).1 (K1.out x7 hHeld).2
  rw [← HRE.out] at Y8
  unfold sumV at Y8
  refine take_one (i := 56) rfl (by kernel_rfl) rfl (fun K hK => ?_)
  go_simp
  refine Calls.mono Y8 ?_
  rintro e x8 ⟨rfl, bz⟩
  have bx8 : Below w6.heap.size w6 x8 := hHeld.trans (bz.mono hHeld.size)
  clear Y8 bz
  refine hK.out _ _ bx8 (fun hHeld => ?_)
  clear hK K bx8
  try simp only [Act.put, List.setIfInBounds_toArray, List.set_cons_zero, List.set_cons_succ]
  refine take_op (i := 57) (v := ?vz57) rfl (by kernel_rfl) (by kernel_rfl) (by kernel_rfl) (fun _ _ _ h => h) rfl hHeld ?yz57 ?rz57
  case yz57 => (intro wz hz; have hcz := ER.out wz; go_simp; first | done | with_reducible rfl)
  try simp only [Act.put, List.setIfInBounds_toArray, List.set_cons_zero, List.set_cons_succ]
  refine take_op (i := 58) (v := ?vz58) rfl (by kernel_rfl) (by kernel_rfl) (by kernel_rfl) (fun _ _ _ h => h) rfl hHeld ?yz58 ?rz58
  case yz58 => (intro wz hz; go_simp; first | done | with_reducible rfl)
  try simp only [Act.put, List.setIfInBounds_toArray, List.set_cons_zero, List.set_cons_succ]
  refine take_op (i := 59) (v := ?vz59) rfl (by kernel_rfl) (by kernel_rfl) (by kernel_rfl) (fun _ _ _ h => h) rfl hHeld ?yz59 ?rz59
  case yz59 => (intro wz hz; go_simp; first | done | with_reducible rfl)
  try simp only [Act.put, List.setIfInBounds_toArray, List.set_cons_zero, List.set_cons_succ]
  refine take_load (i := 60) rfl (by kernel_rfl) (by kernel_rfl) (by kernel_rfl) 28 _ rfl w3.heap.size 0 32 (arrV R) rfl _ Tryd.underlying28 rfl (by kernel_rfl) (fun _ _ _ h => h) rfl hHeld (fun wz hz => LR.out wz hz) ?_
  try simp only [Act.put, List.setIfInBounds_toArray, List.set_cons_zero, List.set_cons_succ]
  refine take_op (i := 61) (v := ?vz61) rfl (by kernel_rfl) (by kernel_rfl) (by kernel_rfl) (fun _ _ _ h => h) rfl hHeld ?yz61 ?rz61
  case yz61 => (intro wz hz; go_simp; first | done | with_reducible rfl)
  try simp only [Act.put, List.setIfInBounds_toArray, List.set_cons_zero, List.set_cons_succ]
  have Y9 := rroot_any 1000 _ _ x8 (by simp) (Nat.le_refl _) (K1.out x8 hHeld).1
  rw [← HRE.out] at Y9
  unfold sumV at Y9
  refine take_one (i := 62) rfl (by kernel_rfl) rfl (fun K hK => ?_)
  go_simp
  refine Calls.mono Y9 ?_
  rintro e x9 ⟨rfl, bz⟩
  have bx9 : Below w6.heap.size w6 x9 := hHeld.trans (bz.mono hHeld.size)
  clear Y9 bz
  refine hK.out _ _ bx9 (fun hHeld => ?_)
  clear hK K bx9
  try simp only [Act.put, List.setIfInBounds_toArray, List.set_cons_zero, List.set_cons_succ]
  refine take_op (i := 63) (v := ?vz63) rfl (by kernel_rfl) (by kernel_rfl) (by kernel_rfl) (fun _ _ _ h => h) rfl hHeld ?yz63 ?rz63
  case yz63 => (intro wz hz; have hcz := ER.out wz; go_simp; first | done | with_reducible rfl)
  try simp only [Act.put, List.setIfInBounds_toArray, List.set_cons_zero, List.set_cons_succ]
  refine take_op (i := 64) (v := ?vz64) rfl (by kernel_rfl) (by kernel_rfl) (by kernel_rfl) (fun _ _ _ h => h) rfl hHeld ?yz64 ?rz64
  case yz64 => (intro wz hz; go_simp; first | done | with_reducible rfl)
  try simp only [Act.put, List.setIfInBounds_toArray, List.set_cons_zero, List.set_cons_succ]
  refine take_op (i := 65) (v := ?vz65) rfl (by kernel_rfl) (by kernel_rfl) (by kernel_rfl) (fun _ _ _ h => h) rfl hHeld ?yz65 ?rz65
  case yz65 => (intro wz hz; go_simp; first | done | with_reducible rfl)
  try simp only [Act.put, List.setIfInBounds_toArray, List.set_cons_zero, List.set_cons_succ]
  refine take_op (i := 66) (v := ?vz66) rfl (by kernel_rfl) (by kernel_rfl) (by kernel_rfl) (fun _ _ _ h => h) rfl hHeld ?yz66 ?rz66
  case yz66 => (intro wz hz; go_simp; first | done | with_reducible rfl)
  try simp only [Act.put, List.setIfInBounds_toArray, List.set_cons_zero, List.set_cons_succ]
  refine take_op (i := 67) (v := ?vz67) rfl (by kernel_rfl) (by kernel_rfl) (by kernel_rfl) (fun _ _ _ h => h) rfl hHeld ?yz67 ?rz67
  case yz67 => (intro wz hz; go_simp; first | done | with_reducible rfl)
  try simp only [Act.put, List.setIfInBounds_toArray, List.set_cons_zero, List.set_cons_succ]
  refine take_op (i := 68) (v := ?vz68) rfl (by kernel_rfl) (by kernel_rfl) (by kernel_rfl) (fun _ _ _ h => h) rfl hHeld ?yz68 ?rz68
  case yz68 => (intro wz hz; go_simp; first | done | with_reducible rfl)
  try simp only [Act.put, List.setIfInBounds_toArray, List.set_cons_zero, List.set_cons_succ]
  refine take_op (i := 69) (v := ?vz69) rfl (by kernel_rfl) (by kernel_rfl) (by kernel_rfl) (fun _ _ _ h => h) rfl hHeld ?yz69 ?rz69
  case yz69 => (intro wz hz; go_simp; first | done | with_reducible rfl)
  try simp only [Act.put, List.setIfInBounds_toArray, List.set_cons_zero, List.set_cons_succ]
  refine wpAnyH_done (by kernel_rfl) ?_ _
  refine NoPanic.normal ?_
  have HHELD : Hid _ := hHeld
  clear hHeld
  go_wp2
  go_ret
  exact ⟨rfl, BF.out.trans (Below.mono HHELD.out ZF.out)⟩
end Go.Proofs.YtppfeilndcdoeaaDoor

/- TreeShows: its walk. -/
namespace Go.Proofs.YtppfeilndcdoeaaDoor
set_option linter.unusedSimpArgs false
set_option linter.unusedVariables false
open Go.RowKit Go.Deep

theorem wayI_there {n p : Nat} (h : p < n) : wayI (n : Int) (p : Int) = wayL n p := by
  unfold wayI
  rw [if_pos (by simp [thereB]; omega), Int.toNat_natCast, Int.toNat_natCast]
theorem okLead_path {L : List (List Int)} {p : Nat} (h : p < L.length) : okLead (L.length : Int) (p : Int) (pathI L (p : Int)) = true := by
  unfold okLead
  rw [pathI_there h, pathS_len, wayI_there h]
  simp [thereB]; omega
theorem lead_pathI {L : List (List Int)} {p : Nat} (h : p < L.length) : leadF (ups (wayI (L.length : Int) (p : Int)) (pathI L (p : Int))) L[p] = rootS L := by
  have := lead_path L.length L p (Nat.le_refl _) h
  rw [pathI_there h, wayI_there h]
  have e : L.getD p [] = L[p] := by rw [List.getD_eq_getElem?_getD, List.getElem?_eq_getElem h]; rfl
  rw [← e]; exact this
theorem pathI_len {L : List (List Int)} {p : Nat} (h : p < L.length) (hL : L.length ≤ 1000) : (pathI L (p : Int)).length ≤ 63 := by
  rw [pathI_there h, pathS_len, ← wayI_there h]
  exact wayI_len _ _ (by omega)
theorem okLead_below (n : Int) : okLead n (-1) [] = false := by simp [okLead, thereB]
theorem okLead_above (n : Int) : okLead n n [] = false := by simp [okLead, thereB]
theorem exec_alloc_sum {o : Oper} {ev : Operand → Value} {w : World} (ho : o.op = .alloc 28) : (execOp ev o).run Tryd.prog w = .ok (.value (.pointer (some ⟨w.heap.size, 0, none⟩))) (w.alloc (.cells (rowV 32 (fun _ => .int .u8 0)) 28)) := by
  unfold execOp
  simp only [ho]
  kernel_rfl
set_option maxHeartbeats 2000000 in
set_option maxRecDepth 100000 in
theorem treeShows_any (L : List (List Int)) (v : Value) (w : World) (ht : tabIs w) (h : sumsAt w v L) :
    Calls Tryd.prog 7 #[v] w fun e w' => e = .returned (.bool true) ∧ Below w.heap.size w w' := by
  have hsl : ∃ a cap, v = .slice a L.length cap := by
    obtain ⟨_, a, cap, e, _⟩ := h; exact ⟨a, cap, e⟩
  have q1 : (L.length : Int) ≤ 9223372036854775807 := by
    obtain ⟨_, a, cap, e, h3, h4, _⟩ := h
    unfold maxLen at h4
    omega
  have q2 : (0 : Int) ≤ (L.length : Int) := by omega
  by_cases hbig : 200 < L.length
  · have X := awake_any w ht
    obtain ⟨va, vc, rfl⟩ := hsl
    have q0 : (200 : Int) < (L.length : Int) := by omega
    clear h
    go_enter Tryd.func7, Tryd.ntmps7
    go_wp2_with fail
    refine X.mono ?_
    rintro e w1 ⟨rfl, b1⟩
    have B1 : Hid _ := b1
    clear X b1
    go_wp2
    go_ret
    exact ⟨rfl, B1.out⟩
  have q0 : (L.length : Int) ≤ 200 := by omega
  have X1 := root_nil 1000 L v w (by omega) (Nat.le_refl _) h ht
  have hRs : isSum (rootS L) := rootS_sum h.1
  have t0 := ht.1
  obtain ⟨R, hR⟩ : ∃ R, R = rootS L := ⟨_, rfl⟩
  rw [← hR] at X1 hRs
  unfold sumV at X1
  have HG : Hid (∀ wz, Below w.heap.size w wz → sumsAt wz v L ∧ tabIs wz) := (show _ from fun wz hz => ⟨h.below hz (Nat.le_refl _), ht.below hz t0⟩)
  have HCEL : Hid (∀ k (hk : k < L.length), ∃ g o, (∃ cap, v = .slice (some ⟨g, o, none⟩) L.length cap) ∧ isSum L[k] ∧ ∀ wz, Below w.heap.size w wz → ∀ j, j < 32 → wz.cell? ⟨g, o + k * 32 + j, none⟩ = some (arrV L[k] j)) := (show _ from fun k hk => by
    obtain ⟨hs, a, cap, e, _, _, hc⟩ := h
    obtain ⟨g, o, rfl, hg, hc⟩ := hc (by omega)
    exact ⟨g, o, ⟨cap, e⟩, hs _ (List.getElem_mem _), fun wz hz j hj => (hz.cell (p := ⟨g, o + k * 32 + j, none⟩) hg).trans (hc k hk j hj)⟩)
  have HR : Hid _ := hR
  have HRS : Hid _ := hRs
  have HB : Hid (L.length ≤ 200) := (show L.length ≤ 200 from by omega)
  obtain ⟨va, vc, rfl⟩ := hsl
  have hz32 := zero_s32
  clear h ht hR hRs t0 hbig
  go_enter Tryd.func7, Tryd.ntmps7
  go_wp2_with fail
  refine X1.mono ?_
  rintro e w1 ⟨rfl, b1⟩
  clear X1
  have r1 := rowIs_box w1 28 32 (fun _ => .int .u8 0)
  go_upto_region 4 with (refine wpList_store_row rfl 28 _ _ rfl rfl w1.heap.size 0 32 (arrV R) rfl rfl hi32' (fun _ _ => rfl) _ _ _ r1 (by omega) ?_; intro w2 r2 hz2 hb2)
  have ba1 : Below w1.heap.size w1 (w1.alloc (.cells (rowV 32 (fun _ => .int .u8 0)) 28)) := (Below.refl _ _).alloc (Nat.le_refl _) _
  have b12 : Below w1.heap.size w1 w2 := ba1.trans ((hb2.mono (by simp)).below (Nat.le_refl _))
  have z2 : w2.heap.size = w1.heap.size + 1 := by rw [hz2]; simp
  have bw2 : Below w.heap.size w w2 := b1.trans (b12.mono b1.size)
  have r2' : w2.rowIs w1.heap.size 28 32 (arrV R) := r2.congr fun i hi => by rw [if_pos (by omega), Nat.sub_zero]
  have z1 := b1.size
  have ST : Hid (∀ wz, Below w2.heap.size w2 wz → Below w.heap.size w wz ∧ ∀ j, j < 32 → wz.cell? ⟨w1.heap.size, 0 + j, none⟩ = some (arrV R j)) := (show _ from fun wz hz => ⟨bw2.trans (hz.mono (by omega)), fun j hj => by rw [Nat.zero_add]; exact (hz.row r2' (by omega)).cell hj⟩)
  have ER : Hid (∀ wz : World, (Op.equalIn 10000 28 (.agg (rowV 32 (arrV R))) (.agg (rowV 32 (arrV R)))).run Tryd.prog wz = .ok true wz) := (show _ from fun wz => by have := run_eq_sums wz 9998 HRS.out HRS.out; rwa [decide_eq_true rfl] at this)
  clear ba1 b12 z2 bw2 r2 r2' z1 b1 r1 hz2 hb2
  go_wp2
  go_loopw [4] (fun i wr => ∃ k : Nat, i = .int .i64 k ∧ k ≤ L.length ∧ Below w2.heap.size w2 wr) (fun i _ => L.length - (intOf i).toNat)
  case atStart => exact ⟨0, rfl, by omega, Below.refl _ _⟩
  case round =>
    obtain ⟨k, rfl, hk, hb⟩ := hrel
    by_cases hlt : k < L.length
    · obtain ⟨g, o, ⟨cap, hv⟩, hxs, hx⟩ := HCEL.out k hlt
      injection hv with hv1 hv2 hv3
      subst hv1 hv3
      have k0 : (0 : Int) ≤ (k : Int) := by omega
      have k1 : (k : Int) < (L.length : Int) := by omega
      have OK := okLead_path hlt
      have LP := lead_pathI hlt
      have PL := pathI_len hlt (by have := HB.out; omega)
      obtain ⟨x, hxe⟩ : ∃ x, x = L[k] := ⟨_, rfl⟩
      rw [← hxe] at hxs hx LP
      have HX : Hid _ := hx
      have HXS : Hid _ := hxs
      have HBR : Hid (Below w2.heap.size w2 wr) := (show Below w2.heap.size w2 wr from hb)
      rw [← HR.out] at LP
      have HOK : Hid _ := OK
      have HLP : Hid _ := LP
      have HPL : Hid _ := PL
      have kl : (k : Int) ≤ 200 := by omega
      clear hxe hv2 hx hxs hb OK LP PL HCEL
      go_upto_region 7 with fail
      obtain ⟨wd, hwd⟩ : ∃ wd, wd = wr.drew := ⟨_, rfl⟩
      have hwr : Below w2.heap.size w2 wd := by rw [hwd]; exact (show Below w2.heap.size w2 wr from HBR.out).drew
      refine wp_region_noPanic ?_
      refine wp_region_held_drew (S := fun w' => Below w2.heap.size w2 w') (by kernel_rfl) (by rw [← hwd]; exact hwr) (fun hHeld => ?_)
      rw [← hwd] at hHeld ⊢
      clear hwd hwr HBR
      refine take_op (i := 0) (v := ?vz0) rfl (by kernel_rfl) (by kernel_rfl) (by kernel_rfl) (fun _ _ _ h => h) rfl hHeld ?yz0 ?rz0
      case yz0 => (intro wz hz; go_simp; first | done | with_reducible rfl)
      try simp only [Act.put, List.setIfInBounds_toArray, List.set_cons_zero, List.set_cons_succ]
      refine take_op (i := 1) (v := ?vz1) rfl (by kernel_rfl) (by kernel_rfl) (by kernel_rfl) (fun _ _ _ h => h) rfl hHeld ?yz1 ?rz1
      case yz1 => (intro wz hz; go_simp; first | done | with_reducible rfl)
      try simp only [Act.put, List.setIfInBounds_toArray, List.set_cons_zero, List.set_cons_succ]
      refine take_op (i := 2) (v := ?vz2) rfl (by kernel_rfl) (by kernel_rfl) (by kernel_rfl) (fun _ _ _ h => h) rfl hHeld ?yz2 ?rz2
      case yz2 => (intro wz hz; go_simp; first | done | with_reducible rfl)
      try simp only [Act.put, List.setIfInBounds_toArray, List.set_cons_zero, List.set_cons_succ]
      refine take_op (i := 3) (v := ?vz3) rfl (by kernel_rfl) (by kernel_rfl) (by kernel_rfl) (fun _ _ _ h => h) rfl hHeld ?yz3 ?rz3
      case yz3 => (intro wz hz; go_simp; first | done | with_reducible rfl)
      try simp only [Act.put, List.setIfInBounds_toArray, List.set_cons_zero, List.set_cons_succ]
      refine take_op (i := 4) (v := ?vz4) rfl (by kernel_rfl) (by kernel_rfl) (by kernel_rfl) (fun _ _ _ h => h) rfl hHeld ?yz4 ?rz4
      case yz4 => (intro wz hz; go_simp; first | done | with_reducible rfl)
      try simp only [Act.put, List.setIfInBounds_toArray, List.set_cons_zero, List.set_cons_succ]
      refine take_op (i := 5) (v := ?vz5) rfl (by kernel_rfl) (by kernel_rfl) (by kernel_rfl) (fun _ _ _ h => h) rfl hHeld ?yz5 ?rz5
      case yz5 => (intro wz hz; go_simp; first | done | with_reducible rfl)
      try simp only [Act.put, List.setIfInBounds_toArray, List.set_cons_zero, List.set_cons_succ]
      refine take_load (i := 6) rfl (by kernel_rfl) (by kernel_rfl) (by kernel_rfl) 28 _ rfl g (o + k * 32) 32 (arrV (x)) rfl _ Tryd.underlying28 rfl (by kernel_rfl) (fun _ _ _ h => h) rfl hHeld (fun wz hz => HX.out wz (ST.out wz hz).1) ?_
      try simp only [Act.put, List.setIfInBounds_toArray, List.set_cons_zero, List.set_cons_succ]
      refine take_op (i := 7) (v := ?vz7) rfl (by kernel_rfl) (by kernel_rfl) (by kernel_rfl) (fun _ _ _ h => h) rfl hHeld ?yz7 ?rz7
      case yz7 => (intro wz hz; go_simp; first | done | with_reducible rfl)
      try simp only [Act.put, List.setIfInBounds_toArray, List.set_cons_zero, List.set_cons_succ]
      refine take_op (i := 8) (v := ?vz8) rfl (by kernel_rfl) (by kernel_rfl) (by kernel_rfl) (fun _ _ _ h => h) rfl hHeld ?yz8 ?rz8
      case yz8 => (intro wz hz; go_simp; first | done | with_reducible rfl)
      try simp only [Act.put, List.setIfInBounds_toArray, List.set_cons_zero, List.set_cons_succ]
      refine take_pair (i := 9) (j := 14) rfl rfl (by kernel_rfl) rfl rfl ?c9 ?c14
      case c9 =>
        have Y1 := path_k (fun _ => False) (.pointer none) [] 0 L _ (k : Int) wd (by omega) (bkAt.none wd [] 0) (HG.out wd (ST.out wd hHeld).1).1 (fun _ _ _ h => h) (Nat.le_trans HB.out (by omega)) (HG.out wd (ST.out wd hHeld).1).2 (fun h => h) (by have := HB.out; simp; omega) (by omega)
        intro K hK
        go_simp
        refine Calls.mono Y1 ?_
        rintro e x1 ⟨v1, Fi, rfl, n1, -, -, -, f1⟩
        clear Y1
        have f1' := Fr.none f1
        have m1 : Below w2.heap.size w2 x1 := hHeld.trans (f1'.mono hHeld.size)
        have yp := n1.is
        obtain ⟨pa, pc, hv1, _⟩ := ownsRow_slice n1.2
        subst hv1
        clear f1 n1
        refine hK.out _ _ m1 (fun hHeld => ?_)
        clear hK K
        try simp only [Act.put, List.setIfInBounds_toArray, List.set_cons_zero, List.set_cons_succ]
        refine take_pair (i := 10) (j := 14) rfl rfl (by kernel_rfl) rfl rfl ?d10 ?d14
        case d10 =>
          have Y2 := lead_yes (fun _ => False) (.pointer none) [] 0 (L.length : Int) (k : Int) (by omega) (by omega) x _ _ x1 HXS.out (bkAt.none x1 [] 0) yp (fun _ _ _ h => h) (HG.out x1 (ST.out x1 hHeld).1).2 (fun h => h) (by have := HPL.out; simp; omega) (by omega) (by have := HPL.out; omega) HOK.out
          rw [HLP.out] at Y2
          unfold sumV at Y2
          clear yp
          intro K hK
          go_simp
          refine Calls.mono Y2 ?_
          rintro e x2 ⟨rfl, -, f2⟩
          clear Y2
          have f2' := Fr.none f2
          have m2 : Below w2.heap.size w2 x2 := hHeld.trans (f2'.mono hHeld.size)
          clear f2
          refine hK.out _ _ m2 (fun hHeld => ?_)
          clear hK K
          try simp only [Act.put, List.setIfInBounds_toArray, List.set_cons_zero, List.set_cons_succ]
          refine take_op (i := 11) (v := ?vu11) rfl (by kernel_rfl) (by kernel_rfl) (by kernel_rfl) (fun _ _ _ h => h) rfl hHeld ?yu11 ?ru11
          case yu11 => (intro wz hz; go_simp; first | done | with_reducible rfl)
          try simp only [Act.put, List.setIfInBounds_toArray, List.set_cons_zero, List.set_cons_succ]
          refine take_op (i := 12) (v := ?vu12) rfl (by kernel_rfl) (by kernel_rfl) (by kernel_rfl) (fun _ _ _ h => h) rfl hHeld ?yu12 ?ru12
          case yu12 => (intro wz hz; go_simp; first | done | with_reducible rfl)
          try simp only [Act.put, List.setIfInBounds_toArray, List.set_cons_zero, List.set_cons_succ]
          refine take_op (i := 13) (v := ?vu13) rfl (by kernel_rfl) (by kernel_rfl) (by kernel_rfl) (fun _ _ _ h => h) rfl hHeld ?yu13 ?ru13
          case yu13 => (intro wz hz; go_simp; first | done | with_reducible rfl)
          try simp only [Act.put, List.setIfInBounds_toArray, List.set_cons_zero, List.set_cons_succ]
          refine take_one (i := 14) rfl (by kernel_rfl) rfl (fun K hK => ?_)
          obtain ⟨wa, hwa⟩ : ∃ wa, wa = x2.alloc (.cells (rowV 32 (fun _ => .int .u8 0)) 28) := ⟨_, rfl⟩
          refine wp_of_run (w' := wa) (by rw [hwa]; exact exec_alloc_sum rfl) ?_
          have ba : Below x2.heap.size x2 wa := by rw [hwa]; exact (Below.refl _ _).alloc (Nat.le_refl _) _
          have ra : wa.rowIs x2.heap.size 28 32 (fun _ => .int .u8 0) := by rw [hwa]; exact rowIs_box _ _ _ _
          obtain ⟨bz, hbz⟩ : ∃ bz, bz = x2.heap.size := ⟨_, rfl⟩
          have hbl : bz < wa.heap.size := by rw [hbz, hwa]; simp
          rw [← hbz] at ra ⊢
          have hbg : w2.heap.size ≤ bz := by rw [hbz]; exact hHeld.size
          have ma : Below w2.heap.size w2 wa := hHeld.trans (ba.mono hHeld.size)
          clear hwa ba hbz
          refine hK.out _ _ ma (fun hHeld => ?_)
          clear hK K
          try simp only [Act.put, List.setIfInBounds_toArray, List.set_cons_zero, List.set_cons_succ]
          have r9 : wa.rowIs bz 28 32 (fun _ => .int .u8 0) := ra
          refine take_one (i := 15) rfl (by kernel_rfl) rfl (fun K hK => ?_)
          have hst := stowR_run (P := Tryd.prog) wa 28 bz 0 32 (arrV R) hi32' (fun _ _ => rfl) (there_of_row r9 (by omega))
          unfold Oper.wp execOp
          simp only [Instr.storeAt, Instr.sureAddr, Sem.run_bind, Sem.run_pure, Result.andThen_ok]
          simp [Act.eval, hst, Oper.upon]
          clear hst
          have r10 : (wa.setCells bz 0 (rowV 32 (arrV R)).toList).rowIs bz 28 32 (arrV R) := (rowIs_splice r9).congr fun i hi => by rw [if_pos (by omega), Nat.sub_zero]
          have m10 : Below w2.heap.size w2 (wa.setCells bz 0 (rowV 32 (arrV R)).toList) := below_setCells bz hbg _ _ hHeld
          generalize wa.setCells bz 0 (rowV 32 (arrV R)).toList = w9 at r10 m10 ⊢
          refine hK.out _ _ m10 (fun hHeld => ?_)
          clear hK K r9 ra
          try simp only [Act.put, List.setIfInBounds_toArray, List.set_cons_zero, List.set_cons_succ]
          refine take_op (i := 16) (v := ?vt116) rfl (by kernel_rfl) (by kernel_rfl) (by kernel_rfl) (fun _ _ _ h => h) rfl hHeld ?yt116 ?rt116
          case yt116 => (intro wz hz; go_simp; first | done | with_reducible rfl)
          try simp only [Act.put, List.setIfInBounds_toArray, List.set_cons_zero, List.set_cons_succ]
          refine wpAnyH_done (by kernel_rfl) ?_ _
          refine NoPanic.normal ?_
          have ls : ∀ j, j < 32 → w9.cell? ⟨bz, 0 + j, none⟩ = some (arrV R j) := fun j hj => by rw [Nat.zero_add]; exact r10.cell hj
          have lt := (ST.out w9 m10).2
          have heq := ER.out
          have M10 : Hid (Below w2.heap.size w2 w9) := (show Below w2.heap.size w2 w9 from m10)
          clear r10 m10 hHeld hbl hbg
          go_wp2_with (first | (refine wpList_load_w 28 (.tmp 5) rfl rfl bz 0 32 (arrV R) rfl _ Tryd.underlying28 rfl hi32' ls ?_) | (refine wpList_load_w 28 (.tmp 3) rfl rfl w1.heap.size 0 32 (arrV R) rfl _ Tryd.underlying28 rfl hi32' lt ?_))
          go_light
          exact ⟨⟨k + 1, by go_num, by omega, M10.out⟩, by simp [intOf]; omega⟩
        case d14 =>
          intro K hK
          obtain ⟨wa, hwa⟩ : ∃ wa, wa = x1.alloc (.cells (rowV 32 (fun _ => .int .u8 0)) 28) := ⟨_, rfl⟩
          refine wp_of_run (w' := wa) (by rw [hwa]; exact exec_alloc_sum rfl) ?_
          have ba : Below x1.heap.size x1 wa := by rw [hwa]; exact (Below.refl _ _).alloc (Nat.le_refl _) _
          have ra : wa.rowIs x1.heap.size 28 32 (fun _ => .int .u8 0) := by rw [hwa]; exact rowIs_box _ _ _ _
          obtain ⟨bz, hbz⟩ : ∃ bz, bz = x1.heap.size := ⟨_, rfl⟩
          have hbl : bz < wa.heap.size := by rw [hbz, hwa]; simp
          rw [← hbz] at ra ⊢
          have hbg : w2.heap.size ≤ bz := by rw [hbz]; exact hHeld.size
          have ma : Below w2.heap.size w2 wa := hHeld.trans (ba.mono hHeld.size)
          have yp := yp.below ba (Nat.le_refl _)
          clear hwa ba hbz
          refine hK.out _ _ ma (fun hHeld => ?_)
          clear hK K
          try simp only [Act.put, List.setIfInBounds_toArray, List.set_cons_zero, List.set_cons_succ]
          have Y2 := lead_yes (fun _ => False) (.pointer none) [] 0 (L.length : Int) (k : Int) (by omega) (by omega) x _ _ wa HXS.out (bkAt.none wa [] 0) yp (fun _ _ _ h => h) (HG.out wa (ST.out wa hHeld).1).2 (fun h => h) (by have := HPL.out; simp; omega) (by omega) (by have := HPL.out; omega) HOK.out
          rw [HLP.out] at Y2
          unfold sumV at Y2
          clear yp
          refine take_one (i := 10) rfl (by kernel_rfl) rfl (fun K hK => ?_)
          go_simp
          refine Calls.mono Y2 ?_
          rintro e x2 ⟨rfl, -, f2⟩
          clear Y2
          have f2' := Fr.none f2
          have m2 : Below w2.heap.size w2 x2 := hHeld.trans (f2'.mono hHeld.size)
          clear f2
          have ra := f2'.row ra hbl
          refine hK.out _ _ m2 (fun hHeld => ?_)
          clear hK K
          try simp only [Act.put, List.setIfInBounds_toArray, List.set_cons_zero, List.set_cons_succ]
          refine take_op (i := 11) (v := ?vv11) rfl (by kernel_rfl) (by kernel_rfl) (by kernel_rfl) (fun _ _ _ h => h) rfl hHeld ?yv11 ?rv11
          case yv11 => (intro wz hz; go_simp; first | done | with_reducible rfl)
          try simp only [Act.put, List.setIfInBounds_toArray, List.set_cons_zero, List.set_cons_succ]
          refine take_op (i := 12) (v := ?vv12) rfl (by kernel_rfl) (by kernel_rfl) (by kernel_rfl) (fun _ _ _ h => h) rfl hHeld ?yv12 ?rv12
          case yv12 => (intro wz hz; go_simp; first | done | with_reducible rfl)
          try simp only [Act.put, List.setIfInBounds_toArray, List.set_cons_zero, List.set_cons_succ]
          refine take_op (i := 13) (v := ?vv13) rfl (by kernel_rfl) (by kernel_rfl) (by kernel_rfl) (fun _ _ _ h => h) rfl hHeld ?yv13 ?rv13
          case yv13 => (intro wz hz; go_simp; first | done | with_reducible rfl)
          try simp only [Act.put, List.setIfInBounds_toArray, List.set_cons_zero, List.set_cons_succ]
          have r9 : x2.rowIs bz 28 32 (fun _ => .int .u8 0) := ra
          refine take_one (i := 15) rfl (by kernel_rfl) rfl (fun K hK => ?_)
          have hst := stowR_run (P := Tryd.prog) x2 28 bz 0 32 (arrV R) hi32' (fun _ _ => rfl) (there_of_row r9 (by omega))
          unfold Oper.wp execOp
          simp only [Instr.storeAt, Instr.sureAddr, Sem.run_bind, Sem.run_pure, Result.andThen_ok]
          simp [Act.eval, hst, Oper.upon]
          clear hst
          have r10 : (x2.setCells bz 0 (rowV 32 (arrV R)).toList).rowIs bz 28 32 (arrV R) := (rowIs_splice r9).congr fun i hi => by rw [if_pos (by omega), Nat.sub_zero]
          have m10 : Below w2.heap.size w2 (x2.setCells bz 0 (rowV 32 (arrV R)).toList) := below_setCells bz hbg _ _ hHeld
          generalize x2.setCells bz 0 (rowV 32 (arrV R)).toList = w9 at r10 m10 ⊢
          refine hK.out _ _ m10 (fun hHeld => ?_)
          clear hK K r9 ra
          try simp only [Act.put, List.setIfInBounds_toArray, List.set_cons_zero, List.set_cons_succ]
          refine take_op (i := 16) (v := ?vt216) rfl (by kernel_rfl) (by kernel_rfl) (by kernel_rfl) (fun _ _ _ h => h) rfl hHeld ?yt216 ?rt216
          case yt216 => (intro wz hz; go_simp; first | done | with_reducible rfl)
          try simp only [Act.put, List.setIfInBounds_toArray, List.set_cons_zero, List.set_cons_succ]
          refine wpAnyH_done (by kernel_rfl) ?_ _
          refine NoPanic.normal ?_
          have ls : ∀ j, j < 32 → w9.cell? ⟨bz, 0 + j, none⟩ = some (arrV R j) := fun j hj => by rw [Nat.zero_add]; exact r10.cell hj
          have lt := (ST.out w9 m10).2
          have heq := ER.out
          have M10 : Hid (Below w2.heap.size w2 w9) := (show Below w2.heap.size w2 w9 from m10)
          clear r10 m10 hHeld hbl hbg
          go_wp2_with (first | (refine wpList_load_w 28 (.tmp 5) rfl rfl bz 0 32 (arrV R) rfl _ Tryd.underlying28 rfl hi32' ls ?_) | (refine wpList_load_w 28 (.tmp 3) rfl rfl w1.heap.size 0 32 (arrV R) rfl _ Tryd.underlying28 rfl hi32' lt ?_))
          go_light
          exact ⟨⟨k + 1, by go_num, by omega, M10.out⟩, by simp [intOf]; omega⟩
      case c14 =>
        intro K hK
        obtain ⟨wa, hwa⟩ : ∃ wa, wa = wd.alloc (.cells (rowV 32 (fun _ => .int .u8 0)) 28) := ⟨_, rfl⟩
        refine wp_of_run (w' := wa) (by rw [hwa]; exact exec_alloc_sum rfl) ?_
        have ba : Below wd.heap.size wd wa := by rw [hwa]; exact (Below.refl _ _).alloc (Nat.le_refl _) _
        have ra : wa.rowIs wd.heap.size 28 32 (fun _ => .int .u8 0) := by rw [hwa]; exact rowIs_box _ _ _ _
        obtain ⟨bz, hbz⟩ : ∃ bz, bz = wd.heap.size := ⟨_, rfl⟩
        have hbl : bz < wa.heap.size := by rw [hbz, hwa]; simp
        rw [← hbz] at ra ⊢
        have hbg : w2.heap.size ≤ bz := by rw [hbz]; exact hHeld.size
        have ma : Below w2.heap.size w2 wa := hHeld.trans (ba.mono hHeld.size)
        clear hwa ba hbz
        refine hK.out _ _ ma (fun hHeld => ?_)
        clear hK K
        try simp only [Act.put, List.setIfInBounds_toArray, List.set_cons_zero, List.set_cons_succ]
        have Y1 := path_k (fun _ => False) (.pointer none) [] 0 L _ (k : Int) wa (by omega) (bkAt.none wa [] 0) (HG.out wa (ST.out wa hHeld).1).1 (fun _ _ _ h => h) (Nat.le_trans HB.out (by omega)) (HG.out wa (ST.out wa hHeld).1).2 (fun h => h) (by have := HB.out; simp; omega) (by omega)
        refine take_one (i := 9) rfl (by kernel_rfl) rfl (fun K hK => ?_)
        go_simp
        refine Calls.mono Y1 ?_
        rintro e x1 ⟨v1, Fi, rfl, n1, -, -, -, f1⟩
        clear Y1
        have f1' := Fr.none f1
        have m1 : Below w2.heap.size w2 x1 := hHeld.trans (f1'.mono hHeld.size)
        have yp := n1.is
        obtain ⟨pa, pc, hv1, _⟩ := ownsRow_slice n1.2
        subst hv1
        clear f1 n1
        have ra := f1'.row ra hbl
        have hbl := Nat.lt_of_lt_of_le hbl f1'.size
        refine hK.out _ _ m1 (fun hHeld => ?_)
        clear hK K
        try simp only [Act.put, List.setIfInBounds_toArray, List.set_cons_zero, List.set_cons_succ]
        have Y2 := lead_yes (fun _ => False) (.pointer none) [] 0 (L.length : Int) (k : Int) (by omega) (by omega) x _ _ x1 HXS.out (bkAt.none x1 [] 0) yp (fun _ _ _ h => h) (HG.out x1 (ST.out x1 hHeld).1).2 (fun h => h) (by have := HPL.out; simp; omega) (by omega) (by have := HPL.out; omega) HOK.out
        rw [HLP.out] at Y2
        unfold sumV at Y2
        clear yp
        refine take_one (i := 10) rfl (by kernel_rfl) rfl (fun K hK => ?_)
        go_simp
        refine Calls.mono Y2 ?_
        rintro e x2 ⟨rfl, -, f2⟩
        clear Y2
        have f2' := Fr.none f2
        have m2 : Below w2.heap.size w2 x2 := hHeld.trans (f2'.mono hHeld.size)
        clear f2
        have ra := f2'.row ra hbl
        refine hK.out _ _ m2 (fun hHeld => ?_)
        clear hK K
        try simp only [Act.put, List.setIfInBounds_toArray, List.set_cons_zero, List.set_cons_succ]
        refine take_op (i := 11) (v := ?vy11) rfl (by kernel_rfl) (by kernel_rfl) (by kernel_rfl) (fun _ _ _ h => h) rfl hHeld ?yy11 ?ry11
        case yy11 => (intro wz hz; go_simp; first | done | with_reducible rfl)
        try simp only [Act.put, List.setIfInBounds_toArray, List.set_cons_zero, List.set_cons_succ]
        refine take_op (i := 12) (v := ?vy12) rfl (by kernel_rfl) (by kernel_rfl) (by kernel_rfl) (fun _ _ _ h => h) rfl hHeld ?yy12 ?ry12
        case yy12 => (intro wz hz; go_simp; first | done | with_reducible rfl)
        try simp only [Act.put, List.setIfInBounds_toArray, List.set_cons_zero, List.set_cons_succ]
        refine take_op (i := 13) (v := ?vy13) rfl (by kernel_rfl) (by kernel_rfl) (by kernel_rfl) (fun _ _ _ h => h) rfl hHeld ?yy13 ?ry13
        case yy13 => (intro wz hz; go_simp; first | done | with_reducible rfl)
        try simp only [Act.put, List.setIfInBounds_toArray, List.set_cons_zero, List.set_cons_succ]
        have r9 : x2.rowIs bz 28 32 (fun _ => .int .u8 0) := ra
        refine take_one (i := 15) rfl (by kernel_rfl) rfl (fun K hK => ?_)
        have hst := stowR_run (P := Tryd.prog) x2 28 bz 0 32 (arrV R) hi32' (fun _ _ => rfl) (there_of_row r9 (by omega))
        unfold Oper.wp execOp
        simp only [Instr.storeAt, Instr.sureAddr, Sem.run_bind, Sem.run_pure, Result.andThen_ok]
        simp [Act.eval, hst, Oper.upon]
        clear hst
        have r10 : (x2.setCells bz 0 (rowV 32 (arrV R)).toList).rowIs bz 28 32 (arrV R) := (rowIs_splice r9).congr fun i hi => by rw [if_pos (by omega), Nat.sub_zero]
        have m10 : Below w2.heap.size w2 (x2.setCells bz 0 (rowV 32 (arrV R)).toList) := below_setCells bz hbg _ _ hHeld
        generalize x2.setCells bz 0 (rowV 32 (arrV R)).toList = w9 at r10 m10 ⊢
        refine hK.out _ _ m10 (fun hHeld => ?_)
        clear hK K r9 ra
        try simp only [Act.put, List.setIfInBounds_toArray, List.set_cons_zero, List.set_cons_succ]
        refine take_op (i := 16) (v := ?vt316) rfl (by kernel_rfl) (by kernel_rfl) (by kernel_rfl) (fun _ _ _ h => h) rfl hHeld ?yt316 ?rt316
        case yt316 => (intro wz hz; go_simp; first | done | with_reducible rfl)
        try simp only [Act.put, List.setIfInBounds_toArray, List.set_cons_zero, List.set_cons_succ]
        refine wpAnyH_done (by kernel_rfl) ?_ _
        refine NoPanic.normal ?_
        have ls : ∀ j, j < 32 → w9.cell? ⟨bz, 0 + j, none⟩ = some (arrV R j) := fun j hj => by rw [Nat.zero_add]; exact r10.cell hj
        have lt := (ST.out w9 m10).2
        have heq := ER.out
        have M10 : Hid (Below w2.heap.size w2 w9) := (show Below w2.heap.size w2 w9 from m10)
        clear r10 m10 hHeld hbl hbg
        go_wp2_with (first | (refine wpList_load_w 28 (.tmp 5) rfl rfl bz 0 32 (arrV R) rfl _ Tryd.underlying28 rfl hi32' ls ?_) | (refine wpList_load_w 28 (.tmp 3) rfl rfl w1.heap.size 0 32 (arrV R) rfl _ Tryd.underlying28 rfl hi32' lt ?_))
        go_light
        exact ⟨⟨k + 1, by go_num, by omega, M10.out⟩, by simp [intOf]; omega⟩
    · obtain rfl : k = L.length := by omega
      have k1 : ¬ (L.length : Int) < (L.length : Int) := by omega
      obtain ⟨s1, s2⟩ := ST.out wr hb
      have SB : Hid (∀ wz, Below wr.heap.size wr wz → Below w2.heap.size w2 wz) := (show _ from fun wz hz => hb.trans (hz.mono hb.size))
      have X2 := lead_no (.pointer none) (L.length : Int) (-1) (by omega) (by omega) R [] (.slice none 0 0) wr (sumsAt.nil wr) (by simp) (okLead_below _)
      unfold sumV at X2
      clear hb s1 HCEL
      go_wp2_with (refine wpList_load_w 28 (.tmp 3) rfl rfl w1.heap.size 0 32 (arrV R) rfl _ Tryd.underlying28 rfl hi32' s2 ?_)
      refine X2.mono ?_
      rintro e x1 ⟨rfl, g1⟩
      clear X2 s2
      have y1 := rowIs_box x1 28 32 (fun _ => .int .u8 0)
      have G1 : Hid _ := g1
      clear g1
      go_upto_region 11 with (refine wpList_store_row rfl 28 _ _ rfl rfl x1.heap.size 0 32 (fun _ => .int .u8 0) rfl rfl hi32' (fun _ _ => rfl) _ _ _ y1 (by omega) ?_; intro x2 r2 hz2 hb2)
      have ba : Below x1.heap.size x1 (x1.alloc (.cells (rowV 32 (fun _ => .int .u8 0)) 28)) := (Below.refl _ _).alloc (Nat.le_refl _) _
      have g2 : Below wr.heap.size wr x2 := (show Below wr.heap.size wr x1 from G1.out).trans ((ba.trans ((hb2.mono (by simp)).below (Nat.le_refl _))).mono (show wr.heap.size ≤ x1.heap.size from Below.size G1.out))
      have G2 : Hid (Below wr.heap.size wr x2) := (show Below wr.heap.size wr x2 from g2)
      obtain ⟨s1, s2⟩ := ST.out x2 (SB.out x2 g2)
      have X3 := lead_no (.pointer none) (L.length : Int) (L.length : Int) (by omega) (by omega) R [] (.slice none 0 0) x2 (sumsAt.nil x2) (by simp) (okLead_above _)
      unfold sumV at X3
      clear ba g2 r2 hz2 hb2 y1 s1 G1
      go_wp2_with (refine wpList_load_w 28 (.tmp 3) rfl rfl w1.heap.size 0 32 (arrV R) rfl _ Tryd.underlying28 rfl hi32' s2 ?_)
      refine X3.mono ?_
      rintro e x3 ⟨rfl, g3⟩
      clear X3 s2
      have y3 := rowIs_box x3 28 32 (fun _ => .int .u8 0)
      have G3 : Hid _ := g3
      clear g3
      go_upto_region 12 with (refine wpList_store_row rfl 28 _ _ rfl rfl x3.heap.size 0 32 (fun _ => .int .u8 0) rfl rfl hi32' (fun _ _ => rfl) _ _ _ y3 (by omega) ?_; intro x4 r4 hz4 hb4)
      have ba : Below x3.heap.size x3 (x3.alloc (.cells (rowV 32 (fun _ => .int .u8 0)) 28)) := (Below.refl _ _).alloc (Nat.le_refl _) _
      have g4 : Below wr.heap.size wr x4 := (show Below wr.heap.size wr x2 from G2.out).trans (((show Below x2.heap.size x2 x3 from G3.out).trans ((ba.trans ((hb4.mono (by simp)).below (Nat.le_refl _))).mono (show x2.heap.size ≤ x3.heap.size from Below.size G3.out))).mono (show wr.heap.size ≤ x2.heap.size from Below.size G2.out))
      have s4 := ST.out x4 (SB.out x4 g4)
      have X5 := awake_any x4 (HG.out x4 s4.1).2
      have F4 : Hid (Below w.heap.size w x4) := (show Below w.heap.size w x4 from s4.1)
      clear ba g4 r4 hz4 hb4 y3 s4 G2 G3 hz32
      go_wp2_with fail
      refine X5.mono ?_
      rintro e x5 ⟨rfl, g5⟩
      have F5 : Hid (Below w.heap.size w x5) := (show Below w.heap.size w x5 from (show Below w.heap.size w x4 from F4.out).trans (g5.mono (show w.heap.size ≤ x4.heap.size from Below.size F4.out)))
      clear X5 g5
      go_wp2
      go_ret
      exact ⟨rfl, F5.out⟩
end Go.Proofs.YtppfeilndcdoeaaDoor

/- The document's There. -/
namespace Go.Proofs.YtppfeilndcdoeaaDoor
set_option linter.unusedSimpArgs false
set_option linter.unusedVariables false
open Go.RowKit Go.Deep

theorem rthere_any (n at_ : Int) (w : World) : Calls Tryd.prog 31 #[.int .i64 n, .int .i64 at_] w fun e w' => e = .returned (.bool (thereB n at_)) ∧ w' = w := by
  by_cases h0 : 0 ≤ at_
  · have h0' : -1 < at_ := by omega
    by_cases h1 : at_ < n
    · have E : Hid (thereB n at_ = true) := (show thereB n at_ = true from by simp [thereB, h0, h1])
      go_enter Tryd.func31, Tryd.ntmps31
      go_wp2
      go_ret
      exact ⟨by rw [E.out]; rfl, rfl⟩
    · have E : Hid (thereB n at_ = false) := (show thereB n at_ = false from by simp [thereB, h1])
      go_enter Tryd.func31, Tryd.ntmps31
      go_wp2
      go_ret
      exact ⟨by rw [E.out]; rfl, rfl⟩
  · have h0' : ¬ -1 < at_ := by omega
    have E : Hid (thereB n at_ = false) := (show thereB n at_ = false from by simp [thereB, h0])
    go_enter Tryd.func31, Tryd.ntmps31
    go_wp2
    go_ret
    exact ⟨by rw [E.out]; rfl, rfl⟩
end Go.Proofs.YtppfeilndcdoeaaDoor

/- The document's Path. -/
namespace Go.Proofs.YtppfeilndcdoeaaDoor
set_option linter.unusedSimpArgs false
set_option linter.unusedVariables false
open Go.RowKit Go.Deep

theorem pathI_left {L : List (List Int)} {p : Nat} (h : 2 ≤ L.length) (hp : p < halfN L.length) : pathI L (p : Int) = pathI (L.take (halfN L.length)) (p : Int) ++ [rootS (L.drop (halfN L.length))] := by
  have ht := half_take h
  rw [pathI_there (by omega), pathI_there (by omega), pathS_left h hp]
theorem pathI_right {L : List (List Int)} {p : Nat} (h : 2 ≤ L.length) (hp : ¬ p < halfN L.length) (hl : p < L.length) : pathI L (p : Int) = pathI (L.drop (halfN L.length)) ((p : Int) - (halfN L.length : Int)) ++ [rootS (L.take (halfN L.length))] := by
  have ht := half_take h
  rw [show ((p : Int) - (halfN L.length : Int)) = ((p - halfN L.length : Nat) : Int) by omega, pathI_there hl, pathI_there (by omega), pathS_right h hp]
/-- one root more behind a path of the call's own. -/
theorem path_more (w0 w : World) (u : Value) (P : List (List Int)) (q : List Int) (hq : isSum q) (hu : newSums w w0.heap.size u P) (hb : Below w0.heap.size w0 w) (hl : P.length ≤ 100) :
    ∃ a c w', (Builtin.append_ #[22, 22] 22 #[u, .slice (some ⟨w.heap.size, 0, none⟩) 1 1]).run Tryd.prog (w.alloc (.cells (rowV 32 (arrV q)) 28)) = .ok (.slice a (P.length + 1) c) w' ∧ newSums w' w0.heap.size (.slice a (P.length + 1) c) (P ++ [q]) ∧ Below w0.heap.size w0 w' := by
  have ba : Below w.heap.size w (w.alloc (.cells (rowV 32 (arrV q)) 28)) := (Below.refl _ _).alloc (Nat.le_refl _) _
  have sz := hb.size
  obtain ⟨a, c, w', hr, hn, hg, _⟩ := sums_append _ w0.heap.size _ _ (hu.below ba (Nat.le_refl _)) _ _ (one_sum w q hq) (by simp; omega) (by simp; omega)
  exact ⟨a, c, w', hr, hn, (hb.trans (ba.mono sz)).trans (below_grown hg (fun j hj => (hu.block j hj).1) (by simp; omega))⟩
set_option maxHeartbeats 4000000 in
set_option maxRecDepth 100000 in
theorem rpath_any : ∀ (n : Nat) (L : List (List Int)) (at_ : Int) (v : Value) (w : World), L.length ≤ n → n ≤ 1000 → -9223372036854775808 ≤ at_ → at_ ≤ 9223372036854775807 → sumsAt w v L →
    Calls Tryd.prog 15 #[v, .int .i64 at_] w fun e w' => ∃ u, e = .returned u ∧ newSums w' w.heap.size u (pathI L at_) ∧ Below w.heap.size w w' := by
  intro n
  induction n using Nat.strongRecOn with
  | _ n ih =>
  intro L at_ v w hn h1000 a0 a1 h
  have X := rthere_any (L.length : Int) at_ w
  have hsl : ∃ a cap, v = .slice a L.length cap := by
    obtain ⟨_, a, cap, e, _⟩ := h; exact ⟨a, cap, e⟩
  have q1 : (L.length : Int) ≤ 1000 := by omega
  have q2 : (0 : Int) ≤ (L.length : Int) := by omega
  cases hth : thereB (L.length : Int) at_ with
  | false =>
    have E : Hid (pathI L at_ = []) := (show _ from pathI_none hth)
    rw [hth] at X
    obtain ⟨va, vc, rfl⟩ := hsl
    clear hth ih h
    go_enter Tryd.func15, Tryd.ntmps15
    go_wp2_with fail
    refine X.mono ?_
    rintro e w' ⟨rfl, hw⟩
    obtain rfl := hw.symm
    clear X hw
    go_wp2
    go_ret
    exact ⟨_, rfl, by rw [E.out]; exact newSums.nil _ _, Below.refl _ _⟩
  | true =>
    have hab : 0 ≤ at_ ∧ at_ < (L.length : Int) := by simpa [thereB] using hth
    obtain ⟨p, rfl⟩ : ∃ p : Nat, at_ = (p : Int) := ⟨at_.toNat, by omega⟩
    have hp : p < L.length := by omega
    rw [hth] at X
    by_cases e1 : L.length = 1
    · have E : Hid (pathI L (p : Int) = []) := (show pathI L (p : Int) = [] from by rw [pathI_there hp, pathS_end (by omega)])
      have i1 : (L.length : Int) = 1 := by omega
      obtain ⟨va, vc, rfl⟩ := hsl
      clear hth ih h
      go_enter Tryd.func15, Tryd.ntmps15
      go_wp2_with fail
      rw [e1] at X
      refine X.mono ?_
      rintro e w' ⟨rfl, hw⟩
      obtain rfl := hw.symm
      clear X hw
      go_wp2
      go_ret
      exact ⟨_, rfl, by rw [E.out]; exact newSums.nil _ _, Below.refl _ _⟩
    have h2 : 2 ≤ L.length := by omega
    have hh := half_take h2
    have XH := rhalf_any (L.length : Int) (by omega) (by omega) w
    have hI : halfI (L.length : Int) = (halfN L.length : Int) := by unfold halfI; rw [Int.toNat_natCast]
    rw [hI] at XH
    obtain ⟨ua, ra, sa, oa, xa, ya, rfl⟩ := h.to' (halfN L.length) (by omega)
    obtain ⟨ub, rb, sb, ob, xb, yb, rfl⟩ := h.from' (halfN L.length) (by omega)
    have PLl := pathI_left (L := L) (p := p) h2
    have PLr := fun c => pathI_right (L := L) (p := p) h2 c hp
    obtain ⟨TL, hTL⟩ : ∃ TL, TL = L.take (halfN L.length) := ⟨_, rfl⟩
    obtain ⟨DL, hDL⟩ : ∃ DL, DL = L.drop (halfN L.length) := ⟨_, rfl⟩
    rw [← hTL] at sa PLl PLr hh
    rw [← hDL] at sb PLl PLr hh
    obtain ⟨m, hm⟩ : ∃ m, m = halfN L.length := ⟨_, rfl⟩
    rw [← hm] at hh PLl PLr XH ra rb
    have hsT : isSum (rootS TL) := rootS_sum sa.1
    have hsD : isSum (rootS DL) := rootS_sum sb.1
    have m0 : (0 : Int) ≤ (m : Int) := by omega
    have m1 : (m : Int) < (L.length : Int) := by omega
    have m2 : (m : Int) ≤ (L.length : Int) := by omega
    have e2 : ¬ (L.length : Int) = 1 := by omega
    have p0 : (0 : Int) ≤ (p : Int) := by omega
    have p1 : (p : Int) < (L.length : Int) := by omega
    have hxa : ∃ z, z = halfN L.length := ⟨_, rfl⟩
    rw [← hm] at sa sb
    obtain ⟨va, vc, rfl⟩ := hsl
    have szl : Hid (∀ wz, Below w.heap.size w wz → sumsAt wz (.slice xa m ya) TL ∧ sumsAt wz (.slice xb (L.length - m) yb) DL) := (show _ from fun wz hz => ⟨sa.below hz (Nat.le_refl _), sb.below hz (Nat.le_refl _)⟩)
    by_cases hl : p < m
    · have Y := ih (n - 1) (by omega) TL (p : Int) _ w.drew (by omega) (by omega) (by omega) (by omega) (szl.out w.drew ((Below.refl _ _).drew)).1
      have EP : Hid (pathI L (p : Int) = pathI TL (p : Int) ++ [rootS DL]) := (show _ from PLl hl)
      have HLn : Hid ((pathI TL (p : Int)).length ≤ 63 ∧ TL.length ≤ 1000 ∧ DL.length ≤ 1000) := (show _ from ⟨pathI_len (by omega) (by omega), by omega, by omega⟩)
      have hli : (p : Int) < (m : Int) := by omega
      have HSD : Hid _ := hsD
      clear hth hab ih h sa sb PLl PLr hh hI hTL hDL hm hsT hsD hn e1 h2 hxa oa ob
      go_enter Tryd.func15, Tryd.ntmps15
      go_wp2_with fail
      refine X.mono ?_
      rintro e w' ⟨rfl, hw⟩
      obtain rfl := hw.symm
      clear X hw
      go_wp2_with fail
      refine XH.mono ?_
      rintro e w' ⟨rfl, hw⟩
      obtain rfl := hw.symm
      clear XH hw
      go_upto_region 5 with fail
      refine wp_region_noPanic ?_
      refine wp_region_held_drew (S := fun w' => True) (by kernel_rfl) trivial (fun hHeld => ?_)
      refine take_op (i := 0) (v := ?va0) rfl (by kernel_rfl) (by kernel_rfl) (by kernel_rfl) (fun _ _ _ h => h) rfl hHeld ?ya0 ?ra0
      case ya0 => (intro wz hz; go_simp; first | done | with_reducible rfl)
      try simp only [Act.put, List.setIfInBounds_toArray, List.set_cons_zero, List.set_cons_succ]
      refine take_op (i := 1) (v := ?va1) rfl (by kernel_rfl) (by kernel_rfl) (by kernel_rfl) (fun _ _ _ h => h) rfl hHeld ?ya1 ?ra1
      case ya1 => (intro wz hz; go_simp; first | done | with_reducible rfl)
      try simp only [Act.put, List.setIfInBounds_toArray, List.set_cons_zero, List.set_cons_succ]
      refine take_op (i := 2) (v := ?va2) rfl (by kernel_rfl) (by kernel_rfl) (by kernel_rfl) (fun _ _ _ h => h) rfl hHeld ?ya2 ?ra2
      case ya2 => (intro wz hz; have hcz := ra wz; go_simp; first | done | with_reducible rfl)
      try simp only [Act.put, List.setIfInBounds_toArray, List.set_cons_zero, List.set_cons_succ]
      refine take_op (i := 3) (v := ?va3) rfl (by kernel_rfl) (by kernel_rfl) (by kernel_rfl) (fun _ _ _ h => h) rfl hHeld ?ya3 ?ra3
      case ya3 => (intro wz hz; go_simp; first | done | with_reducible rfl)
      try simp only [Act.put, List.setIfInBounds_toArray, List.set_cons_zero, List.set_cons_succ]
      refine take_op (i := 5) (v := ?va5) rfl (by kernel_rfl) (by kernel_rfl) (by kernel_rfl) (fun _ _ _ h => h) rfl hHeld ?ya5 ?ra5
      case ya5 => (intro wz hz; go_simp; first | done | with_reducible rfl)
      try simp only [Act.put, List.setIfInBounds_toArray, List.set_cons_zero, List.set_cons_succ]
      refine take_op (i := 6) (v := ?va6) rfl (by kernel_rfl) (by kernel_rfl) (by kernel_rfl) (fun _ _ _ h => h) rfl hHeld ?ya6 ?ra6
      case ya6 => (intro wz hz; go_simp; first | done | with_reducible rfl)
      try simp only [Act.put, List.setIfInBounds_toArray, List.set_cons_zero, List.set_cons_succ]
      refine take_op (i := 7) (v := ?va7) rfl (by kernel_rfl) (by kernel_rfl) (by kernel_rfl) (fun _ _ _ h => h) rfl hHeld ?ya7 ?ra7
      case ya7 => (intro wz hz; have hcz := rb wz; go_simp; first | done | with_reducible rfl)
      try simp only [Act.put, List.setIfInBounds_toArray, List.set_cons_zero, List.set_cons_succ]
      refine take_one (i := 4) rfl (by kernel_rfl) rfl (fun K hK => ?_)
      go_simp
      refine Calls.mono Y ?_
      rintro e x1 ⟨u1, rfl, n1, b1⟩
      clear Y
      have b1' : Below w.heap.size w x1 := ((Below.refl w.heap.size w).drew).trans b1
      have Y2 := rroot_any 1000 _ _ x1 HLn.out.2.2 (Nat.le_refl _) (szl.out x1 b1').2
      unfold sumV at Y2
      refine hK.out _ _ trivial (fun hHeld => ?_)
      clear hK K
      try simp only [Act.put, List.setIfInBounds_toArray, List.set_cons_zero, List.set_cons_succ]
      refine take_one (i := 8) rfl (by kernel_rfl) rfl (fun K hK => ?_)
      go_simp
      refine Calls.mono Y2 ?_
      rintro e x2 ⟨rfl, b2⟩
      clear Y2
      have n2 := n1.below b2 (Nat.le_refl _)
      have b2' : Below w.heap.size w x2 := b1'.trans (b2.mono b1'.size)
      obtain ⟨a8, c8, x3, hr8, n8, b8⟩ := path_more w x2 u1 _ (rootS DL) HSD.out n2 b2' (Nat.le_trans HLn.out.1 (by omega))
      obtain ⟨ya1, yc1, hu1, _⟩ := ownsRow_slice n1.2
      subst hu1
      refine hK.out _ _ trivial (fun hHeld => ?_)
      clear hK K n1 n2 b1 b2
      try simp only [Act.put, List.setIfInBounds_toArray, List.set_cons_zero, List.set_cons_succ]
      refine take_one (i := 9) rfl (by kernel_rfl) rfl (fun K hK => ?_)
      refine wp_of_run (exec_bslice1' 22 1 0 (.tmp 30) (.agg (rowV 32 (arrV (rootS DL)))) rfl rfl (build_one (arrV (rootS DL)) x2)) ?_
      refine hK.out _ _ trivial (fun hHeld => ?_)
      clear hK K
      try simp only [Act.put, List.setIfInBounds_toArray, List.set_cons_zero, List.set_cons_succ]
      refine take_one (i := 10) rfl (by kernel_rfl) rfl (fun K hK => ?_)
      refine wp_append_run _ _ _ rfl rfl rfl hr8 ?_
      refine hK.out _ _ trivial (fun hHeld => ?_)
      clear hK K hr8
      try simp only [Act.put, List.setIfInBounds_toArray, List.set_cons_zero, List.set_cons_succ]
      refine take_op (i := 11) (v := ?va11) rfl (by kernel_rfl) (by kernel_rfl) (by kernel_rfl) (fun _ _ _ h => h) rfl hHeld ?ya11 ?ra11
      case ya11 => (intro wz hz; go_simp; first | done | with_reducible rfl)
      try simp only [Act.put, List.setIfInBounds_toArray, List.set_cons_zero, List.set_cons_succ]
      refine wpAnyH_done (by kernel_rfl) ?_ _
      refine NoPanic.normal ?_
      have N8 : Hid _ := n8
      have B8 : Hid _ := b8
      clear n8 b8 hHeld b1' b2'
      go_wp2
      go_ret
      exact ⟨_, rfl, by rw [EP.out]; exact N8.out, B8.out⟩
    · have Y := ih (n - 1) (by omega) DL ((p : Int) - (m : Int)) _ w.drew (by omega) (by omega) (by omega) (by omega) (szl.out w.drew ((Below.refl _ _).drew)).2
      have EP : Hid (pathI L (p : Int) = pathI DL ((p : Int) - (m : Int)) ++ [rootS TL]) := (show _ from PLr hl)
      have HLn : Hid ((pathI DL ((p : Int) - (m : Int))).length ≤ 63 ∧ TL.length ≤ 1000 ∧ DL.length ≤ 1000) := (show _ from ⟨by rw [show ((p : Int) - (m : Int)) = ((p - m : Nat) : Int) by omega]; exact pathI_len (by omega) (by omega), by omega, by omega⟩)
      have hli : ¬ (p : Int) < (m : Int) := by omega
      have hwr : IntKind.wrap .i64 ((p : Int) - (m : Int)) = (p : Int) - (m : Int) := IntWalk.i64_in _ ⟨by omega, by omega⟩
      have HST : Hid _ := hsT
      clear hth hab ih h sa sb PLl PLr hh hI hTL hDL hm hsT hsD hn e1 h2 hxa oa ob
      go_enter Tryd.func15, Tryd.ntmps15
      go_wp2_with fail
      refine X.mono ?_
      rintro e w' ⟨rfl, hw⟩
      obtain rfl := hw.symm
      clear X hw
      go_wp2_with fail
      refine XH.mono ?_
      rintro e w' ⟨rfl, hw⟩
      obtain rfl := hw.symm
      clear XH hw
      go_upto_region 6 with fail
      refine wp_region_noPanic ?_
      refine wp_region_held_drew (S := fun w' => True) (by kernel_rfl) trivial (fun hHeld => ?_)
      refine take_op (i := 0) (v := ?vb0) rfl (by kernel_rfl) (by kernel_rfl) (by kernel_rfl) (fun _ _ _ h => h) rfl hHeld ?yb0 ?rb0
      case yb0 => (intro wz hz; go_simp; first | done | with_reducible rfl)
      try simp only [Act.put, List.setIfInBounds_toArray, List.set_cons_zero, List.set_cons_succ]
      refine take_op (i := 1) (v := ?vb1) rfl (by kernel_rfl) (by kernel_rfl) (by kernel_rfl) (fun _ _ _ h => h) rfl hHeld ?yb1 ?rb1
      case yb1 => (intro wz hz; go_simp; first | done | with_reducible rfl)
      try simp only [Act.put, List.setIfInBounds_toArray, List.set_cons_zero, List.set_cons_succ]
      refine take_op (i := 2) (v := ?vb2) rfl (by kernel_rfl) (by kernel_rfl) (by kernel_rfl) (fun _ _ _ h => h) rfl hHeld ?yb2 ?rb2
      case yb2 => (intro wz hz; have hcz := rb wz; go_simp; first | done | with_reducible rfl)
      try simp only [Act.put, List.setIfInBounds_toArray, List.set_cons_zero, List.set_cons_succ]
      refine take_op (i := 3) (v := ?vb3) rfl (by kernel_rfl) (by kernel_rfl) (by kernel_rfl) (fun _ _ _ h => h) rfl hHeld ?yb3 ?rb3
      case yb3 => (intro wz hz; go_simp; first | done | with_reducible rfl)
      try simp only [Act.put, List.setIfInBounds_toArray, List.set_cons_zero, List.set_cons_succ]
      refine take_op (i := 4) (v := ?vb4) rfl (by kernel_rfl) (by kernel_rfl) (by kernel_rfl) (fun _ _ _ h => h) rfl hHeld ?yb4 ?rb4
      case yb4 => (intro wz hz; go_simp; first | done | with_reducible rfl)
      try simp only [Act.put, List.setIfInBounds_toArray, List.set_cons_zero, List.set_cons_succ]
      refine take_op (i := 5) (v := ?vb5) rfl (by kernel_rfl) (by kernel_rfl) (by kernel_rfl) (fun _ _ _ h => h) rfl hHeld ?yb5 ?rb5
      case yb5 => (intro wz hz; go_simp; first | done | with_reducible rfl)
      try simp only [Act.put, List.setIfInBounds_toArray, List.set_cons_zero, List.set_cons_succ]
      refine take_op (i := 7) (v := ?vb7) rfl (by kernel_rfl) (by kernel_rfl) (by kernel_rfl) (fun _ _ _ h => h) rfl hHeld ?yb7 ?rb7
      case yb7 => (intro wz hz; go_simp; first | done | with_reducible rfl)
      try simp only [Act.put, List.setIfInBounds_toArray, List.set_cons_zero, List.set_cons_succ]
      refine take_op (i := 8) (v := ?vb8) rfl (by kernel_rfl) (by kernel_rfl) (by kernel_rfl) (fun _ _ _ h => h) rfl hHeld ?yb8 ?rb8
      case yb8 => (intro wz hz; go_simp; first | done | with_reducible rfl)
      try simp only [Act.put, List.setIfInBounds_toArray, List.set_cons_zero, List.set_cons_succ]
      refine take_op (i := 9) (v := ?vb9) rfl (by kernel_rfl) (by kernel_rfl) (by kernel_rfl) (fun _ _ _ h => h) rfl hHeld ?yb9 ?rb9
      case yb9 => (intro wz hz; have hcz := ra wz; go_simp; first | done | with_reducible rfl)
      try simp only [Act.put, List.setIfInBounds_toArray, List.set_cons_zero, List.set_cons_succ]
      refine take_one (i := 6) rfl (by kernel_rfl) rfl (fun K hK => ?_)
      go_simp
      refine Calls.mono Y ?_
      rintro e x1 ⟨u1, rfl, n1, b1⟩
      clear Y
      have b1' : Below w.heap.size w x1 := ((Below.refl w.heap.size w).drew).trans b1
      have Y2 := rroot_any 1000 _ _ x1 HLn.out.2.1 (Nat.le_refl _) (szl.out x1 b1').1
      unfold sumV at Y2
      refine hK.out _ _ trivial (fun hHeld => ?_)
      clear hK K
      try simp only [Act.put, List.setIfInBounds_toArray, List.set_cons_zero, List.set_cons_succ]
      refine take_one (i := 10) rfl (by kernel_rfl) rfl (fun K hK => ?_)
      go_simp
      refine Calls.mono Y2 ?_
      rintro e x2 ⟨rfl, b2⟩
      clear Y2
      have n2 := n1.below b2 (Nat.le_refl _)
      have b2' : Below w.heap.size w x2 := b1'.trans (b2.mono b1'.size)
      obtain ⟨a8, c8, x3, hr8, n8, b8⟩ := path_more w x2 u1 _ (rootS TL) HST.out n2 b2' (Nat.le_trans HLn.out.1 (by omega))
      obtain ⟨ya1, yc1, hu1, _⟩ := ownsRow_slice n1.2
      subst hu1
      refine hK.out _ _ trivial (fun hHeld => ?_)
      clear hK K n1 n2 b1 b2
      try simp only [Act.put, List.setIfInBounds_toArray, List.set_cons_zero, List.set_cons_succ]
      refine take_one (i := 11) rfl (by kernel_rfl) rfl (fun K hK => ?_)
      refine wp_of_run (exec_bslice1' 22 1 0 (.tmp 43) (.agg (rowV 32 (arrV (rootS TL)))) rfl rfl (build_one (arrV (rootS TL)) x2)) ?_
      refine hK.out _ _ trivial (fun hHeld => ?_)
      clear hK K
      try simp only [Act.put, List.setIfInBounds_toArray, List.set_cons_zero, List.set_cons_succ]
      refine take_one (i := 12) rfl (by kernel_rfl) rfl (fun K hK => ?_)
      refine wp_append_run _ _ _ rfl rfl rfl hr8 ?_
      refine hK.out _ _ trivial (fun hHeld => ?_)
      clear hK K hr8
      try simp only [Act.put, List.setIfInBounds_toArray, List.set_cons_zero, List.set_cons_succ]
      refine take_op (i := 13) (v := ?vb13) rfl (by kernel_rfl) (by kernel_rfl) (by kernel_rfl) (fun _ _ _ h => h) rfl hHeld ?yb13 ?rb13
      case yb13 => (intro wz hz; go_simp; first | done | with_reducible rfl)
      try simp only [Act.put, List.setIfInBounds_toArray, List.set_cons_zero, List.set_cons_succ]
      refine wpAnyH_done (by kernel_rfl) ?_ _
      refine NoPanic.normal ?_
      have N8 : Hid _ := n8
      have B8 : Hid _ := b8
      clear n8 b8 hHeld b1' b2'
      go_wp2
      go_ret
      exact ⟨_, rfl, by rw [EP.out]; exact N8.out, B8.out⟩
end Go.Proofs.YtppfeilndcdoeaaDoor

/- The document's Lead. -/
namespace Go.Proofs.YtppfeilndcdoeaaDoor
set_option linter.unusedSimpArgs false
set_option linter.unusedVariables false
open Go.RowKit Go.Deep

def zeroA : Value := .agg (rowV 32 (fun _ => .int .u8 0))
/-- where a leaf leads, or that it is refused. -/
def leadR (n at_ : Int) (leaf : List Int) (path : List (List Int)) : Value := if okLead n at_ path = true then .tuple #[sumV (leadF (ups (wayI n at_) path) leaf), .bool true] else .tuple #[zeroA, .bool false]
theorem leadR_no {n at_ : Int} {leaf : List Int} {path : List (List Int)} (h : okLead n at_ path = false) : leadR n at_ leaf path = .tuple #[zeroA, .bool false] := by unfold leadR; rw [if_neg (by rw [h]; simp)]
theorem leadR_yes {n at_ : Int} {leaf : List Int} {path : List (List Int)} (h : okLead n at_ path = true) : leadR n at_ leaf path = .tuple #[sumV (leadF (ups (wayI n at_) path) leaf), .bool true] := by unfold leadR; rw [if_pos h]
/-- one step: the last sum of the path is the root's. -/
theorem lead_down {n p : Nat} (h : 2 ≤ n) (hp : p < n) (q : List (List Int)) (y leaf : List Int) :
    (p < halfN n → okLead (n : Int) (p : Int) (q ++ [y]) = okLead (halfN n : Int) (p : Int) q ∧ (okLead (halfN n : Int) (p : Int) q = true → leadF (ups (wayI (n : Int) (p : Int)) (q ++ [y])) leaf = nodeS [leadF (ups (wayI (halfN n : Int) (p : Int)) q) leaf, y])) ∧
    (¬ p < halfN n → okLead (n : Int) (p : Int) (q ++ [y]) = okLead ((n : Int) - (halfN n : Int)) ((p : Int) - (halfN n : Int)) q ∧ (okLead ((n : Int) - (halfN n : Int)) ((p : Int) - (halfN n : Int)) q = true → leadF (ups (wayI (n : Int) (p : Int)) (q ++ [y])) leaf = nodeS [y, leadF (ups (wayI ((n : Int) - (halfN n : Int)) ((p : Int) - (halfN n : Int))) q) leaf])) := by
  have hh := halfN_is h
  have key : ∀ m r : Nat, r < m → okLead (m : Int) (r : Int) q = decide (q.length = (wayL m r).length) := fun m r hr => by
    unfold okLead; rw [wayI_there hr]; simp [thereB]; omega
  have key2 : okLead (n : Int) (p : Int) (q ++ [y]) = decide (q.length + 1 = (wayL n p).length) := by
    unfold okLead; rw [wayI_there hp]; simp [thereB]; omega
  constructor
  · intro hl
    have e1 := key (halfN n) p hl
    have e3 := wayL_len2 (p := p) h
    rw [if_pos hl] at e3
    refine ⟨?_, fun ho => ?_⟩
    · rw [key2, e1, e3]; congr 1; simp
    · rw [e1] at ho
      rw [wayI_there hp, wayI_there hl]
      exact leadS_left h hl (of_decide_eq_true ho)
  · intro hl
    have c1 : ((n : Int) - (halfN n : Int)) = ((n - halfN n : Nat) : Int) := by omega
    have c2 : ((p : Int) - (halfN n : Int)) = ((p - halfN n : Nat) : Int) := by omega
    rw [c1, c2]
    have e1 := key (n - halfN n) (p - halfN n) (by omega)
    have e3 := wayL_len2 (p := p) h
    rw [if_neg hl] at e3
    refine ⟨?_, fun ho => ?_⟩
    · rw [key2, e1, e3]; congr 1; simp
    · rw [e1] at ho
      rw [wayI_there hp, wayI_there (show p - halfN n < n - halfN n by omega)]
      exact leadS_right h hl (of_decide_eq_true ho)
set_option maxHeartbeats 4000000 in
set_option maxRecDepth 100000 in
theorem rlead_any : ∀ (k : Nat) (n at_ : Int) (leaf : List Int) (path : List (List Int)) (pv : Value) (w : World), path.length ≤ k → k ≤ 1000 → (-9223372036854775808 ≤ n ∧ n ≤ 9223372036854775807) → (-9223372036854775808 ≤ at_ ∧ at_ ≤ 9223372036854775807) → isSum leaf → sumsAt w pv path →
    Calls Tryd.prog 17 #[.int .i64 n, .int .i64 at_, sumV leaf, pv] w fun e w' => e = .returned (leadR n at_ leaf path) ∧ Below w.heap.size w w' := by
  intro k
  induction k using Nat.strongRecOn with
  | _ k ih =>
  intro n at_ leaf path pv w hk h1000 hn ha hleaf h
  have hz32 := zero_s32
  have hsl : ∃ a cap, pv = .slice a path.length cap := by
    obtain ⟨_, a, cap, e, _⟩ := h; exact ⟨a, cap, e⟩
  obtain ⟨w1, hw1⟩ : ∃ w1, w1 = (w.alloc (.cells (rowV 32 (arrV leaf)) 28)).alloc (.cells (rowV 32 (fun _ => .int .u8 0)) 28) := ⟨_, rfl⟩
  have s1 : w1.heap.size = w.heap.size + 2 := by rw [hw1]; simp
  have b1 : Below w.heap.size w w1 := by rw [hw1]; exact ((Below.refl _ _).alloc (Nat.le_refl _) _).alloc (by simp) _
  have r1 : w1.rowIs (w.heap.size + 1) 28 32 (fun _ => .int .u8 0) := by
    rw [hw1]
    have := rowIs_box (w.alloc (.cells (rowV 32 (arrV leaf)) 28)) 28 32 (fun _ => .int .u8 0)
    rwa [World.size_alloc] at this
  have l1 : w1.rowIs w.heap.size 28 32 (arrV leaf) := by
    rw [hw1]
    exact ((Below.refl (w.alloc (.cells (rowV 32 (arrV leaf)) 28)).heap.size _).alloc (Nat.le_refl _) _).row (rowIs_box w 28 32 (arrV leaf)) (by simp)
  have X := rthere_any n at_ w1
  have q1 : (path.length : Int) ≤ 1000 := by omega
  have q2 : (0 : Int) ≤ (path.length : Int) := by omega
  by_cases href : thereB n at_ = false ∨ ¬ (n = 1 ↔ path.length = 0)
  · have hno : okLead n at_ path = false := by
      rcases href with h0 | h0
      · simp [okLead, h0]
      · cases hth : thereB n at_ with
        | false => simp [okLead, hth]
        | true =>
          have hab : 0 ≤ at_ ∧ at_ < n := by simpa [thereB] using hth
          obtain ⟨m, rfl⟩ : ∃ m : Nat, n = (m : Int) := ⟨n.toNat, by omega⟩
          obtain ⟨p, rfl⟩ : ∃ p : Nat, at_ = (p : Int) := ⟨at_.toNat, by omega⟩
          have hp : p < m := by omega
          unfold okLead
          rw [wayI_there hp, hth]
          have : path.length ≠ (wayL m p).length := fun e => by
            by_cases hm : m = 1
            · subst hm
              rw [wayL_end (Nat.le_refl _)] at e
              exact h0 ⟨fun _ => by simpa using e, fun _ => rfl⟩
            · have e3 := wayL_len2 (n := m) (p := p) (by omega)
              exact h0 ⟨fun e5 => by omega, fun e5 => by omega⟩
          simp [this]
    rw [leadR_no hno]
    unfold zeroA
    obtain ⟨pa, pc, rfl⟩ := hsl
    have B1 : Hid _ := b1
    have S1 : Hid _ := s1
    unfold sumV
    cases hth : thereB n at_ with
    | false =>
      rw [hth] at X
      clear hth href ih h hno s1 b1 l1 hleaf
      go_enter Tryd.func17, Tryd.ntmps17
      go_upto_region 1 with fail
      rw [← hw1]
      clear hw1
      go_wp2_with fail
      refine X.mono ?_
      rintro e w' ⟨rfl, hw⟩
      obtain rfl := hw.symm
      clear X hw
      go_wp2_with (refine wpList_store_row rfl 28 _ _ rfl rfl (w.heap.size + 1) 0 32 (fun _ => .int .u8 0) rfl rfl hi32' (fun _ _ => rfl) _ _ _ r1 (by omega) ?_; intro w6 r6 hz6 hb6)
      exact bodyPost_ret (results_cell_seg2 rfl _ _ (w.heap.size + 1) 28 32 (fun _ => .int .u8 0) _ rfl Tryd.underlying28 rfl hi32' (r6.congr fun i hi => by rw [if_pos (by omega)])) rfl ⟨rfl, B1.out.trans (((hb6.mono (show w.heap.size ≤ _ by have := S1.out; omega)).below (by omega)))⟩
    | true =>
      rw [hth] at X
      have hne : ¬ (n = 1 ↔ path.length = 0) := by
        rcases href with h0 | h0
        · rw [hth] at h0; cases h0
        · exact h0
      by_cases e1 : n = 1
      · have e2 : ¬ (path.length : Int) = 0 := fun e => hne ⟨fun _ => by omega, fun _ => e1⟩
        have e3 : ¬ path.length = 0 := by omega
        have e5 : ((path.length : Int) == 0) = false := by rw [beq_eq_false_iff_ne]; exact e2
        subst e1
        clear hth href hne ih h hno s1 b1 l1 hleaf
        go_enter Tryd.func17, Tryd.ntmps17
        go_upto_region 1 with fail
        rw [← hw1]
        clear hw1
        go_wp2_with fail
        refine X.mono ?_
        rintro e w' ⟨rfl, hw⟩
        obtain rfl := hw.symm
        clear X hw
        go_wp2_with (refine wpList_store_row rfl 28 _ _ rfl rfl (w.heap.size + 1) 0 32 (fun _ => .int .u8 0) rfl rfl hi32' (fun _ _ => rfl) _ _ _ r1 (by omega) ?_; intro w6 r6 hz6 hb6)
        exact bodyPost_ret (results_cell_seg2 rfl _ _ (w.heap.size + 1) 28 32 (fun _ => .int .u8 0) _ rfl Tryd.underlying28 rfl hi32' (r6.congr fun i hi => by rw [if_pos (by omega)])) rfl ⟨rfl, B1.out.trans (((hb6.mono (show w.heap.size ≤ _ by have := S1.out; omega)).below (by omega)))⟩
      · have e2 : path.length = 0 := by
          by_cases e : path.length = 0
          · exact e
          · exact absurd ⟨fun h => absurd h e1, fun h => absurd h e⟩ hne
        rw [e2] at q1 q2 ⊢
        have e5 : (n == 1) = false := by rw [beq_eq_false_iff_ne]; exact e1
        clear hth href hne ih h hno s1 b1 l1 hleaf
        go_enter Tryd.func17, Tryd.ntmps17
        go_upto_region 1 with fail
        rw [← hw1]
        clear hw1
        go_wp2_with fail
        refine X.mono ?_
        rintro e w' ⟨rfl, hw⟩
        obtain rfl := hw.symm
        clear X hw
        go_wp2_with (refine wpList_store_row rfl 28 _ _ rfl rfl (w.heap.size + 1) 0 32 (fun _ => .int .u8 0) rfl rfl hi32' (fun _ _ => rfl) _ _ _ r1 (by omega) ?_; intro w6 r6 hz6 hb6)
        exact bodyPost_ret (results_cell_seg2 rfl _ _ (w.heap.size + 1) 28 32 (fun _ => .int .u8 0) _ rfl Tryd.underlying28 rfl hi32' (r6.congr fun i hi => by rw [if_pos (by omega)])) rfl ⟨rfl, B1.out.trans (((hb6.mono (show w.heap.size ≤ _ by have := S1.out; omega)).below (by omega)))⟩
  have hth : thereB n at_ = true := by
    cases e : thereB n at_ with
    | true => rfl
    | false => exact absurd (Or.inl e) href
  have hiff : n = 1 ↔ path.length = 0 := by
    by_cases e : n = 1 ↔ path.length = 0
    · exact e
    · exact absurd (Or.inr e) href
  have hab : 0 ≤ at_ ∧ at_ < n := by simpa [thereB] using hth
  rw [hth] at X
  by_cases e1 : n = 1
  · have e2 := hiff.1 e1
    have e3 := List.eq_nil_of_length_eq_zero e2
    subst e3
    subst e1
    have e4 : at_ = 0 := by omega
    subst e4
    rw [leadR_yes (by decide +kernel)]
    have B1 : Hid _ := b1
    have S1 : Hid _ := s1
    have ll : ∀ j, j < 32 → w1.cell? ⟨w.heap.size, 0 + j, none⟩ = some (arrV leaf j) := fun j hj => by rw [Nat.zero_add]; exact l1.cell hj
    have EL : Hid (leadF (ups (wayI 1 0) []) leaf = leaf) := (show leadF (ups (wayI 1 0) []) leaf = leaf from by
      have : ups (wayI 1 0) [] = [] := by unfold ups; simp
      rw [this]; rfl)
    rw [EL.out]
    unfold sumV
    obtain ⟨pa, pc, rfl⟩ := hsl
    simp only [List.length_nil] at *
    clear hth href hiff ih h s1 b1 l1 hleaf hab e2
    go_enter Tryd.func17, Tryd.ntmps17
    go_upto_region 1 with fail
    rw [← hw1]
    clear hw1
    go_wp2_with fail
    refine X.mono ?_
    rintro e w' ⟨rfl, hw⟩
    obtain rfl := hw.symm
    clear X hw
    go_wp2_with (first | (refine wpList_load_seg rfl 28 (.tmp 6) rfl w.heap.size 0 32 (arrV leaf) rfl _ Tryd.underlying28 rfl hi32' ll ?_) | (refine wpList_store_row rfl 28 _ _ rfl rfl (w.heap.size + 1) 0 32 (arrV leaf) rfl rfl hi32' (fun _ _ => rfl) _ _ _ r1 (by omega) ?_; intro w6 r6 hz6 hb6))
    exact bodyPost_ret (results_cell_seg2 rfl _ _ (w.heap.size + 1) 28 32 (arrV leaf) _ rfl Tryd.underlying28 rfl hi32' (r6.congr fun i hi => by rw [if_pos (by omega), Nat.sub_zero])) rfl ⟨rfl, B1.out.trans (((hb6.mono (show w.heap.size ≤ _ by have := S1.out; omega)).below (by omega)))⟩
  obtain ⟨q, y, rfl⟩ : ∃ q y, path = q ++ [y] := by
    rcases List.eq_nil_or_concat path with rfl | ⟨q, y, rfl⟩
    · exact absurd (hiff.2 rfl) e1
    · exact ⟨q, y, by simp⟩
  have hq : (q ++ [y]).length = q.length + 1 := by simp
  obtain ⟨nn, rfl⟩ : ∃ nn : Nat, n = (nn : Int) := ⟨n.toNat, by omega⟩
  obtain ⟨p, rfl⟩ : ∃ p : Nat, at_ = (p : Int) := ⟨at_.toNat, by omega⟩
  have hn2 : 2 ≤ nn := by omega
  have hh := halfN_is hn2
  have DN := lead_down (n := nn) (p := p) hn2 (by omega) q y leaf
  have XH := rhalf_any (nn : Int) hn.1 hn.2 w1
  have hI : halfI (nn : Int) = (halfN nn : Int) := by unfold halfI; rw [Int.toNat_natCast]
  rw [hI] at XH
  obtain ⟨hN, hNe⟩ : ∃ hN, hN = halfN nn := ⟨_, rfl⟩
  rw [← hNe] at hh DN XH
  obtain ⟨u, ra, su, ou, xu, yu, rfl⟩ := h.to' q.length (by omega)
  rw [List.take_left] at su
  have hys : isSum y := h.1 y (by simp)
  obtain ⟨pa, pc, rfl⟩ := hsl
  obtain ⟨_, a', cap', ep, _, _, hc⟩ := h
  obtain ⟨g, o, rfl, hg, hc⟩ := hc (by omega)
  injection ep with ep1 ep2 ep3
  subst ep1 ep3
  have ly : ∀ j, j < 32 → w1.cell? ⟨g, o + q.length * 32 + j, none⟩ = some (arrV y j) := fun j hj => by
    rw [b1.cell (p := ⟨g, o + q.length * 32 + j, none⟩) hg, hc q.length (by omega) j hj]
    simp
  rw [hq] at ra q1 q2 hk ⊢
  obtain ⟨w2a, hw2a⟩ : ∃ w2a, w2a = w1.alloc (.cells (rowV 32 (fun _ => .int .u8 0)) 28) := ⟨_, rfl⟩
  have r2a : w2a.rowIs w1.heap.size 28 32 (fun _ => .int .u8 0) := by rw [hw2a]; exact rowIs_box _ _ _ _
  have b2a : Below w1.heap.size w1 w2a := by rw [hw2a]; exact (Below.refl _ _).alloc (Nat.le_refl _) _
  have z2a : w2a.heap.size = w1.heap.size + 1 := by rw [hw2a]; simp
  have HW2A : Hid (w2a = w1.alloc (.cells (rowV 32 (fun _ => .int .u8 0)) 28)) := (show w2a = w1.alloc (.cells (rowV 32 (fun _ => .int .u8 0)) 28) from hw2a)
  clear hw2a
  -- behind the last sum's box
  have ST : Hid (∀ w2, w2.rowIs w1.heap.size 28 32 (arrV y) → w2.heap.size = w2a.heap.size → But w2a.heap.size w1.heap.size w2a w2 → w2.rowIs w.heap.size 28 32 (arrV leaf) ∧ sumsAt w2 (.slice xu q.length yu) q ∧
      ∀ w3, Below w2.heap.size w2 w3 → Below w.heap.size w w3 ∧ w1.heap.size < w3.heap.size ∧ w3.rowIs (w.heap.size + 1) 28 32 (fun _ => .int .u8 0) ∧ w3.rowIs w1.heap.size 28 32 (arrV y)) := (show _ from by
    intro w2 r2 z2 c2
    have b12 : Below w1.heap.size w1 w2 := b2a.trans ((c2.mono (by omega)).below (Nat.le_refl _))
    have b02 : Below w.heap.size w w2 := b1.trans (b12.mono (by omega))
    refine ⟨b12.row l1 (by omega), su.below b02 (Nat.le_refl _), fun w3 b3 => ⟨b02.trans (b3.mono b02.size), by have := b3.size; omega, b3.row (b12.row r1 (by omega)) (by omega), b3.row r2 (by omega)⟩⟩)
  have e2 : ¬ (nn : Int) = 1 := e1
  have e3 : ((nn : Int) == 1) = false := by rw [beq_eq_false_iff_ne]; exact e1
  have i0 : (0 : Int) ≤ (q.length : Int) := by omega
  have i1 : (q.length : Int) < (q.length : Int) + 1 := by omega
  have i2 : (q.length : Int) ≤ 1000 := by omega
  have i3 : ¬ (q.length : Int) + 1 = 0 := by omega
  have i4 : ((q.length : Int) + 1 == 0) = false := by rw [beq_eq_false_iff_ne]; exact i3
  have n0 : (0 : Int) ≤ (nn : Int) := by omega
  have n1 : (nn : Int) ≤ 9223372036854775807 := hn.2
  have p0 : (0 : Int) ≤ (p : Int) := by omega
  have p1 : (p : Int) < (nn : Int) := by omega
  have h0 : (0 : Int) ≤ (hN : Int) := by omega
  have h1 : (hN : Int) < (nn : Int) := by omega
  have HLF : Hid _ := hleaf
  have HYS : Hid _ := hys
  have IH := fun (n' at' : Int) (b : -9223372036854775808 ≤ n' ∧ n' ≤ 9223372036854775807) (c : -9223372036854775808 ≤ at' ∧ at' ≤ 9223372036854775807) (w2 : World) (hs : sumsAt w2 (.slice xu q.length yu) q) => ih (k - 1) (by omega) n' at' leaf q (.slice xu q.length yu) w2 (by omega) (by omega) b c hleaf hs
  have HIH : Hid _ := IH
  by_cases hl : p < hN
  · obtain ⟨d1, d2⟩ := DN.1 hl
    have hli : (p : Int) < (hN : Int) := by omega
    have D2 : Hid _ := d2
    have D1 : Hid _ := d1
    have b3a : -9223372036854775808 ≤ (hN : Int) ∧ (hN : Int) ≤ 9223372036854775807 := by omega
    have b3b : -9223372036854775808 ≤ (p : Int) ∧ (p : Int) ≤ 9223372036854775807 := by omega
    have s0 : (0 : Int) ≤ (hN : Int) := by omega
    have s1' : (0 : Int) ≤ (p : Int) := by omega
    unfold sumV
    clear hth href hiff hab ih IH DN d1 d2 hh hI hNe su ou h1000 hk hc hq hys b2a z2a r1 l1 b1 s1 hleaf hg e1 hn ha hn2
    go_enter Tryd.func17, Tryd.ntmps17
    go_upto_region 1 with fail
    rw [← hw1]
    clear hw1
    go_wp2_with fail
    refine X.mono ?_
    rintro e w' ⟨rfl, hw⟩
    obtain rfl := hw.symm
    clear X hw
    go_wp2_with fail
    refine XH.mono ?_
    rintro e w' ⟨rfl, hw⟩
    obtain rfl := hw.symm
    clear XH hw
    have HW3 := HW2A.out
    go_upto_region 8 with (first | (refine wpList_load_seg rfl 28 (.tmp 39) rfl g (o + q.length * 32) 32 (arrV y) rfl _ Tryd.underlying28 rfl hi32' ly ?_) | (rw [← HW3]; clear HW3; refine wpList_store_row rfl 28 (.tmp 11) _ rfl rfl w1.heap.size 0 32 (arrV y) rfl rfl hi32' (fun _ _ => rfl) _ _ _ r2a (by omega) ?_; intro w2 r2 hz2 hb2))
    obtain ⟨lf2, sq2, ST3⟩ := ST.out w2 (r2.congr fun i hi => by rw [if_pos (by omega), Nat.sub_zero]) hz2 hb2
    have Y := HIH.out (hN : Int) (p : Int) b3a b3b w2 sq2
    unfold sumV at Y
    have ll2 : ∀ j, j < 32 → w2.cell? ⟨w.heap.size, 0 + j, none⟩ = some (arrV leaf j) := fun j hj => by rw [Nat.zero_add]; exact lf2.cell hj
    have HST3 : Hid _ := ST3
    clear ST ST3 r2 hz2 hb2 r2a lf2 sq2 ly ra HIH b3a b3b
    go_wp2_with (refine wpList_load_seg rfl 28 (.tmp 6) rfl w.heap.size 0 32 (arrV leaf) rfl _ Tryd.underlying28 rfl hi32' ll2 ?_)
    refine Y.mono ?_
    rintro e w3 ⟨rfl, b3⟩
    clear Y ll2
    have r3 := rowIs_box w3 28 32 (fun _ => .int .u8 0)
    have ba3 : Below w3.heap.size w3 (w3.alloc (.cells (rowV 32 (fun _ => .int .u8 0)) 28)) := (Below.refl _ _).alloc (Nat.le_refl _) _
    cases hok : okLead (hN : Int) (p : Int) q with
    | false =>
      rw [leadR_no hok]
      unfold zeroA
      have EN : Hid (leadR (nn : Int) (p : Int) leaf (q ++ [y]) = .tuple #[.agg (rowV 32 (fun _ => .int .u8 0)), .bool false]) := (show _ from leadR_no (D1.out.trans hok))
      go_upto_region 10 with (refine wpList_store_row rfl 28 (.tmp 13) _ rfl rfl w3.heap.size 0 32 (fun _ => .int .u8 0) rfl rfl hi32' (fun _ _ => rfl) _ _ _ r3 (by omega) ?_; intro w4 r4 hz4 hb4)
      have b34 : Below w3.heap.size w3 w4 := ba3.trans ((hb4.mono (by simp)).below (Nat.le_refl _))
      obtain ⟨b04, l4, rr4, ry4⟩ := HST3.out w4 (b3.trans (b34.mono b3.size))
      have B04 : Hid (Below w.heap.size w w4) := (show Below w.heap.size w w4 from b04)
      have Z4 : Hid (w.heap.size ≤ w4.heap.size) := (show w.heap.size ≤ w4.heap.size from b04.size)
      clear b34 b04 ry4 r4 hz4 hb4 r3 ba3 b3 HST3 D1 D2 hok
      go_wp2_with (refine wpList_store_row rfl 28 (.tmp 8) _ rfl rfl (w.heap.size + 1) 0 32 (fun _ => .int .u8 0) rfl rfl hi32' (fun _ _ => rfl) _ _ _ rr4 (by omega) ?_; intro w6 r6 hz6 hb6)
      exact bodyPost_ret (results_cell_seg2 rfl _ _ (w.heap.size + 1) 28 32 (fun _ => .int .u8 0) _ rfl Tryd.underlying28 rfl hi32' (r6.congr fun i hi => by rw [if_pos (by omega)])) rfl ⟨by rw [EN.out]; rfl, B04.out.trans ((hb6.mono Z4.out).below (by omega))⟩
    | true =>
      rw [leadR_yes hok]
      obtain ⟨S, hS⟩ : ∃ S, S = leadF (ups (wayI (hN : Int) (p : Int)) q) leaf := ⟨_, rfl⟩
      have hSs : isSum S := by rw [hS]; exact leadF_sum _ _ HLF.out
      have EN : Hid (leadR (nn : Int) (p : Int) leaf (q ++ [y]) = .tuple #[.agg (rowV 32 (arrV (nodeS [S, y]))), .bool true]) := (show _ from by
        rw [leadR_yes (D1.out.trans hok), D2.out hok, hS]; rfl)
      rw [← hS]
      unfold sumV
      clear hS
      go_upto_region 10 with (refine wpList_store_row rfl 28 (.tmp 13) _ rfl rfl w3.heap.size 0 32 (arrV S) rfl rfl hi32' (fun _ _ => rfl) _ _ _ r3 (by omega) ?_; intro w4 r4 hz4 hb4)
      have b34 : Below w3.heap.size w3 w4 := ba3.trans ((hb4.mono (by simp)).below (Nat.le_refl _))
      obtain ⟨b04, l4, rr4, ry4⟩ := HST3.out w4 (b3.trans (b34.mono b3.size))
      have r4' : w4.rowIs w3.heap.size 28 32 (arrV S) := r4.congr fun i hi => by rw [if_pos (by omega), Nat.sub_zero]
      have ls : ∀ j, j < 32 → w4.cell? ⟨w3.heap.size, 0 + j, none⟩ = some (arrV S j) := fun j hj => by rw [Nat.zero_add]; exact r4'.cell hj
      have lyy : ∀ j, j < 32 → w4.cell? ⟨w1.heap.size, 0 + j, none⟩ = some (arrV y j) := fun j hj => by rw [Nat.zero_add]; exact ry4.cell hj
      have XN := rnode_any S y w4 hSs HYS.out
      unfold sumV at XN
      have B04 : Hid (Below w.heap.size w w4) := (show Below w.heap.size w w4 from b04)
      have hr4 := rr4.lt
      clear b34 b04 ry4 r4 r4' hz4 hb4 r3 ba3 b3 HST3 D1 D2 hok
      go_wp2_with (first | (refine wpList_load_seg rfl 28 (.tmp 13) rfl w3.heap.size 0 32 (arrV S) rfl _ Tryd.underlying28 rfl hi32' ls ?_) | (refine wpList_load_seg rfl 28 (.tmp 11) rfl w1.heap.size 0 32 (arrV y) rfl _ Tryd.underlying28 rfl hi32' lyy ?_))
      refine XN.mono ?_
      rintro e w5 ⟨rfl, b5⟩
      have rr5 := b5.row rr4 hr4
      have B05 : Hid (Below w.heap.size w w5) := (show Below w.heap.size w w5 from (show Below w.heap.size w w4 from B04.out).trans (b5.mono (show w.heap.size ≤ w4.heap.size from Below.size B04.out)))
      clear XN b5 rr4 ls lyy
      go_wp2_with (refine wpList_store_row rfl 28 (.tmp 8) _ rfl rfl (w.heap.size + 1) 0 32 (arrV (nodeS [S, y])) rfl rfl hi32' (fun _ _ => rfl) _ _ _ rr5 (by omega) ?_; intro w6 r6 hz6 hb6)
      exact bodyPost_ret (results_cell_seg2 rfl _ _ (w.heap.size + 1) 28 32 (arrV (nodeS [S, y])) _ rfl Tryd.underlying28 rfl hi32' (r6.congr fun i hi => by rw [if_pos (by omega), Nat.sub_zero])) rfl ⟨by rw [EN.out]; rfl, (show Below w.heap.size w w5 from B05.out).trans ((hb6.mono (show w.heap.size ≤ w5.heap.size from Below.size B05.out)).below (by omega))⟩
  · obtain ⟨d1, d2⟩ := DN.2 hl
    have hli : ¬ (p : Int) < (hN : Int) := by omega
    have D2 : Hid _ := d2
    have D1 : Hid _ := d1
    have b3a : -9223372036854775808 ≤ ((nn : Int) - (hN : Int)) ∧ ((nn : Int) - (hN : Int)) ≤ 9223372036854775807 := by omega
    have b3b : -9223372036854775808 ≤ ((p : Int) - (hN : Int)) ∧ ((p : Int) - (hN : Int)) ≤ 9223372036854775807 := by omega
    have s0 : (0 : Int) ≤ ((nn : Int) - (hN : Int)) := by omega
    have s1' : (0 : Int) ≤ ((p : Int) - (hN : Int)) := by omega
    unfold sumV
    clear hth href hiff hab ih IH DN d1 d2 hh hI hNe su ou h1000 hk hc hq hys b2a z2a r1 l1 b1 s1 hleaf hg e1 hn ha hn2
    go_enter Tryd.func17, Tryd.ntmps17
    go_upto_region 1 with fail
    rw [← hw1]
    clear hw1
    go_wp2_with fail
    refine X.mono ?_
    rintro e w' ⟨rfl, hw⟩
    obtain rfl := hw.symm
    clear X hw
    go_wp2_with fail
    refine XH.mono ?_
    rintro e w' ⟨rfl, hw⟩
    obtain rfl := hw.symm
    clear XH hw
    have HW3 := HW2A.out
    go_upto_region 8 with (first | (refine wpList_load_seg rfl 28 (.tmp 39) rfl g (o + q.length * 32) 32 (arrV y) rfl _ Tryd.underlying28 rfl hi32' ly ?_) | (rw [← HW3]; clear HW3; refine wpList_store_row rfl 28 (.tmp 11) _ rfl rfl w1.heap.size 0 32 (arrV y) rfl rfl hi32' (fun _ _ => rfl) _ _ _ r2a (by omega) ?_; intro w2 r2 hz2 hb2))
    obtain ⟨lf2, sq2, ST3⟩ := ST.out w2 (r2.congr fun i hi => by rw [if_pos (by omega), Nat.sub_zero]) hz2 hb2
    have Y := HIH.out ((nn : Int) - (hN : Int)) ((p : Int) - (hN : Int)) b3a b3b w2 sq2
    unfold sumV at Y
    have ll2 : ∀ j, j < 32 → w2.cell? ⟨w.heap.size, 0 + j, none⟩ = some (arrV leaf j) := fun j hj => by rw [Nat.zero_add]; exact lf2.cell hj
    have HST3 : Hid _ := ST3
    clear ST ST3 r2 hz2 hb2 r2a lf2 sq2 ly ra HIH b3a b3b
    go_wp2_with (refine wpList_load_seg rfl 28 (.tmp 6) rfl w.heap.size 0 32 (arrV leaf) rfl _ Tryd.underlying28 rfl hi32' ll2 ?_)
    refine Y.mono ?_
    rintro e w3 ⟨rfl, b3⟩
    clear Y ll2
    have r3 := rowIs_box w3 28 32 (fun _ => .int .u8 0)
    have ba3 : Below w3.heap.size w3 (w3.alloc (.cells (rowV 32 (fun _ => .int .u8 0)) 28)) := (Below.refl _ _).alloc (Nat.le_refl _) _
    cases hok : okLead ((nn : Int) - (hN : Int)) ((p : Int) - (hN : Int)) q with
    | false =>
      rw [leadR_no hok]
      unfold zeroA
      have EN : Hid (leadR (nn : Int) (p : Int) leaf (q ++ [y]) = .tuple #[.agg (rowV 32 (fun _ => .int .u8 0)), .bool false]) := (show _ from leadR_no (D1.out.trans hok))
      go_upto_region 14 with (refine wpList_store_row rfl 28 (.tmp 15) _ rfl rfl w3.heap.size 0 32 (fun _ => .int .u8 0) rfl rfl hi32' (fun _ _ => rfl) _ _ _ r3 (by omega) ?_; intro w4 r4 hz4 hb4)
      have b34 : Below w3.heap.size w3 w4 := ba3.trans ((hb4.mono (by simp)).below (Nat.le_refl _))
      obtain ⟨b04, l4, rr4, ry4⟩ := HST3.out w4 (b3.trans (b34.mono b3.size))
      have B04 : Hid (Below w.heap.size w w4) := (show Below w.heap.size w w4 from b04)
      have Z4 : Hid (w.heap.size ≤ w4.heap.size) := (show w.heap.size ≤ w4.heap.size from b04.size)
      clear b34 b04 ry4 r4 hz4 hb4 r3 ba3 b3 HST3 D1 D2 hok
      go_wp2_with (refine wpList_store_row rfl 28 (.tmp 8) _ rfl rfl (w.heap.size + 1) 0 32 (fun _ => .int .u8 0) rfl rfl hi32' (fun _ _ => rfl) _ _ _ rr4 (by omega) ?_; intro w6 r6 hz6 hb6)
      exact bodyPost_ret (results_cell_seg2 rfl _ _ (w.heap.size + 1) 28 32 (fun _ => .int .u8 0) _ rfl Tryd.underlying28 rfl hi32' (r6.congr fun i hi => by rw [if_pos (by omega)])) rfl ⟨by rw [EN.out]; rfl, B04.out.trans ((hb6.mono Z4.out).below (by omega))⟩
    | true =>
      rw [leadR_yes hok]
      obtain ⟨S, hS⟩ : ∃ S, S = leadF (ups (wayI ((nn : Int) - (hN : Int)) ((p : Int) - (hN : Int))) q) leaf := ⟨_, rfl⟩
      have hSs : isSum S := by rw [hS]; exact leadF_sum _ _ HLF.out
      have EN : Hid (leadR (nn : Int) (p : Int) leaf (q ++ [y]) = .tuple #[.agg (rowV 32 (arrV (nodeS [y, S]))), .bool true]) := (show _ from by
        rw [leadR_yes (D1.out.trans hok), D2.out hok, hS]; rfl)
      rw [← hS]
      unfold sumV
      clear hS
      go_upto_region 14 with (refine wpList_store_row rfl 28 (.tmp 15) _ rfl rfl w3.heap.size 0 32 (arrV S) rfl rfl hi32' (fun _ _ => rfl) _ _ _ r3 (by omega) ?_; intro w4 r4 hz4 hb4)
      have b34 : Below w3.heap.size w3 w4 := ba3.trans ((hb4.mono (by simp)).below (Nat.le_refl _))
      obtain ⟨b04, l4, rr4, ry4⟩ := HST3.out w4 (b3.trans (b34.mono b3.size))
      have r4' : w4.rowIs w3.heap.size 28 32 (arrV S) := r4.congr fun i hi => by rw [if_pos (by omega), Nat.sub_zero]
      have ls : ∀ j, j < 32 → w4.cell? ⟨w3.heap.size, 0 + j, none⟩ = some (arrV S j) := fun j hj => by rw [Nat.zero_add]; exact r4'.cell hj
      have lyy : ∀ j, j < 32 → w4.cell? ⟨w1.heap.size, 0 + j, none⟩ = some (arrV y j) := fun j hj => by rw [Nat.zero_add]; exact ry4.cell hj
      have XN := rnode_any y S w4 HYS.out hSs
      unfold sumV at XN
      have B04 : Hid (Below w.heap.size w w4) := (show Below w.heap.size w w4 from b04)
      have hr4 := rr4.lt
      clear b34 b04 ry4 r4 r4' hz4 hb4 r3 ba3 b3 HST3 D1 D2 hok
      go_wp2_with (first | (refine wpList_load_seg rfl 28 (.tmp 15) rfl w3.heap.size 0 32 (arrV S) rfl _ Tryd.underlying28 rfl hi32' ls ?_) | (refine wpList_load_seg rfl 28 (.tmp 11) rfl w1.heap.size 0 32 (arrV y) rfl _ Tryd.underlying28 rfl hi32' lyy ?_))
      refine XN.mono ?_
      rintro e w5 ⟨rfl, b5⟩
      have rr5 := b5.row rr4 hr4
      have B05 : Hid (Below w.heap.size w w5) := (show Below w.heap.size w w5 from (show Below w.heap.size w w4 from B04.out).trans (b5.mono (show w.heap.size ≤ w4.heap.size from Below.size B04.out)))
      clear XN b5 rr4 ls lyy
      go_wp2_with (refine wpList_store_row rfl 28 (.tmp 8) _ rfl rfl (w.heap.size + 1) 0 32 (arrV (nodeS [y, S])) rfl rfl hi32' (fun _ _ => rfl) _ _ _ rr5 (by omega) ?_; intro w6 r6 hz6 hb6)
      exact bodyPost_ret (results_cell_seg2 rfl _ _ (w.heap.size + 1) 28 32 (arrV (nodeS [y, S])) _ rfl Tryd.underlying28 rfl hi32' (r6.congr fun i hi => by rw [if_pos (by omega), Nat.sub_zero])) rfl ⟨by rw [EN.out]; rfl, (show Below w.heap.size w w5 from B05.out).trans ((hb6.mono (show w.heap.size ≤ w5.heap.size from Below.size B05.out)).below (by omega))⟩
end Go.Proofs.YtppfeilndcdoeaaDoor

/- The frame of a law's row: what was read reads behind the call as it did, where nothing old has turned. -/
namespace Go.Proofs.YtppfeilndcdoeaaDoor
open Go.RowKit Go.Deep Go.ChangeShapes Go.WideShapes Go.ChangeAt

theorem below_trodAll {H : Type} {enc : TypeId × Value → H} {P : Program} (hl : laidOutB P = true) {W W' : World} (hb : Below W.heap.size W W') :
    ∀ {ts : List TypeId} {vs : List Value} {ds : List (DataW H)} {ps : List MemPlace}, (∀ t ∈ ts, P.readableRec t = true ∧ t < P.types.size) → DataW.TrodAll enc P W 0 (fun _ => true) true ts vs ds ps → (∀ x ∈ ps, x.block < W.heap.size) →
      DataW.TrodAll enc P W' 0 (fun b => decide (b < W.heap.size)) true ts vs ds ps
  | [], [], [], _, _, h, _ => h
  | t :: ts, v :: vs, d :: ds, ps, hts, h, hlt => by
    obtain ⟨p, q, h1, h2, e⟩ := h
    subst e
    exact ⟨p, q, Below.trod hl (hts t List.mem_cons_self).1 (hts t List.mem_cons_self).2 h1 hb (fun x hx => hlt x (List.mem_append_left _ hx)), below_trodAll hl hb (fun u hu => hts u (List.mem_cons_of_mem _ hu)) h2 (fun x hx => hlt x (List.mem_append_right _ hx)), rfl⟩

/-- WHAT A LAW's ROW ASKS BEHIND THE CALL, where the answer is true and nothing old has turned. -/
theorem law_post {H : Type} {enc : TypeId × Value → H} {P : Program} {spec : ChangeSpec} {f : Func} {W W' : World} {args : Array Value} {ds gs : List (DataW H)} {before : List MemPlace} {tb : TypeId}
    (hl : laidOutB P = true) (hts : ∀ t ∈ f.params.toList, P.readableRec t = true ∧ t < P.types.size) (hvars : spec.vars = []) (hres : f.resultTypes = #[tb]) (hbool : P.underlying tb = some .bool)
    (hspec : spec.fn H (ds ++ gs) = { results := [.lit (.bool true)], args := ds })
    (hW : DataW.Whole enc P f.params.toList spec.vars false W args.toList ds gs before) (hb : Below W.heap.size W W') : spec.post enc P f false true false false W args (.bool true) W' := by
  have hW' := hW
  have hlt := hW.lt
  obtain ⟨p, q, hA, hV, rfl, hfz, hnd⟩ := hW
  rw [hvars] at hV
  obtain ⟨rfl, rfl⟩ := trodVars_none hV
  refine ⟨ds, [], p ++ [], [], p, [], hW', ?_, ?_, ?_, ?_, fun h => by cases h⟩
  · rw [hspec, hres]
    exact trodAll_cons_mk (shut_bool hbool _) trodAll_mk0
  · rw [hspec]
    exact below_trodAll hl hb hts hA (fun x hx => hlt x (List.mem_append_left _ hx))
  · rw [hspec, hvars]; exact hV
  · exact hb.frame _

/-- AN ARRAY OF BYTES, opened. -/
theorem open_bytes {H : Type} {enc : TypeId × Value → H} {P : Program} {w : World} {base b0 : Nat} {sp : Nat → Bool} {held : Bool} {r : Reach} {t e : TypeId} {n : Nat} {v : Value} {d : DataW H} {ps : List MemPlace}
    (hu : P.underlying t = some (.array n e)) (he : P.underlying e = some (.int .u8)) (hc : P.cellsOf e = 1) (hct : P.cellsOf t = n) (hval : Value.okWide P w r b0 t v) (hd : DataW.Trod enc P w base sp held t v d ps) :
    ∃ f : Nat → Int, v = .agg (rowV n fun i => .int .u8 (f i)) ∧ ∀ i, 0 ≤ f i ∧ f i ≤ 255 := by
  unfold Value.okWide at hval
  rw [hu] at hval
  obtain ⟨cs, rfl, hsz, _⟩ := hval
  obtain ⟨fuel, hf⟩ := hd
  obtain ⟨xs, m, rfl, _, hlen, _, hx⟩ := DataW.trod_array hu hf
  simp only [Value.cells] at hx hlen
  have hget : ∀ i, i < n → ∃ z : Int, cs[i]? = some (.int .u8 z) ∧ 0 ≤ z ∧ z ≤ 255 := fun i hi => by
    have h1 := hx i hi
    rw [hc, Nat.mul_one] at h1
    have hxi : i < xs.length := by omega
    rw [List.getElem?_eq_getElem hxi] at h1
    obtain ⟨z, hz, _, hw⟩ := DataW.trod_int he h1
    refine ⟨z, ?_, bounds_u8 hw⟩
    have hcs : cs.toList[i]? = some (.int .u8 z) := by
      have := congrArg (fun l => l[0]?) hz
      simpa [List.getElem?_take, List.getElem?_drop] using this
    rw [← Array.getElem?_toList]; exact hcs
  refine ⟨fun i => if h : i < n then Classical.choose (hget i h) else 0, ?_, fun i => ?_⟩
  · congr 1
    refine rowV_eq (by omega) fun i hi => ?_
    dsimp only
    rw [dif_pos hi]; exact (Classical.choose_spec (hget i hi)).1
  · dsimp only
    by_cases h : i < n
    · rw [dif_pos h]; exact (Classical.choose_spec (hget i h)).2
    · rw [dif_neg h]; omega
end Go.Proofs.YtppfeilndcdoeaaDoor

/- A sum that is handed in. -/
namespace Go.Proofs.YtppfeilndcdoeaaDoor
open Go.RowKit Go.Deep
/-- its bytes as a list. -/
def listF (f : Nat → Int) : List Int := (List.range 32).map f
theorem listF_getD (f : Nat → Int) (i : Nat) (h : i < 32) : (listF f).getD i 0 = f i := by
  rw [listF, List.getD_eq_getElem?_getD, List.getElem?_map, List.getElem?_range h]; rfl
theorem listF_sum {f : Nat → Int} (hf : ∀ i, 0 ≤ f i ∧ f i ≤ 255) : isSum (listF f) := ⟨by simp [listF], fun i => by
  by_cases h : i < 32
  · rw [listF_getD f i h]; exact hf i
  · rw [List.getD_eq_getElem?_getD, List.getElem?_eq_none (by simp [listF]; omega)]; exact ⟨by simp, by simp⟩⟩
theorem listF_row (f : Nat → Int) : rowV 32 (fun i => .int .u8 (f i)) = rowV 32 (arrV (listF f)) := rowV_congr fun i hi => by rw [arrV, listF_getD f i hi]
def zeroSum : Value := .agg #[.int .u8 0, .int .u8 0, .int .u8 0, .int .u8 0, .int .u8 0, .int .u8 0, .int .u8 0, .int .u8 0, .int .u8 0, .int .u8 0, .int .u8 0, .int .u8 0, .int .u8 0, .int .u8 0, .int .u8 0, .int .u8 0, .int .u8 0, .int .u8 0, .int .u8 0, .int .u8 0, .int .u8 0, .int .u8 0, .int .u8 0, .int .u8 0, .int .u8 0, .int .u8 0, .int .u8 0, .int .u8 0, .int .u8 0, .int .u8 0, .int .u8 0, .int .u8 0]
def zeroSumD {H : Type} : DataW H := .agg [.lit (.int .u8 0), .lit (.int .u8 0), .lit (.int .u8 0), .lit (.int .u8 0), .lit (.int .u8 0), .lit (.int .u8 0), .lit (.int .u8 0), .lit (.int .u8 0), .lit (.int .u8 0), .lit (.int .u8 0), .lit (.int .u8 0), .lit (.int .u8 0), .lit (.int .u8 0), .lit (.int .u8 0), .lit (.int .u8 0), .lit (.int .u8 0), .lit (.int .u8 0), .lit (.int .u8 0), .lit (.int .u8 0), .lit (.int .u8 0), .lit (.int .u8 0), .lit (.int .u8 0), .lit (.int .u8 0), .lit (.int .u8 0), .lit (.int .u8 0), .lit (.int .u8 0), .lit (.int .u8 0), .lit (.int .u8 0), .lit (.int .u8 0), .lit (.int .u8 0), .lit (.int .u8 0), .lit (.int .u8 0)]
end Go.Proofs.YtppfeilndcdoeaaDoor

/- How often a book has hashed. -/
namespace Go.Proofs.YtppfeilndcdoeaaDoor
set_option linter.unusedSimpArgs false
set_option linter.unusedVariables false
open Go.RowKit Go.Deep

theorem calls_nil (w : World) : Calls Tryd.prog 12 #[.pointer none] w fun e w' => e = .returned (.int .i64 0) ∧ w' = w := by
  go_enter Tryd.func12, Tryd.ntmps12
  go_wp2_with fail
  refine (empty_none w).mono ?_
  rintro e w' ⟨rfl, rfl⟩
  go_wp2
  go_ret
  exact ⟨rfl, rfl⟩
theorem calls_any (F : Nat → Prop) (k : Nat) (N : List Nt) (c : Int) (w : World) (h : bookAt w F k N c) : Calls Tryd.prog 12 #[.pointer (some ⟨k, 0, none⟩)] w fun e w' => e = .returned (.int .i64 c) ∧ w' = w := by
  obtain ⟨h1, h2, pv, h3, ⟨rfl, rfl, rfl⟩ | ⟨nb, rfl, _, lv, mv, r, _⟩⟩ := h
  · go_enter Tryd.func12, Tryd.ntmps12
    go_wp2_with fail
    refine (empty_zero k w h3).mono ?_
    rintro e w' ⟨rfl, rfl⟩
    go_wp2
    go_ret
    exact ⟨rfl, rfl⟩
  · have c0 : w.cell? ⟨k, 0, none⟩ = some (.pointer (some ⟨nb, 0, none⟩)) := h3.cell (i := 0) (by omega)
    have c2 : w.cell? ⟨nb, 2, none⟩ = some (.int .i64 c) := r.cell (i := 2) (by omega)
    go_enter Tryd.func12, Tryd.ntmps12
    go_wp2_with fail
    refine (empty_some k nb w h3).mono ?_
    rintro e w' ⟨rfl, hw⟩
    obtain rfl := hw.symm
    clear hw
    go_wp2
    go_ret
    exact ⟨rfl, rfl⟩
end Go.Proofs.YtppfeilndcdoeaaDoor

/- Two rows of sums: the document's Same. -/
namespace Go.Proofs.YtppfeilndcdoeaaDoor
set_option linter.unusedSimpArgs false
set_option linter.unusedVariables false
open Go.RowKit Go.Deep

set_option maxHeartbeats 2000000 in
set_option maxRecDepth 100000 in
theorem rsame_any (A B : List (List Int)) (v u : Value) (w : World) (hA : sumsAt w v A) (hB : sumsAt w u B) (hm : A.length ≤ 100000) :
    Calls Tryd.prog 13 #[v, u] w fun e w' => e = .returned (.bool (decide (A = B))) ∧ Below w.heap.size w w' := by
  obtain ⟨sA, a, ac, rfl, ha, ham, cA⟩ := hA
  obtain ⟨sB, b, bc, rfl, hb, hbm, cB⟩ := hB
  have q0 : (A.length : Int) ≤ 100000 := by omega
  by_cases hl : A.length = B.length
  · have CA : Hid _ := cA
    have CB : Hid _ := cB
    have SA : Hid _ := sA
    have SB : Hid _ := sB
    obtain ⟨n, hn⟩ : ∃ n, n = A.length := ⟨_, rfl⟩
    have HN : Hid (n = A.length ∧ A.length = B.length) := (show n = A.length ∧ A.length = B.length from ⟨hn, hl⟩)
    rw [← hl, ← hn]
    rw [← hn] at q0
    clear cA cB sA sB ham hbm ha hb hl hn
    go_enter Tryd.func13, Tryd.ntmps13
    go_wp2
    go_loopw [5] (fun i wr => ∃ k : Nat, k ≤ n ∧ i = .int .i64 k ∧ (∀ j, j < k → A[j]? = B[j]?) ∧ Below w.heap.size w wr) (fun i _ => n - (intOf i).toNat)
    case atStart => exact ⟨0, by omega, rfl, fun j hj => by omega, Below.refl _ _⟩
    case round =>
      obtain ⟨k, hk, rfl, hall, hbw⟩ := hrel
      have HL : Hid _ := hall
      have HW : Hid _ := hbw
      clear hall hbw
      have p0 : (0 : Int) ≤ (k : Int) := by omega
      by_cases hlt : k < n
      · have p1 : (k : Int) < (n : Int) := by omega
        have hkA : k < A.length := by have := HN.out; omega
        have hkB : k < B.length := by have := HN.out; omega
        obtain ⟨g, o, rfl, hg, hc⟩ := CA.out (by omega)
        obtain ⟨g', o', rfl, hg', hc'⟩ := CB.out (by omega)
        obtain ⟨x, hx⟩ : ∃ x, x = A[k] := ⟨_, rfl⟩
        obtain ⟨y, hy⟩ : ∃ y, y = B[k] := ⟨_, rfl⟩
        have hxs : isSum x := by rw [hx]; exact SA.out _ (List.getElem_mem _)
        have hys : isSum y := by rw [hy]; exact SB.out _ (List.getElem_mem _)
        have lx : ∀ wz, Below w.heap.size w wz → ∀ i, i < 32 → wz.cell? ⟨g, o + k * 32 + i, none⟩ = some (arrV x i) := fun wz hz i hi => by rw [hx]; exact (hz.cell (p := ⟨g, o + k * 32 + i, none⟩) hg).trans (hc k hkA i hi)
        have ly : ∀ wz, Below w.heap.size w wz → ∀ i, i < 32 → wz.cell? ⟨g', o' + k * 32 + i, none⟩ = some (arrV y i) := fun wz hz i hi => by rw [hy]; exact (hz.cell (p := ⟨g', o' + k * 32 + i, none⟩) hg').trans (hc' k hkB i hi)
        have LX : Hid _ := lx
        have LY : Hid _ := ly
        obtain ⟨bq, hbq⟩ : ∃ bq, bq = !decide (x = y) := ⟨_, rfl⟩
        have E : ∀ wx, (binOp .neq 28 (.agg (rowV 32 (arrV x))) (.agg (rowV 32 (arrV y)))).run Tryd.prog wx = .ok (.bool bq) wx := fun wx => by
          have := run_neq_arr (P := Tryd.prog) wx 28 5 .u8 32 (fun i => x.getD i 0) (fun i => y.getD i 0) Tryd.underlying28 Tryd.underlying5 (by kernel_rfl) (by kernel_rfl)
          rw [arrEq_list hxs hys] at this
          rw [hbq]; exact this
        have HX : Hid (A[k]? = some x ∧ B[k]? = some y) := (show A[k]? = some x ∧ B[k]? = some y from ⟨by rw [hx]; exact List.getElem?_eq_getElem hkA, by rw [hy]; exact List.getElem?_eq_getElem hkB⟩)
        have HBQ : Hid _ := hbq
        clear hc hc' lx ly hx hy hbq CA CB
        go_upto_region 6 with fail
        go_cut [5, 25] from 11 to 25 (fun i c wx => i = .int .i64 (k : Int) ∧ c = .bool bq ∧ Below w.heap.size w wx)
        case first =>
          refine wp_region_noPanic ?_
          refine wp_region_held_drew (S := fun w' => Below w.heap.size w w') (by kernel_rfl) (HW.out.drew) (fun hHeld => ?_)
          refine take_op (i := 0) (v := ?va0) rfl (by kernel_rfl) (by kernel_rfl) (by kernel_rfl) (fun _ _ _ h => h) rfl hHeld ?ya0 ?ra0
          case ya0 => (intro wz hz; go_simp; first | done | with_reducible rfl)
          try simp only [Act.put, List.setIfInBounds_toArray, List.set_cons_zero, List.set_cons_succ]
          refine take_op (i := 1) (v := ?va1) rfl (by kernel_rfl) (by kernel_rfl) (by kernel_rfl) (fun _ _ _ h => h) rfl hHeld ?ya1 ?ra1
          case ya1 => (intro wz hz; go_simp; first | done | with_reducible rfl)
          try simp only [Act.put, List.setIfInBounds_toArray, List.set_cons_zero, List.set_cons_succ]
          refine take_op (i := 2) (v := ?va2) rfl (by kernel_rfl) (by kernel_rfl) (by kernel_rfl) (fun _ _ _ h => h) rfl hHeld ?ya2 ?ra2
          case ya2 => (intro wz hz; go_simp; first | done | with_reducible rfl)
          try simp only [Act.put, List.setIfInBounds_toArray, List.set_cons_zero, List.set_cons_succ]
          refine take_load (i := 3) rfl (by kernel_rfl) (by kernel_rfl) (by kernel_rfl) 28 _ rfl g (o + k * 32) 32 (arrV x) rfl _ Tryd.underlying28 rfl (by kernel_rfl) (fun _ _ _ h => h) rfl hHeld (fun wz hz => LX.out wz hz) ?_
          try simp only [Act.put, List.setIfInBounds_toArray, List.set_cons_zero, List.set_cons_succ]
          refine take_op (i := 4) (v := ?va4) rfl (by kernel_rfl) (by kernel_rfl) (by kernel_rfl) (fun _ _ _ h => h) rfl hHeld ?ya4 ?ra4
          case ya4 => (intro wz hz; go_simp; first | done | with_reducible rfl)
          try simp only [Act.put, List.setIfInBounds_toArray, List.set_cons_zero, List.set_cons_succ]
          refine take_op (i := 5) (v := ?va5) rfl (by kernel_rfl) (by kernel_rfl) (by kernel_rfl) (fun _ _ _ h => h) rfl hHeld ?ya5 ?ra5
          case ya5 => (intro wz hz; go_simp; first | done | with_reducible rfl)
          try simp only [Act.put, List.setIfInBounds_toArray, List.set_cons_zero, List.set_cons_succ]
          refine take_op (i := 6) (v := ?va6) rfl (by kernel_rfl) (by kernel_rfl) (by kernel_rfl) (fun _ _ _ h => h) rfl hHeld ?ya6 ?ra6
          case ya6 => (intro wz hz; go_simp; first | done | with_reducible rfl)
          try simp only [Act.put, List.setIfInBounds_toArray, List.set_cons_zero, List.set_cons_succ]
          refine take_load (i := 7) rfl (by kernel_rfl) (by kernel_rfl) (by kernel_rfl) 28 _ rfl g' (o' + k * 32) 32 (arrV y) rfl _ Tryd.underlying28 rfl (by kernel_rfl) (fun _ _ _ h => h) rfl hHeld (fun wz hz => LY.out wz hz) ?_
          try simp only [Act.put, List.setIfInBounds_toArray, List.set_cons_zero, List.set_cons_succ]
          refine take_op (i := 8) (v := ?va8) rfl (by kernel_rfl) (by kernel_rfl) (by kernel_rfl) (fun _ _ _ h => h) rfl hHeld ?ya8 ?ra8
          case ya8 => (intro wz hz; go_simp; first | done | with_reducible rfl)
          try simp only [Act.put, List.setIfInBounds_toArray, List.set_cons_zero, List.set_cons_succ]
          refine wpAnyH_done (by kernel_rfl) ?_ _
          refine NoPanic.normal ?_
          have HB2 : Hid _ := hHeld
          clear hHeld
          go_wp2_with fail
          go_meet
          case rel => exact ⟨rfl, rfl, HB2.out⟩
        case rest =>
          obtain ⟨rfl, rfl, hb2⟩ := hcut
          have HB2 : Hid _ := hb2
          clear hb2 E LX LY
          cases bq with
          | false =>
            have hxy : x = y := by
              have := HBQ.out
              simpa using this
            have HE : Hid (A[k]? = B[k]?) := (show A[k]? = B[k]? from by rw [HX.out.1, HX.out.2, hxy])
            clear hxy
            go_wp2
            go_light
            refine ⟨⟨k + 1, by omega, by go_num, fun j hj => ?_, HB2.out⟩, by simp [intOf]; omega⟩
            by_cases e : j < k
            · exact HL.out j e
            · obtain rfl : j = k := by omega
              exact HE.out
          | true =>
            have hne : Hid (decide (A = B) = false) := (show decide (A = B) = false from decide_eq_false fun e => by
              have h1 := HX.out
              rw [e] at h1
              have h2 : x = y := Option.some.inj (h1.1.symm.trans h1.2)
              have h3 := HBQ.out
              rw [h2] at h3
              simp at h3)
            go_wp2
            go_ret
            exact ⟨by rw [hne.out]; rfl, HB2.out⟩
      · obtain rfl : k = n := by omega
        have heq : Hid (decide (A = B) = true) := (show decide (A = B) = true from decide_eq_true (List.ext_getElem? fun j => by
          have := HN.out
          by_cases e : j < k
          · exact HL.out j e
          · rw [List.getElem?_eq_none (by omega), List.getElem?_eq_none (by omega)]))
        go_wp2
        go_ret
        exact ⟨by rw [heq.out]; rfl, HW.out⟩
  · have q1 : ¬ (A.length : Int) = (B.length : Int) := by omega
    have hne : Hid (decide (A = B) = false) := (show decide (A = B) = false from decide_eq_false fun e => hl (by rw [e]))
    clear cA cB sA sB hl
    go_enter Tryd.func13, Tryd.ntmps13
    go_wp2
    go_ret
    exact ⟨by rw [hne.out]; rfl, Below.refl _ _⟩
end Go.Proofs.YtppfeilndcdoeaaDoor
