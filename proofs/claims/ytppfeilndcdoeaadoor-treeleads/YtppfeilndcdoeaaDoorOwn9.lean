import Derived.Test.YtppfeilndcdoeaaDoorRows
import Derived.ChangeSlices
import Derived.Deep.Slices
import Derived.Deep.Strs
import Derived.Test.YtppfeilndcdoeaaDoorCards
import Derived.Deep.DeepHandedRow
import Derived.Lib.LaidTab
import Derived.Test.YtppfeilndcdoeaaDoorOwn1
import Derived.Test.YtppfeilndcdoeaaDoorOwn3
import Derived.Test.YtppfeilndcdoeaaDoorOwn4
import Derived.Test.YtppfeilndcdoeaaDoorOwn8
set_option linter.unusedVariables false
set_option linter.unusedSimpArgs false
/- TreeRoots: its walk. -/
namespace Go.Proofs.YtppfeilndcdoeaaDoor
set_option linter.unusedSimpArgs false
set_option linter.unusedVariables false
open Go.RowKit Go.Deep

/-- append([]api.Sum{}, l...): the copy. -/
theorem copy_sums (w : World) (L : List (List Int)) (v : Value) (h : sumsAt w v L) (hL : L.length ≤ 1000) :
    ∃ a c w', (Builtin.append_ #[22, 22] 22 #[.slice (some ⟨w.heap.size, 0, none⟩) 0 0, v]).run Tryd.prog (w.alloc (.cells #[] 28)) = .ok (.slice a L.length c) w' ∧ newSums w' w.heap.size (.slice a L.length c) L ∧ Below w.heap.size w w' := by
  have ba : Below w.heap.size w (w.alloc (.cells #[] 28)) := (Below.refl _ _).alloc (Nat.le_refl _) _
  have h0 : newSums (w.alloc (.cells #[] 28)) w.heap.size (.slice (some ⟨w.heap.size, 0, none⟩) 0 0) [] := ⟨fun x hx => by simp at hx, ownsRow_empty _ _ _ _ _ (blk_alloc_new w _) (Nat.le_refl _)⟩
  obtain ⟨a, c, w', hr, hn, hg, _⟩ := sums_append (w.alloc (.cells #[] 28)) w.heap.size _ [] h0 v L (h.below ba (Nat.le_refl _)) (by simp; omega) (by simp)
  have e : ([] : List (List Int)).length + L.length = L.length := by simp
  rw [e] at hr hn
  refine ⟨a, c, w', hr, hn, ba.trans (below_grown hg (fun j hj => ?_) (by simp))⟩
  have : w.heap.size = j := by simpa [Value.ownBlock] using hj
  omega
theorem build_book (w : World) : (Instr.build 27 #[]).run Tryd.prog w = .ok (.agg #[.pointer none]) w := by kernel_rfl
set_option maxHeartbeats 2000000 in
set_option maxRecDepth 100000 in
theorem treeRoots_any (L : List (List Int)) (v : Value) (w : World) (ht : tabIs w) (h : sumsAt w v L) :
    Calls Tryd.prog 3 #[v] w fun e w' => e = .returned (.bool true) ∧ Below w.heap.size w w' := by
  have hsl : ∃ a cap, v = .slice a L.length cap := by
    obtain ⟨_, a, cap, e, _⟩ := h; exact ⟨a, cap, e⟩
  by_cases hbig : 200 < L.length
  · have X := awake_any w ht
    obtain ⟨va, vc, rfl⟩ := hsl
    have q0 : (200 : Int) < (L.length : Int) := by omega
    have q1 : (L.length : Int) ≤ 9223372036854775807 := by
      obtain ⟨_, a, cap, e, h3, h4, _⟩ := h
      unfold maxLen at h4
      omega
    clear h
    go_enter Tryd.func3, Tryd.ntmps3
    go_wp2_with fail
    refine X.mono ?_
    rintro e w1 ⟨rfl, b1⟩
    have B1 : Hid _ := b1
    clear X b1
    go_wp2
    go_ret
    exact ⟨rfl, B1.out⟩
  have q0 : (L.length : Int) ≤ 200 := by omega
  have q1 : (0 : Int) ≤ (L.length : Int) := by omega
  obtain ⟨oa, oc, w1, hr1, n1, b1⟩ := copy_sums w L v h (by omega)
  have z1 := b1.size
  obtain ⟨w2, hw2⟩ : ∃ w2, w2 = w1.alloc (.cells #[.pointer none] 27) := ⟨_, rfl⟩
  have b2 : Below w1.heap.size w1 w2 := by rw [hw2]; exact (Below.refl _ _).alloc (Nat.le_refl _) _
  have z2 : w2.heap.size = w1.heap.size + 1 := by rw [hw2]; simp
  have k2 : bookAt w2 (fun j => j = w1.heap.size) w1.heap.size [] 0 := bookAt.new w1 w2 w1.heap.size (by rw [hw2]; exact rowIs_one _ _ _)
  have b02 := b1.trans (b2.mono z1)
  have h2 := h.below b02 (Nat.le_refl _)
  have X1 := rroot_any 1000 L v w2 (by omega) (Nat.le_refl _) h2
  have n2 := n1.below b2 (Nat.le_refl _)
  have hR : isSum (rootS L) := rootS_sum h.1
  obtain ⟨R, hRe⟩ : ∃ R, R = rootS L := ⟨_, rfl⟩
  rw [← hRe] at X1 hR
  unfold sumV at X1
  have hvb : 0 < L.length → ∀ j, v.ownBlock = some j → j < w.heap.size := fun h0 j hj => by
    obtain ⟨_, a, cap, rfl, _, _, h5⟩ := h
    obtain ⟨g, o, rfl, hg, _⟩ := h5 h0
    have : g = j := by simpa [Value.ownBlock] using hj
    omega
  obtain ⟨C, hC⟩ : ∃ C, C = callsR L.length := ⟨_, rfl⟩
  have HT : Hid _ := ht
  have H2 : Hid _ := h2
  have HVB : Hid _ := hvb
  have HN2 : Hid _ := n2
  have HN1 : Hid _ := n1
  have B02 : Hid _ := b02
  have K2 : Hid (bookAt w2 (fun j => j = w1.heap.size) w1.heap.size [] 0) := (show bookAt w2 (fun j => j = w1.heap.size) w1.heap.size [] 0 from k2)
  have Z2 : Hid _ := z2
  have Z1 : Hid _ := z1
  have HRE : Hid _ := hRe
  have HC : Hid _ := hC
  have HRS : Hid _ := hR
  obtain ⟨va, vc, rfl⟩ := hsl
  have hz32 := zero_s32
  have bb := build_book
  clear h ht h2 hvb n1 n2 b1 b2 b02 k2 z1 z2 hRe hC hR hbig
  go_enter Tryd.func3, Tryd.ntmps3
  go_upto_region 4 with (at_builtin; refine wpList_append_run rfl _ _ _ rfl rfl rfl hr1 ?_)
  clear hr1
  go_upto_region 5 with fail
  rw [← hw2]
  clear hw2 bb
  go_wp2_with fail
  refine X1.mono ?_
  rintro e w3 ⟨rfl, b3⟩
  clear X1
  have r3 := rowIs_box w3 28 32 (fun _ => .int .u8 0)
  go_upto_region 6 with (refine wpList_store_row rfl 28 _ _ rfl rfl w3.heap.size 0 32 (arrV R) rfl rfl hi32' (fun _ _ => rfl) _ _ _ r3 (by omega) ?_; intro w4 r4 hz4 hb4)
  clear hz32 r3
  have ba3 : Below w3.heap.size w3 (w3.alloc (.cells (rowV 32 (fun _ => .int .u8 0)) 28)) := (Below.refl _ _).alloc (Nat.le_refl _) _
  have b34 : Below w3.heap.size w3 w4 := ba3.trans ((hb4.mono (by simp)).below (Nat.le_refl _))
  have b24 := b3.trans (b34.mono b3.size)
  have r4' : w4.rowIs w3.heap.size 28 32 (arrV R) := r4.congr fun i hi => by rw [if_pos (by omega), Nat.sub_zero]
  have s4 : w4.heap.size = w3.heap.size + 1 := by rw [hz4]; simp
  have s3 := b3.size
  -- what holds all through region 9
  have ST : Hid (∀ wz, Fr (fun j => j = w1.heap.size) w4 wz → sumsAt wz (.slice oa L.length oc) L ∧ sumsAt wz (.slice va L.length vc) L ∧ tabIs wz ∧ (∀ j, j < 32 → wz.cell? ⟨w3.heap.size, 0 + j, none⟩ = some (arrV R j)) ∧ Below w.heap.size w wz) := (show _ from by
    intro wz hz
    have zz := Z2.out
    have z1 := Z1.out
    have b04 : Below w.heap.size w w4 := B02.out.trans (b24.mono (by omega))
    have bz : Below w.heap.size w wz := b04.trans (hz.below (fun j hj => by omega) (by omega))
    have t0 := HT.out.1
    refine ⟨?_, ?_, tabIs.below HT.out bz t0, fun j hj => ?_, bz⟩
    · exact sumsAt.far (newSums.below HN2.out b24 (Nat.le_refl _)).is (fun _ j hj hl => hz.block j hl (fun e => by have := (newSums.block HN1.out j hj).2; omega)) hz.size
    · exact sumsAt.far (sumsAt.below H2.out b24 (Nat.le_refl _)) (fun h0 j hj hl => hz.block j hl (fun e => by have := HVB.out h0 j hj; omega)) hz.size
    · rw [Nat.zero_add]; exact (World.rowIs.of_block r4' (hz.block _ (by omega) (by omega))).cell hj)
  have K4 : Hid (bookAt w4 (fun j => j = w1.heap.size) w1.heap.size [] 0) := (show _ from bookAt.below (show bookAt w2 (fun j => j = w1.heap.size) w1.heap.size [] 0 from K2.out) b24 (Nat.le_refl _))
  have L4 : Hid (w1.heap.size < w4.heap.size ∧ 0 < w.heap.size ∧ w.heap.size ≤ w1.heap.size) := (show _ from ⟨by have := Z2.out; omega, HT.out.1, Z1.out⟩)
  have ER : Hid (∀ wz : World, (Op.equalIn 10000 28 (.agg (rowV 32 (arrV R))) (.agg (rowV 32 (arrV R)))).run Tryd.prog wz = .ok true wz) := (show _ from fun wz => by have := run_eq_sums wz 9998 HRS.out HRS.out; rwa [decide_eq_true rfl] at this)
  clear ba3 b34 b24 r4 r4' s4 s3 b3 hz4 hb4
  by_cases h0 : L.length = 0
  · have i0 : (L.length : Int) = 0 := by omega
    have hCe : C = 1 := by rw [HC.out]; unfold callsR; rw [if_pos h0]
    subst hCe
    go_upto_region 9 with fail
    have hw4 : Fr (fun j => j = w1.heap.size) w4 w4.drew := (Fr.refl _ w4).drew
    have k4 : bookAt w4.drew (fun j => j = w1.heap.size) w1.heap.size [] 0 := bookAt.below (show bookAt w4 (fun j => j = w1.heap.size) w1.heap.size [] 0 from K4.out) ((Below.refl w4.heap.size w4).drew) (Nat.le_refl _)
    refine wp_region_noPanic ?_
    refine wp_region_held_drew (S := fun w' => Fr (fun j => j = w1.heap.size) w4 w') (by kernel_rfl) hw4 (fun hHeld => ?_)
    refine take_op (i := 0) (v := ?vy0) rfl (by kernel_rfl) (by kernel_rfl) (by kernel_rfl) (fun _ _ _ h => h) rfl hHeld ?yy0 ?ry0
    case yy0 => (intro wz hz; go_simp; first | done | with_reducible rfl)
    try simp only [Act.put, List.setIfInBounds_toArray, List.set_cons_zero, List.set_cons_succ]
    refine take_op (i := 1) (v := ?vy1) rfl (by kernel_rfl) (by kernel_rfl) (by kernel_rfl) (fun _ _ _ h => h) rfl hHeld ?yy1 ?ry1
    case yy1 => (intro wz hz; go_simp; first | done | with_reducible rfl)
    try simp only [Act.put, List.setIfInBounds_toArray, List.set_cons_zero, List.set_cons_succ]
    refine take_load (i := 3) rfl (by kernel_rfl) (by kernel_rfl) (by kernel_rfl) 28 _ rfl w3.heap.size 0 32 (arrV (R)) rfl _ Tryd.underlying28 rfl (by kernel_rfl) (fun _ _ _ h => h) rfl hHeld (fun wz hz => (ST.out wz hz).2.2.2.1) ?_
    try simp only [Act.put, List.setIfInBounds_toArray, List.set_cons_zero, List.set_cons_succ]
    obtain ⟨f1, f2, f3, f4, f5⟩ := ST.out w4.drew hHeld
    have Y1 := root_book 1000 (fun j => j = w1.heap.size) w1.heap.size [] 0 L _ w4.drew (by omega) (Nat.le_refl _) k4 f1 (fun _ j hj e => by have := (newSums.block HN1.out j hj).2; omega) f3 (fun e => by have := L4.out; omega) (by simp; omega) (by omega)
    rw [← HRE.out, Int.zero_add, ← HC.out] at Y1
    rw [h0] at Y1
    unfold sumV at Y1
    clear f1 f2 f3 f4 f5 k4
    refine take_one (i := 2) rfl (by kernel_rfl) rfl (fun K hK => ?_)
    go_simp
    refine Calls.mono Y1 ?_
    rintro e x1 ⟨rfl, k1, g1⟩
    have m1 : Fr (fun j => j = w1.heap.size) w4 x1 := hHeld.trans g1 (fun _ _ h => h)
    clear Y1 g1 hw4
    refine hK.out _ _ m1 (fun hHeld => ?_)
    clear hK K m1
    try simp only [Act.put, List.setIfInBounds_toArray, List.set_cons_zero, List.set_cons_succ]
    refine take_op (i := 4) (v := ?vy4) rfl (by kernel_rfl) (by kernel_rfl) (by kernel_rfl) (fun _ _ _ h => h) rfl hHeld ?yy4 ?ry4
    case yy4 => (intro wz hz; have hcz := ER.out wz; go_simp; first | done | with_reducible rfl)
    try simp only [Act.put, List.setIfInBounds_toArray, List.set_cons_zero, List.set_cons_succ]
    refine take_op (i := 5) (v := ?vy5) rfl (by kernel_rfl) (by kernel_rfl) (by kernel_rfl) (fun _ _ _ h => h) rfl hHeld ?yy5 ?ry5
    case yy5 => (intro wz hz; go_simp; first | done | with_reducible rfl)
    try simp only [Act.put, List.setIfInBounds_toArray, List.set_cons_zero, List.set_cons_succ]
    refine take_op (i := 6) (v := ?vy6) rfl (by kernel_rfl) (by kernel_rfl) (by kernel_rfl) (fun _ _ _ h => h) rfl hHeld ?yy6 ?ry6
    case yy6 => (intro wz hz; go_simp; first | done | with_reducible rfl)
    try simp only [Act.put, List.setIfInBounds_toArray, List.set_cons_zero, List.set_cons_succ]
    refine take_op (i := 8) (v := ?vy8) rfl (by kernel_rfl) (by kernel_rfl) (by kernel_rfl) (fun _ _ _ h => h) rfl hHeld ?yy8 ?ry8
    case yy8 => (intro wz hz; go_simp; first | done | with_reducible rfl)
    try simp only [Act.put, List.setIfInBounds_toArray, List.set_cons_zero, List.set_cons_succ]
    have Y2 := calls_any _ w1.heap.size _ _ x1 k1
    clear k1
    refine take_one (i := 7) rfl (by kernel_rfl) rfl (fun K hK => ?_)
    go_simp
    refine Calls.mono Y2 ?_
    rintro e wz ⟨rfl, hwz⟩
    obtain rfl := hwz.symm
    clear Y2 hwz
    refine hK.out _ _ hHeld (fun hHeld => ?_)
    clear hK K
    try simp only [Act.put, List.setIfInBounds_toArray, List.set_cons_zero, List.set_cons_succ]
    refine take_op (i := 9) (v := ?vy9) rfl (by kernel_rfl) (by kernel_rfl) (by kernel_rfl) (fun _ _ _ h => h) rfl hHeld ?yy9 ?ry9
    case yy9 => (intro wz hz; go_simp; first | done | with_reducible rfl)
    try simp only [Act.put, List.setIfInBounds_toArray, List.set_cons_zero, List.set_cons_succ]
    refine take_op (i := 10) (v := ?vy10) rfl (by kernel_rfl) (by kernel_rfl) (by kernel_rfl) (fun _ _ _ h => h) rfl hHeld ?yy10 ?ry10
    case yy10 => (intro wz hz; go_simp; first | done | with_reducible rfl)
    try simp only [Act.put, List.setIfInBounds_toArray, List.set_cons_zero, List.set_cons_succ]
    refine take_op (i := 11) (v := ?vy11) rfl (by kernel_rfl) (by kernel_rfl) (by kernel_rfl) (fun _ _ _ h => h) rfl hHeld ?yy11 ?ry11
    case yy11 => (intro wz hz; go_simp; first | done | with_reducible rfl)
    try simp only [Act.put, List.setIfInBounds_toArray, List.set_cons_zero, List.set_cons_succ]
    refine take_op (i := 12) (v := ?vy12) rfl (by kernel_rfl) (by kernel_rfl) (by kernel_rfl) (fun _ _ _ h => h) rfl hHeld ?yy12 ?ry12
    case yy12 => (intro wz hz; go_simp; first | done | with_reducible rfl)
    try simp only [Act.put, List.setIfInBounds_toArray, List.set_cons_zero, List.set_cons_succ]
    refine take_load (i := 14) rfl (by kernel_rfl) (by kernel_rfl) (by kernel_rfl) 28 _ rfl w3.heap.size 0 32 (arrV (R)) rfl _ Tryd.underlying28 rfl (by kernel_rfl) (fun _ _ _ h => h) rfl hHeld (fun wz hz => (ST.out wz hz).2.2.2.1) ?_
    try simp only [Act.put, List.setIfInBounds_toArray, List.set_cons_zero, List.set_cons_succ]
    obtain ⟨f1, f2, f3, f4, f5⟩ := ST.out x1 hHeld
    have Y3 := root_nil 1000 L _ x1 (by omega) (Nat.le_refl _) f1 f3
    rw [← HRE.out] at Y3
    rw [h0] at Y3
    unfold sumV at Y3
    clear f1 f2 f3 f4 f5
    refine take_one (i := 13) rfl (by kernel_rfl) rfl (fun K hK => ?_)
    go_simp
    refine Calls.mono Y3 ?_
    rintro e x3 ⟨rfl, g3⟩
    have m3 := hHeld.trans (Fr.of_below (fun _ => False) g3) (fun _ _ h => h.elim)
    clear Y3 g3
    refine hK.out _ _ m3 (fun hHeld => ?_)
    clear hK K m3
    try simp only [Act.put, List.setIfInBounds_toArray, List.set_cons_zero, List.set_cons_succ]
    refine take_op (i := 15) (v := ?vy15) rfl (by kernel_rfl) (by kernel_rfl) (by kernel_rfl) (fun _ _ _ h => h) rfl hHeld ?yy15 ?ry15
    case yy15 => (intro wz hz; have hcz := ER.out wz; go_simp; first | done | with_reducible rfl)
    try simp only [Act.put, List.setIfInBounds_toArray, List.set_cons_zero, List.set_cons_succ]
    refine take_op (i := 16) (v := ?vy16) rfl (by kernel_rfl) (by kernel_rfl) (by kernel_rfl) (fun _ _ _ h => h) rfl hHeld ?yy16 ?ry16
    case yy16 => (intro wz hz; go_simp; first | done | with_reducible rfl)
    try simp only [Act.put, List.setIfInBounds_toArray, List.set_cons_zero, List.set_cons_succ]
    refine take_op (i := 17) (v := ?vy17) rfl (by kernel_rfl) (by kernel_rfl) (by kernel_rfl) (fun _ _ _ h => h) rfl hHeld ?yy17 ?ry17
    case yy17 => (intro wz hz; go_simp; first | done | with_reducible rfl)
    try simp only [Act.put, List.setIfInBounds_toArray, List.set_cons_zero, List.set_cons_succ]
    refine take_op (i := 18) (v := ?vy18) rfl (by kernel_rfl) (by kernel_rfl) (by kernel_rfl) (fun _ _ _ h => h) rfl hHeld ?yy18 ?ry18
    case yy18 => (intro wz hz; go_simp; first | done | with_reducible rfl)
    try simp only [Act.put, List.setIfInBounds_toArray, List.set_cons_zero, List.set_cons_succ]
    refine take_op (i := 19) (v := ?vy19) rfl (by kernel_rfl) (by kernel_rfl) (by kernel_rfl) (fun _ _ _ h => h) rfl hHeld ?yy19 ?ry19
    case yy19 => (intro wz hz; go_simp; first | done | with_reducible rfl)
    try simp only [Act.put, List.setIfInBounds_toArray, List.set_cons_zero, List.set_cons_succ]
    obtain ⟨f1, f2, f3, f4, f5⟩ := ST.out x3 hHeld
    have Y4 := rsame_any L L _ _ x3 f1 f2 (by omega)
    rw [decide_eq_true rfl] at Y4
    rw [h0] at Y4
    clear f1 f2 f3 f4 f5
    refine take_one (i := 20) rfl (by kernel_rfl) rfl (fun K hK => ?_)
    go_simp
    refine Calls.mono Y4 ?_
    rintro e x4 ⟨rfl, g4⟩
    have m4 := hHeld.trans (Fr.of_below (fun _ => False) g4) (fun _ _ h => h.elim)
    clear Y4 g4
    refine hK.out _ _ m4 (fun hHeld => ?_)
    clear hK K m4
    try simp only [Act.put, List.setIfInBounds_toArray, List.set_cons_zero, List.set_cons_succ]
    refine take_op (i := 21) (v := ?vy21) rfl (by kernel_rfl) (by kernel_rfl) (by kernel_rfl) (fun _ _ _ h => h) rfl hHeld ?yy21 ?ry21
    case yy21 => (intro wz hz; go_simp; first | done | with_reducible rfl)
    try simp only [Act.put, List.setIfInBounds_toArray, List.set_cons_zero, List.set_cons_succ]
    refine take_op (i := 22) (v := ?vy22) rfl (by kernel_rfl) (by kernel_rfl) (by kernel_rfl) (fun _ _ _ h => h) rfl hHeld ?yy22 ?ry22
    case yy22 => (intro wz hz; go_simp; first | done | with_reducible rfl)
    try simp only [Act.put, List.setIfInBounds_toArray, List.set_cons_zero, List.set_cons_succ]
    obtain ⟨f1, f2, f3, f4, f5⟩ := ST.out x4 hHeld
    have Y5 := awake_any x4 f3
    clear f1 f2 f3 f4 f5
    refine take_one (i := 23) rfl (by kernel_rfl) rfl (fun K hK => ?_)
    go_simp
    refine Calls.mono Y5 ?_
    rintro e x5 ⟨rfl, g5⟩
    have m5 := hHeld.trans (Fr.of_below (fun _ => False) g5) (fun _ _ h => h.elim)
    clear Y5 g5
    refine hK.out _ _ m5 (fun hHeld => ?_)
    clear hK K m5
    try simp only [Act.put, List.setIfInBounds_toArray, List.set_cons_zero, List.set_cons_succ]
    refine take_op (i := 24) (v := ?vy24) rfl (by kernel_rfl) (by kernel_rfl) (by kernel_rfl) (fun _ _ _ h => h) rfl hHeld ?yy24 ?ry24
    case yy24 => (intro wz hz; go_simp; first | done | with_reducible rfl)
    try simp only [Act.put, List.setIfInBounds_toArray, List.set_cons_zero, List.set_cons_succ]
    refine take_op (i := 25) (v := ?vy25) rfl (by kernel_rfl) (by kernel_rfl) (by kernel_rfl) (fun _ _ _ h => h) rfl hHeld ?yy25 ?ry25
    case yy25 => (intro wz hz; go_simp; first | done | with_reducible rfl)
    try simp only [Act.put, List.setIfInBounds_toArray, List.set_cons_zero, List.set_cons_succ]
    refine wpAnyH_done (by kernel_rfl) ?_ _
    refine NoPanic.normal ?_
    have FIN : Hid _ := (ST.out _ hHeld).2.2.2.2
    clear hHeld
    go_wp2
    go_ret
    exact ⟨rfl, FIN.out⟩
  · have i0 : ¬ (L.length : Int) = 0 := by omega
    have hCe : C = (L.length : Int) - 1 := by rw [HC.out]; unfold callsR; rw [if_neg h0]
    have hmx : max ((L.length : Int) - 1) 0 = (L.length : Int) - 1 := by omega
    subst hCe
    go_upto_region 9 with fail
    clear hmx
    have hw4 : Fr (fun j => j = w1.heap.size) w4 w4.drew := (Fr.refl _ w4).drew
    have k4 : bookAt w4.drew (fun j => j = w1.heap.size) w1.heap.size [] 0 := bookAt.below (show bookAt w4 (fun j => j = w1.heap.size) w1.heap.size [] 0 from K4.out) ((Below.refl w4.heap.size w4).drew) (Nat.le_refl _)
    refine wp_region_noPanic ?_
    refine wp_region_held_drew (S := fun w' => Fr (fun j => j = w1.heap.size) w4 w') (by kernel_rfl) hw4 (fun hHeld => ?_)
    refine take_op (i := 0) (v := ?vu0) rfl (by kernel_rfl) (by kernel_rfl) (by kernel_rfl) (fun _ _ _ h => h) rfl hHeld ?yu0 ?ru0
    case yu0 => (intro wz hz; go_simp; first | done | with_reducible rfl)
    try simp only [Act.put, List.setIfInBounds_toArray, List.set_cons_zero, List.set_cons_succ]
    refine take_op (i := 1) (v := ?vu1) rfl (by kernel_rfl) (by kernel_rfl) (by kernel_rfl) (fun _ _ _ h => h) rfl hHeld ?yu1 ?ru1
    case yu1 => (intro wz hz; go_simp; first | done | with_reducible rfl)
    try simp only [Act.put, List.setIfInBounds_toArray, List.set_cons_zero, List.set_cons_succ]
    refine take_load (i := 3) rfl (by kernel_rfl) (by kernel_rfl) (by kernel_rfl) 28 _ rfl w3.heap.size 0 32 (arrV (R)) rfl _ Tryd.underlying28 rfl (by kernel_rfl) (fun _ _ _ h => h) rfl hHeld (fun wz hz => (ST.out wz hz).2.2.2.1) ?_
    try simp only [Act.put, List.setIfInBounds_toArray, List.set_cons_zero, List.set_cons_succ]
    obtain ⟨f1, f2, f3, f4, f5⟩ := ST.out w4.drew hHeld
    have Y1 := root_book 1000 (fun j => j = w1.heap.size) w1.heap.size [] 0 L _ w4.drew (by omega) (Nat.le_refl _) k4 f1 (fun _ j hj e => by have := (newSums.block HN1.out j hj).2; omega) f3 (fun e => by have := L4.out; omega) (by simp; omega) (by omega)
    rw [← HRE.out, Int.zero_add, ← HC.out] at Y1
    unfold sumV at Y1
    clear f1 f2 f3 f4 f5 k4
    refine take_one (i := 2) rfl (by kernel_rfl) rfl (fun K hK => ?_)
    go_simp
    refine Calls.mono Y1 ?_
    rintro e x1 ⟨rfl, k1, g1⟩
    have m1 : Fr (fun j => j = w1.heap.size) w4 x1 := hHeld.trans g1 (fun _ _ h => h)
    clear Y1 g1 hw4
    refine hK.out _ _ m1 (fun hHeld => ?_)
    clear hK K m1
    try simp only [Act.put, List.setIfInBounds_toArray, List.set_cons_zero, List.set_cons_succ]
    refine take_op (i := 4) (v := ?vu4) rfl (by kernel_rfl) (by kernel_rfl) (by kernel_rfl) (fun _ _ _ h => h) rfl hHeld ?yu4 ?ru4
    case yu4 => (intro wz hz; have hcz := ER.out wz; go_simp; first | done | with_reducible rfl)
    try simp only [Act.put, List.setIfInBounds_toArray, List.set_cons_zero, List.set_cons_succ]
    refine take_op (i := 5) (v := ?vu5) rfl (by kernel_rfl) (by kernel_rfl) (by kernel_rfl) (fun _ _ _ h => h) rfl hHeld ?yu5 ?ru5
    case yu5 => (intro wz hz; go_simp; first | done | with_reducible rfl)
    try simp only [Act.put, List.setIfInBounds_toArray, List.set_cons_zero, List.set_cons_succ]
    refine take_op (i := 6) (v := ?vu6) rfl (by kernel_rfl) (by kernel_rfl) (by kernel_rfl) (fun _ _ _ h => h) rfl hHeld ?yu6 ?ru6
    case yu6 => (intro wz hz; go_simp; first | done | with_reducible rfl)
    try simp only [Act.put, List.setIfInBounds_toArray, List.set_cons_zero, List.set_cons_succ]
    refine take_op (i := 8) (v := ?vu8) rfl (by kernel_rfl) (by kernel_rfl) (by kernel_rfl) (fun _ _ _ h => h) rfl hHeld ?yu8 ?ru8
    case yu8 => (intro wz hz; go_simp; first | done | with_reducible rfl)
    try simp only [Act.put, List.setIfInBounds_toArray, List.set_cons_zero, List.set_cons_succ]
    have Y2 := calls_any _ w1.heap.size _ _ x1 k1
    clear k1
    refine take_one (i := 7) rfl (by kernel_rfl) rfl (fun K hK => ?_)
    go_simp
    refine Calls.mono Y2 ?_
    rintro e wz ⟨rfl, hwz⟩
    obtain rfl := hwz.symm
    clear Y2 hwz
    refine hK.out _ _ hHeld (fun hHeld => ?_)
    clear hK K
    try simp only [Act.put, List.setIfInBounds_toArray, List.set_cons_zero, List.set_cons_succ]
    refine take_op (i := 9) (v := ?vu9) rfl (by kernel_rfl) (by kernel_rfl) (by kernel_rfl) (fun _ _ _ h => h) rfl hHeld ?yu9 ?ru9
    case yu9 => (intro wz hz; go_simp; first | done | with_reducible rfl)
    try simp only [Act.put, List.setIfInBounds_toArray, List.set_cons_zero, List.set_cons_succ]
    refine take_op (i := 10) (v := ?vu10) rfl (by kernel_rfl) (by kernel_rfl) (by kernel_rfl) (fun _ _ _ h => h) rfl hHeld ?yu10 ?ru10
    case yu10 => (intro wz hz; go_simp; first | done | with_reducible rfl)
    try simp only [Act.put, List.setIfInBounds_toArray, List.set_cons_zero, List.set_cons_succ]
    refine take_op (i := 11) (v := ?vu11) rfl (by kernel_rfl) (by kernel_rfl) (by kernel_rfl) (fun _ _ _ h => h) rfl hHeld ?yu11 ?ru11
    case yu11 => (intro wz hz; go_simp; first | done | with_reducible rfl)
    try simp only [Act.put, List.setIfInBounds_toArray, List.set_cons_zero, List.set_cons_succ]
    refine take_op (i := 12) (v := ?vu12) rfl (by kernel_rfl) (by kernel_rfl) (by kernel_rfl) (fun _ _ _ h => h) rfl hHeld ?yu12 ?ru12
    case yu12 => (intro wz hz; go_simp; first | done | with_reducible rfl)
    try simp only [Act.put, List.setIfInBounds_toArray, List.set_cons_zero, List.set_cons_succ]
    refine take_load (i := 14) rfl (by kernel_rfl) (by kernel_rfl) (by kernel_rfl) 28 _ rfl w3.heap.size 0 32 (arrV (R)) rfl _ Tryd.underlying28 rfl (by kernel_rfl) (fun _ _ _ h => h) rfl hHeld (fun wz hz => (ST.out wz hz).2.2.2.1) ?_
    try simp only [Act.put, List.setIfInBounds_toArray, List.set_cons_zero, List.set_cons_succ]
    obtain ⟨f1, f2, f3, f4, f5⟩ := ST.out x1 hHeld
    have Y3 := root_nil 1000 L _ x1 (by omega) (Nat.le_refl _) f1 f3
    rw [← HRE.out] at Y3
    unfold sumV at Y3
    clear f1 f2 f3 f4 f5
    refine take_one (i := 13) rfl (by kernel_rfl) rfl (fun K hK => ?_)
    go_simp
    refine Calls.mono Y3 ?_
    rintro e x3 ⟨rfl, g3⟩
    have m3 := hHeld.trans (Fr.of_below (fun _ => False) g3) (fun _ _ h => h.elim)
    clear Y3 g3
    refine hK.out _ _ m3 (fun hHeld => ?_)
    clear hK K m3
    try simp only [Act.put, List.setIfInBounds_toArray, List.set_cons_zero, List.set_cons_succ]
    refine take_op (i := 15) (v := ?vu15) rfl (by kernel_rfl) (by kernel_rfl) (by kernel_rfl) (fun _ _ _ h => h) rfl hHeld ?yu15 ?ru15
    case yu15 => (intro wz hz; have hcz := ER.out wz; go_simp; first | done | with_reducible rfl)
    try simp only [Act.put, List.setIfInBounds_toArray, List.set_cons_zero, List.set_cons_succ]
    refine take_op (i := 16) (v := ?vu16) rfl (by kernel_rfl) (by kernel_rfl) (by kernel_rfl) (fun _ _ _ h => h) rfl hHeld ?yu16 ?ru16
    case yu16 => (intro wz hz; go_simp; first | done | with_reducible rfl)
    try simp only [Act.put, List.setIfInBounds_toArray, List.set_cons_zero, List.set_cons_succ]
    refine take_op (i := 17) (v := ?vu17) rfl (by kernel_rfl) (by kernel_rfl) (by kernel_rfl) (fun _ _ _ h => h) rfl hHeld ?yu17 ?ru17
    case yu17 => (intro wz hz; go_simp; first | done | with_reducible rfl)
    try simp only [Act.put, List.setIfInBounds_toArray, List.set_cons_zero, List.set_cons_succ]
    refine take_op (i := 18) (v := ?vu18) rfl (by kernel_rfl) (by kernel_rfl) (by kernel_rfl) (fun _ _ _ h => h) rfl hHeld ?yu18 ?ru18
    case yu18 => (intro wz hz; go_simp; first | done | with_reducible rfl)
    try simp only [Act.put, List.setIfInBounds_toArray, List.set_cons_zero, List.set_cons_succ]
    refine take_op (i := 19) (v := ?vu19) rfl (by kernel_rfl) (by kernel_rfl) (by kernel_rfl) (fun _ _ _ h => h) rfl hHeld ?yu19 ?ru19
    case yu19 => (intro wz hz; go_simp; first | done | with_reducible rfl)
    try simp only [Act.put, List.setIfInBounds_toArray, List.set_cons_zero, List.set_cons_succ]
    obtain ⟨f1, f2, f3, f4, f5⟩ := ST.out x3 hHeld
    have Y4 := rsame_any L L _ _ x3 f1 f2 (by omega)
    rw [decide_eq_true rfl] at Y4
    clear f1 f2 f3 f4 f5
    refine take_one (i := 20) rfl (by kernel_rfl) rfl (fun K hK => ?_)
    go_simp
    refine Calls.mono Y4 ?_
    rintro e x4 ⟨rfl, g4⟩
    have m4 := hHeld.trans (Fr.of_below (fun _ => False) g4) (fun _ _ h => h.elim)
    clear Y4 g4
    refine hK.out _ _ m4 (fun hHeld => ?_)
    clear hK K m4
    try simp only [Act.put, List.setIfInBounds_toArray, List.set_cons_zero, List.set_cons_succ]
    refine take_op (i := 21) (v := ?vu21) rfl (by kernel_rfl) (by kernel_rfl) (by kernel_rfl) (fun _ _ _ h => h) rfl hHeld ?yu21 ?ru21
    case yu21 => (intro wz hz; go_simp; first | done | with_reducible rfl)
    try simp only [Act.put, List.setIfInBounds_toArray, List.set_cons_zero, List.set_cons_succ]
    refine take_op (i := 22) (v := ?vu22) rfl (by kernel_rfl) (by kernel_rfl) (by kernel_rfl) (fun _ _ _ h => h) rfl hHeld ?yu22 ?ru22
    case yu22 => (intro wz hz; go_simp; first | done | with_reducible rfl)
    try simp only [Act.put, List.setIfInBounds_toArray, List.set_cons_zero, List.set_cons_succ]
    obtain ⟨f1, f2, f3, f4, f5⟩ := ST.out x4 hHeld
    have Y5 := awake_any x4 f3
    clear f1 f2 f3 f4 f5
    refine take_one (i := 23) rfl (by kernel_rfl) rfl (fun K hK => ?_)
    go_simp
    refine Calls.mono Y5 ?_
    rintro e x5 ⟨rfl, g5⟩
    have m5 := hHeld.trans (Fr.of_below (fun _ => False) g5) (fun _ _ h => h.elim)
    clear Y5 g5
    refine hK.out _ _ m5 (fun hHeld => ?_)
    clear hK K m5
    try simp only [Act.put, List.setIfInBounds_toArray, List.set_cons_zero, List.set_cons_succ]
    refine take_op (i := 24) (v := ?vu24) rfl (by kernel_rfl) (by kernel_rfl) (by kernel_rfl) (fun _ _ _ h => h) rfl hHeld ?yu24 ?ru24
    case yu24 => (intro wz hz; go_simp; first | done | with_reducible rfl)
    try simp only [Act.put, List.setIfInBounds_toArray, List.set_cons_zero, List.set_cons_succ]
    refine take_op (i := 25) (v := ?vu25) rfl (by kernel_rfl) (by kernel_rfl) (by kernel_rfl) (fun _ _ _ h => h) rfl hHeld ?yu25 ?ru25
    case yu25 => (intro wz hz; go_simp; first | done | with_reducible rfl)
    try simp only [Act.put, List.setIfInBounds_toArray, List.set_cons_zero, List.set_cons_succ]
    refine wpAnyH_done (by kernel_rfl) ?_ _
    refine NoPanic.normal ?_
    have FIN : Hid _ := (ST.out _ hHeld).2.2.2.2
    clear hHeld
    go_wp2
    go_ret
    exact ⟨rfl, FIN.out⟩
end Go.Proofs.YtppfeilndcdoeaaDoor

/- TreeLeads: its walk. -/
namespace Go.Proofs.YtppfeilndcdoeaaDoor
set_option linter.unusedSimpArgs false
set_option linter.unusedVariables false
open Go.RowKit Go.Deep

theorem build_bookL (w : World) : (Instr.build 27 #[]).run Tryd.prog w = .ok (.agg #[.pointer none]) w := by kernel_rfl
theorem build_sumL (w : World) : (Instr.build 28 #[]).run Tryd.prog w = .ok (.agg (rowV 32 (fun _ => .int .u8 0))) w := by kernel_rfl
theorem zero_arrV : (fun _ => .int .u8 0 : Nat → Value) = arrV [] := by funext i; simp [arrV]
theorem eql_zeroL (w : World) : (Op.equalIn 10000 28 (.agg (rowV 32 (fun _ => .int .u8 0))) (.agg #[.int .u8 0, .int .u8 0, .int .u8 0, .int .u8 0, .int .u8 0, .int .u8 0, .int .u8 0, .int .u8 0, .int .u8 0, .int .u8 0, .int .u8 0, .int .u8 0, .int .u8 0, .int .u8 0, .int .u8 0, .int .u8 0, .int .u8 0, .int .u8 0, .int .u8 0, .int .u8 0, .int .u8 0, .int .u8 0, .int .u8 0, .int .u8 0, .int .u8 0, .int .u8 0, .int .u8 0, .int .u8 0, .int .u8 0, .int .u8 0, .int .u8 0, .int .u8 0])).run Tryd.prog w = .ok true w := by kernel_rfl
set_option maxHeartbeats 2000000 in
set_option maxRecDepth 100000 in
theorem treeLeads_any (n at_ : Int) (hn : -9223372036854775808 ≤ n ∧ n ≤ 9223372036854775807) (ha : -9223372036854775808 ≤ at_ ∧ at_ ≤ 9223372036854775807) (f : Nat → Int) (hf : ∀ i, 0 ≤ f i ∧ f i ≤ 255) (path : List (List Int)) (pv : Value) (w : World) (ht : tabIs w) (hp : sumsAt w pv path) :
    Calls Tryd.prog 5 #[.int .i64 n, .int .i64 at_, .agg (rowV 32 fun i => .int .u8 (f i)), pv] w fun e w' => e = .returned (.bool true) ∧ Below w.heap.size w w' := by
  rw [listF_row]
  have hleaf : isSum (listF f) := listF_sum hf
  generalize listF f = leaf at hleaf
  clear hf f
  have q2 : (path.length : Int) ≤ 9223372036854775807 := by
    obtain ⟨_, a, cap, e, h3, h4, _⟩ := hp
    unfold maxLen at h4
    omega
  have p2 : (0 : Int) ≤ (path.length : Int) := by omega
  have t0 := ht.1
  have hpv : ∃ pa pc, pv = .slice pa path.length pc := by obtain ⟨_, a, cap, e, _⟩ := hp; exact ⟨a, cap, e⟩
  obtain ⟨w1, hw1⟩ : ∃ w1, w1 = w.alloc (.cells (rowV 32 (arrV leaf)) 28) := ⟨_, rfl⟩
  have b1 : Below w.heap.size w w1 := by rw [hw1]; exact (Below.refl _ _).alloc (Nat.le_refl _) _
  have z1 : w1.heap.size = w.heap.size + 1 := by rw [hw1]; simp
  have r1 : w1.rowIs w.heap.size 28 32 (arrV leaf) := by rw [hw1]; exact rowIs_box _ _ _ _
  by_cases hbig : 100 < path.length
  · have X := awake_any w1 (ht.below b1 t0)
    obtain ⟨pa, pc, rfl⟩ := hpv
    have B1 : Hid _ := b1
    have q3 : (100 : Int) < (path.length : Int) := by omega
    clear hp b1 r1 hbig
    go_enter Tryd.func5, Tryd.ntmps5
    go_upto_region 1 with fail
    rw [← hw1]
    clear hw1
    go_wp2_with fail
    refine X.mono ?_
    rintro e x1 ⟨rfl, g1⟩
    have G1 : Hid (Below w.heap.size w x1) := (show Below w.heap.size w x1 from (show Below w.heap.size w w1 from B1.out).trans (g1.mono (show w.heap.size ≤ w1.heap.size from Below.size B1.out)))
    clear X g1
    go_wp2
    go_ret
    exact ⟨rfl, G1.out⟩
  have q3 : (path.length : Int) ≤ 100 := by omega
  obtain ⟨w2, hw2⟩ : ∃ w2, w2 = w1.alloc (.cells #[.pointer none] 27) := ⟨_, rfl⟩
  have z2 : w2.heap.size = w1.heap.size + 1 := by rw [hw2]; simp
  have b2 : Below w1.heap.size w1 w2 := by rw [hw2]; exact (Below.refl _ _).alloc (Nat.le_refl _) _
  have k2 : bookAt w2 (fun j => j = w1.heap.size) w1.heap.size [] 0 := bookAt.new w1 w2 w1.heap.size (by rw [hw2]; exact rowIs_one w1 (.pointer none) 27)
  have b02 : Below w.heap.size w w2 := b1.trans (b2.mono (by omega))
  obtain ⟨oa, oc, w3, hr3, n3, b3⟩ := copy_sums w2 path pv (hp.below b02 (Nat.le_refl _)) (by omega)
  have z3 := b3.size
  have b03 : Below w.heap.size w w3 := b02.trans (b3.mono b02.size)
  have k3 := k2.below b3 (Nat.le_refl _)
  have lf3 : w3.rowIs w.heap.size 28 32 (arrV leaf) := b3.row (b2.row r1 (by omega)) (by omega)
  have HG : Hid (∀ wz, Below w.heap.size w wz → sumsAt wz pv path ∧ tabIs wz) := (show _ from fun wz hz => ⟨hp.below hz (Nat.le_refl _), ht.below hz t0⟩)
  have t3 := ht.below b03 t0
  have ST : Hid (∀ w4, Fr (fun j => j = w1.heap.size) w3 w4 → ∀ w5, Below w4.heap.size w4 w5 → w5.rowIs w.heap.size 28 32 (arrV leaf) ∧ newSums w5 w2.heap.size (.slice oa path.length oc) path ∧ Below w.heap.size w w5) := (show _ from by
    intro w4 f4 w5 b5
    have s4 := f4.size
    refine ⟨b5.row (World.rowIs.of_block lf3 (f4.block _ (by omega) (by omega))) (by omega), (n3.far fun j hj => ?_).below b5 (Nat.le_refl _), (b03.trans (f4.below (fun j hj => by omega) (by omega))).trans (b5.mono (by omega))⟩
    have hb := n3.block j hj
    exact f4.block _ hb.2 (by omega))
  have lx3 : ∀ j, j < 32 → w3.cell? ⟨w.heap.size, 0 + j, none⟩ = some (arrV leaf j) := fun j hj => by rw [Nat.zero_add]; exact lf3.cell hj
  have hz32 := zero_s32
  have bb := build_bookL
  have ez := eql_zeroL
  have HZ : Hid (w1.heap.size = w.heap.size + 1 ∧ w2.heap.size = w.heap.size + 2 ∧ w2.heap.size ≤ w3.heap.size ∧ path.length ≤ 100) := (show _ from ⟨z1, by omega, z3, by omega⟩)
  have HLF : Hid (isSum leaf) := hleaf
  have B3 : Hid (Below w.heap.size w w3) := (show Below w.heap.size w w3 from b03)
  have X3 := fun (w5 : World) (hz : Below w.heap.size w w5) => rlead_any 1000 n at_ leaf path pv w5 (by omega) (Nat.le_refl _) hn ha hleaf (HG.out w5 hz).1
  have HX3 : Hid _ := X3
  clear X3
  cases hok : okLead n at_ path with
  | false =>
    have HOK : Hid (leadR n at_ leaf path = .tuple #[zeroA, .bool false]) := (show leadR n at_ leaf path = .tuple #[zeroA, .bool false] from leadR_no hok)
    have X2 := lead_no (.pointer (some ⟨w1.heap.size, 0, none⟩)) n at_ hn ha leaf path (.slice oa path.length oc) w3 n3.is (by omega) hok
    unfold sumV at X2
    have K3 : Hid (bookAt w3 (fun j => j = w1.heap.size) w1.heap.size [] 0) := (show bookAt w3 (fun j => j = w1.heap.size) w1.heap.size [] 0 from k3)
    obtain ⟨pa, pc, rfl⟩ := hpv
    clear hbig hp b1 z1 r1 z2 b2 k2 b02 n3 b3 z3 b03 k3 lf3 t3 hok ht hleaf hn ha t0
    go_enter Tryd.func5, Tryd.ntmps5
    go_upto_region 1 with fail
    rw [← hw1]
    clear hw1
    go_upto_region 4 with fail
    rw [← hw2]
    clear hw2 bb
    go_upto_region 5 with (at_builtin; refine wpList_append_run rfl _ _ _ rfl rfl rfl hr3 ?_)
    clear hr3
    go_wp2_with (refine wpList_load_w 28 (.tmp 6) rfl rfl w.heap.size 0 32 (arrV leaf) rfl _ Tryd.underlying28 rfl hi32' lx3 ?_)
    refine X2.mono ?_
    rintro e w4 ⟨rfl, b4⟩
    clear X2 lx3
    have r4 := rowIs_box w4 28 32 (fun _ => .int .u8 0)
    have B4 : Hid (Below w3.heap.size w3 w4) := (show Below w3.heap.size w3 w4 from b4)
    clear b4
    go_upto_region 6 with (refine wpList_store_row rfl 28 _ _ rfl rfl w4.heap.size 0 32 (fun _ => .int .u8 0) rfl rfl hi32' (fun _ _ => rfl) _ _ _ r4 (by omega) ?_; intro w5 r5 hz5 hb5)
    have ba : Below w4.heap.size w4 (w4.alloc (.cells (rowV 32 (fun _ => .int .u8 0)) 28)) := (Below.refl _ _).alloc (Nat.le_refl _) _
    have b45 : Below w4.heap.size w4 w5 := ba.trans ((hb5.mono (by simp)).below (Nat.le_refl _))
    have b35 : Below w3.heap.size w3 w5 := (show Below w3.heap.size w3 w4 from B4.out).trans (b45.mono (show w3.heap.size ≤ w4.heap.size from Below.size B4.out))
    have rz5 : w5.rowIs w4.heap.size 28 32 (fun _ => .int .u8 0) := r5.congr fun i hi => by rw [if_pos (by omega)]
    obtain ⟨lf5, _, b05⟩ := ST.out w3 (Fr.refl _ _) w5 b35
    have lx5 : ∀ j, j < 32 → w5.cell? ⟨w.heap.size, 0 + j, none⟩ = some (arrV leaf j) := fun j hj => by rw [Nat.zero_add]; exact lf5.cell hj
    have X3 := HX3.out w5 b05
    rw [HOK.out] at X3
    unfold sumV zeroA at X3
    have B35 : Hid (Below w3.heap.size w3 w5) := (show Below w3.heap.size w3 w5 from b35)
    have B05 : Hid (Below w.heap.size w w5) := (show Below w.heap.size w w5 from b05)
    have RZ5 : Hid (w5.rowIs w4.heap.size 28 32 (fun _ => .int .u8 0) ∧ w4.heap.size < w5.heap.size) := (show _ from ⟨rz5, rz5.lt⟩)
    clear ba b45 b35 rz5 lf5 b05 r4 r5 hz5 hb5 HX3 B4
    go_wp2_with (refine wpList_load_w 28 (.tmp 6) rfl rfl w.heap.size 0 32 (arrV leaf) rfl _ Tryd.underlying28 rfl hi32' lx5 ?_)
    refine X3.mono ?_
    rintro e w6 ⟨rfl, b6⟩
    clear X3 lx5
    have r6 := rowIs_box w6 28 32 (fun _ => .int .u8 0)
    have B6 : Hid (Below w5.heap.size w5 w6) := (show Below w5.heap.size w5 w6 from b6)
    clear b6
    go_upto_region 7 with (refine wpList_store_row rfl 28 _ _ rfl rfl w6.heap.size 0 32 (fun _ => .int .u8 0) rfl rfl hi32' (fun _ _ => rfl) _ _ _ r6 (by omega) ?_; intro w7 r7 hz7 hb7)
    have ba : Below w6.heap.size w6 (w6.alloc (.cells (rowV 32 (fun _ => .int .u8 0)) 28)) := (Below.refl _ _).alloc (Nat.le_refl _) _
    have b67 : Below w6.heap.size w6 w7 := ba.trans ((hb7.mono (by simp)).below (Nat.le_refl _))
    have b57 : Below w5.heap.size w5 w7 := (show Below w5.heap.size w5 w6 from B6.out).trans (b67.mono (show w5.heap.size ≤ w6.heap.size from Below.size B6.out))
    have rz7 := b57.row RZ5.out.1 RZ5.out.2
    have lz7 : ∀ j, j < 32 → w7.cell? ⟨w4.heap.size, 0 + j, none⟩ = some (.int .u8 0) := fun j hj => by rw [Nat.zero_add]; exact rz7.cell hj
    have b37 : Below w3.heap.size w3 w7 := (show Below w3.heap.size w3 w5 from B35.out).trans (b57.mono (show w3.heap.size ≤ w5.heap.size from Below.size B35.out))
    have b07 : Below w.heap.size w w7 := (show Below w.heap.size w w5 from B05.out).trans (b57.mono (show w.heap.size ≤ w5.heap.size from Below.size B05.out))
    have XC := calls_any (fun j => j = w1.heap.size) w1.heap.size [] 0 w7 (bookAt.below K3.out b37 (Nat.le_refl _))
    have XA := awake_any w7 (HG.out w7 b07).2
    have B07 : Hid (Below w.heap.size w w7) := (show Below w.heap.size w w7 from b07)
    clear ba b67 b57 b37 b07 rz7 r6 r7 hz7 hb7 B6 RZ5 B35 K3 hz32
    go_wp2_with (refine wpList_load_w 28 (.tmp 11) rfl rfl w4.heap.size 0 32 (fun _ => .int .u8 0) rfl _ Tryd.underlying28 rfl hi32' lz7 ?_)
    refine XC.mono ?_
    rintro e w8 ⟨rfl, hw⟩
    obtain rfl := hw.symm
    clear XC hw
    go_wp2_with fail
    refine XA.mono ?_
    rintro e w9 ⟨rfl, b9⟩
    have B09 : Hid (Below w.heap.size w w9) := (show Below w.heap.size w w9 from (show Below w.heap.size w w7 from B07.out).trans (b9.mono (show w.heap.size ≤ w7.heap.size from Below.size B07.out)))
    clear XA b9
    go_wp2
    go_ret
    exact ⟨rfl, B09.out⟩
  | true =>
    have hSs : isSum (leadF (ups (wayI n at_) path) leaf) := leadF_sum _ _ hleaf
    have X2 := lead_yes (fun j => j = w1.heap.size) (.pointer (some ⟨w1.heap.size, 0, none⟩)) [] 0 n at_ hn ha leaf path (.slice oa path.length oc) w3 hleaf (Or.inr ⟨_, rfl, k3⟩) n3.is (fun h0 j hj e => by have := (n3.block j hj).1; omega) t3 (fun e => by omega) (by simp; omega) (by omega) (by omega) hok
    have HOK0 := leadR_yes (leaf := leaf) hok
    obtain ⟨S, hS⟩ : ∃ S, S = leadF (ups (wayI n at_) path) leaf := ⟨_, rfl⟩
    rw [← hS] at X2 HOK0 hSs
    generalize leadFN [] (ups (wayI n at_) path) leaf = M at X2
    have HOK : Hid (leadR n at_ leaf path = .tuple #[sumV S, .bool true]) := (show leadR n at_ leaf path = .tuple #[sumV S, .bool true] from HOK0)
    have HSS : Hid (isSum S) := hSs
    unfold sumV at X2
    rw [Int.zero_add] at X2
    have hp0 := hpv
    obtain ⟨pa, pc, rfl⟩ := hpv
    clear hbig hp b1 z1 r1 z2 b2 k2 b02 n3 b3 z3 b03 k3 lf3 t3 hok ht hleaf hn ha t0 hS HOK0 hSs ez hp0
    go_enter Tryd.func5, Tryd.ntmps5
    go_upto_region 1 with fail
    rw [← hw1]
    clear hw1
    go_upto_region 4 with fail
    rw [← hw2]
    clear hw2 bb
    go_upto_region 5 with (at_builtin; refine wpList_append_run rfl _ _ _ rfl rfl rfl hr3 ?_)
    clear hr3
    go_wp2_with (refine wpList_load_w 28 (.tmp 6) rfl rfl w.heap.size 0 32 (arrV leaf) rfl _ Tryd.underlying28 rfl hi32' lx3 ?_)
    refine X2.mono ?_
    rintro e w4 ⟨rfl, k4, f4⟩
    clear X2 lx3
    have r4 := rowIs_box w4 28 32 (fun _ => .int .u8 0)
    have F4 : Hid (Fr (fun j => j = w1.heap.size) w3 w4) := (show Fr (fun j => j = w1.heap.size) w3 w4 from f4)
    have K4 : Hid (bookAt w4 (Gr (fun j => j = w1.heap.size) w3 w4) w1.heap.size M (path.length : Int)) := (show bookAt w4 (Gr (fun j => j = w1.heap.size) w3 w4) w1.heap.size M (path.length : Int) from by
      rcases k4 with ⟨e, _⟩ | ⟨k, e, hk⟩
      · cases e
      · have : k = w1.heap.size := by
          injection e with e; injection e with e; injection e with e; exact e.symm
        exact this ▸ hk)
    clear k4 f4
    go_upto_region 6 with (refine wpList_store_row rfl 28 _ _ rfl rfl w4.heap.size 0 32 (arrV S) rfl rfl hi32' (fun _ _ => rfl) _ _ _ r4 (by omega) ?_; intro w5 r5 hz5 hb5)
    have ba : Below w4.heap.size w4 (w4.alloc (.cells (rowV 32 (fun _ => .int .u8 0)) 28)) := (Below.refl _ _).alloc (Nat.le_refl _) _
    have b45 : Below w4.heap.size w4 w5 := ba.trans ((hb5.mono (by simp)).below (Nat.le_refl _))
    have rz5 : w5.rowIs w4.heap.size 28 32 (arrV S) := r5.congr fun i hi => by rw [if_pos (by omega), Nat.sub_zero]
    obtain ⟨lf5, n5, b05⟩ := ST.out w4 F4.out w5 b45
    have lx5 : ∀ j, j < 32 → w5.cell? ⟨w.heap.size, 0 + j, none⟩ = some (arrV leaf j) := fun j hj => by rw [Nat.zero_add]; exact lf5.cell hj
    have X3 := HX3.out w5 b05
    rw [HOK.out] at X3
    unfold sumV at X3
    have K5 : Hid (bookAt w5 (Gr (fun j => j = w1.heap.size) w3 w4) w1.heap.size M (path.length : Int)) := (show bookAt w5 (Gr (fun j => j = w1.heap.size) w3 w4) w1.heap.size M (path.length : Int) from bookAt.below K4.out b45 (Nat.le_refl _))
    have N5 : Hid (newSums w5 w2.heap.size (.slice oa path.length oc) path) := (show newSums w5 w2.heap.size (.slice oa path.length oc) path from n5)
    have B05 : Hid (Below w.heap.size w w5) := (show Below w.heap.size w w5 from b05)
    have RZ5 : Hid (w5.rowIs w4.heap.size 28 32 (arrV S) ∧ w4.heap.size < w5.heap.size) := (show _ from ⟨rz5, rz5.lt⟩)
    clear ba b45 rz5 lf5 n5 b05 r4 r5 hz5 hb5 HX3 K4 F4
    go_wp2_with (refine wpList_load_w 28 (.tmp 6) rfl rfl w.heap.size 0 32 (arrV leaf) rfl _ Tryd.underlying28 rfl hi32' lx5 ?_)
    refine X3.mono ?_
    rintro e w6 ⟨rfl, b6⟩
    clear X3 lx5
    have r6 := rowIs_box w6 28 32 (fun _ => .int .u8 0)
    have B6 : Hid (Below w5.heap.size w5 w6) := (show Below w5.heap.size w5 w6 from b6)
    clear b6
    go_upto_region 7 with (refine wpList_store_row rfl 28 _ _ rfl rfl w6.heap.size 0 32 (arrV S) rfl rfl hi32' (fun _ _ => rfl) _ _ _ r6 (by omega) ?_; intro w7 r7 hz7 hb7)
    have ba : Below w6.heap.size w6 (w6.alloc (.cells (rowV 32 (fun _ => .int .u8 0)) 28)) := (Below.refl _ _).alloc (Nat.le_refl _) _
    have b67 : Below w6.heap.size w6 w7 := ba.trans ((hb7.mono (by simp)).below (Nat.le_refl _))
    have b57 : Below w5.heap.size w5 w7 := (show Below w5.heap.size w5 w6 from B6.out).trans (b67.mono (show w5.heap.size ≤ w6.heap.size from Below.size B6.out))
    have rz7 := b57.row RZ5.out.1 RZ5.out.2
    have ry7 : w7.rowIs w6.heap.size 28 32 (arrV S) := r7.congr fun i hi => by rw [if_pos (by omega), Nat.sub_zero]
    have lz7 : ∀ j, j < 32 → w7.cell? ⟨w4.heap.size, 0 + j, none⟩ = some (arrV S j) := fun j hj => by rw [Nat.zero_add]; exact rz7.cell hj
    have ly7 : ∀ j, j < 32 → w7.cell? ⟨w6.heap.size, 0 + j, none⟩ = some (arrV S j) := fun j hj => by rw [Nat.zero_add]; exact ry7.cell hj
    have b07 : Below w.heap.size w w7 := (show Below w.heap.size w w5 from B05.out).trans (b57.mono (show w.heap.size ≤ w5.heap.size from Below.size B05.out))
    have XC := calls_any (Gr (fun j => j = w1.heap.size) w3 w4) w1.heap.size M (path.length : Int) w7 (bookAt.below K5.out b57 (Nat.le_refl _))
    have XS := rsame_any path path (.slice oa path.length oc) _ w7 (newSums.below (show newSums w5 w2.heap.size (.slice oa path.length oc) path from N5.out) b57 (Nat.le_refl _)).is (HG.out w7 b07).1 (Nat.le_trans HZ.out.2.2.2 (by omega))
    rw [decide_eq_true rfl] at XS
    have heq : ∀ wz : World, (Op.equalIn 10000 28 (.agg (rowV 32 (arrV S))) (.agg (rowV 32 (arrV S)))).run Tryd.prog wz = .ok true wz := fun wz => by have := run_eq_sums wz 9998 HSS.out HSS.out; rwa [decide_eq_true rfl] at this
    have B07 : Hid (Below w.heap.size w w7) := (show Below w.heap.size w w7 from b07)
    clear ba b67 b57 b07 rz7 ry7 r6 r7 hz7 hb7 B6 RZ5 K5 N5 hz32
    go_wp2_with (first | (refine wpList_load_w 28 (.tmp 11) rfl rfl w4.heap.size 0 32 (arrV S) rfl _ Tryd.underlying28 rfl hi32' lz7 ?_) | (refine wpList_load_w 28 (.tmp 13) rfl rfl w6.heap.size 0 32 (arrV S) rfl _ Tryd.underlying28 rfl hi32' ly7 ?_))
    refine XC.mono ?_
    rintro e w8 ⟨rfl, hw⟩
    obtain rfl := hw.symm
    clear XC hw
    go_wp2_with fail
    refine XS.mono ?_
    rintro e w9 ⟨rfl, b9⟩
    have b09 : Below w.heap.size w w9 := (show Below w.heap.size w w7 from B07.out).trans (b9.mono (show w.heap.size ≤ w7.heap.size from Below.size B07.out))
    have XA := awake_any w9 (HG.out w9 b09).2
    have B09 : Hid (Below w.heap.size w w9) := (show Below w.heap.size w w9 from b09)
    clear XS b9 b09
    go_wp2_with fail
    refine XA.mono ?_
    rintro e x1 ⟨rfl, g1⟩
    have G1 : Hid (Below w.heap.size w x1) := (show Below w.heap.size w x1 from (show Below w.heap.size w w9 from B09.out).trans (g1.mono (show w.heap.size ≤ w9.heap.size from Below.size B09.out)))
    clear XA g1
    go_wp2
    go_ret
    exact ⟨rfl, G1.out⟩
end Go.Proofs.YtppfeilndcdoeaaDoor

/- The frame of a law's row, where no package variable is laid. -/
namespace Go.Proofs.YtppfeilndcdoeaaDoor
open Go.RowKit Go.Deep Go.ChangeShapes Go.WideShapes Go.ChangeAt
theorem own : ownKnob Tryd.prog.godebug = none := by kernel_rfl
theorem laidOut : laidOutB Tryd.prog = true := by kernel_rfl
theorem bounds_u64 {a : Int} (h : (Lit.int .u64 a).wf = true) : 0 ≤ a ∧ a < 18446744073709551616 := by
  have h' : 0 ≤ a ∧ a ≤ 18446744073709551615 := by simpa [Lit.wf, IntKind.min, IntKind.max, IntKind.signed, IntKind.bits] using h
  omega
end Go.Proofs.YtppfeilndcdoeaaDoor

/- Slices that came in, opened. -/
namespace Go.Proofs.YtppfeilndcdoeaaDoor
open Go.RowKit Go.Deep Go.ChangeShapes Go.WideShapes

theorem bounds_i64 {a : Int} (h : (Lit.int .i64 a).wf = true) : -9223372036854775808 ≤ a ∧ a ≤ 9223372036854775807 := by
  simpa [Lit.wf, IntKind.min, IntKind.max, IntKind.signed, IntKind.bits] using h
/-- A SLICE, opened at every index. -/
theorem open_any {H : Type} {enc : TypeId × Value → H} {P : Program} {w : World} {base b0 : Nat} {sp : Nat → Bool} {held : Bool} {r : Reach} {t e : TypeId} {v : Value} {d : DataW H} {ps : List MemPlace} (c : Nat)
    (hu : P.underlying t = some (.slice e)) (hc : P.cellsOf e = c) (hval : Value.okWide P w r b0 t v) (hd : DataW.Trod enc P w base sp held t v d ps) :
    (v = .slice none 0 0) ∨ ∃ pb po len cap : Nat, v = .slice (some ⟨pb, po, none⟩) len cap ∧ len ≤ cap ∧ cap ≤ maxLen ∧ pb < w.heap.size ∧
      ∀ i, i < len → ∃ (cs' : List Value) (n : Nat) (D : DataW H × List MemPlace), cs'.length = c ∧ (∀ j, j < c → w.cell? ⟨pb, po + i * c + j, none⟩ = cs'[j]?) ∧ DataW.trod enc P w base sp held n e cs' = some D := by
  obtain ⟨a, len, cap, rfl⟩ := okWide_slice hu hval
  obtain ⟨fuel, hf⟩ := hd
  rcases open_slice hu hf with ⟨h0, _⟩ | ⟨a', len', cap', m, n, D, Pl, h0, _, h1, h2, h3, _, h4⟩
  · left; simpa [Value.cells] using h0
  · right
    have h0' : a = some a' ∧ len = len' ∧ cap = cap' := by simpa [Value.cells] using h0
    obtain ⟨rfl, rfl, rfl⟩ := h0'
    have hlm : len ≤ m := by rw [h3]; split <;> omega
    simp only [Value.okWide, hu, Cell.okWide, Cell.ok] at hval
    obtain ⟨_, _, _, hsp, row, cells, hsh, _⟩ := hval
    obtain ⟨pb, po, spot⟩ := a'
    obtain rfl : spot = none := hsp
    refine ⟨pb, po, len, cap, rfl, h1, h2, ?_, fun i hi => ?_⟩
    · unfold World.shape? at hsh
      cases hq : w.heap[pb]? with
      | none => rw [hq] at hsh; cases hsh
      | some o => exact (Array.getElem?_eq_some_iff.1 hq).1
    · obtain ⟨cs', g1, g2⟩ := h4 i (by omega)
      rw [hc] at g1
      obtain ⟨_, hlen, hcell⟩ := World.cells?_some g1
      refine ⟨cs', n, _, hlen, fun j hj => ?_, g2⟩
      have e0 := hcell j (by omega)
      rw [add_add, Addr.add_mid] at e0
      rw [Nat.add_assoc]; exact e0
theorem open_bytes_slice {H : Type} {enc : TypeId × Value → H} {P : Program} {w : World} {base b0 : Nat} {sp : Nat → Bool} {held : Bool} {r : Reach} {t e : TypeId} {v : Value} {d : DataW H} {ps : List MemPlace}
    (hu : P.underlying t = some (.slice e)) (he : P.underlying e = some (.int .u8)) (hc : P.cellsOf e = 1) (hval : Value.okWide P w r b0 t v) (hd : DataW.Trod enc P w base sp held t v d ps) : ∃ l, isBytes w v l := by
  rcases open_any 1 hu hc hval hd with rfl | ⟨pb, po, len, cap, rfl, h1, h2, h3, h4⟩
  · exact ⟨[], Or.inl ⟨rfl, rfl⟩⟩
  · have each : ∀ i, i < len → ∃ z : Int, w.cell? ⟨pb, po + i, none⟩ = some (.int .u8 z) ∧ 0 ≤ z ∧ z ≤ 255 := fun i hi => by
      obtain ⟨cs', n, D, g1, g2, g3⟩ := h4 i hi
      obtain ⟨z, rfl, _, hw⟩ := DataW.trod_int he g3
      have := g2 0 (by omega)
      rw [Nat.mul_one, Nat.add_zero] at this
      exact ⟨z, this, bounds_u8 hw⟩
    obtain ⟨f, hf⟩ := choose_lt each
    have hg : ∀ i, i < len → ((List.range len).map f).getD i 0 = f i := fun i hi => by
      rw [List.getD_eq_getElem?_getD, List.getElem?_map, List.getElem?_range hi]; rfl
    refine ⟨(List.range len).map f, Or.inr ⟨pb, po, cap, by simp, by simpa using h1, h2, h3, fun i hi => ?_, fun i => ?_⟩⟩
    · have hi' : i < len := by simpa using hi
      rw [hg i hi']; exact (hf i hi').1
    · by_cases hi : i < len
      · rw [hg i hi]; exact (hf i hi).2
      · rw [List.getD_eq_getElem?_getD, List.getElem?_eq_none (by simp; omega)]; exact ⟨by simp, by simp⟩
end Go.Proofs.YtppfeilndcdoeaaDoor

/- Rows of sums that came in, opened. -/
namespace Go.Proofs.YtppfeilndcdoeaaDoor
set_option maxRecDepth 100000
open Go.RowKit Go.Deep Go.ChangeShapes Go.WideShapes

theorem sum_cells {H : Type} {enc : TypeId × Value → H} {w : World} {base : Nat} {held : Bool} {n : Nat} {cs' : List Value} {D : DataW H × List MemPlace} (g1 : cs'.length = 32)
    (g3 : DataW.trod enc Tryd.prog w base (fun _ => true) held n 28 cs' = some D) : ∃ q : List Int, isSum q ∧ ∀ j, j < 32 → cs'[j]? = some (arrV q j) := by
  have c8 : Tryd.prog.cellsOf 5 = 1 := by kernel_rfl
  obtain ⟨xs, m', rfl, _, hlen, _, hx⟩ := DataW.trod_array Tryd.underlying28 g3
  have hsum : ∀ j, j < 32 → ∃ z : Int, cs'[j]? = some (.int .u8 z) ∧ 0 ≤ z ∧ z ≤ 255 := fun j hj => by
    have h5 := hx j hj
    rw [c8, Nat.mul_one] at h5
    have hxj : j < xs.length := by omega
    rw [List.getElem?_eq_getElem hxj] at h5
    obtain ⟨z, hz, _, hw⟩ := DataW.trod_int Tryd.underlying5 h5
    refine ⟨z, ?_, bounds_u8 hw⟩
    have := congrArg (fun l => l[0]?) hz
    simp only [List.getElem?_take, List.getElem?_drop, List.getElem?_cons_zero] at this
    simpa using this
  obtain ⟨f, hf⟩ := choose_lt hsum
  refine ⟨(List.range 32).map f, ⟨by simp, fun j => ?_⟩, fun j hj => ?_⟩
  · by_cases hj : j < 32
    · have : ((List.range 32).map f).getD j 0 = f j := by
        rw [List.getD_eq_getElem?_getD, List.getElem?_map, List.getElem?_range hj]; rfl
      rw [this]; exact (hf j hj).2
    · rw [List.getD_eq_getElem?_getD, List.getElem?_eq_none (by simp; omega)]; exact ⟨by simp, by simp⟩
  · have : ((List.range 32).map f).getD j 0 = f j := by
      rw [List.getD_eq_getElem?_getD, List.getElem?_map, List.getElem?_range hj]; rfl
    rw [arrV, this]; exact (hf j hj).1
theorem open_sums {H : Type} {enc : TypeId × Value → H} {w : World} {base b0 : Nat} {held : Bool} {r : Reach} {v : Value} {d : DataW H} {ps : List MemPlace}
    (hval : Value.okWide Tryd.prog w r b0 22 v) (hd : DataW.Trod enc Tryd.prog w base (fun _ => true) held 22 v d ps) : ∃ L, sumsAt w v L := by
  rcases open_any 32 Tryd.underlying22 (by kernel_rfl) hval hd with rfl | ⟨pb, po, len, cap, rfl, h1, h2, h3, h4⟩
  · exact ⟨[], sumsAt.nil w⟩
  · have each : ∀ i, i < len → ∃ q : List Int, isSum q ∧ ∀ j, j < 32 → w.cell? ⟨pb, po + i * 32 + j, none⟩ = some (arrV q j) := fun i hi => by
      obtain ⟨cs', n, D, g1, g2, g3⟩ := h4 i hi
      obtain ⟨q, e1, e2⟩ := sum_cells (by omega) g3
      exact ⟨q, e1, fun j hj => by rw [g2 j hj]; exact e2 j hj⟩
    obtain ⟨f, hf⟩ := choose_lt each
    have hl : ((List.range len).map f).length = len := by simp
    refine ⟨(List.range len).map f, fun x hx => ?_, _, cap, by rw [hl], by rw [hl]; exact h1, h2, fun h0 => ⟨pb, po, rfl, h3, fun i hi j hj => ?_⟩⟩
    · obtain ⟨i, hi, rfl⟩ := List.mem_map.1 hx
      exact (hf i (List.mem_range.1 hi)).1
    · have e : ((List.range len).map f)[i] = f i := by simp
      rw [e]; exact (hf i (by omega)).2 j hj
end Go.Proofs.YtppfeilndcdoeaaDoor

/- The table of the rounds' constants, as the row lists it; a world that holds it, for the witness. -/
namespace Go.Proofs.YtppfeilndcdoeaaDoor
set_option maxRecDepth 100000
open Go.RowKit Go.Deep Go.ChangeShapes Go.WideShapes Go.ChangeAt

/-- the table's name. -/
def tabName : String := Rows.treeRootsRow.named.getD 0 ""
theorem gTab : Tryd.prog.globalNamed tabName = some 0 := by kernel_rfl
theorem gTabType : (Tryd.prog.globals[0]?).map (·.type) = some 112 := by kernel_rfl
theorem cellsTab : Tryd.prog.cellsOf 112 = 64 := by kernel_rfl
theorem cellsWord : Tryd.prog.cellsOf 72 = 1 := by kernel_rfl
/-- what the row's list gives. -/
theorem laid_tab {W : World} (h : laidMetH Tryd.prog Rows.treeRootsRow.laid W) : tabIs W := by
  have ht : Lib.TabIs Tryd.prog W tabName .u32 kList := Lib.tabIs_of_head (rest := []) gTab gTabType Tryd.underlying112 Tryd.underlying72 cellsWord cellsTab h
  refine ⟨?_, fun i hi => ht.cell gTab i (by simpa [kList] using hi)⟩
  have h0 := ht.cell gTab 0 (by decide)
  exact block_lt_of_cell h0
/-- the table's block, laid. -/
def kObj : Obj → Obj
  | .cells _ t frozen => .cells #[.int .u32 1116352408, .int .u32 1899447441, .int .u32 3049323471, .int .u32 3921009573, .int .u32 961987163, .int .u32 1508970993, .int .u32 2453635748, .int .u32 2870763221, .int .u32 3624381080, .int .u32 310598401, .int .u32 607225278, .int .u32 1426881987, .int .u32 1925078388, .int .u32 2162078206, .int .u32 2614888103, .int .u32 3248222580, .int .u32 3835390401, .int .u32 4022224774, .int .u32 264347078, .int .u32 604807628, .int .u32 770255983, .int .u32 1249150122, .int .u32 1555081692, .int .u32 1996064986, .int .u32 2554220882, .int .u32 2821834349, .int .u32 2952996808, .int .u32 3210313671, .int .u32 3336571891, .int .u32 3584528711, .int .u32 113926993, .int .u32 338241895, .int .u32 666307205, .int .u32 773529912, .int .u32 1294757372, .int .u32 1396182291, .int .u32 1695183700, .int .u32 1986661051, .int .u32 2177026350, .int .u32 2456956037, .int .u32 2730485921, .int .u32 2820302411, .int .u32 3259730800, .int .u32 3345764771, .int .u32 3516065817, .int .u32 3600352804, .int .u32 4094571909, .int .u32 275423344, .int .u32 430227734, .int .u32 506948616, .int .u32 659060556, .int .u32 883997877, .int .u32 958139571, .int .u32 1322822218, .int .u32 1537002063, .int .u32 1747873779, .int .u32 1955562222, .int .u32 2024104815, .int .u32 2227730452, .int .u32 2361852424, .int .u32 2428436474, .int .u32 2756734187, .int .u32 3204031479, .int .u32 3329325298] t frozen
  | o => o
end Go.Proofs.YtppfeilndcdoeaaDoor
