import Derived.Lib.SlBytesConst
import Derived.Test.YtkgegihkhdgdoaaDoorOwn1
import Derived.Test.YtkgegihkhdgdoaaDoorOwn4
import Derived.Test.YtkgegihkhdgdoaaDoorOwn7
set_option linter.unusedVariables false
set_option linter.unusedSimpArgs false
/- the laws' much. -/
namespace Go.Proofs.YtkgegihkhdgdoaaDoor
set_option linter.unusedSimpArgs false
set_option linter.unusedVariables false
open Go.RowKit Go.Deep

def muchP (n : Nat) (x : Nat → Pr) (e : Ending) : Prop := ∃ b, e = .returned (.bool b) ∧ (b = false → n ≤ 100 ∧ ∀ i, i < n → (x i).1.length + (x i).2.length ≤ 100000)
set_option maxHeartbeats 4000000 in
set_option maxRecDepth 100000 in
theorem kmuch_any (n : Nat) (v : Value) (x : Nat → Pr) (w : World) (hp : pairsAt w v n x) :
    Calls Tryd.prog 9 #[v] w fun e w' => muchP n x e ∧ Below w.heap.size w w' := by
  obtain ⟨a, cap, hv, hnc, hcm, _⟩ := (id hp : pairsAt w v n x)
  have hnm : (n : Int) ≤ 9223372036854775807 := by unfold maxLen at hcm; omega
  have HP : Hid (pairsAt w v n x) := (show pairsAt w v n x from hp)
  subst hv
  have hn0 : (0 : Int) ≤ (n : Int) := by omega
  clear hp hnc hcm
  go_enter Tryd.func9, Tryd.ntmps9
  go_wp2_with fail
  go_loopw [3, 4] (fun l i wr => ∃ (k : Nat) (left : Int), k ≤ n ∧ k ≤ 101 ∧ l = .int .i64 left ∧ i = .int .i64 (k : Int) ∧ left ≤ 100000 ∧ -400000 ≤ left ∧ (0 ≤ left → ∀ j, j < k → (x j).1.length + (x j).2.length ≤ 100000) ∧ Below w.heap.size w wr) (fun _ i _ => n - (intOf i).toNat)
  case atStart => exact ⟨0, 100000, by omega, by omega, rfl, rfl, by omega, by omega, fun _ j hj => by omega, Below.refl _ _⟩
  case round =>
    obtain ⟨k, left, hkn, hk1, rfl, rfl, hl1, hl2, hall, hbr⟩ := hrel
    have p0 : (0 : Int) ≤ (k : Int) := by omega
    have HAL : Hid (0 ≤ left → ∀ j, j < k → (x j).1.length + (x j).2.length ≤ 100000) := (show _ from hall)
    have HBR : Hid (Below w.heap.size w wr) := (show Below w.heap.size w wr from hbr)
    clear hall
    by_cases hlt : k < n ∧ k ≤ 100 ∧ 0 ≤ left
    · obtain ⟨hlt, hk2, hl0⟩ := hlt
      have p1 : (k : Int) < (n : Int) := by omega
      have p2 : (k : Int) ≤ 100 := by omega
      obtain ⟨g, o, cap', e, hg, _, _, hcell⟩ := HP.out.at (by omega)
      injection e with e1 e2 e3
      subst e1
      subst e3
      obtain ⟨ka, kcap, va, vcap, H⟩ := hcell k hlt
      have FC : Hid (∀ wz, Below w.heap.size w wz → wz.cell? ⟨g, o + k * 2, none⟩ = some (.slice ka (x k).1.length kcap) ∧ wz.cell? ⟨g, o + k * 2 + 1, none⟩ = some (.slice va (x k).2.length vcap)) := (show _ from fun wz hz => by
        obtain ⟨q0, q1, _⟩ := H wz hz
        exact ⟨q0, q1⟩)
      clear hcell H hbr
      go_upto_region 5 with fail
      refine wp_region_noPanic ?_
      refine wp_region_held_drew (S := fun w' => Below w.heap.size w w') (by kernel_rfl) (HBR.out.trans ((Below.refl wr.heap.size wr).drew.mono HBR.out.size)) (fun hHeld => ?_)
      generalize wr.drew = W at hHeld ⊢
      obtain ⟨A, hA⟩ : ∃ A : Int, A = if (200000 : Int) < ((x k).1.length : Int) then 200000 else ((x k).1.length : Int) := ⟨_, rfl⟩
      obtain ⟨B, hB⟩ : ∃ B : Int, B = if (200000 : Int) < ((x k).2.length : Int) then 200000 else ((x k).2.length : Int) := ⟨_, rfl⟩
      have hA2 : 0 ≤ A ∧ A ≤ 200000 ∧ (A < 200000 → A = ((x k).1.length : Int)) := by rw [hA]; split <;> omega
      have hB2 : 0 ≤ B ∧ B ≤ 200000 ∧ (B < 200000 → B = ((x k).2.length : Int)) := by rw [hB]; split <;> omega
      have w1 : IntKind.wrap .i64 (A + B) = A + B := IntWalk.i64_in _ ⟨by omega, by omega⟩
      have w2 : IntKind.wrap .i64 (left - (A + B)) = left - (A + B) := IntWalk.i64_in _ ⟨by omega, by omega⟩
      refine take_op (i := 0) (v := ?vs0) rfl (by kernel_rfl) (by kernel_rfl) (by kernel_rfl) (fun _ _ _ h => h) rfl hHeld ?ys0 ?rs0
      case ys0 => (intro wz hz; go_simp; first | done | with_reducible rfl)
      try simp only [Act.put, List.setIfInBounds_toArray, List.set_cons_zero, List.set_cons_succ]
      refine take_op (i := 1) (v := ?vs1) rfl (by kernel_rfl) (by kernel_rfl) (by kernel_rfl) (fun _ _ _ h => h) rfl hHeld ?ys1 ?rs1
      case ys1 => (intro wz hz; go_simp; first | done | with_reducible rfl)
      try simp only [Act.put, List.setIfInBounds_toArray, List.set_cons_zero, List.set_cons_succ]
      refine take_op (i := 2) (v := ?vs2) rfl (by kernel_rfl) (by kernel_rfl) (by kernel_rfl) (fun _ _ _ h => h) rfl hHeld ?ys2 ?rs2
      case ys2 => (intro wz hz; go_simp; first | done | with_reducible rfl)
      try simp only [Act.put, List.setIfInBounds_toArray, List.set_cons_zero, List.set_cons_succ]
      refine take_op (i := 3) (v := ?vs3) rfl (by kernel_rfl) (by kernel_rfl) (by kernel_rfl) (fun _ _ _ h => h) rfl hHeld ?ys3 ?rs3
      case ys3 => (intro wz hz; go_simp; first | done | with_reducible rfl)
      try simp only [Act.put, List.setIfInBounds_toArray, List.set_cons_zero, List.set_cons_succ]
      refine take_op (i := 4) (v := ?vs4) rfl (by kernel_rfl) (by kernel_rfl) (by kernel_rfl) (fun _ _ _ h => h) rfl hHeld ?ys4 ?rs4
      case ys4 => (intro wz hz; go_simp; first | done | with_reducible rfl)
      try simp only [Act.put, List.setIfInBounds_toArray, List.set_cons_zero, List.set_cons_succ]
      refine take_op (i := 5) (v := ?vs5) rfl (by kernel_rfl) (by kernel_rfl) (by kernel_rfl) (fun _ _ _ h => h) rfl hHeld ?ys5 ?rs5
      case ys5 => (intro wz hz; have hcz := (FC.out wz hz).1; go_simp; first | done | with_reducible rfl)
      try simp only [Act.put, List.setIfInBounds_toArray, List.set_cons_zero, List.set_cons_succ]
      refine take_op (i := 6) (v := ?vs6) rfl (by kernel_rfl) (by kernel_rfl) (by kernel_rfl) (fun _ _ _ h => h) rfl hHeld ?ys6 ?rs6
      case ys6 => (intro wz hz; go_simp; first | done | with_reducible rfl)
      try simp only [Act.put, List.setIfInBounds_toArray, List.set_cons_zero, List.set_cons_succ]
      refine take_op (i := 7) (v := ?vs7) rfl (by kernel_rfl) (by kernel_rfl) (by kernel_rfl) (fun _ _ _ h => h) rfl hHeld ?ys7 ?rs7
      case ys7 => (intro wz hz; go_simp; first | done | with_reducible rfl)
      try simp only [Act.put, List.setIfInBounds_toArray, List.set_cons_zero, List.set_cons_succ]
      refine take_op (i := 8) (v := ?vs8) rfl (by kernel_rfl) (by kernel_rfl) (by kernel_rfl) (fun _ _ _ h => h) rfl hHeld ?ys8 ?rs8
      case ys8 => (intro wz hz; go_simp; first | done | with_reducible rfl)
      try simp only [Act.put, List.setIfInBounds_toArray, List.set_cons_zero, List.set_cons_succ]
      refine take_op (i := 9) (v := ?vs9) rfl (by kernel_rfl) (by kernel_rfl) (by kernel_rfl) (fun _ _ _ h => h) rfl hHeld ?ys9 ?rs9
      case ys9 => (intro wz hz; go_simp; first | done | with_reducible rfl)
      try simp only [Act.put, List.setIfInBounds_toArray, List.set_cons_zero, List.set_cons_succ]
      refine take_op (i := 10) (v := ?vs10) rfl (by kernel_rfl) (by kernel_rfl) (by kernel_rfl) (fun _ _ _ h => h) rfl hHeld ?ys10 ?rs10
      case ys10 => (intro wz hz; go_simp; first | done | with_reducible rfl)
      try simp only [Act.put, List.setIfInBounds_toArray, List.set_cons_zero, List.set_cons_succ]
      refine take_op (i := 11) (v := ?vs11) rfl (by kernel_rfl) (by kernel_rfl) (by kernel_rfl) (fun _ _ _ h => h) rfl hHeld ?ys11 ?rs11
      case ys11 => (intro wz hz; go_simp; first | done | with_reducible rfl)
      try simp only [Act.put, List.setIfInBounds_toArray, List.set_cons_zero, List.set_cons_succ]
      refine take_op (i := 12) (v := ?vs12) rfl (by kernel_rfl) (by kernel_rfl) (by kernel_rfl) (fun _ _ _ h => h) rfl hHeld ?ys12 ?rs12
      case ys12 => (intro wz hz; have hcz := (FC.out wz hz).2; go_simp; first | done | with_reducible rfl)
      try simp only [Act.put, List.setIfInBounds_toArray, List.set_cons_zero, List.set_cons_succ]
      refine take_op (i := 13) (v := ?vs13) rfl (by kernel_rfl) (by kernel_rfl) (by kernel_rfl) (fun _ _ _ h => h) rfl hHeld ?ys13 ?rs13
      case ys13 => (intro wz hz; go_simp; first | done | with_reducible rfl)
      try simp only [Act.put, List.setIfInBounds_toArray, List.set_cons_zero, List.set_cons_succ]
      refine take_op (i := 14) (v := ?vs14) rfl (by kernel_rfl) (by kernel_rfl) (by kernel_rfl) (fun _ _ _ h => h) rfl hHeld ?ys14 ?rs14
      case ys14 => (intro wz hz; go_simp; first | done | with_reducible rfl)
      try simp only [Act.put, List.setIfInBounds_toArray, List.set_cons_zero, List.set_cons_succ]
      rw [← hA, ← hB]
      clear hA hB
      refine take_op (i := 15) (v := ?vs15) rfl (by kernel_rfl) (by kernel_rfl) (by kernel_rfl) (fun _ _ _ h => h) rfl hHeld ?ys15 ?rs15
      case ys15 => (intro wz hz; go_simp; first | done | with_reducible rfl)
      try simp only [Act.put, List.setIfInBounds_toArray, List.set_cons_zero, List.set_cons_succ]
      refine take_op (i := 16) (v := ?vs16) rfl (by kernel_rfl) (by kernel_rfl) (by kernel_rfl) (fun _ _ _ h => h) rfl hHeld ?ys16 ?rs16
      case ys16 => (intro wz hz; go_simp; first | done | with_reducible rfl)
      try simp only [Act.put, List.setIfInBounds_toArray, List.set_cons_zero, List.set_cons_succ]
      refine take_op (i := 17) (v := ?vs17) rfl (by kernel_rfl) (by kernel_rfl) (by kernel_rfl) (fun _ _ _ h => h) rfl hHeld ?ys17 ?rs17
      case ys17 => (intro wz hz; go_simp; first | done | with_reducible rfl)
      try simp only [Act.put, List.setIfInBounds_toArray, List.set_cons_zero, List.set_cons_succ]
      refine wpAnyH_done (by kernel_rfl) ?_ _
      refine NoPanic.normal ?_
      have HW : Hid (Below w.heap.size w W) := (show Below w.heap.size w W from hHeld)
      have NX : Hid (0 ≤ left - (A + B) → ∀ j, j < k + 1 → (x j).1.length + (x j).2.length ≤ 100000) := (show 0 ≤ left - (A + B) → ∀ j, j < k + 1 → (x j).1.length + (x j).2.length ≤ 100000 from fun h j hj => by
        by_cases e : j = k
        · subst e
          have h1 := hA2.2.2 (by omega)
          have h2 := hB2.2.2 (by omega)
          omega
        · exact HAL.out hl0 j (by omega))
      clear hHeld
      go_wp2_with fail
      go_light
      exact ⟨⟨k + 1, left - (A + B), by omega, by omega, rfl, by go_num, by omega, by omega, NX.out, HW.out⟩, by simp [intOf]; omega⟩
    · by_cases q1 : k < n
      · have p1 : (k : Int) < (n : Int) := by omega
        by_cases q2 : k ≤ 100
        · have p2 : (k : Int) ≤ 100 := by omega
          have p3 : ¬ 0 ≤ left := by omega
          have p4 : left < 0 := by omega
          clear hbr hlt
          by_cases q3 : n > 100
          · have p5 : (n : Int) > 100 := by omega
            go_wp2
            go_ret
            exact ⟨⟨_, rfl, fun h => by cases h⟩, HBR.out⟩
          · have p5 : ¬ (n : Int) > 100 := by omega
            go_wp2
            go_ret
            exact ⟨⟨_, rfl, fun h => by cases h⟩, HBR.out⟩
        · have p2 : ¬ (k : Int) ≤ 100 := by omega
          have p5 : (n : Int) > 100 := by omega
          clear hbr hlt
          go_wp2
          go_ret
          exact ⟨⟨_, rfl, fun h => by cases h⟩, HBR.out⟩
      · obtain rfl : k = n := by omega
        have p1 : ¬ (k : Int) < (k : Int) := by omega
        clear hbr hlt
        by_cases q3 : k > 100
        · have p5 : (k : Int) > 100 := by omega
          go_wp2
          go_ret
          exact ⟨⟨_, rfl, fun h => by cases h⟩, HBR.out⟩
        · have p5 : ¬ (k : Int) > 100 := by omega
          by_cases q4 : left < 0
          · go_wp2
            go_ret
            exact ⟨⟨_, rfl, fun h => by cases h⟩, HBR.out⟩
          · have FI : Hid (k ≤ 100 ∧ ∀ i, i < k → (x i).1.length + (x i).2.length ≤ 100000) := (show _ ∧ _ from ⟨by omega, HAL.out (by omega)⟩)
            go_wp2
            go_ret
            exact ⟨⟨_, rfl, fun _ => FI.out⟩, HBR.out⟩
end Go.Proofs.YtkgegihkhdgdoaaDoor

/- the examples' pairs. -/
namespace Go.Proofs.YtkgegihkhdgdoaaDoor
set_option linter.unusedSimpArgs false
set_option linter.unusedVariables false
open Go.RowKit Go.Deep

def x3 (i : Nat) : Pr := ([98 + 2 * (i : Int)], [49 + (i : Int)])
theorem build_b1 (x : Int) (w : World) : (Instr.buildSlice 23 1 #[(0, .int .u8 x)]).run Tryd.prog w = .ok (.slice (some ⟨w.heap.size, 0, none⟩) 1 1) (w.alloc (.cells #[.int .u8 x] 5)) := by
  show (_ : Result Value) = _
  kernel_rfl
/-- a constant of one byte, as bytes. -/
theorem lit_one (w : World) (x : Int) (h0 : 0 ≤ x) (h1 : x ≤ 255) :
    ∃ w', (convert 23 23 (.slice (some ⟨w.heap.size, 0, none⟩) 1 1)).run Tryd.prog (w.alloc (.cells #[.int .u8 x] 5)) = .ok (.slice (some ⟨w.heap.size, 0, none⟩) 1 1) w' ∧ isBytes w' (.slice (some ⟨w.heap.size, 0, none⟩) 1 1) [x] ∧ Below w.heap.size w w' ∧ w'.heap.size = w.heap.size + 1 := by
  refine ⟨_, Go.Lib.run_convert_bytes_const w 23 5 #[.int .u8 x] 1 1 Tryd.underlying23 Tryd.underlying5, Or.inr ⟨w.heap.size, 0, 1, rfl, by simp, by unfold maxLen; simp, by simp, fun i hi => ?_, fun i => ?_⟩, (Below.refl _ _).alloc (Nat.le_refl _) _, by simp⟩
  · have hi0 : i = 0 := by simpa using hi
    subst hi0
    have h1 : (w.alloc (.cells #[.int .u8 x] 5 (1, 2))).heap[w.heap.size]? = some (.cells #[.int .u8 x] 5 (1, 2)) := blk_alloc_new _ _
    unfold World.cell?
    show (match (w.alloc (.cells #[.int .u8 x] 5 (1, 2))).heap[w.heap.size]? with | some (.cells cs _ _) => _ | _ => _) = _
    simp only [h1]
    rfl
  · match i with
    | 0 => exact ⟨h0, h1⟩
    | i + 1 => simp
set_option maxHeartbeats 4000000 in
set_option maxRecDepth 100000 in
theorem kthree_any (w : World) : Calls Tryd.prog 33 #[] w fun e w' => ∃ v, e = .returned v ∧ pairsAt w' v 3 x3 ∧ Below w.heap.size w w' := by
  obtain ⟨w1, h1, i1, b1, z1⟩ := lit_one w 98 (by omega) (by omega)
  obtain ⟨w2, h2, i2, b2, z2⟩ := lit_one w1 49 (by omega) (by omega)
  obtain ⟨w3, h3, i3, b3, z3⟩ := lit_one w2 100 (by omega) (by omega)
  obtain ⟨w4, h4, i4, b4, z4⟩ := lit_one w3 50 (by omega) (by omega)
  obtain ⟨w5, h5, i5, b5, z5⟩ := lit_one w4 102 (by omega) (by omega)
  obtain ⟨w6, h6, i6, b6, z6⟩ := lit_one w5 51 (by omega) (by omega)
  obtain ⟨w7, hw7⟩ : ∃ w7, w7 = w6.alloc (.cells #[.slice (some ⟨w.heap.size, 0, none⟩) 1 1, .slice (some ⟨w1.heap.size, 0, none⟩) 1 1, .slice (some ⟨w2.heap.size, 0, none⟩) 1 1, .slice (some ⟨w3.heap.size, 0, none⟩) 1 1, .slice (some ⟨w4.heap.size, 0, none⟩) 1 1, .slice (some ⟨w5.heap.size, 0, none⟩) 1 1] 38) := ⟨_, rfl⟩
  have b7 : Below w6.heap.size w6 w7 := by rw [hw7]; exact (Below.refl _ _).alloc (Nat.le_refl _) _
  have hb7 : w7.heap[w6.heap.size]? = some (.cells #[.slice (some ⟨w.heap.size, 0, none⟩) 1 1, .slice (some ⟨w1.heap.size, 0, none⟩) 1 1, .slice (some ⟨w2.heap.size, 0, none⟩) 1 1, .slice (some ⟨w3.heap.size, 0, none⟩) 1 1, .slice (some ⟨w4.heap.size, 0, none⟩) 1 1, .slice (some ⟨w5.heap.size, 0, none⟩) 1 1] 38) := by rw [hw7, blk_alloc_new]
  have b67 := b7
  have b57 := b6.trans (b67.mono (by omega))
  have b47 := b5.trans (b57.mono (by omega))
  have b37 := b4.trans (b47.mono (by omega))
  have b27 := b3.trans (b37.mono (by omega))
  have b17 := b2.trans (b27.mono (by omega))
  have b07 := b1.trans (b17.mono (by omega))
  have hlt : w6.heap.size < w7.heap.size := by rw [hw7]; simp
  have FIN : Hid (pairsAt w7 (.slice (some ⟨w6.heap.size, 0, none⟩) 3 3) 3 x3 ∧ Below w.heap.size w w7) := (show _ ∧ _ from by
    refine ⟨⟨_, 3, rfl, Nat.le_refl _, by decide, fun i hi => ?_⟩, b07⟩
    have : i = 0 ∨ i = 1 ∨ i = 2 := by omega
    rcases this with rfl | rfl | rfl
    · exact ⟨w6.heap.size, 0, .slice (some ⟨w.heap.size, 0, none⟩) 1 1, .slice (some ⟨w1.heap.size, 0, none⟩) 1 1, rfl, hlt, by rw [cell_of_row _ _ _ _ _ _ hb7]; rfl, by rw [cell_of_row _ _ _ _ _ _ hb7]; rfl, Or.inl (i1.below b17 (by omega)), Or.inl (i2.below b27 (by omega))⟩
    · exact ⟨w6.heap.size, 0, .slice (some ⟨w2.heap.size, 0, none⟩) 1 1, .slice (some ⟨w3.heap.size, 0, none⟩) 1 1, rfl, hlt, by rw [cell_of_row _ _ _ _ _ _ hb7]; rfl, by rw [cell_of_row _ _ _ _ _ _ hb7]; rfl, Or.inl (i3.below b37 (by omega)), Or.inl (i4.below b47 (by omega))⟩
    · exact ⟨w6.heap.size, 0, .slice (some ⟨w4.heap.size, 0, none⟩) 1 1, .slice (some ⟨w5.heap.size, 0, none⟩) 1 1, rfl, hlt, by rw [cell_of_row _ _ _ _ _ _ hb7]; rfl, by rw [cell_of_row _ _ _ _ _ _ hb7]; rfl, Or.inl (i5.below b57 (by omega)), Or.inl (i6.below b67 (by omega))⟩)
  clear i1 i2 i3 i4 i5 i6 b1 b2 b3 b4 b5 b6 b7 z1 z2 z3 z4 z5 z6 hb7 b67 b57 b47 b37 b27 b17 b07 hlt
  go_enter Tryd.func33, Tryd.ntmps33
  go_wp2_with (first | (refine wpList_convert_run rfl _ _ _ rfl rfl h1 ?_) | (refine wpList_convert_run rfl _ _ _ rfl rfl h2 ?_) | (refine wpList_convert_run rfl _ _ _ rfl rfl h3 ?_) | (refine wpList_convert_run rfl _ _ _ rfl rfl h4 ?_) | (refine wpList_convert_run rfl _ _ _ rfl rfl h5 ?_) | (refine wpList_convert_run rfl _ _ _ rfl rfl h6 ?_))
  rw [← hw7]
  go_ret
  exact ⟨_, rfl, FIN.out.1, FIN.out.2⟩
end Go.Proofs.YtkgegihkhdgdoaaDoor

/- the examples: the pure part. -/
namespace Go.Proofs.YtkgegihkhdgdoaaDoor
set_option linter.unusedSimpArgs false
set_option linter.unusedVariables false
open Go.RowKit Go.Deep

theorem x3_0 : x3 0 = ([98], [49]) := rfl
theorem x3_1 : x3 1 = ([100], [50]) := rfl
theorem x3_2 : x3 2 = ([102], [51]) := rfl
theorem x3_may : mayP x3 3 := fun i hi => by
  have : i = 0 ∨ i = 1 := by omega
  rcases this with rfl | rfl
  · rw [x3_0, x3_1]; decide
  · rw [x3_1, x3_2]; decide
theorem x3_d (p : Nat) (h : posAt x3 3 [100] p) : p = 1 ∧ shF x3 3 [100] p = 1 ∧ shM x3 3 [100] p = 1 ∧ (shY x3 3 [100] p 0).pr = ([100], [50]) ∧ (shY x3 3 [100] p 0).at_ = 1 := by
  obtain ⟨rfl, hA⟩ := pos_key x3_may h 1 (by omega) rfl
  rcases show_cases h with ⟨_, _, hf, hM⟩ | ⟨hA', _⟩
  · refine ⟨rfl, hf, hM, ?_, ?_⟩
    · show x3 (shF x3 3 [100] 1 + 0) = _
      rw [hf]; rfl
    · show ((shF x3 3 [100] 1 + 0 : Nat) : Int) = 1
      rw [hf]; rfl
  · rw [hA] at hA'; cases hA'
theorem x3_c (p : Nat) (h : posAt x3 3 [99] p) : p = 1 ∧ shM x3 3 [99] p = 2 := by
  obtain ⟨h1, h2, h3⟩ := h
  have e0 : ¬ p = 0 := fun e => by
    have := h3 0 (by omega) (by omega)
    rw [x3_0] at this; exact absurd this (by decide)
  have e1 : ¬ 2 ≤ p := fun e => by
    have := h2 1 (by omega)
    rw [x3_1] at this; exact absurd this (by decide)
  obtain rfl : p = 1 := by omega
  refine ⟨rfl, ?_⟩
  have hA : isAt x3 3 [99] 1 = false := by decide
  rcases show_cases ⟨h1, h2, h3⟩ with ⟨hA', _⟩ | ⟨_, ⟨hn, _⟩ | ⟨hp, _⟩ | ⟨_, _, _, hM⟩ | ⟨_, hn, _⟩⟩
  · rw [hA] at hA'; cases hA'
  · omega
  · omega
  · exact hM
  · omega
theorem x3_a (p : Nat) (h : posAt x3 3 [97] p) : p = 0 ∧ shM x3 3 [97] p = 1 ∧ (shY x3 3 [97] p 0).pr = ([98], [49]) ∧ (shY x3 3 [97] p 0).at_ = 0 := by
  obtain ⟨h1, h2, h3⟩ := h
  have e0 : ¬ 1 ≤ p := fun e => by
    have := h2 0 (by omega)
    rw [x3_0] at this; exact absurd this (by decide)
  obtain rfl : p = 0 := by omega
  have hA : isAt x3 3 [97] 0 = false := by decide
  rcases show_cases ⟨h1, h2, h3⟩ with ⟨hA', _⟩ | ⟨_, ⟨hn, _⟩ | ⟨_, _, hf, hM⟩ | ⟨hp, _⟩ | ⟨hp, _⟩⟩
  · rw [hA] at hA'; cases hA'
  · omega
  · refine ⟨rfl, hM, ?_, ?_⟩
    · show x3 (shF x3 3 [97] 0 + 0) = _
      rw [hf]; rfl
    · show ((shF x3 3 [97] 0 + 0 : Nat) : Int) = 0
      rw [hf]; rfl
  · omega
  · omega
/-- what is shown of d says nothing of c; of a, nothing of x. -/
theorem x3_dc (p : Nat) (h : posAt x3 3 [100] p) (root : List Int) : ¬ lookOk 3 (shM x3 3 [100] p) (shY x3 3 [100] p) [99] root := fun hk => by
  obtain ⟨_, _, hM, hY, hat⟩ := x3_d p h
  have := hk.2.1
  unfold saysB at this
  rw [hM, if_neg (by omega), if_pos rfl, hY, hat] at this
  exact absurd this (by decide)
theorem x3_ax (p : Nat) (h : posAt x3 3 [97] p) (root : List Int) : ¬ lookOk 3 (shM x3 3 [97] p) (shY x3 3 [97] p) [120] root := fun hk => by
  obtain ⟨_, hM, hY, hat⟩ := x3_a p h
  have := hk.2.1
  unfold saysB at this
  rw [hM, if_neg (by omega), if_pos rfl, hY, hat] at this
  exact absurd this (by decide)
end Go.Proofs.YtkgegihkhdgdoaaDoor

/- A region that draws its order, in two stages: until its first store (operation s) S holds; every read waits for none of the stores, every store waits for all reads. -/
namespace Go.Proofs.YtkgegihkhdgdoaaDoor
open Go.RowKit Go.Deep

section
variable {P : Program} {md : Region.Mode} {ops : Array Oper} {Q : Exit → Act → World → Prop} {J : Nat → World → Prop}
/-- whatever order is picked from here on; S holds behind every operation ahead of s. -/
def wpAnyT (P : Program) (md : Region.Mode) (ops : Array Oper) (Q : Exit → Act → World → Prop) (J : Nat → World → Prop) : Nat → Array Bool → Act → World → Prop
  | 0, listed, a, w => Region.ready md ops listed = [] ∧ Q .normal a w
  | fuel + 1, listed, a, w =>
    (Region.ready md ops listed = [] → Q .normal a w) ∧
    ∀ i ∈ Region.ready md ops listed, wpOp P ops Q i (fun a' w' => (∀ s, (listed.setIfInBounds i true).getD s true = false → J s w') ∧ wpAnyT P md ops Q J fuel (listed.setIfInBounds i true) a' w') a w
theorem wpAny_of_T : ∀ (fuel : Nat) (listed : Array Bool) (a : Act) (w : World), wpAnyT P md ops Q J fuel listed a w → wpAny P md ops Q fuel listed a w
  | 0, _, _, _, h => h
  | fuel + 1, _, _, _, h => ⟨h.1, fun i hi => wpOp_mono (fun a' w' h' => wpAny_of_T fuel _ a' w' h'.2) (h.2 i hi)⟩
theorem wpAnyT_first {i : Nat} {oi : Oper} {v : Value} (σ : List Nat) (hi : ops[i]? = some oi) (hsel : ∀ (j : Nat) (o : Oper) cs b, ops[j]? = some o → o.op ≠ .select cs b)
    (hQ : ∀ c a w, Q (.panic c) (a.put oi.dst v) w → Q (.panic c) a w) (hJi : ∀ w, J i w) (hwait : ∀ s ∈ σ, s ≠ i ∧ ∃ os, ops[s]? = some os ∧ ∃ e ∈ os.after, Region.binds md e = true ∧ e.on = i) :
    ∀ (fuel : Nat) (listed : Array Bool) (a : Act) (w : World),
      (∀ j oj, ops[j]? = some oj → j ≠ i → listed.getD j true = false → (∀ e ∈ oj.after, Region.binds md e = true → e.on ≠ i) → oi.apart ops oj = true) →
      i ∈ Region.ready md ops listed → YieldsIf P ops (fun w => ∀ s ∈ σ, J s w) oi v a → (∀ s, listed.getD s true = false → J s w) → (∀ s ∈ σ, listed.getD s true = false) →
      wpAnyT P md ops Q J fuel (listed.setIfInBounds i true) (a.put oi.dst v) w → wpAnyT P md ops Q J (fuel + 1) listed a w := by
  intro fuel
  induction fuel with
  | zero =>
    intro listed a w _ hr hy hS hs H
    refine ⟨fun h => (by rw [h] at hr; cases hr), fun j hj => ?_⟩
    by_cases hji : j = i
    · subst hji
      refine hy.wpOp hi (fun s h => hS s (hs s h)) ⟨fun s h => ?_, H⟩
      by_cases e : j = s
      · rw [← e]; exact hJi w
      · exact hS s (by rw [getD_set_ne true e] at h; exact h)
    · have := ready_mono hj hji
      rw [H.1] at this
      cases this
  | succ fuel ih =>
    intro listed a w hfree hr hy hS hs H
    refine ⟨fun h => (by rw [h] at hr; cases hr), fun j hj => ?_⟩
    by_cases hji : j = i
    · subst hji
      refine hy.wpOp hi (fun s h => hS s (hs s h)) ⟨fun s h => ?_, H⟩
      by_cases e : j = s
      · rw [← e]; exact hJi w
      · exact hS s (by rw [getD_set_ne true e] at h; exact h)
    · have h1 := H.2 j (ready_mono hj hji)
      obtain ⟨hjun, oj, hoj, hall⟩ := mem_ready.1 hj
      have hiun : listed.getD i true = false := (mem_ready.1 hr).1
      have hni : ∀ b, listed.getD i b = false := fun b => by
        rcases Nat.lt_or_ge i listed.size with h' | h'
        · simp [h'] at hiun ⊢; exact hiun
        · simp [Array.getElem?_eq_none h'] at hiun
      have hsj : ∀ s ∈ σ, s ≠ j := fun s hsσ e => by
        obtain ⟨_, os, hos, e2, he2, hb, hon⟩ := hwait s hsσ
        rw [e] at hos
        rw [hoj] at hos
        have := hall e2 (by rw [Option.some.inj hos]; exact he2) hb
        rw [hon, hni] at this
        cases this
      have hnot : ∀ e ∈ oj.after, Region.binds md e = true → e.on ≠ i := fun e he hb heq => by
        have h1 := hall e he hb
        rw [heq, hni] at h1
        cases h1
      have h2 := wpOp_putIf hoj (hfree j oj hoj hji hjun hnot) (fun cs b => hsel i oi cs b hi) (fun cs b => hsel j oj cs b hoj) hQ hy h1
      have hfree' : ∀ k ok, ops[k]? = some ok → k ≠ i → (listed.setIfInBounds j true).getD k true = false →
          (∀ e ∈ ok.after, Region.binds md e = true → e.on ≠ i) → oi.apart ops ok = true := fun k ok hk hki hun hno => by
        refine hfree k ok hk hki ?_ hno
        by_cases hjk : j = k
        · subst hjk; exact hjun
        · rw [getD_set_ne true hjk] at hun; exact hun
      have hsl : ∀ s ∈ σ, (listed.setIfInBounds j true).getD s true = false := fun s h => by rw [getD_set_ne true (Ne.symm (hsj s h))]; exact hs s h
      refine wpOp_mono (fun a' w' h3 => ?_) h2
      have hJ' : ∀ s, (listed.setIfInBounds j true).getD s true = false → J s w' := fun s h => by
        by_cases e : i = s
        · rw [← e]; exact hJi w'
        · exact h3.2.1 s (by
            by_cases e2 : j = s
            · subst e2
              rcases Nat.lt_or_ge j listed.size with h' | h'
              · simp [h'] at h
              · simp [Array.getElem?_eq_none h'] at hjun
            · rw [getD_set_ne true e2, getD_set_ne true e]
              rw [getD_set_ne true e2] at h; exact h)
      refine ⟨hJ', ih (listed.setIfInBounds j true) a' w' hfree' (ready_mono hr (Ne.symm hji)) h3.1 hJ' hsl ?_⟩
      rw [Array.setIfInBounds_comm _ _ hji]
      exact h3.2.2
/-- does s wait for i? -/
def waits (md : Region.Mode) (ops : Array Oper) (s i : Nat) : Bool := s != i && match ops[s]? with
  | some os => os.after.any fun e => Region.binds md e && e.on == i
  | none => false
theorem waits_is {s i : Nat} (h : waits md ops s i = true) : s ≠ i ∧ ∃ os, ops[s]? = some os ∧ ∃ e ∈ os.after, Region.binds md e = true ∧ e.on = i := by
  unfold waits at h
  rw [Bool.and_eq_true] at h
  refine ⟨by simpa using h.1, ?_⟩
  have h2 := h.2
  split at h2
  · rename_i os hos
    rw [← Array.any_toList, List.any_eq_true] at h2
    obtain ⟨e, he', hb⟩ := h2
    have he : e ∈ os.after := Array.mem_toList_iff.1 he'
    rw [Bool.and_eq_true] at hb
    exact ⟨os, hos, e, he, hb.1, by simpa using hb.2⟩
  · cases h2
theorem wp_region_T {id : Nat} {a : Act} {w : World} (J : Nat → World → Prop) (hm : P.follows .mixedOrders = true)
    (h : wpAnyT P .any ops Q J ops.size (Array.replicate ops.size false) a w.drew) : (Code.region id ops true).wp P Q a w := by
  exact wp_region_any hm (wpAny_of_T _ _ _ _ h)
end
section
variable {P : Program} {md : Region.Mode} {l : List Oper} {Q : Exit → Act → World → Prop} {J : Nat → World → Prop}
/-- all that J asks, of the stores that are still to come. -/
def heldJ (J : Nat → World → Prop) (listed : Array Bool) (w : World) : Prop := ∀ s, listed.getD s true = false → J s w
theorem take_opT {i : Nat} {oi : Oper} {v : Value} {fuel : Nat} {listed : Array Bool} {a : Act} {w : World} (s : Nat) (hi : l[i]? = some oi)
    (hs : Region.noSelect l.toArray = true) (hf : Region.free md l.toArray listed i = true) (hr : (Region.ready md l.toArray listed).contains i = true) (hwt : waits md l.toArray s i = true) (hsl : listed.getD s true = false) (hJi : ∀ w, J i w)
    (hQ : ∀ c a w, Q (.panic c) (a.put oi.dst v) w → Q (.panic c) a w) (hw : Region.wanted oi (yielded l.toArray a.tmps) = true) (hS : ∀ s, J s w) (hy : ∀ w, J s w → (execOp a.eval oi).run P w = .ok (.value v) w)
    (h : wpAnyT P md l.toArray Q J fuel (listed.setIfInBounds i true) (a.put oi.dst v) w) : wpAnyT P md l.toArray Q J (fuel + 1) listed a w :=
  wpAnyT_first [s] ((list_toArray_get l i).trans hi) (Region.noSelect_spec hs) hQ hJi (fun s' h => by rw [List.mem_singleton.1 h]; exact waits_is hwt) fuel listed a w (Region.free_spec ((list_toArray_get l i).trans hi) hf) (by simpa using hr) (Or.inl ⟨hw, fun w hw => hy w (hw s (List.mem_singleton.2 rfl))⟩) (fun s _ => hS s) (fun s' h => by rw [List.mem_singleton.1 h]; exact hsl) h
theorem take_loadT {i : Nat} {oi : Oper} {fuel : Nat} {listed : Array Bool} {a : Act} {w : World} (s : Nat) (hi : l[i]? = some oi)
    (hs : Region.noSelect l.toArray = true) (hf : Region.free md l.toArray listed i = true) (hr : (Region.ready md l.toArray listed).contains i = true) (hwt : waits md l.toArray s i = true) (hsl : listed.getD s true = false) (hJi : ∀ w, J i w)
    (ty : TypeId) (x : Operand) (ho : oi.op = .load ty x) (b o m : Nat) (g : Nat → Value) (hx : a.eval x = .pointer (some ⟨b, o, none⟩)) (d : TypeDesc) (hu : P.underlying ty = some d) (hd : d.isRow = true) (hn : (P.info? ty).map (·.size) = some m)
    (hQ : ∀ c a w, Q (.panic c) (a.put oi.dst (.agg (rowV m g))) w → Q (.panic c) a w) (hw : Region.wanted oi (yielded l.toArray a.tmps) = true) (hS : ∀ s, J s w)
    (hrow : ∀ w, J s w → ∀ i, i < m → w.cell? ⟨b, o + i, none⟩ = some (g i))
    (h : wpAnyT P md l.toArray Q J fuel (listed.setIfInBounds i true) (a.put oi.dst (.agg (rowV m g))) w) : wpAnyT P md l.toArray Q J (fuel + 1) listed a w := by
  refine wpAnyT_first [s] ((list_toArray_get l i).trans hi) (Region.noSelect_spec hs) hQ hJi (fun s' h => by rw [List.mem_singleton.1 h]; exact waits_is hwt) fuel listed a w (Region.free_spec ((list_toArray_get l i).trans hi) hf) (by simpa using hr) ?_ (fun s _ => hS s) (fun s' h => by rw [List.mem_singleton.1 h]; exact hsl) h
  have e : (rowV m g) = (rowV m g).toList.toArray := by rw [Array.toArray_toList]
  rw [e]
  exact yieldsIf_load_mid hw ty x ho b o hx (rowV m g).toList d (fun w hw => range_of_cells (hrow w (hw s (List.mem_singleton.2 rfl)))) hu hd (by rw [hn, Array.length_toList, rowV_size])
/-- an operation that may come up now: by its walk. -/
theorem wpOp_T {i : Nat} {oi : Oper} {fuel : Nat} {listed : Array Bool} {a : Act} {w : World} (hi : l[i]? = some oi) (hw : Region.wanted oi (yielded l.toArray a.tmps) = true)
    (h : ∀ K' : Act → World → Prop, Shut (∀ a w, heldJ J (listed.setIfInBounds i true) w → wpAnyT P md l.toArray Q J fuel (listed.setIfInBounds i true) a w → K' a w) → Oper.wp P oi a w K' Q) :
    wpOp P l.toArray Q i (fun a' w' => (∀ s, (listed.setIfInBounds i true).getD s true = false → J s w') ∧ wpAnyT P md l.toArray Q J fuel (listed.setIfInBounds i true) a' w') a w := by
  unfold wpOp
  rw [(list_toArray_get l i).trans hi]
  simp only
  rw [if_pos hw]
  exact Or.inl (h _ (fun a' w' hS hk => ⟨hS, hk⟩))
/-- the one operation that is left to come up. -/
theorem take_oneT {i : Nat} {oi : Oper} {fuel : Nat} {listed : Array Bool} {a : Act} {w : World} (hi : l[i]? = some oi) (hr : Region.ready md l.toArray listed = [i]) (hw : Region.wanted oi (yielded l.toArray a.tmps) = true)
    (h : ∀ K' : Act → World → Prop, Shut (∀ a w, heldJ J (listed.setIfInBounds i true) w → wpAnyT P md l.toArray Q J fuel (listed.setIfInBounds i true) a w → K' a w) → Oper.wp P oi a w K' Q) : wpAnyT P md l.toArray Q J (fuel + 1) listed a w := by
  refine ⟨fun h => (by rw [hr] at h; cases h), fun j hj => ?_⟩
  rw [hr] at hj
  obtain rfl := List.mem_singleton.1 hj
  exact wpOp_T hi hw h
theorem doneT {listed : Array Bool} {a : Act} {w : World} (hr : Region.ready md l.toArray listed = []) (h : Q .normal a w) : ∀ fuel, wpAnyT P md l.toArray Q J fuel listed a w
  | 0 => ⟨hr, h⟩
  | _ + 1 => ⟨fun _ => h, by rw [hr]; simp⟩
/-- two conditions: A until operation sa, B until operation sb. -/
def JJ (sa : Nat) (A : World → Prop) (sb : Nat) (B : World → Prop) (s : Nat) (w : World) : Prop := (s = sa → A w) ∧ (s = sb → B w)
theorem heldJ_all {sa sb : Nat} {A B : World → Prop} {listed : Array Bool} {w : World} (hA : A w) (hB : B w) : heldJ (JJ sa A sb B) listed w := fun _ _ => ⟨fun _ => hA, fun _ => hB⟩
theorem heldJ_none {sa sb : Nat} {A B : World → Prop} {listed : Array Bool} {w : World} (hs : listed.getD sa true = true) (hs2 : listed.getD sb true = true) : heldJ (JJ sa A sb B) listed w := fun s h => ⟨fun e => (by rw [e, hs] at h; cases h), fun e => (by rw [e, hs2] at h; cases h)⟩
theorem JJ_all {sa sb : Nat} {A B : World → Prop} {w : World} (hA : A w) (hB : B w) : ∀ s, JJ sa A sb B s w := fun _ => ⟨fun _ => hA, fun _ => hB⟩
theorem JJ_free {sa sb i : Nat} {A B : World → Prop} (h1 : (i != sa) = true) (h2 : (i != sb) = true) : ∀ w, JJ sa A sb B i w := fun _ => ⟨fun e => (by rw [e] at h1; simp at h1), fun e => (by rw [e] at h2; simp at h2)⟩
end
end Go.Proofs.YtkgegihkhdgdoaaDoor

/- helpers of Show. -/
namespace Go.Proofs.YtkgegihkhdgdoaaDoor
set_option linter.unusedSimpArgs false
set_option linter.unusedVariables false
open Go.RowKit Go.Deep

theorem newBytes.notrow {w : World} {B b n : Nat} {v : Value} {l : List Int} {t : TypeId} {f : Nat → Value} (h : newBytes w B v l) (hr : w.rowIs b t n f) (ht : t ≠ 5) : ∀ k, v.ownBlock = some k → k ≠ b := by
  obtain ⟨⟨_, h | ⟨g, cap, cur, rfl, hB, hbk, _⟩⟩, _⟩ := h
  · intro k hk; rw [h.1] at hk; cases hk
  · intro k hk e
    have : g = k := by simpa [Value.ownBlock] using hk
    subst this; subst e
    rw [rowIs_block hr] at hbk
    injection hbk with e1
    injection e1 with _ e2
    exact ht e2
theorem exec_build3' {P : Program} {o : Oper} {ev : Operand → Value} {w w' : World} {v : Value} (t : TypeId) (i j k : Nat) (x y z : Operand) (a b c : Value) (ho : o.op = .build t #[(i, x), (j, y), (k, z)]) (hx : ev x = a) (hy : ev y = b) (hz : ev z = c)
    (hr : (Instr.build t #[(i, a), (j, b), (k, c)]).run P w = .ok v w') : (execOp ev o).run P w = .ok (.value v) w' := by
  unfold execOp
  simp only [ho, List.map_toArray, List.map_cons, List.map_nil, hx, hy, hz, Sem.run_bind, hr, Result.andThen_ok, Sem.run_pure]
def frNone : Nat → Prop := fun _ => False
theorem frNone_below {w w' : World} (h : Fr frNone w w') : Below w.heap.size w w' := h.below (fun _ h => h.elim) (Nat.le_refl _)
theorem bkNone (w : World) (N : List Nt) (c : Int) : bkAt (.pointer none) w frNone N c := Or.inl ⟨rfl, fun _ h => h.elim⟩
end Go.Proofs.YtkgegihkhdgdoaaDoor

/- rows of spots of one's own, that may be written over. -/
namespace Go.Proofs.YtkgegihkhdgdoaaDoor
set_option linter.unusedSimpArgs false
set_option linter.unusedVariables false
open Go.RowKit Go.Deep

/-- sums that may be written over. -/
def softS (w : World) (u : Value) : Prop := ∀ pb o n c, u = .slice (some ⟨pb, o, none⟩) n c → w.there pb o (n * 32)
theorem there_later {w w' : World} {B b o n : Nat} (h : w.there b o n) (hb : Below B w w') (hB : w.heap.size ≤ B) : w'.there b o n := fun j hj => by
  obtain ⟨h1, h2⟩ := h j hj
  have hlt : b < w.heap.size := by
    cases hc : w.cell? ⟨b, o + j, none⟩ with
    | none => rw [hc] at h1; cases h1
    | some v => exact block_lt_of_cell (a := ⟨b, o + j, none⟩) hc
  have e := hb.block b (by omega)
  exact there_of_block (w' := w') h e j hj
theorem softE.later {w w' : World} {B : Nat} {u : Value} (h : softE w u) (hb : Below B w w') (hB : w.heap.size ≤ B) : softE w' u := fun pb o n c e => there_later (h pb o n c e) hb hB
theorem softS.later {w w' : World} {B : Nat} {u : Value} (h : softS w u) (hb : Below B w w') (hB : w.heap.size ≤ B) : softS w' u := fun pb o n c e => there_later (h pb o n c e) hb hB
theorem newSums.softS {w : World} {B : Nat} {v : Value} {L : List (List Int)} (h : newSums w B v L) : softS w v := fun pb o n c e => by
  obtain ⟨_, hl, h1 | ⟨g, cap, cur, rfl, hg, hbk, hc, hm, hcs, htk⟩⟩ := h
  · rw [h1.1] at e; cases e
  · have e' : (g = pb ∧ 0 = o) ∧ L.length = n ∧ cap = c := by simpa using e
    obtain ⟨⟨rfl, rfl⟩, rfl, rfl⟩ := e'
    intro j hj
    have hj' : 0 + j < cur.size := by
      have := hcs
      omega
    refine ⟨?_, ?_⟩
    · rw [cell_of_row _ _ _ _ _ _ hbk, Array.getElem?_eq_getElem hj']; rfl
    · simp [World.frozen?, hbk]
/-- one spot's cells hold it. -/
def spotIn2 (w : World) (u : Nat → Value) (s : Sp) : Prop := ∃ kc vc pc, u = spG s.at_ kc vc pc ∧ anyBytes w kc s.pr.1 ∧ anyBytes w vc s.pr.2 ∧ sumsAt w pc s.path ∧ inI64 s.at_ ∧ softE w kc ∧ softE w vc ∧ softS w pc
theorem spotIn2.below {w w' : World} {B : Nat} {u : Nat → Value} {s : Sp} (h : spotIn2 w u s) (hb : Below B w w') (hB : w.heap.size ≤ B) : spotIn2 w' u s := by
  obtain ⟨kc, vc, pc, e, h1, h2, h3, h4⟩ := h
  exact ⟨kc, vc, pc, e, h1.below hb hB, h2.below hb hB, h3.below hb hB, h4.1, softE.later h4.2.1 hb hB, softE.later h4.2.2.1 hb hB, softS.later h4.2.2.2 hb hB⟩
/-- .. and goes on to hold it, whatever becomes of v's own block. -/
def spotFar2 (w : World) (b : Nat) (v : Value) (u : Nat → Value) (s : Sp) : Prop := (∀ w', keeps w b v w' → spotIn2 w' u s) ∧ ∀ i, 1 ≤ i → i < 4 → ∀ k, (u i).ownBlock = some k → b < k ∧ k < w.heap.size ∧ ¬ v.ownBlock = some k
theorem spotFar2.now {w : World} {b : Nat} {v : Value} {u : Nat → Value} {s : Sp} (h : spotFar2 w b v u s) : spotIn2 w u s := h.1 w ⟨Nat.le_refl _, fun _ _ _ _ => rfl⟩
theorem spotFar2.below {w w' : World} {B b : Nat} {v : Value} {u : Nat → Value} {s : Sp} (h : spotFar2 w b v u s) (hb : Below B w w') (hB : w.heap.size ≤ B) : spotFar2 w' b v u s := ⟨fun z hz =>
  h.1 z ⟨Nat.le_trans hb.size hz.1, fun j hj hn hb' => (hz.2 j (Nat.lt_of_lt_of_le hj hb.size) hn hb').trans (hb.block j (by omega))⟩, fun i h1 h4 k hk => ⟨(h.2 i h1 h4 k hk).1, Nat.lt_of_lt_of_le (h.2 i h1 h4 k hk).2.1 hb.size, (h.2 i h1 h4 k hk).2.2⟩⟩
/-- v is a row of k spots, in a block of its own from B on. -/
def ownSpots2 (w : World) (B b : Nat) (v : Value) (k : Nat) (y : Nat → Sp) : Prop :=
  ∃ U : List (Nat → Value), U.length = k ∧ w.ownsRow B 41 4 v k (U.flatMap c4) ∧ ∀ i, i < k → ∃ u, U[i]? = some u ∧ spotFar2 w b v u (y i)
theorem ownSpots2.nil (w : World) (B b : Nat) (y : Nat → Sp) : ownSpots2 w B b (.slice none 0 0) 0 y := ⟨[], rfl, ⟨rfl, Or.inl ⟨rfl, rfl⟩⟩, fun i hi => by omega⟩
theorem ownSpots2.is {w : World} {B b : Nat} {v : Value} {k : Nat} {y : Nat → Sp} (h : ownSpots2 w B b v k y) : spotsAt w v k y := by
  obtain ⟨U, hU, ho, hy⟩ := h
  obtain ⟨a, c, rfl, hc, hm, hg⟩ := ownsRow_slice ho
  refine ⟨a, c, rfl, hc, hm, fun i hi => ?_⟩
  obtain ⟨g, rfl, hlt, _, hcell⟩ := hg (by omega)
  obtain ⟨u, hu, hf⟩ := hy i hi
  obtain ⟨kc, vc, pc, rfl, h1, h2, h3, h4⟩ := hf.now
  have hq := fun j hj => hcell _ _ (c4s_get U i j _ hu hj)
  refine ⟨g, 0, kc, vc, pc, rfl, hlt, ?_, ?_, ?_, ?_, h1, h2, h3, h4.1⟩
  · have := hq 0 (by omega); rw [Nat.zero_add]; exact this
  · have := hq 1 (by omega); rw [Nat.zero_add]; exact this
  · have := hq 2 (by omega); rw [Nat.zero_add]; exact this
  · have := hq 3 (by omega); rw [Nat.zero_add]; exact this
theorem ownSpots2.block {w : World} {B b : Nat} {v : Value} {k : Nat} {y : Nat → Sp} (h : ownSpots2 w B b v k y) (j : Nat) (hj : v.ownBlock = some j) : B ≤ j ∧ j < w.heap.size := by
  obtain ⟨U, _, ho, _⟩ := h
  exact ownsRow_block ho j hj
theorem ownSpots2.below {w w' : World} {B C b : Nat} {v : Value} {k : Nat} {y : Nat → Sp} (h : ownSpots2 w B b v k y) (hb : Below C w w') (hC : w.heap.size ≤ C) : ownSpots2 w' B b v k y := by
  obtain ⟨U, hU, ho, hy⟩ := h
  refine ⟨U, hU, ownsRow_far ho fun j hj => hb.block j (Nat.lt_of_lt_of_le (ownsRow_block ho j hj).2 hC), fun i hi => ?_⟩
  obtain ⟨u, hu, hs⟩ := hy i hi
  exact ⟨u, hu, hs.below hb hC⟩
/-- .. and where blocks up to b turn. -/
theorem ownSpots2.same {w w' : World} {B b : Nat} {v : Value} {k : Nat} {y : Nat → Sp} (h : ownSpots2 w B b v k y) (hbB : b < B) (hs : w.heap.size ≤ w'.heap.size) (hb : ∀ j, j < w.heap.size → b < j → w'.heap[j]? = w.heap[j]?) : ownSpots2 w' B b v k y := by
  obtain ⟨U, hU, ho, hy⟩ := h
  refine ⟨U, hU, ownsRow_far ho fun j hj => hb j (ownsRow_block ho j hj).2 (by have := (ownsRow_block ho j hj).1; omega), fun i hi => ?_⟩
  obtain ⟨u, hu, hf⟩ := hy i hi
  exact ⟨u, hu, fun z hz => hf.1 z ⟨Nat.le_trans hs hz.1, fun j hj hn hne => (hz.2 j (by omega) hn hne).trans (hb j hj hne)⟩, fun i h1 h4 k hk => ⟨(hf.2 i h1 h4 k hk).1, Nat.lt_of_lt_of_le (hf.2 i h1 h4 k hk).2.1 hs, (hf.2 i h1 h4 k hk).2.2⟩⟩
/-- append of one spot to spots of one's own. -/
theorem spots_append2 (w : World) (B b8 : Nat) (v : Value) (k : Nat) (y : Nat → Sp) (hv : ownSpots2 w B b8 v k y) (b : Nat) (u : Nat → Value) (hb : w.rowIs b 41 4 u) (hu : spotFar2 w b8 v u (y k)) (hn : k < 1000000) (hB : B ≤ w.heap.size) :
    ∃ v' w', (Builtin.append_ #[27, 27] 27 #[v, .slice (some ⟨b, 0, none⟩) 1 1]).run Tryd.prog w = .ok v' w' ∧ ownSpots2 w' B b8 v' (k + 1) y ∧ w.grownBy w' v.ownBlock ∧ (v'.ownBlock = v.ownBlock ∨ v'.ownBlock = some w.heap.size) := by
  obtain ⟨U, hU, ho, hy⟩ := hv
  have h4 : ∀ j, j < 4 → (u j).oneCell' = true := by
    obtain ⟨kc, vc, pc, rfl, h1, h2, h3, h4⟩ := hu.now
    obtain ⟨ka, kcap, rfl, _⟩ := h1.slice
    obtain ⟨va, vcap, rfl, _⟩ := h2.slice
    obtain ⟨_, pa, pcap, rfl, _⟩ := h3
    exact spG_one _ _ _ _ _ _ _ _ _ _
  obtain ⟨a', c', w', hr, ho', hg, hat⟩ := row_append (P := Tryd.prog) w 27 27 41 _ 4 80 Tryd.underlying27 infoSp (by simp [Value.cells, rowV_size]) (by omega)
    B v k _ ho (.slice (some ⟨b, 0, none⟩) 1 1) 1 (c4 u) rfl
    ⟨_, _, rfl, fun _ => ⟨b, 0, rfl, fun j x hj => by
      have hl : j < 4 := (List.getElem?_eq_some_iff.1 hj).1
      rw [c4_get _ _ hl] at hj
      rw [Nat.zero_add, ← Option.some.inj hj]; exact hb.cell hl⟩⟩
    (fun x hx => by
      obtain ⟨j, hj, rfl⟩ := List.mem_iff_getElem.1 hx
      have hl : j < 4 := hj
      have := c4_get u j hl
      rw [List.getElem?_eq_getElem hj] at this
      rw [Option.some.inj this]; exact h4 j hl) (by unfold maxLen; omega) (by omega) hB
  have hfar : ∀ (u' : Nat → Value) (s : Sp), spotFar2 w b8 v u' s → spotFar2 w' b8 (.slice a' (k + 1) c') u' s := fun u' s h => ⟨fun z hz => h.1 z ⟨Nat.le_trans hg.size hz.1, fun j hj hn hne => by
    have h1 := hg.block j hj (fun e => hn e.symm)
    refine (hz.2 j (Nat.lt_of_lt_of_le hj hg.size) (fun e => ?_) hne).trans h1
    rcases hat with h | h
    · rw [h] at e; exact hn e
    · rw [h] at e; have := Option.some.inj e; omega⟩, fun i h1 h4 k hk => ⟨(h.2 i h1 h4 k hk).1, Nat.lt_of_lt_of_le (h.2 i h1 h4 k hk).2.1 hg.size, fun e => by
    rcases hat with h' | h'
    · rw [h'] at e; exact (h.2 i h1 h4 k hk).2.2 e
    · rw [h'] at e; have := Option.some.inj e; have := (h.2 i h1 h4 k hk).2.1; omega⟩⟩
  refine ⟨_, w', hr, ⟨U ++ [u], by simp [hU], ?_, fun i hi => ?_⟩, hg, hat⟩
  · rw [List.flatMap_append, show [u].flatMap c4 = c4 u from List.append_nil _]; exact ho'
  · by_cases e : i < k
    · obtain ⟨u', hu', hf⟩ := hy i e
      exact ⟨u', by rw [List.getElem?_append_left (by omega)]; exact hu', hfar _ _ hf⟩
    · obtain rfl : i = k := by omega
      exact ⟨u, by rw [List.getElem?_append_right (by omega), hU, Nat.sub_self]; rfl, hfar _ _ hu⟩
end Go.Proofs.YtkgegihkhdgdoaaDoor

/- keyed.Show, without a book: what it shows may be written over. -/
namespace Go.Proofs.YtkgegihkhdgdoaaDoor
set_option linter.unusedSimpArgs false
set_option linter.unusedVariables false
open Go.RowKit Go.Deep

/-- what keyed.Show shows, and that it may be written over. -/
def show2Post (n : Nat) (x : Nat → Pr) (key : List Int) (w : World) (e : Ending) (w' : World) : Prop :=
  ((mayB x n = false ∧ e = .returned (.agg (rowV 2 (seG 0 (.slice none 0 0))))) ∨
    (mayB x n = true ∧ ∃ p sv, posAt x n key p ∧ e = .returned (.agg (rowV 2 (seG n sv))) ∧ ∃ B b, w.heap.size ≤ b ∧ ownSpots2 w' B b sv (shM x n key p) (shY x n key p))) ∧ Below w.heap.size w w'
/-- the loop of Show: box b8 holds what is shown so far. -/
def shL2 (w6 : World) (b8 : Nat) (n k : Nat) (y : Nat → Sp) (wr : World) : Prop := But w6.heap.size b8 w6 wr ∧ ∃ sv, wr.rowIs b8 29 2 (seG n sv) ∧ ownSpots2 wr w6.heap.size b8 sv k y
set_option maxHeartbeats 8000000 in
set_option maxRecDepth 100000 in
theorem show2_nil (n : Nat) (v tv : Value) (x : Nat → Pr) (key : List Int) (w : World) (hp : pairsAt w v n x) (hkey : anyBytes w tv key) (ht : tabIs w) (hn : n ≤ 1000) (hx : ∀ i, i < n → (x i).1.length + (x i).2.length ≤ 1000000) :
    Calls Tryd.prog 12 #[.pointer none, v, tv] w fun e w' => show2Post n x key w e w' := by
  have hzse := zero_se
  have hb0' := build_se0
  have hb1' := build_se1
  obtain ⟨a, cap, hv, hnc, hcm, _⟩ := (id hp : pairsAt w v n x)
  obtain ⟨w1, hw1⟩ : ∃ w1, w1 = w.alloc (.cells (rowV 2 (seG 0 (.slice none 0 0))) 29) := ⟨_, rfl⟩
  have b1 : Below w.heap.size w w1 := by rw [hw1]; exact (Below.refl _ _).alloc (Nat.le_refl _) _
  have z1 : w1.heap.size = w.heap.size + 1 := by rw [hw1]; simp
  have r1 : w1.rowIs w.heap.size 29 2 (seG 0 (.slice none 0 0)) := by rw [hw1]; exact rowIs_box _ _ _ _
  have XM := may_any n v x w1 (hp.below b1 (Nat.le_refl _))
  have HP : Hid (∀ wz, Below w.heap.size w wz → pairsAt wz v n x ∧ anyBytes wz tv key ∧ tabIs wz) := (show _ from fun wz hz => ⟨hp.below hz (Nat.le_refl _), hkey.below hz (Nat.le_refl _), ht.below hz ht.1⟩)
  have HQ : Hid (n ≤ 1000 ∧ (∀ i, i < n → (x i).1.length + (x i).2.length ≤ 1000000) ∧ Below w.heap.size w w1 ∧ w1.heap.size = w.heap.size + 1 ∧ w1.rowIs w.heap.size 29 2 (seG 0 (.slice none 0 0)) ∧ 1 < w.heap.size) := (show _ from ⟨hn, hx, b1, z1, r1, ht.1⟩)
  have hn0 : (0 : Int) ≤ (n : Int) := by omega
  have hn1 : (n : Int) ≤ 1000 := by omega
  obtain ⟨ta, tcap, rfl, _⟩ := hkey.slice
  subst hv
  clear hp hkey ht hn hx b1 z1 r1 hnc hcm
  go_enter Tryd.func12, Tryd.ntmps12
  go_upto_region 1 with fail
  rw [← hw1]
  clear hw1
  go_wp2_with fail
  refine XM.mono ?_
  rintro e w2 ⟨rfl, hb2⟩
  clear XM
  obtain ⟨hn, hx, b1, z1, r1, h00⟩ := HQ.out
  have r2 : w2.rowIs w.heap.size 29 2 (seG 0 (.slice none 0 0)) := hb2.row r1 (by omega)
  have b02 : Below w.heap.size w w2 := b1.trans (hb2.mono (by omega))
  have s2 := hb2.size
  cases hmb : mayB x n with
  | false =>
    have MB : Hid (mayB x n = false) := (show mayB x n = false from hmb)
    have B02 : Hid (Below w.heap.size w w2 ∧ w.heap.size < w2.heap.size) := (show _ ∧ _ from ⟨b02, by omega⟩)
    clear hmb HP HQ hb2 b02 b1 z1 r1 h00 s2 hx
    go_wp2_with (first | (refine wpList_store_row rfl 29 _ _ rfl rfl w.heap.size 0 2 (seG 0 (.slice none 0 0)) rfl rfl hiSe (seG_one _ _ _ _) _ _ _ r2 (by omega) ?_; intro w6 r7 hz6 hb6))
    exact bodyPost_ret (results_cell_seg rfl _ _ w.heap.size 29 2 (seG 0 (.slice none 0 0)) _ rfl Tryd.underlying29 rfl hiSe (r7.congr fun i hi => by rw [if_pos (by omega), Nat.sub_zero])) rfl (by
      exact ⟨Or.inl ⟨MB.out, rfl⟩, B02.out.1.trans (hb6.mono (by have := B02.out.2; omega) |>.below (by omega))⟩)
  | true =>
    have hmp := (mayB_is x n).1 hmb
    have MB : Hid (mayB x n = true) := (show mayB x n = true from hmb)
    have XLV := leaves_k frNone w2.heap.size (.pointer none) [] 0 n (.slice a n cap) x w2 (bkNone _ _ _) (fun _ h => h.elim) (Nat.le_refl _) (fun wz hz => ⟨(HP.out wz (b02.trans (hz.mono (by omega)))).1, (HP.out wz (b02.trans (hz.mono (by omega)))).2.2⟩) (by omega) hx (fun h => h.elim) (by simp) (by omega)
    have B02 : Hid (Below w.heap.size w w2 ∧ w.heap.size < w2.heap.size ∧ w2.rowIs w.heap.size 29 2 (seG 0 (.slice none 0 0))) := (show _ ∧ _ ∧ _ from ⟨b02, by omega, r2⟩)
    have HMP : Hid (mayP x n) := (show mayP x n from hmp)
    clear hmb hmp hb2 b02 b1 z1 r1 r2 s2 hx
    go_wp2_with fail
    refine XLV.mono ?_
    rintro e w3 ⟨s, rfl, hns, _, _, _, _, f23⟩
    have b23 := frNone_below f23
    obtain ⟨b02, s2, r2⟩ := B02.out
    have s3 := b23.size
    obtain ⟨w4, hw4⟩ : ∃ w4, w4 = w3.alloc (.cells (rowV 2 (seG 0 (.slice none 0 0))) 29) := ⟨_, rfl⟩
    have r4 : w4.rowIs w3.heap.size 29 2 (seG 0 (.slice none 0 0)) := by rw [hw4]; exact rowIs_box _ _ _ _
    have b4 : Below w3.heap.size w3 w4 := by rw [hw4]; exact (Below.refl _ _).alloc (Nat.le_refl _) _
    have z4 : w4.heap.size = w3.heap.size + 1 := by rw [hw4]; simp
    have hsl : ∃ sa sc, s = .slice sa (leavesTo x n).length sc := by
      obtain ⟨_, sa, sc, e, _⟩ := hns.is
      exact ⟨sa, sc, e⟩
    have hll := leavesTo_len x n
    rw [hll] at hsl
    obtain ⟨sa, sc, rfl⟩ := hsl
    clear XLV f23
    go_upto_region 5 with (first | (rw [← hw4]; clear hw4; refine wpList_store_row rfl 29 _ _ rfl rfl w3.heap.size 0 2 (seG n (.slice none 0 0)) rfl rfl hiSe (seG_one _ _ _ _) _ _ _ r4 (by omega) ?_; intro w5 r5 hz5 hb5))
    have b35 : Below w3.heap.size w3 w5 := b4.trans ((hb5.mono (by omega)).below (by omega))
    have b25 : Below w2.heap.size w2 w5 := b23.trans (b35.mono (by omega))
    have b05 : Below w.heap.size w w5 := b02.trans (b25.mono (by omega))
    have XA := around_any n (.slice a n cap) _ x key w5 (HP.out w5 b05).1 (HP.out w5 b05).2.1 HMP.out hn
    have r5' : w5.rowIs w3.heap.size 29 2 (seG n (.slice none 0 0)) := r5.congr fun i hi => by rw [if_pos (by omega), Nat.sub_zero]
    go_wp2_with fail
    refine XA.mono ?_
    rintro e w6 ⟨p, hpos, rfl, b56⟩
    clear XA
    rw [arF_shF]
    have s5 := b35.size
    have s6 := b56.size
    have b06 : Below w.heap.size w w6 := b05.trans (b56.mono (by omega))
    have r6 : w6.rowIs w3.heap.size 29 2 (seG n (.slice none 0 0)) := b56.row r5' (by omega)
    have hns6 : newSums w6 w2.heap.size (.slice sa n sc) (leavesTo x n) := (hns.below b35 (Nat.le_refl _)).below b56 (Nat.le_refl _)
    have hnsb := hns.block
    -- the loop's facts
    have FACT : Hid (∀ wr, But w6.heap.size w3.heap.size w6 wr → Below w.heap.size w wr ∧ pairsAt wr (.slice a n cap) n x ∧ tabIs wr ∧ newSums wr w2.heap.size (.slice sa n sc) (leavesTo x n) ∧ wr.rowIs w.heap.size 29 2 (seG 0 (.slice none 0 0))) := (show _ from fun wr hr => by
      have hb : Below w.heap.size w wr := b06.trans ((hr.mono (by omega)).below (by omega))
      refine ⟨hb, (HP.out wr hb).1, (HP.out wr hb).2.2, hns6.far (fun j hj => hr.block j (by have := hnsb j hj; omega) (by have := hnsb j hj; omega)), ?_⟩
      exact World.rowIs.of_block (b56.row (b25.row r2 (by omega)) (by omega)) (hr.block _ (by omega) (by omega)))
    obtain ⟨f, hf⟩ : ∃ f, f = shF x n key p := ⟨_, rfl⟩
    obtain ⟨la, hla⟩ : ∃ la, la = arL x n key p := ⟨_, rfl⟩
    obtain ⟨m, hm⟩ : ∃ m, m = shM x n key p := ⟨_, rfl⟩
    obtain ⟨y, hy⟩ : ∃ y, y = shY x n key p := ⟨_, rfl⟩
    have hml : ∀ k, k < m ↔ ((f + k : Nat) : Int) ≤ la := by rw [hm, hf, hla]; exact shM_lt x n key p
    have hlan : la < (n : Int) := by rw [hla]; exact (arL_lt x n key p).1
    have hyq : ∀ k, y k = ⟨((f + k : Nat) : Int), x (f + k), pathI (leavesTo x n) ((f + k : Nat) : Int)⟩ := by rw [hy, hf]; exact fun _ => rfl
    have DONE : Hid (∀ V sv, Below w.heap.size w V → (∃ B b, w.heap.size ≤ b ∧ ownSpots2 V B b sv m y) → show2Post n x key w (.returned (.agg (rowV 2 (seG n sv)))) V) := (show _ from fun V sv hV hs => ⟨Or.inr ⟨MB.out, p, sv, hpos, rfl, by rw [← hm, ← hy]; exact hs⟩, hV⟩)
    have S0 : Hid (shL2 w6 w3.heap.size n 0 y w6) := (show shL2 w6 w3.heap.size n 0 y w6 from ⟨But.refl _ _ _, _, r6, ownSpots2.nil _ _ _ _⟩)
    have HYQ : Hid ((∀ k, k < m ↔ ((f + k : Nat) : Int) ≤ la) ∧ la < (n : Int) ∧ ∀ k, y k = ⟨((f + k : Nat) : Int), x (f + k), pathI (leavesTo x n) ((f + k : Nat) : Int)⟩) := (show _ from ⟨hml, hlan, hyq⟩)
    have HSZ : Hid (w.heap.size < w2.heap.size ∧ w2.heap.size ≤ w3.heap.size ∧ w3.heap.size < w6.heap.size ∧ (∀ j, (Value.slice sa n sc).ownBlock = some j → w2.heap.size ≤ j ∧ j < w3.heap.size)) := (show _ from ⟨by omega, by omega, by omega, hnsb⟩)
    rw [← hf, ← hla]
    clear hf hla hm hy hml hlan hyq hpos MB r6 r5' r5 hz5 hb5 b35 b25 b05 b56 b06 b02 b23 b4 z4 s2 s3 s5 s6 r2 r4 hns hns6 hnsb hll B02 HMP
    go_wp2_with fail
    go_loopw [11] (fun i wr => ∃ k : Nat, k ≤ m ∧ i = .int .i64 ((f + k : Nat) : Int) ∧ shL2 w6 w3.heap.size n k y wr) (fun i _ => f + m - (intOf i).toNat)
    case atStart => exact ⟨0, by omega, rfl, S0.out⟩
    case round =>
      obtain ⟨k, hkm, rfl, hbut, sv, r8, hos⟩ := hrel
      clear S0
      obtain ⟨q, hq⟩ : ∃ q, q = f + k := ⟨_, rfl⟩
      have hyk := HYQ.out.2.2 k
      rw [← hq] at hyk ⊢
      have HQK : Hid (q = f + k) := (show q = f + k from hq)
      clear hq
      have p0 : (0 : Int) ≤ (q : Int) := by omega
      have hsl : ∃ oa oc, sv = .slice oa k oc := by
        obtain ⟨oa, oc, e, _⟩ := hos.is
        exact ⟨oa, oc, e⟩
      obtain ⟨oa, oc, rfl⟩ := hsl
      by_cases hlt : k < m
      · have p1 : (q : Int) ≤ la := by rw [HQK.out]; exact (HYQ.out.1 k).1 hlt
        have hqn : q < n := by have := HYQ.out.2.1; omega
        have p2 : (q : Int) < (n : Int) := by omega
        obtain ⟨g, o, cap', e, hg, _, _, hcell⟩ := (HP.out w (Below.refl _ _)).1.at (by omega)
        injection e with e1 e2 e3
        subst e1
        subst e3
        obtain ⟨ka, kcap, va, vcap, H⟩ := hcell q hqn
        have bwr := (FACT.out wr hbut).1
        have swr := bwr.size
        have FC : Hid (∀ wz, Below wr.heap.size wr wz → wz.cell? ⟨g, o + q * 2, none⟩ = some (.slice ka (x q).1.length kcap) ∧ wz.cell? ⟨g, o + q * 2 + 1, none⟩ = some (.slice va (x q).2.length vcap)) := (show _ from fun wz hz => by
          obtain ⟨q0, q1, _⟩ := H wz (bwr.trans (hz.mono swr))
          exact ⟨q0, q1⟩)
        have hxq := HQ.out.2.1 q hqn
        have CLK : Hid (∀ W, Below wr.heap.size wr W → Calls Tryd.prog 36 #[.slice ka (x q).1.length kcap] W fun e w' => ∃ u, e = .returned u ∧ newBytes w' W.heap.size u (x q).1 ∧ Below W.heap.size W w') := (show _ from fun W hW => clone_x _ _ W (H W (bwr.trans (hW.mono swr))).2.2.1 (by omega))
        have CLV : Hid (∀ W, Below wr.heap.size wr W → Calls Tryd.prog 36 #[.slice va (x q).2.length vcap] W fun e w' => ∃ u, e = .returned u ∧ newBytes w' W.heap.size u (x q).2 ∧ Below W.heap.size W w') := (show _ from fun W hW => clone_x _ _ W (H W (bwr.trans (hW.mono swr))).2.2.2 (by omega))
        have HB : Hid (But w6.heap.size w3.heap.size w6 wr) := (show But w6.heap.size w3.heap.size w6 wr from hbut)
        have HR8 : Hid (wr.rowIs w3.heap.size 29 2 (seG n (.slice oa k oc))) := (show wr.rowIs w3.heap.size 29 2 (seG n (.slice oa k oc)) from r8)
        have HOS : Hid (ownSpots2 wr w6.heap.size w3.heap.size (.slice oa k oc) k y) := (show ownSpots2 wr w6.heap.size w3.heap.size (.slice oa k oc) k y from hos)
        clear hcell H bwr swr hxq hbut r8 hos
        go_upto_region 9 with fail
        go_cut [12] from 35 to 47 (fun p12 wx => ∃ (b9 : Nat) (ua : Option Addr) (uc : Nat) (va2 : Option Addr) (vc2 : Nat), p12 = .pointer (some ⟨b9, 0, none⟩) ∧ Below wr.heap.size wr wx ∧ wx.rowIs b9 38 2 (prG (.slice ua (x q).1.length uc) (.slice va2 (x q).2.length vc2)) ∧ wr.heap.size ≤ b9 ∧ newBytes wx wr.heap.size (.slice ua (x q).1.length uc) (x q).1 ∧ newBytes wx wr.heap.size (.slice va2 (x q).2.length vc2) (x q).2)
        case first =>
          have BD : Below wr.heap.size wr wr.drew := (Below.refl _ _).drew
          have H : pst wr (x q).1 (x q).2 wr.drew none none none := ⟨BD, (fun u h => by cases h), (fun u h => by cases h), fun b h => by cases h⟩
          refine wp_region_noPanic ?_
          refine wp_region_held_drew (S := fun w' => Below wr.heap.size wr w') (by kernel_rfl) BD (fun hHeld => ?_)
          clear BD
          generalize wr.drew = W at hHeld H ⊢
          refine take_op (i := 0) (v := ?va0) rfl (by kernel_rfl) (by kernel_rfl) (by kernel_rfl) (fun _ _ _ h => h) rfl hHeld ?ya0 ?ra0
          case ya0 => (intro wz hz; go_simp; first | done | with_reducible rfl)
          try simp only [Act.put, List.setIfInBounds_toArray, List.set_cons_zero, List.set_cons_succ]
          refine take_op (i := 1) (v := ?va1) rfl (by kernel_rfl) (by kernel_rfl) (by kernel_rfl) (fun _ _ _ h => h) rfl hHeld ?ya1 ?ra1
          case ya1 => (intro wz hz; go_simp; first | done | with_reducible rfl)
          try simp only [Act.put, List.setIfInBounds_toArray, List.set_cons_zero, List.set_cons_succ]
          refine take_op (i := 2) (v := ?va2) rfl (by kernel_rfl) (by kernel_rfl) (by kernel_rfl) (fun _ _ _ h => h) rfl hHeld ?ya2 ?ra2
          case ya2 => (intro wz hz; go_simp; first | done | with_reducible rfl)
          try simp only [Act.put, List.setIfInBounds_toArray, List.set_cons_zero, List.set_cons_succ]
          refine take_op (i := 3) (v := ?va3) rfl (by kernel_rfl) (by kernel_rfl) (by kernel_rfl) (fun _ _ _ h => h) rfl hHeld ?ya3 ?ra3
          case ya3 => (intro wz hz; go_simp; first | done | with_reducible rfl)
          try simp only [Act.put, List.setIfInBounds_toArray, List.set_cons_zero, List.set_cons_succ]
          refine take_op (i := 4) (v := ?va4) rfl (by kernel_rfl) (by kernel_rfl) (by kernel_rfl) (fun _ _ _ h => h) rfl hHeld ?ya4 ?ra4
          case ya4 => (intro wz hz; have hcz := (FC.out wz hz).1; go_simp; first | done | with_reducible rfl)
          try simp only [Act.put, List.setIfInBounds_toArray, List.set_cons_zero, List.set_cons_succ]
          refine take_op (i := 6) (v := ?va6) rfl (by kernel_rfl) (by kernel_rfl) (by kernel_rfl) (fun _ _ _ h => h) rfl hHeld ?ya6 ?ra6
          case ya6 => (intro wz hz; go_simp; first | done | with_reducible rfl)
          try simp only [Act.put, List.setIfInBounds_toArray, List.set_cons_zero, List.set_cons_succ]
          refine take_op (i := 7) (v := ?va7) rfl (by kernel_rfl) (by kernel_rfl) (by kernel_rfl) (fun _ _ _ h => h) rfl hHeld ?ya7 ?ra7
          case ya7 => (intro wz hz; go_simp; first | done | with_reducible rfl)
          try simp only [Act.put, List.setIfInBounds_toArray, List.set_cons_zero, List.set_cons_succ]
          refine take_op (i := 8) (v := ?va8) rfl (by kernel_rfl) (by kernel_rfl) (by kernel_rfl) (fun _ _ _ h => h) rfl hHeld ?ya8 ?ra8
          case ya8 => (intro wz hz; go_simp; first | done | with_reducible rfl)
          try simp only [Act.put, List.setIfInBounds_toArray, List.set_cons_zero, List.set_cons_succ]
          refine take_op (i := 9) (v := ?va9) rfl (by kernel_rfl) (by kernel_rfl) (by kernel_rfl) (fun _ _ _ h => h) rfl hHeld ?ya9 ?ra9
          case ya9 => (intro wz hz; go_simp; first | done | with_reducible rfl)
          try simp only [Act.put, List.setIfInBounds_toArray, List.set_cons_zero, List.set_cons_succ]
          refine take_op (i := 10) (v := ?va10) rfl (by kernel_rfl) (by kernel_rfl) (by kernel_rfl) (fun _ _ _ h => h) rfl hHeld ?ya10 ?ra10
          case ya10 => (intro wz hz; have hcz := (FC.out wz hz).2; go_simp; first | done | with_reducible rfl)
          try simp only [Act.put, List.setIfInBounds_toArray, List.set_cons_zero, List.set_cons_succ]
          refine regionKK (fun G hG => ?_)
          refine actKK (p := fun a => G 5 _ a W) (fun a0 ha0 => ?_)
          refine listKK (p := fun l => G 5 l a0 W) (fun l0 hl0 => ?_)
          have HG : Hid _ := hG
          have HA0 : Hid _ := ha0
          have HL0 : Hid _ := hl0
          clear hG ha0 hl0 hHeld
          have ST111 : Hid (∀ (ua : Option Addr) (uc : Nat), ∀ (va2 : Option Addr) (vc2 : Nat), ∀ (b9 : Nat), ∀ W : World, pst wr (x q).1 (x q).2 W (some (.slice ua (x q).1.length uc)) (some (.slice va2 (x q).2.length vc2)) (some b9) → G 1 ((((l0.setIfInBounds 5 true).setIfInBounds 11 true).setIfInBounds 13 true).setIfInBounds 12 true) ((((a0.put (some 40) (.slice ua (x q).1.length uc)).put (some 46) (.slice va2 (x q).2.length vc2)).put (some 12) (.pointer (some ⟨b9, 0, none⟩))).put (some 47) (.agg (rowV 2 (prG (.slice ua (x q).1.length uc) (.slice va2 (x q).2.length vc2))))) W) := (show ∀ (ua : Option Addr) (uc : Nat), ∀ (va2 : Option Addr) (vc2 : Nat), ∀ (b9 : Nat), ∀ W : World, pst wr (x q).1 (x q).2 W (some (.slice ua (x q).1.length uc)) (some (.slice va2 (x q).2.length vc2)) (some b9) → G 1 ((((l0.setIfInBounds 5 true).setIfInBounds 11 true).setIfInBounds 13 true).setIfInBounds 12 true) ((((a0.put (some 40) (.slice ua (x q).1.length uc)).put (some 46) (.slice va2 (x q).2.length vc2)).put (some 12) (.pointer (some ⟨b9, 0, none⟩))).put (some 47) (.agg (rowV 2 (prG (.slice ua (x q).1.length uc) (.slice va2 (x q).2.length vc2))))) W from by
            intro ua uc va2 vc2 b9 W H
            rw [HA0.out, HL0.out, HG.out]
            try simp only [Act.put, List.setIfInBounds_toArray, List.set_cons_zero, List.set_cons_succ]
            obtain ⟨V, e1, r1, z1, c1⟩ := pr_store W b9 (prG (.slice ua (x q).1.length uc) (.slice va2 (x q).2.length vc2)) (H.2.2.2 b9 rfl).2 (prG_one _ _ _ _ _ _)
            have hb9 := (H.2.2.2 b9 rfl).1
            have bV : Below wr.heap.size wr V := H.1.trans ((c1.mono H.1.size).below (by omega))
            have n1 : newBytes V wr.heap.size (.slice ua (x q).1.length uc) (x q).1 := (H.2.1 _ rfl).apart (fun j hj => c1.block j ((H.2.1 _ rfl).block j hj).2 ((H.2.1 _ rfl).notrow (H.2.2.2 b9 rfl).2 (by decide) j hj))
            have n2 : newBytes V wr.heap.size (.slice va2 (x q).2.length vc2) (x q).2 := (H.2.2.1 _ rfl).apart (fun j hj => c1.block j ((H.2.2.1 _ rfl).block j hj).2 ((H.2.2.1 _ rfl).notrow (H.2.2.2 b9 rfl).2 (by decide) j hj))
            refine take_one (i := 14) rfl (by kernel_rfl) rfl (fun K hK => ?_)
            unfold Oper.wp execOp
            simp only [Instr.storeAt, Instr.sureAddr, Sem.run_bind, Sem.run_pure, Result.andThen_ok]
            simp [Act.eval, e1, Oper.upon]
            refine hK.out _ _ bV (fun hHeld => ?_)
            clear hK K
            try simp only [Act.put, List.setIfInBounds_toArray, List.set_cons_zero, List.set_cons_succ]
            refine wpAnyH_done (by kernel_rfl) ?_ _
            refine NoPanic.normal ?_
            clear e1 H hHeld c1 z1
            go_wp2_with fail
            go_meet
            case rel => exact ⟨b9, _, _, _, _, rfl, bV, r1, hb9, n1, n2⟩)
          have ST110 : Hid (∀ (ua : Option Addr) (uc : Nat), ∀ (va2 : Option Addr) (vc2 : Nat), ∀ W : World, pst wr (x q).1 (x q).2 W (some (.slice ua (x q).1.length uc)) (some (.slice va2 (x q).2.length vc2)) none → G 2 (((l0.setIfInBounds 5 true).setIfInBounds 11 true).setIfInBounds 12 true) (((a0.put (some 40) (.slice ua (x q).1.length uc)).put (some 46) (.slice va2 (x q).2.length vc2)).put (some 47) (.agg (rowV 2 (prG (.slice ua (x q).1.length uc) (.slice va2 (x q).2.length vc2))))) W) := (show ∀ (ua : Option Addr) (uc : Nat), ∀ (va2 : Option Addr) (vc2 : Nat), ∀ W : World, pst wr (x q).1 (x q).2 W (some (.slice ua (x q).1.length uc)) (some (.slice va2 (x q).2.length vc2)) none → G 2 (((l0.setIfInBounds 5 true).setIfInBounds 11 true).setIfInBounds 12 true) (((a0.put (some 40) (.slice ua (x q).1.length uc)).put (some 46) (.slice va2 (x q).2.length vc2)).put (some 47) (.agg (rowV 2 (prG (.slice ua (x q).1.length uc) (.slice va2 (x q).2.length vc2))))) W from by
            intro ua uc va2 vc2 W H
            rw [HA0.out, HL0.out, HG.out]
            try simp only [Act.put, List.setIfInBounds_toArray, List.set_cons_zero, List.set_cons_succ]
            refine take_one (i := 13) rfl (by kernel_rfl) rfl (fun K hK => ?_)
            refine wp_of_run (exec_allocPr rfl) ?_
            have H2 := H.box
            refine hK.out _ _ H2.1 (fun hHeld => ?_)
            try simp only [Act.put, List.setIfInBounds_toArray, List.set_cons_zero, List.set_cons_succ]
            have T := ST111.out ua uc va2 vc2 W.heap.size (W.alloc (.cells (rowV 2 prZ) 38)) H2
            rw [HA0.out, HL0.out, HG.out] at T
            try simp only [Act.put, List.setIfInBounds_toArray, List.set_cons_zero, List.set_cons_succ] at T
            exact lcongK (by kernel_rfl) T)
          have ST101 : Hid (∀ (ua : Option Addr) (uc : Nat), ∀ (b9 : Nat), ∀ W : World, pst wr (x q).1 (x q).2 W (some (.slice ua (x q).1.length uc)) none (some b9) → G 3 ((l0.setIfInBounds 5 true).setIfInBounds 13 true) ((a0.put (some 40) (.slice ua (x q).1.length uc)).put (some 12) (.pointer (some ⟨b9, 0, none⟩))) W) := (show ∀ (ua : Option Addr) (uc : Nat), ∀ (b9 : Nat), ∀ W : World, pst wr (x q).1 (x q).2 W (some (.slice ua (x q).1.length uc)) none (some b9) → G 3 ((l0.setIfInBounds 5 true).setIfInBounds 13 true) ((a0.put (some 40) (.slice ua (x q).1.length uc)).put (some 12) (.pointer (some ⟨b9, 0, none⟩))) W from by
            intro ua uc b9 W H
            rw [HA0.out, HL0.out, HG.out]
            try simp only [Act.put, List.setIfInBounds_toArray, List.set_cons_zero, List.set_cons_succ]
            refine take_one (i := 11) rfl (by kernel_rfl) rfl (fun K hK => ?_)
            go_simp
            refine Calls.mono (CLV.out W H.1) ?_
            rintro e W2 ⟨u, rfl, hn, hb⟩
            obtain ⟨va2, vc2, rfl⟩ := hn.slen
            have H2 := H.val hb hn
            refine hK.out _ _ H2.1 (fun hHeld => ?_)
            try simp only [Act.put, List.setIfInBounds_toArray, List.set_cons_zero, List.set_cons_succ]
            refine take_op (i := 12) (v := .agg (rowV 2 (prG (.slice ua (x q).1.length uc) (.slice va2 (x q).2.length vc2)))) rfl (by kernel_rfl) (by kernel_rfl) (by kernel_rfl) (fun _ _ _ h => h) rfl hHeld (fun wz hz => exec_build2 38 0 1 (.tmp 40) (.tmp 46) (.slice ua (x q).1.length uc) (.slice va2 (x q).2.length vc2) rfl rfl rfl (build_pr ua va2 (x q).1.length uc (x q).2.length vc2 wz)) ?_
            try simp only [Act.put, List.setIfInBounds_toArray, List.set_cons_zero, List.set_cons_succ]
            have T := ST111.out ua uc va2 vc2 b9 W2 H2
            rw [HA0.out, HL0.out, HG.out] at T
            try simp only [Act.put, List.setIfInBounds_toArray, List.set_cons_zero, List.set_cons_succ] at T
            exact lcongK (by kernel_rfl) T)
          have ST100 : Hid (∀ (ua : Option Addr) (uc : Nat), ∀ W : World, pst wr (x q).1 (x q).2 W (some (.slice ua (x q).1.length uc)) none none → G 4 (l0.setIfInBounds 5 true) (a0.put (some 40) (.slice ua (x q).1.length uc)) W) := (show ∀ (ua : Option Addr) (uc : Nat), ∀ W : World, pst wr (x q).1 (x q).2 W (some (.slice ua (x q).1.length uc)) none none → G 4 (l0.setIfInBounds 5 true) (a0.put (some 40) (.slice ua (x q).1.length uc)) W from by
            intro ua uc W H
            rw [HA0.out, HL0.out, HG.out]
            try simp only [Act.put, List.setIfInBounds_toArray, List.set_cons_zero, List.set_cons_succ]
            refine take_pair (i := 11) (j := 13) rfl rfl (by kernel_rfl) rfl rfl (fun K hK => ?_) (fun K hK => ?_)
            · go_simp
              refine Calls.mono (CLV.out W H.1) ?_
              rintro e W2 ⟨u, rfl, hn, hb⟩
              obtain ⟨va2, vc2, rfl⟩ := hn.slen
              have H2 := H.val hb hn
              refine hK.out _ _ H2.1 (fun hHeld => ?_)
              try simp only [Act.put, List.setIfInBounds_toArray, List.set_cons_zero, List.set_cons_succ]
              refine take_op (i := 12) (v := .agg (rowV 2 (prG (.slice ua (x q).1.length uc) (.slice va2 (x q).2.length vc2)))) rfl (by kernel_rfl) (by kernel_rfl) (by kernel_rfl) (fun _ _ _ h => h) rfl hHeld (fun wz hz => exec_build2 38 0 1 (.tmp 40) (.tmp 46) (.slice ua (x q).1.length uc) (.slice va2 (x q).2.length vc2) rfl rfl rfl (build_pr ua va2 (x q).1.length uc (x q).2.length vc2 wz)) ?_
              try simp only [Act.put, List.setIfInBounds_toArray, List.set_cons_zero, List.set_cons_succ]
              have T := ST110.out ua uc va2 vc2 W2 H2
              rw [HA0.out, HL0.out, HG.out] at T
              try simp only [Act.put, List.setIfInBounds_toArray, List.set_cons_zero, List.set_cons_succ] at T
              exact lcongK (by kernel_rfl) T
            · refine wp_of_run (exec_allocPr rfl) ?_
              have H2 := H.box
              refine hK.out _ _ H2.1 (fun hHeld => ?_)
              try simp only [Act.put, List.setIfInBounds_toArray, List.set_cons_zero, List.set_cons_succ]
              have T := ST101.out ua uc W.heap.size (W.alloc (.cells (rowV 2 prZ) 38)) H2
              rw [HA0.out, HL0.out, HG.out] at T
              try simp only [Act.put, List.setIfInBounds_toArray, List.set_cons_zero, List.set_cons_succ] at T
              exact lcongK (by kernel_rfl) T)
          have ST001 : Hid (∀ (b9 : Nat), ∀ W : World, pst wr (x q).1 (x q).2 W none none (some b9) → G 4 (l0.setIfInBounds 13 true) (a0.put (some 12) (.pointer (some ⟨b9, 0, none⟩))) W) := (show ∀ (b9 : Nat), ∀ W : World, pst wr (x q).1 (x q).2 W none none (some b9) → G 4 (l0.setIfInBounds 13 true) (a0.put (some 12) (.pointer (some ⟨b9, 0, none⟩))) W from by
            intro b9 W H
            rw [HA0.out, HL0.out, HG.out]
            try simp only [Act.put, List.setIfInBounds_toArray, List.set_cons_zero, List.set_cons_succ]
            refine take_one (i := 5) rfl (by kernel_rfl) rfl (fun K hK => ?_)
            go_simp
            refine Calls.mono (CLK.out W H.1) ?_
            rintro e W2 ⟨u, rfl, hn, hb⟩
            obtain ⟨ua, uc, rfl⟩ := hn.slen
            have H2 := H.key hb hn
            refine hK.out _ _ H2.1 (fun hHeld => ?_)
            try simp only [Act.put, List.setIfInBounds_toArray, List.set_cons_zero, List.set_cons_succ]
            have T := ST101.out ua uc b9 W2 H2
            rw [HA0.out, HL0.out, HG.out] at T
            try simp only [Act.put, List.setIfInBounds_toArray, List.set_cons_zero, List.set_cons_succ] at T
            exact lcongK (by kernel_rfl) T)
          have ST000 : Hid (∀ W : World, pst wr (x q).1 (x q).2 W none none none → G 5 l0 a0 W) := (show ∀ W : World, pst wr (x q).1 (x q).2 W none none none → G 5 l0 a0 W from by
            intro W H
            rw [HA0.out, HL0.out, HG.out]
            try simp only [Act.put, List.setIfInBounds_toArray, List.set_cons_zero, List.set_cons_succ]
            refine take_pair (i := 5) (j := 13) rfl rfl (by kernel_rfl) rfl rfl (fun K hK => ?_) (fun K hK => ?_)
            · go_simp
              refine Calls.mono (CLK.out W H.1) ?_
              rintro e W2 ⟨u, rfl, hn, hb⟩
              obtain ⟨ua, uc, rfl⟩ := hn.slen
              have H2 := H.key hb hn
              refine hK.out _ _ H2.1 (fun hHeld => ?_)
              try simp only [Act.put, List.setIfInBounds_toArray, List.set_cons_zero, List.set_cons_succ]
              have T := ST100.out ua uc W2 H2
              rw [HA0.out, HL0.out, HG.out] at T
              try simp only [Act.put, List.setIfInBounds_toArray, List.set_cons_zero, List.set_cons_succ] at T
              exact lcongK (by kernel_rfl) T
            · refine wp_of_run (exec_allocPr rfl) ?_
              have H2 := H.box
              refine hK.out _ _ H2.1 (fun hHeld => ?_)
              try simp only [Act.put, List.setIfInBounds_toArray, List.set_cons_zero, List.set_cons_succ]
              have T := ST001.out W.heap.size (W.alloc (.cells (rowV 2 prZ) 38)) H2
              rw [HA0.out, HL0.out, HG.out] at T
              try simp only [Act.put, List.setIfInBounds_toArray, List.set_cons_zero, List.set_cons_succ] at T
              exact lcongK (by kernel_rfl) T)
          exact ST000.out W H
        case rest =>
          obtain ⟨b9, ua, uc, va2, vc2, rfl, bV, r9, hb9, n1, n2⟩ := hcut
          rename World => V
          have hbut := HB.out
          have r8 := HR8.out
          have hos := HOS.out
          obtain ⟨z02, z23, z36, hsb⟩ := HSZ.out
          have sbut := hbut.size
          have sV := bV.size
          have r8V : V.rowIs w3.heap.size 29 2 (seG n (.slice oa k oc)) := bV.row r8 (by omega)
          have l9 : ∀ j, j < 2 → V.cell? ⟨b9, 0 + j, none⟩ = some ((prG (.slice ua (x q).1.length uc) (.slice va2 (x q).2.length vc2)) j) := fun j hj => by rw [Nat.zero_add]; exact r9.cell hj
          have c8 : V.cell? ⟨w3.heap.size, 1, none⟩ = some (.slice oa k oc) := r8V.cell (i := 1) (by omega)
          have HJ : Hid (∀ s, (JJ 12 (fun w' => w'.cell? ⟨w3.heap.size, 1, none⟩ = some (.slice oa k oc) ∧ ∀ j, j < 2 → w'.cell? ⟨b9, 0 + j, none⟩ = some (prG (.slice ua (x q).1.length uc) (.slice va2 (x q).2.length vc2) j)) 12 (fun w' => w'.cell? ⟨w3.heap.size, 1, none⟩ = some (.slice oa k oc) ∧ ∀ j, j < 2 → w'.cell? ⟨b9, 0 + j, none⟩ = some (prG (.slice ua (x q).1.length uc) (.slice va2 (x q).2.length vc2) j))) s V.drew) := (show ∀ s, (JJ 12 (fun w' => w'.cell? ⟨w3.heap.size, 1, none⟩ = some (.slice oa k oc) ∧ ∀ j, j < 2 → w'.cell? ⟨b9, 0 + j, none⟩ = some (prG (.slice ua (x q).1.length uc) (.slice va2 (x q).2.length vc2) j)) 12 (fun w' => w'.cell? ⟨w3.heap.size, 1, none⟩ = some (.slice oa k oc) ∧ ∀ j, j < 2 → w'.cell? ⟨b9, 0 + j, none⟩ = some (prG (.slice ua (x q).1.length uc) (.slice va2 (x q).2.length vc2) j))) s V.drew from JJ_all ⟨c8, l9⟩ ⟨c8, l9⟩)
          obtain ⟨fa1, fa2, fa3, fa4, fa5⟩ := FACT.out wr hbut
          have bwV : Below w.heap.size w V := fa1.trans (bV.mono fa1.size)
          have hnsV : newSums V w2.heap.size (.slice sa n sc) (leavesTo x n) := fa4.below bV (Nat.le_refl _)
          have hll := leavesTo_len x n
          have XP := path_k frNone (.pointer none) [] 0 (leavesTo x n) (.slice sa n sc) (q : Int) V.drew ⟨by omega, by omega⟩ (bkNone _ _ _) (hnsV.is.below (Below.refl V.heap.size V).drew (Nat.le_refl _)) (fun _ _ _ h => h.elim) (by rw [hll]; omega) ((HP.out V bwV).2.2.below (Below.refl V.heap.size V).drew (HP.out V bwV).2.2.1) (fun h => h.elim) (by rw [hll]; simp; omega) (by omega)
          have HV : Hid (V.heap.size = V.drew.heap.size ∧ wr.heap.size ≤ V.heap.size ∧ w6.heap.size ≤ wr.heap.size) := (show _ ∧ _ ∧ _ from ⟨rfl, sV, sbut⟩)
          have RV : Hid (V.drew.rowIs w3.heap.size 29 2 (seG n (.slice oa k oc)) ∧ V.drew.rowIs b9 38 2 (prG (.slice ua (x q).1.length uc) (.slice va2 (x q).2.length vc2)) ∧ Below wr.heap.size wr V.drew) := (show _ ∧ _ ∧ _ from ⟨r8V, r9, bV.trans ((Below.refl V.heap.size V).drew.mono sV)⟩)
          have N12 : Hid (newBytes V.drew wr.heap.size (.slice ua (x q).1.length uc) (x q).1 ∧ newBytes V.drew wr.heap.size (.slice va2 (x q).2.length vc2) (x q).2) := (show _ ∧ _ from ⟨n1.below (Below.refl V.heap.size V).drew (Nat.le_refl _), n2.below (Below.refl V.heap.size V).drew (Nat.le_refl _)⟩)
          clear n1 n2 r8V l9 c8 fa1 fa2 fa3 fa4 fa5 bwV hnsV hll hos r8 hbut r9 bV z02 hsb
          go_upto_region 10 with fail
          refine wp_region_noPanic ?_
          refine wp_region_T (JJ 12 (fun w' => w'.cell? ⟨w3.heap.size, 1, none⟩ = some (.slice oa k oc) ∧ ∀ j, j < 2 → w'.cell? ⟨b9, 0 + j, none⟩ = some (prG (.slice ua (x q).1.length uc) (.slice va2 (x q).2.length vc2) j)) 12 (fun w' => w'.cell? ⟨w3.heap.size, 1, none⟩ = some (.slice oa k oc) ∧ ∀ j, j < 2 → w'.cell? ⟨b9, 0 + j, none⟩ = some (prG (.slice ua (x q).1.length uc) (.slice va2 (x q).2.length vc2) j))) (by kernel_rfl) ?_
          generalize V.drew = V0 at HJ XP HV RV N12 ⊢
          refine take_opT (i := 0) (v := ?vu0) 12 rfl (by kernel_rfl) (by kernel_rfl) (by kernel_rfl) (by kernel_rfl) (by kernel_rfl) (JJ_free rfl rfl) (fun _ _ _ h => h) rfl HJ.out ?yu0 ?ru0
          case yu0 => (intro wz hz0; have hz := hz0.1 rfl; go_simp; first | done | with_reducible rfl)
          try simp only [Act.put, List.setIfInBounds_toArray, List.set_cons_zero, List.set_cons_succ]
          refine take_opT (i := 1) (v := ?vu1) 12 rfl (by kernel_rfl) (by kernel_rfl) (by kernel_rfl) (by kernel_rfl) (by kernel_rfl) (JJ_free rfl rfl) (fun _ _ _ h => h) rfl HJ.out ?yu1 ?ru1
          case yu1 => (intro wz hz0; have hz := hz0.1 rfl; have hz1 := hz.1; go_simp; first | done | with_reducible rfl)
          try simp only [Act.put, List.setIfInBounds_toArray, List.set_cons_zero, List.set_cons_succ]
          refine take_opT (i := 2) (v := ?vu2) 12 rfl (by kernel_rfl) (by kernel_rfl) (by kernel_rfl) (by kernel_rfl) (by kernel_rfl) (JJ_free rfl rfl) (fun _ _ _ h => h) rfl HJ.out ?yu2 ?ru2
          case yu2 => (intro wz hz0; have hz := hz0.1 rfl; go_simp; first | done | with_reducible rfl)
          try simp only [Act.put, List.setIfInBounds_toArray, List.set_cons_zero, List.set_cons_succ]
          refine take_loadT (i := 3) 12 rfl (by kernel_rfl) (by kernel_rfl) (by kernel_rfl) (by kernel_rfl) (by kernel_rfl) (JJ_free rfl rfl) 38 _ rfl b9 0 2 (prG (.slice ua (x q).1.length uc) (.slice va2 (x q).2.length vc2)) rfl _ Tryd.underlying38 rfl (by kernel_rfl) (fun _ _ _ h => h) rfl HJ.out (fun wz hz => (hz.1 rfl).2) ?_
          try simp only [Act.put, List.setIfInBounds_toArray, List.set_cons_zero, List.set_cons_succ]
          refine take_opT (i := 4) (v := ?vu4) 12 rfl (by kernel_rfl) (by kernel_rfl) (by kernel_rfl) (by kernel_rfl) (by kernel_rfl) (JJ_free rfl rfl) (fun _ _ _ h => h) rfl HJ.out ?yu4 ?ru4
          case yu4 => (intro wz hz0; have hz := hz0.1 rfl; go_simp; first | done | with_reducible rfl)
          try simp only [Act.put, List.setIfInBounds_toArray, List.set_cons_zero, List.set_cons_succ]
          refine take_opT (i := 5) (v := ?vu5) 12 rfl (by kernel_rfl) (by kernel_rfl) (by kernel_rfl) (by kernel_rfl) (by kernel_rfl) (JJ_free rfl rfl) (fun _ _ _ h => h) rfl HJ.out ?yu5 ?ru5
          case yu5 => (intro wz hz0; have hz := hz0.1 rfl; go_simp; first | done | with_reducible rfl)
          try simp only [Act.put, List.setIfInBounds_toArray, List.set_cons_zero, List.set_cons_succ]
          refine take_opT (i := 6) (v := ?vu6) 12 rfl (by kernel_rfl) (by kernel_rfl) (by kernel_rfl) (by kernel_rfl) (by kernel_rfl) (JJ_free rfl rfl) (fun _ _ _ h => h) rfl HJ.out ?yu6 ?ru6
          case yu6 => (intro wz hz0; have hz := hz0.1 rfl; go_simp; first | done | with_reducible rfl)
          try simp only [Act.put, List.setIfInBounds_toArray, List.set_cons_zero, List.set_cons_succ]
          refine take_oneT (i := 7) rfl (by kernel_rfl) rfl (fun K hK => ?_)
          go_simp
          refine Calls.mono XP ?_
          rintro e V1 ⟨pv, Fi, rfl, hps, _, _, _, fP⟩
          have b01 := frNone_below fP
          clear XP fP
          have hsp : ∃ pa pc, pv = .slice pa (pathI (leavesTo x n) q).length pc := by
            obtain ⟨_, pa, pc, e, _⟩ := hps.is
            exact ⟨pa, pc, e⟩
          obtain ⟨pa, pc, rfl⟩ := hsp
          obtain ⟨zd, sV, sw⟩ := HV.out
          have s01 := b01.size
          obtain ⟨rr8, rr9, bw0⟩ := RV.out
          have q8 : V1.rowIs w3.heap.size 29 2 (seG n (.slice oa k oc)) := b01.row rr8 (by omega)
          have q9 : V1.rowIs b9 38 2 (prG (.slice ua (x q).1.length uc) (.slice va2 (x q).2.length vc2)) := b01.row rr9 rr9.lt
          refine hK.out _ _ (heldJ_all ⟨q8.cell (i := 1) (by omega), fun j hj => by rw [Nat.zero_add]; exact q9.cell hj⟩ ⟨q8.cell (i := 1) (by omega), fun j hj => by rw [Nat.zero_add]; exact q9.cell hj⟩) ?_
          clear hK K
          try simp only [Act.put, List.setIfInBounds_toArray, List.set_cons_zero, List.set_cons_succ]
          have HJ1 : Hid (∀ s, (JJ 12 (fun w' => w'.cell? ⟨w3.heap.size, 1, none⟩ = some (.slice oa k oc) ∧ ∀ j, j < 2 → w'.cell? ⟨b9, 0 + j, none⟩ = some (prG (.slice ua (x q).1.length uc) (.slice va2 (x q).2.length vc2) j)) 12 (fun w' => w'.cell? ⟨w3.heap.size, 1, none⟩ = some (.slice oa k oc) ∧ ∀ j, j < 2 → w'.cell? ⟨b9, 0 + j, none⟩ = some (prG (.slice ua (x q).1.length uc) (.slice va2 (x q).2.length vc2) j))) s V1) := (show ∀ s, (JJ 12 (fun w' => w'.cell? ⟨w3.heap.size, 1, none⟩ = some (.slice oa k oc) ∧ ∀ j, j < 2 → w'.cell? ⟨b9, 0 + j, none⟩ = some (prG (.slice ua (x q).1.length uc) (.slice va2 (x q).2.length vc2) j)) 12 (fun w' => w'.cell? ⟨w3.heap.size, 1, none⟩ = some (.slice oa k oc) ∧ ∀ j, j < 2 → w'.cell? ⟨b9, 0 + j, none⟩ = some (prG (.slice ua (x q).1.length uc) (.slice va2 (x q).2.length vc2) j))) s V1 from JJ_all ⟨q8.cell (i := 1) (by omega), fun j hj => by rw [Nat.zero_add]; exact q9.cell hj⟩ ⟨q8.cell (i := 1) (by omega), fun j hj => by rw [Nat.zero_add]; exact q9.cell hj⟩)
          refine take_opT (i := 8) (v := .agg (rowV 4 (spG q (.slice ua (x q).1.length uc) (.slice va2 (x q).2.length vc2) (.slice pa (pathI (leavesTo x n) q).length pc)))) 12 rfl (by kernel_rfl) (by kernel_rfl) (by kernel_rfl) (by kernel_rfl) (by kernel_rfl) (JJ_free rfl rfl) (fun _ _ _ h => h) rfl HJ1.out (fun wz hz => exec_build3' 41 0 1 2 (.tmp 50) (.tmp 51) (.tmp 55) (.int .i64 q) (.agg (rowV 2 (prG (.slice ua (x q).1.length uc) (.slice va2 (x q).2.length vc2)))) (.slice pa (pathI (leavesTo x n) q).length pc) rfl rfl rfl rfl (build_sp q ua va2 pa (x q).1.length uc (x q).2.length vc2 (pathI (leavesTo x n) q).length pc wz)) ?_
          try simp only [Act.put, List.setIfInBounds_toArray, List.set_cons_zero, List.set_cons_succ]
          obtain ⟨V2, hV2⟩ : ∃ V2, V2 = V1.alloc (.cells (rowV 4 (spG q (.slice ua (x q).1.length uc) (.slice va2 (x q).2.length vc2) (.slice pa (pathI (leavesTo x n) q).length pc))) 41) := ⟨_, rfl⟩
          have b12 : Below V1.heap.size V1 V2 := by rw [hV2]; exact (Below.refl _ _).alloc (Nat.le_refl _) _
          have z2 : V2.heap.size = V1.heap.size + 1 := by rw [hV2]; simp
          have rN : V2.rowIs V1.heap.size 41 4 (spG q (.slice ua (x q).1.length uc) (.slice va2 (x q).2.length vc2) (.slice pa (pathI (leavesTo x n) q).length pc)) := by rw [hV2]; exact rowIs_box _ _ _ _
          have q8' : V2.rowIs w3.heap.size 29 2 (seG n (.slice oa k oc)) := b12.row q8 q8.lt
          have q9' : V2.rowIs b9 38 2 (prG (.slice ua (x q).1.length uc) (.slice va2 (x q).2.length vc2)) := b12.row q9 q9.lt
          refine take_oneT (i := 9) rfl (by kernel_rfl) rfl (fun K hK => ?_)
          refine wp_of_run (exec_bslice1' 27 1 0 (.tmp 56) (.agg (rowV 4 (spG q (.slice ua (x q).1.length uc) (.slice va2 (x q).2.length vc2) (.slice pa (pathI (leavesTo x n) q).length pc)))) rfl rfl (build_sps (spG q (.slice ua (x q).1.length uc) (.slice va2 (x q).2.length vc2) (.slice pa (pathI (leavesTo x n) q).length pc)) V1)) ?_
          rw [← hV2]
          refine hK.out _ _ (heldJ_all ⟨q8'.cell (i := 1) (by omega), fun j hj => by rw [Nat.zero_add]; exact q9'.cell hj⟩ ⟨q8'.cell (i := 1) (by omega), fun j hj => by rw [Nat.zero_add]; exact q9'.cell hj⟩) ?_
          clear hK K hV2
          try simp only [Act.put, List.setIfInBounds_toArray, List.set_cons_zero, List.set_cons_succ]
          have b02 : Below V0.heap.size V0 V2 := b01.trans (b12.mono s01)
          have bw2 : Below wr.heap.size wr V2 := bw0.trans (b02.mono (by omega))
          obtain ⟨m1, m2⟩ := N12.out
          have hosb := HOS.out.block
          have hyk' := hyk
          have SF0 : ∀ z, keeps V2 w3.heap.size (.slice oa k oc) z → spotIn2 z (spG q (.slice ua (x q).1.length uc) (.slice va2 (x q).2.length vc2) (.slice pa (pathI (leavesTo x n) q).length pc)) (y k) := fun z hz => by
            obtain ⟨z36a, z36b, z36c, _⟩ := HSZ.out
            have e1 : newBytes V2 wr.heap.size (.slice ua (x q).1.length uc) (x q).1 := m1.below b02 (Nat.le_refl _)
            have e2 : newBytes V2 wr.heap.size (.slice va2 (x q).2.length vc2) (x q).2 := m2.below b02 (Nat.le_refl _)
            have e3 : newSums V2 V0.heap.size (.slice pa (pathI (leavesTo x n) q).length pc) (pathI (leavesTo x n) q) := hps.below b12 (Nat.le_refl _)
            have far : ∀ j, wr.heap.size ≤ j → j < V2.heap.size → z.heap[j]? = V2.heap[j]? := fun j h1 h2 => hz.2 j h2 (fun e => by have := (hosb j e).2; omega) (by omega)
            rw [hyk']
            refine ⟨_, _, _, rfl, Or.inl (e1.apart fun j hj => far j (e1.block j hj).1 (e1.block j hj).2).is, Or.inl (e2.apart fun j hj => far j (e2.block j hj).1 (e2.block j hj).2).is, (e3.far fun j hj => far j (by have := (e3.block j hj).1; omega) (e3.block j hj).2).is, ⟨by show -9223372036854775808 ≤ (q : Int); omega, by show (q : Int) ≤ 9223372036854775807; omega⟩, (e1.apart fun j hj => far j (e1.block j hj).1 (e1.block j hj).2).softE, (e2.apart fun j hj => far j (e2.block j hj).1 (e2.block j hj).2).softE, newSums.softS (e3.far fun j hj => far j (by have := (e3.block j hj).1; omega) (e3.block j hj).2)⟩
          have SF : spotFar2 V2 w3.heap.size (.slice oa k oc) (spG q (.slice ua (x q).1.length uc) (.slice va2 (x q).2.length vc2) (.slice pa (pathI (leavesTo x n) q).length pc)) (y k) := ⟨SF0, fun i h1 h4 c hc => by
            obtain ⟨z36a, z36b, z36c, _⟩ := HSZ.out
            have e1 : newBytes V2 wr.heap.size (.slice ua (x q).1.length uc) (x q).1 := m1.below b02 (Nat.le_refl _)
            have e2 : newBytes V2 wr.heap.size (.slice va2 (x q).2.length vc2) (x q).2 := m2.below b02 (Nat.le_refl _)
            have e3 : newSums V2 V0.heap.size (.slice pa (pathI (leavesTo x n) q).length pc) (pathI (leavesTo x n) q) := hps.below b12 (Nat.le_refl _)
            have hc' : wr.heap.size ≤ c ∧ c < V2.heap.size := by
              have : i = 1 ∨ i = 2 ∨ i = 3 := by omega
              rcases this with rfl | rfl | rfl
              · exact e1.block c hc
              · exact e2.block c hc
              · have := e3.block c hc; omega
            refine ⟨by omega, hc'.2, fun e => by have := (hosb c e).2; omega⟩⟩
          have HO2 : ownSpots2 V2 w6.heap.size w3.heap.size (.slice oa k oc) k y := HOS.out.below bw2 (Nat.le_refl _)
          obtain ⟨v', V3, hr, ho3, hg3, hat3⟩ := spots_append2 V2 w6.heap.size w3.heap.size (.slice oa k oc) k y HO2 V1.heap.size (spG q (.slice ua (x q).1.length uc) (.slice va2 (x q).2.length vc2) (.slice pa (pathI (leavesTo x n) q).length pc)) rN SF (by have := HQK.out; omega) (by omega)
          have HAT : Hid (v'.ownBlock = (Value.slice oa k oc).ownBlock ∨ v'.ownBlock = some V2.heap.size) := hat3
          have n8 : ∀ (j : Nat), (Value.slice oa k oc).ownBlock = some j → w6.heap.size ≤ j ∧ j < wr.heap.size := hosb
          have g3 := hg3.size
          have q8'' : V3.rowIs w3.heap.size 29 2 (seG n (.slice oa k oc)) := World.rowIs.of_block q8' (hg3.block _ q8'.lt (fun e => by have := (n8 _ e.symm).1; omega))
          have q9'' : V3.rowIs b9 38 2 (prG (.slice ua (x q).1.length uc) (.slice va2 (x q).2.length vc2)) := World.rowIs.of_block q9' (hg3.block _ q9'.lt (fun e => by have := (n8 _ e.symm).2; omega))
          refine take_oneT (i := 10) rfl (by kernel_rfl) rfl (fun K hK => ?_)
          refine wp_append_run (.tmp 49) (.tmp 57) 27 rfl rfl rfl hr ?_
          refine hK.out _ _ (heldJ_all ⟨q8''.cell (i := 1) (by omega), fun j hj => by rw [Nat.zero_add]; exact q9''.cell hj⟩ ⟨q8''.cell (i := 1) (by omega), fun j hj => by rw [Nat.zero_add]; exact q9''.cell hj⟩) ?_
          clear hK K
          try simp only [Act.put, List.setIfInBounds_toArray, List.set_cons_zero, List.set_cons_succ]
          have hsv : ∃ na nc, v' = .slice na (k + 1) nc := by
            obtain ⟨na, nc, e, _⟩ := ho3.is
            exact ⟨na, nc, e⟩
          obtain ⟨na, nc, rfl⟩ := hsv
          refine take_oneT (i := 11) rfl (by kernel_rfl) rfl (fun K hK => ?_)
          go_simp
          refine hK.out _ _ (heldJ_all ⟨q8''.cell (i := 1) (by omega), fun j hj => by rw [Nat.zero_add]; exact q9''.cell hj⟩ ⟨q8''.cell (i := 1) (by omega), fun j hj => by rw [Nat.zero_add]; exact q9''.cell hj⟩) ?_
          clear hK K
          try simp only [Act.put, List.setIfInBounds_toArray, List.set_cons_zero, List.set_cons_succ]
          have c3 := q8''.cell (i := 1) (by omega)
          have f3 := q8''.frozen 1
          refine take_oneT (i := 12) rfl (by kernel_rfl) rfl (fun K hK => ?_)
          go_simp
          refine hK.out _ _ (heldJ_none rfl rfl) ?_
          clear hK K c3 f3
          try simp only [Act.put, List.setIfInBounds_toArray, List.set_cons_zero, List.set_cons_succ]
          refine doneT (by kernel_rfl) ?_ _
          refine NoPanic.normal ?_
          have NX : Hid (∀ V4, V4 = V3.setCell ⟨w3.heap.size, 1, none⟩ (.slice na (k + 1) nc) → shL2 w6 w3.heap.size n (k + 1) y V4) := (show _ from fun V4 h4 => by
            obtain ⟨zz1, zz2, zz3, _⟩ := HSZ.out
            have hb := HB.out
            have bt : But V3.heap.size w3.heap.size V3 V4 := by
              rw [h4]
              exact but_setCells (b := w3.heap.size) [.slice na (k + 1) nc] 1 (But.refl _ _ _)
            have z4 := bt.size
            have r4 : V4.rowIs w3.heap.size 29 2 (seG n (.slice na (k + 1) nc)) := by
              rw [h4]
              refine (q8''.set 1 (.slice na (k + 1) nc)).congr fun i hi => ?_
              have : i = 0 ∨ i = 1 := by omega
              rcases this with rfl | rfl <;> rfl
            refine ⟨⟨bt.os.trans (hg3.os.trans (bw2.os.trans hb.os)), bt.tape.trans (hg3.tape.trans (bw2.tape.trans hb.tape)), bt.output.trans (hg3.output.trans (bw2.output.trans hb.output)), by have := hb.size; have := bw2.size; omega, fun j hj hn => ?_⟩, _, r4, ho3.same (by omega) (by omega) fun j hj hn => bt.block j hj (by omega)⟩
            have h1 := hb.size
            have h2 := bw2.size
            exact (bt.block j (by omega) hn).trans ((hg3.block j (by omega) (fun e => by have := (n8 _ e.symm).1; omega)).trans ((bw2.block j (by omega)).trans (hb.block j hj hn))))
          obtain ⟨V4, hV4⟩ : ∃ V4, V4 = V3.setCell ⟨w3.heap.size, 1, none⟩ (.slice na (k + 1) nc) := ⟨_, rfl⟩
          rw [← hV4]
          have NX4 : Hid (shL2 w6 w3.heap.size n (k + 1) y V4) := (show shL2 w6 w3.heap.size n (k + 1) y V4 from NX.out V4 hV4)
          clear NX hV4 ho3 hat3 hg3 q8'' q9'' hr SF SF0 HO2 q8 q9 q8' q9' rN b12 b01 b02 bw2 bw0 rr8 rr9 m1 m2 hyk' hyk hps n8 hosb HAT HJ1
          go_wp2_with fail
          go_light
          exact ⟨⟨k + 1, by omega, by have := HQK.out; go_num, NX4.out⟩, by have := HQK.out; simp [intOf]; omega⟩
      · have p1 : ¬ (q : Int) ≤ la := by rw [HQK.out]; exact fun h => hlt ((HYQ.out.1 k).2 h)
        obtain rfl : k = m := by omega
        obtain ⟨fa1, _, _, _, fa5⟩ := FACT.out wr hbut
        obtain ⟨z02, z23, z36, _⟩ := HSZ.out
        have sbut := hbut.size
        have l8 : ∀ j, j < 2 → wr.cell? ⟨w3.heap.size, 0 + j, none⟩ = some (seG n (.slice oa k oc) j) := fun j hj => by rw [Nat.zero_add]; exact r8.cell hj
        have HOSS : Hid (ownSpots2 wr w6.heap.size w3.heap.size (.slice oa k oc) k y) := (show ownSpots2 wr w6.heap.size w3.heap.size (.slice oa k oc) k y from hos)
        have FI : Hid (∀ V, But wr.heap.size w.heap.size wr V → show2Post n x key w (.returned (.agg (rowV 2 (seG n (.slice oa k oc))))) V) := (show _ from fun V hV => by
          have sV := hV.size
          have hbV : Below w.heap.size w V := fa1.trans ((hV.mono fa1.size).below (Nat.le_refl _))
          exact DONE.out V _ hbV ⟨_, _, by omega, ownSpots2.same HOSS.out (w' := V) (by omega) hV.size (fun j hj hn => hV.block j hj (by omega))⟩)
        clear fa1 hbut r8 hos
        go_wp2_with (first | (refine wpList_load_w 29 (.tmp 8) rfl rfl w3.heap.size 0 2 (seG n (.slice oa k oc)) rfl _ Tryd.underlying29 rfl hiSe l8 ?_) | (refine wpList_store_row rfl 29 _ _ rfl rfl w.heap.size 0 2 (seG n (.slice oa k oc)) rfl rfl hiSe (seG_one _ _ _ _) _ _ _ fa5 (by omega) ?_; intro w9 r9 hz9 hb9))
        exact bodyPost_ret (results_cell_seg rfl _ _ w.heap.size 29 2 (seG n (.slice oa k oc)) _ rfl Tryd.underlying29 rfl hiSe (r9.congr fun i hi => by rw [if_pos (by omega), Nat.sub_zero])) rfl (by exact FI.out w9 hb9)
end Go.Proofs.YtkgegihkhdgdoaaDoor

/- keyed.Show, without a book. -/
namespace Go.Proofs.YtkgegihkhdgdoaaDoor
set_option linter.unusedSimpArgs false
set_option linter.unusedVariables false
open Go.RowKit Go.Deep

theorem show_nil (n : Nat) (v tv : Value) (x : Nat → Pr) (key : List Int) (w : World) (hp : pairsAt w v n x) (hkey : anyBytes w tv key) (ht : tabIs w) (hn : n ≤ 1000) (hx : ∀ i, i < n → (x i).1.length + (x i).2.length ≤ 1000000) :
    Calls Tryd.prog 12 #[.pointer none, v, tv] w fun e w' => showPost n x key w e w' := by
  refine (show2_nil n v tv x key w hp hkey ht hn hx).mono ?_
  rintro e w' ⟨h, hb⟩
  refine ⟨?_, hb⟩
  rcases h with h | ⟨hm, p, sv, hp, he, B, b, _, ho⟩
  · exact Or.inl h
  · exact Or.inr ⟨hm, p, sv, hp, he, ho.is⟩
end Go.Proofs.YtkgegihkhdgdoaaDoor

/- KeyedTells: its walk, but for the examples. -/
namespace Go.Proofs.YtkgegihkhdgdoaaDoor
set_option linter.unusedSimpArgs false
set_option linter.unusedVariables false
open Go.RowKit Go.Deep

theorem pathI_63 (L : List (List Int)) (hL : L.length ≤ 1000000) (at_ : Int) : (pathI L at_).length ≤ 63 := by
  unfold pathI
  rw [List.length_reverse, downF_len]
  exact wayI_len _ _ (by omega)
theorem shM_le {x : Nat → Pr} {n p : Nat} {key : List Int} (hp : posAt x n key p) : shM x n key p ≤ 10 := by
  rcases show_cases hp with ⟨_, _, _, h⟩ | ⟨_, ⟨_, h⟩ | ⟨_, _, _, h⟩ | ⟨_, _, _, h⟩ | ⟨_, _, _, h⟩⟩ <;> omega
/-- what a look at what is shown tells, by root and key. -/
def tellP (n : Nat) (x : Nat → Pr) (key : List Int) (w : World) (e : Ending) (w' : World) : Prop :=
  ((∃ i, i < n ∧ (x i).1 = key ∧ ∃ v', newBytes w' w.heap.size v' (x i).2 ∧ e = .returned (.tuple #[v', .bool true, .int .i64 0])) ∨ ((∀ i, i < n → ¬ (x i).1 = key) ∧ e = .returned (.tuple #[.slice none 0 0, .bool false, .int .i64 0]))) ∧ Below w.heap.size w w'
theorem look_tells {n p : Nat} {x : Nat → Pr} {key : List Int} (hm : mayP x n) (hp : posAt x n key p) (hn : n ≤ 100) (hx : ∀ i, i < n → (x i).1.length + (x i).2.length ≤ 100000) (sv tv : Value) (w : World) (hs : spotsAt w sv (shM x n key p) (shY x n key p)) (hk : anyBytes w tv key) (ht : tabIs w) :
    Calls Tryd.prog 22 #[.pointer none, .agg (rowV 32 (arrV (keyS x n))), tv, .agg #[.int .i64 n, sv]] w fun e w' => tellP n x key w e w' := by
  have hl := leavesTo_len x n
  refine (look_k frNone (.pointer none) [] 0 (keyS x n) (keyS_sum x n) n ⟨by omega, by omega⟩ (shM x n key p) sv tv (shY x n key p) key w w (Below.refl _ _) (fun _ h => h.elim) hs hk ht (bkNone _ _ _) (shM_le hp) (fun i => ?_) (fun i hi => ?_) (by simp) (by omega)).mono ?_
  · have := pathI_63 (leavesTo x n) (by rw [hl]; omega) ((shF x n key p + i : Nat) : Int)
    show (pathI (leavesTo x n) ((shF x n key p + i : Nat) : Int)).length ≤ 1000
    omega
  · have h1 := (shM_lt x n key p i).1 hi
    have h2 := (arL_lt x n key p).1
    have := hx (shF x n key p + i) (by omega)
    show (x (shF x n key p + i)).1.length + (x (shF x n key p + i)).2.length ≤ 1000000
    omega
  · rintro e w' ⟨h, hf⟩
    refine ⟨?_, frNone_below hf⟩
    rcases h with ⟨hno, _⟩ | ⟨_, _, ⟨k, hk1, hk2, _, v', hv, rfl⟩ | ⟨hno, rfl⟩⟩
    · exact absurd (show_ok hm hp) hno
    · obtain ⟨q1, q2, q3⟩ := show_there hm hp k hk1 hk2
      rw [q3] at hv
      exact Or.inl ⟨_, q1, q2, v', hv, rfl⟩
    · exact Or.inr ⟨fun i hi => show_none hm hp hno i hi, rfl⟩
end Go.Proofs.YtkgegihkhdgdoaaDoor

/- constants as bytes, in any world; a look that is refused. -/
namespace Go.Proofs.YtkgegihkhdgdoaaDoor
set_option linter.unusedSimpArgs false
set_option linter.unusedVariables false
open Go.RowKit Go.Deep

/-- nothing has turned but a mark of block b. -/
structure Marked (b : Nat) (W W' : World) : Prop where
  but : But W.heap.size b W W'
  size : W'.heap.size = W.heap.size
  cell : ∀ a, W'.cell? a = W.cell? a
theorem conv_mark (W : World) (b : Nat) (x : Int) (h0 : 0 ≤ x) (h1 : x ≤ 255) (hb : W.heap[b]? = some (.cells #[.int .u8 x] 5)) :
    ∃ W', (convert 23 23 (.slice (some ⟨b, 0, none⟩) 1 1)).run Tryd.prog W = .ok (.slice (some ⟨b, 0, none⟩) 1 1) W' ∧ Marked b W W' ∧ isBytes W' (.slice (some ⟨b, 0, none⟩) 1 1) [x] := by
  have hsh : W.shape? b = some (5, 1) := by unfold World.shape?; rw [hb]; rfl
  have hlt : b < W.heap.size := (Array.getElem?_eq_some_iff.1 hb).1
  have hcell : ∀ a, (W.freeze ⟨b, 1, none⟩ 1).cell? a = W.cell? a := by
    intro a
    unfold World.freeze
    rw [if_neg (by decide)]
    unfold World.cell?
    simp only [Array.getElem?_modify]
    by_cases e : b = a.block
    · rw [if_pos e, ← e, hb]; rfl
    · rw [if_neg e]
  have hsz : (W.freeze ⟨b, 1, none⟩ 1).heap.size = W.heap.size := by
    unfold World.freeze
    rw [if_neg (by decide)]
    simp
  refine ⟨W.freeze ⟨b, 1, none⟩ 1, ?_, ⟨⟨?_, ?_, ?_, by rw [hsz]; exact Nat.le_refl _, fun k hk hne => ?_⟩, hsz, hcell⟩, Or.inr ⟨b, 0, 1, rfl, by simp, by unfold maxLen; simp, by rw [hsz]; exact hlt, fun i hi => ?_, fun i => ?_⟩⟩
  · simp [convert, run_underlying Tryd.underlying23, run_underlying Tryd.underlying5, markStringish, hsh]
  · unfold World.freeze; rw [if_neg (by decide)]
  · unfold World.freeze; rw [if_neg (by decide)]
  · unfold World.freeze; rw [if_neg (by decide)]
  · unfold World.freeze
    rw [if_neg (by decide)]
    simp only [Array.getElem?_modify]
    rw [if_neg (fun e => hne e.symm)]
  · have hi0 : i = 0 := by simpa using hi
    subst hi0
    rw [hcell]
    unfold World.cell?
    simp only [hb]
    rfl
  · match i with
    | 0 => exact ⟨h0, h1⟩
    | i + 1 => simp
theorem isBytes.cells {W W' : World} {v : Value} {l : List Int} (h : isBytes W v l) (hs : W'.heap.size = W.heap.size) (hc : ∀ a, W'.cell? a = W.cell? a) : isBytes W' v l := by
  rcases h with h | ⟨pb, po, cap, h1, h2, h3, h4, h6, h7⟩
  · exact Or.inl h
  · exact Or.inr ⟨pb, po, cap, h1, h2, h3, by rw [hs]; exact h4, fun i hi => by rw [hc]; exact h6 i hi, h7⟩
theorem anyBytes.cells {W W' : World} {v : Value} {l : List Int} (h : anyBytes W v l) (hs : W'.heap.size = W.heap.size) (hc : ∀ a, W'.cell? a = W.cell? a) : anyBytes W' v l := by
  rcases h with h | h
  · exact Or.inl (h.cells hs hc)
  · exact Or.inr h
theorem sumsAt.cells {W W' : World} {v : Value} {L : List (List Int)} (h : sumsAt W v L) (hs : W'.heap.size = W.heap.size) (hc : ∀ a, W'.cell? a = W.cell? a) : sumsAt W' v L := by
  obtain ⟨h1, a, cap, h2, h3, h4, h5⟩ := h
  refine ⟨h1, a, cap, h2, h3, h4, fun h0 => ?_⟩
  obtain ⟨g, o, e, hg, hcl⟩ := h5 h0
  exact ⟨g, o, e, by rw [hs]; exact hg, fun i hi j hj => by rw [hc]; exact hcl i hi j hj⟩
theorem spotsAt.cells {W W' : World} {v : Value} {m : Nat} {y : Nat → Sp} (h : spotsAt W v m y) (hs : W'.heap.size = W.heap.size) (hc : ∀ a, W'.cell? a = W.cell? a) : spotsAt W' v m y := by
  obtain ⟨a, cap, h1, h2, h3, h4⟩ := h
  refine ⟨a, cap, h1, h2, h3, fun i hi => ?_⟩
  obtain ⟨g, o, kc, vc, pc, e, hg, c0, c1, c2, c3, k1, k2, k3, k4⟩ := h4 i hi
  exact ⟨g, o, kc, vc, pc, e, by rw [hs]; exact hg, by rw [hc]; exact c0, by rw [hc]; exact c1, by rw [hc]; exact c2, by rw [hc]; exact c3, k1.cells hs hc, k2.cells hs hc, k3.cells hs hc, k4⟩
/-- a constant, built; .., as bytes. -/
def litB (w0 W : World) (b : Nat) (x : Int) : Prop := w0.heap.size ≤ b ∧ W.heap[b]? = some (.cells #[.int .u8 x] 5)
def litC (w0 W : World) (b : Nat) (x : Int) : Prop := w0.heap.size ≤ b ∧ b < W.heap.size ∧ isBytes W (.slice (some ⟨b, 0, none⟩) 1 1) [x]
theorem litB.lt {w0 W : World} {b : Nat} {x : Int} (h : litB w0 W b x) : b < W.heap.size := (Array.getElem?_eq_some_iff.1 h.2).1
theorem litB.step {w0 W W' : World} {b : Nat} {x : Int} (h : litB w0 W b x) (hb : Below W.heap.size W W') : litB w0 W' b x := ⟨h.1, (hb.block b h.lt).trans h.2⟩
theorem litC.step {w0 W W' : World} {b : Nat} {x : Int} (h : litC w0 W b x) (hb : Below W.heap.size W W') : litC w0 W' b x := ⟨h.1, Nat.lt_of_lt_of_le h.2.1 hb.size, h.2.2.below hb (Nat.le_refl _)⟩
theorem litB.mark {w0 W W' : World} {b c : Nat} {x : Int} (h : litB w0 W b x) (hm : Marked c W W') (hne : b ≠ c) : litB w0 W' b x := ⟨h.1, (hm.but.block b h.lt hne).trans h.2⟩
theorem litC.mark {w0 W W' : World} {b c : Nat} {x : Int} (h : litC w0 W b x) (hm : Marked c W W') : litC w0 W' b x := ⟨h.1, by rw [hm.size]; exact h.2.1, h.2.2.cells hm.size hm.cell⟩
/-- building it. -/
theorem lit_build (w0 W : World) (x : Int) (hb : Below w0.heap.size w0 W) : ∃ W', (Instr.buildSlice 23 1 #[(0, .int .u8 x)]).run Tryd.prog W = .ok (.slice (some ⟨W.heap.size, 0, none⟩) 1 1) W' ∧ litB w0 W' W.heap.size x ∧ Below W.heap.size W W' ∧ Below w0.heap.size w0 W' :=
  ⟨_, build_b1 x W, ⟨hb.size, blk_alloc_new W _⟩, (Below.refl _ _).alloc (Nat.le_refl _) _, hb.alloc hb.size _⟩
theorem lit_conv (w0 W : World) (b : Nat) (x : Int) (h0 : 0 ≤ x) (h1 : x ≤ 255) (h : litB w0 W b x) (hb : Below w0.heap.size w0 W) : ∃ W', (convert 23 23 (.slice (some ⟨b, 0, none⟩) 1 1)).run Tryd.prog W = .ok (.slice (some ⟨b, 0, none⟩) 1 1) W' ∧ litC w0 W' b x ∧ Marked b W W' ∧ Below w0.heap.size w0 W' := by
  obtain ⟨W', hr, hm, hi⟩ := conv_mark W b x h0 h1 h.2
  exact ⟨W', hr, ⟨h.1, by rw [hm.size]; exact h.lt, hi⟩, hm, hb.trans (hm.but.below' h.1 hb.size)⟩
/-- a look that is refused. -/
theorem look_no {n p : Nat} {x : Nat → Pr} {key key2 : List Int} (hm : mayP x n) (hp : posAt x n key p) (hn : n ≤ 100) (hx : ∀ i, i < n → (x i).1.length + (x i).2.length ≤ 100000) (sv tv : Value) (w : World) (hs : spotsAt w sv (shM x n key p) (shY x n key p)) (hk : anyBytes w tv key2) (ht : tabIs w)
    (hno : ¬ lookOk n (shM x n key p) (shY x n key p) key2 (keyS x n)) :
    Calls Tryd.prog 22 #[.pointer none, .agg (rowV 32 (arrV (keyS x n))), tv, .agg #[.int .i64 n, sv]] w fun e w' => e = .returned (.tuple #[.slice none 0 0, .bool false, .int .i64 10]) ∧ Below w.heap.size w w' := by
  have hl := leavesTo_len x n
  refine (look_k frNone (.pointer none) [] 0 (keyS x n) (keyS_sum x n) n ⟨by omega, by omega⟩ (shM x n key p) sv tv (shY x n key p) key2 w w (Below.refl _ _) (fun _ h => h.elim) hs hk ht (bkNone _ _ _) (shM_le hp) (fun i => ?_) (fun i hi => ?_) (by simp) (by omega)).mono ?_
  · have := pathI_63 (leavesTo x n) (by rw [hl]; omega) ((shF x n key p + i : Nat) : Int)
    show (pathI (leavesTo x n) ((shF x n key p + i : Nat) : Int)).length ≤ 1000
    omega
  · have h1 := (shM_lt x n key p i).1 hi
    have h2 := (arL_lt x n key p).1
    have := hx (shF x n key p + i) (by omega)
    show (x (shF x n key p + i)).1.length + (x (shF x n key p + i)).2.length ≤ 1000000
    omega
  · rintro e w' ⟨h, hf⟩
    refine ⟨?_, frNone_below hf⟩
    rcases h with ⟨_, e⟩ | ⟨hok, _⟩
    · exact e
    · exact absurd hok hno
end Go.Proofs.YtkgegihkhdgdoaaDoor
