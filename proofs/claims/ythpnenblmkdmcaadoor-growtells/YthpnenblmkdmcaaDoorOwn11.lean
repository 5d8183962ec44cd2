import Derived.Test.YthpnenblmkdmcaaDoorOwn10
set_option linter.unusedVariables false
set_option linter.unusedSimpArgs false
/- GrowOn: its walk. -/
namespace Go.Proofs.YthpnenblmkdmcaaDoor
set_option linter.unusedSimpArgs false
set_option linter.unusedVariables false
open Go.RowKit Go.Deep

theorem store_stepG {o : Oper} {a : Act} {w w' : World} {K : Act → World → Prop} {Q : Exit → Act → World → Prop} {b : Nat} {v : Value} {x y : Operand} (ho : o.op = .store 29 x y) (hx : a.eval x = .pointer (some ⟨b, 0, none⟩)) (hy : a.eval y = v)
    (hr : (storeVar 29 ⟨b, 0, none⟩ v).run Tryd.prog w = .ok () w') (h : K (a.put o.dst undef) w') : Oper.wp Tryd.prog o a w K Q := by
  unfold Oper.wp execOp
  simp only [ho, hx, hy, Instr.storeAt, Instr.sureAddr, Sem.run_bind, Sem.run_pure, Result.andThen_ok]
  simp [hr, Oper.upon]
  exact h
theorem regionK {P : Program} {md : Region.Mode} {ops : Array Oper} {Q : Exit → Act → World → Prop} {S : World → Prop} {fuel : Nat} {listed : Array Bool} {a : Act} {w : World} (h : ∀ G : Nat → Array Bool → Act → World → Prop, (∀ f l a w, G f l a w = wpAnyH P md ops Q S f l a w) → G fuel listed a w) : wpAnyH P md ops Q S fuel listed a w :=
  h (wpAnyH P md ops Q S) (fun _ _ _ _ => rfl)
theorem actK {p : Act → Prop} {a : Act} (h : ∀ a0, a0 = a → p a0) : p a := h a rfl
theorem listK {p : Array Bool → Prop} {a : Array Bool} (h : ∀ a0, a0 = a → p a0) : p a := h a rfl
theorem lcong {P : Program} {md : Region.Mode} {ops : Array Oper} {Q : Exit → Act → World → Prop} {S : World → Prop} {fuel : Nat} {l l' : Array Bool} {a : Act} {w : World} (e : l = l') (h : wpAnyH P md ops Q S fuel l a w) : wpAnyH P md ops Q S fuel l' a w := e ▸ h
theorem gPath_le (L : List (List Int)) (m : Int) (h : L.length ≤ 1000) : (gPath L m).length ≤ 1000 := by
  have h1 := gPath_len L m
  have h2 := gI_len m (L.length : Int) (by omega)
  unfold gSteps at h1
  split at h1 <;> omega
set_option maxHeartbeats 8000000 in
set_option maxRecDepth 100000 in
theorem growOn_in (L : List (List Int)) (v : Value) (j m : Nat) (hj : j ≤ m) (hm : m ≤ L.length) (hL : L.length ≤ 150) (w : World) (ht : tabIs w) (h : sumsAt w v L) :
    Calls Tryd.prog 7 #[v, .int .i64 (j : Int), .int .i64 (m : Int)] w fun e w' => e = .returned (.bool true) ∧ Below w.heap.size w w' := by
  have hsl : ∃ a cap, v = .slice a L.length cap := by
    obtain ⟨_, a, cap, e, _⟩ := h; exact ⟨a, cap, e⟩
  obtain ⟨va, vc, rfl⟩ := hsl
  obtain ⟨uj, ruj, suj, _, xj, yj, rfl⟩ := h.upto j (by omega)
  obtain ⟨um, rum, sum, _, xm, ym, rfl⟩ := h.upto m hm
  have RUJ : Hid (∀ wz : World, (Instr.slice 22 (.slice va L.length vc) none (some (.int .i64 j)) none).run Tryd.prog wz = .ok (.slice xj j yj) wz) := (show _ from ruj)
  have RUM : Hid (∀ wz : World, (Instr.slice 22 (.slice va L.length vc) none (some (.int .i64 m)) none).run Tryd.prog wz = .ok (.slice xm m ym) wz) := (show _ from rum)
  have HS : Hid (∀ wz, Below w.heap.size w wz → tabIs wz ∧ sumsAt wz (.slice va L.length vc) L ∧ sumsAt wz (.slice xj j yj) (L.take j) ∧ sumsAt wz (.slice xm m ym) (L.take m)) := (show _ from fun wz hz => ⟨ht.below hz ht.1, h.below hz (Nat.le_refl _), suj.below hz (Nat.le_refl _), sum.below hz (Nat.le_refl _)⟩)
  have ljm : (L.take m).length = m := by rw [List.length_take]; omega
  have ljj : (L.take j).length = j := by rw [List.length_take]; omega
  have ett : (L.take m).take j = L.take j := by rw [List.take_take, Nat.min_eq_left hj]
  have E1 : Hid (extR j m (rootS (L.take j)) (rootS (L.take m)) (gPath (L.take m) j) = true) := (show _ from by
    have := ext_path (L.take m) j (by omega)
    rwa [ett, ljm] at this)
  have E2 : Hid (extR m L.length (rootS (L.take m)) (rootS L) (gPath L m) = true) := (show _ from ext_path L m hm)
  have E3 : Hid (extR j L.length (rootS (L.take j)) (rootS L) (gPath L j) = true) := (show _ from ext_path L j (by omega))
  have SA : Hid (isSum (rootS (L.take j)) ∧ isSum (rootS (L.take m)) ∧ isSum (rootS L)) := (show _ ∧ _ ∧ _ from ⟨rootS_sum suj.1, rootS_sum sum.1, rootS_sum h.1⟩)
  obtain ⟨A, hA⟩ : ∃ A, A = rootS (L.take j) := ⟨_, rfl⟩
  obtain ⟨B, hB⟩ : ∃ B, B = rootS (L.take m) := ⟨_, rfl⟩
  obtain ⟨C, hC⟩ : ∃ C, C = rootS L := ⟨_, rfl⟩
  rw [← hA, ← hB] at E1
  rw [← hB, ← hC] at E2
  rw [← hA, ← hC] at E3
  rw [← hA, ← hB, ← hC] at SA
  have RA : Hid (∀ W, Below w.heap.size w W → Calls Tryd.prog 18 #[.pointer none, .slice xj j yj] W fun e w' => e = .returned (.agg (rowV 32 (arrV A))) ∧ Below W.heap.size W w') := (show _ from fun W hW => by
    rw [hA]; exact root_nil 1000 _ _ W (by omega) (Nat.le_refl _) (HS.out W hW).2.2.1 (HS.out W hW).1)
  have RB : Hid (∀ W, Below w.heap.size w W → Calls Tryd.prog 18 #[.pointer none, .slice xm m ym] W fun e w' => e = .returned (.agg (rowV 32 (arrV B))) ∧ Below W.heap.size W w') := (show _ from fun W hW => by
    rw [hB]; exact root_nil 1000 _ _ W (by omega) (Nat.le_refl _) (HS.out W hW).2.2.2 (HS.out W hW).1)
  have RC : Hid (∀ W, Below w.heap.size w W → Calls Tryd.prog 18 #[.pointer none, .slice va L.length vc] W fun e w' => e = .returned (.agg (rowV 32 (arrV C))) ∧ Below W.heap.size W w') := (show _ from fun W hW => by
    rw [hC]; exact root_nil 1000 _ _ W (by omega) (Nat.le_refl _) (HS.out W hW).2.1 (HS.out W hW).1)
  have q1 : (L.length : Int) ≤ 150 := by omega
  have q2 : (0 : Int) ≤ (j : Int) := by omega
  have q3 : (j : Int) ≤ (m : Int) := by omega
  have q4 : (m : Int) ≤ (L.length : Int) := by omega
  have d1 : ¬ (150 : Int) < (L.length : Int) := by omega
  have d2 : ¬ (j : Int) < 0 := by omega
  have d3 : ¬ m < j := by omega
  have d4 : ¬ L.length < m := by omega
  have HQ : Hid (j ≤ m ∧ m ≤ L.length ∧ L.length ≤ 150 ∧ (L.take m).length = m) := (show _ from ⟨hj, hm, hL, ljm⟩)
  clear ruj rum suj sum ljm ljj ett h ht hA hB hC hj hm hL
  go_enter Tryd.func7, Tryd.ntmps7
  go_upto_region 3 with fail
  go_cut [7, 8, 9] from 32 to 41 (fun p7 p8 p9 wx => ∃ b7 b8 b9, p7 = .pointer (some ⟨b7, 0, none⟩) ∧ p8 = .pointer (some ⟨b8, 0, none⟩) ∧ p9 = .pointer (some ⟨b9, 0, none⟩) ∧ wx.rowIs b7 29 32 (arrV A) ∧ wx.rowIs b8 29 32 (arrV B) ∧ wx.rowIs b9 29 32 (arrV C) ∧ Below w.heap.size w wx)
  case first =>
    have H : st3 w w.drew none none none := ⟨(Below.refl _ _).drew, fun x h => (by cases h), fun x h => (by cases h), fun x h => (by cases h), fun x h => (by cases h), fun x h => (by cases h)⟩
    refine wp_region_noPanic ?_
    refine wp_region_held_drew (S := fun w' => True) (by kernel_rfl) trivial (fun hHeld => ?_)
    generalize w.drew = W at H ⊢
    refine take_op (i := 0) (v := ?va0) rfl (by kernel_rfl) (by kernel_rfl) (by kernel_rfl) (fun _ _ _ h => h) rfl hHeld ?ya0 ?ra0
    case ya0 => (intro wz hz; go_simp; first | done | with_reducible rfl)
    try simp only [Act.put, List.setIfInBounds_toArray, List.set_cons_zero, List.set_cons_succ]
    refine take_op (i := 1) (v := ?va1) rfl (by kernel_rfl) (by kernel_rfl) (by kernel_rfl) (fun _ _ _ h => h) rfl hHeld ?ya1 ?ra1
    case ya1 => (intro wz hz; go_simp; first | done | with_reducible rfl)
    try simp only [Act.put, List.setIfInBounds_toArray, List.set_cons_zero, List.set_cons_succ]
    refine take_op (i := 2) (v := ?va2) rfl (by kernel_rfl) (by kernel_rfl) (by kernel_rfl) (fun _ _ _ h => h) rfl hHeld ?ya2 ?ra2
    case ya2 => (intro wz hz; have hcz := RUJ.out wz; go_simp; first | done | with_reducible rfl)
    try simp only [Act.put, List.setIfInBounds_toArray, List.set_cons_zero, List.set_cons_succ]
    refine take_op (i := 4) (v := ?va4) rfl (by kernel_rfl) (by kernel_rfl) (by kernel_rfl) (fun _ _ _ h => h) rfl hHeld ?ya4 ?ra4
    case ya4 => (intro wz hz; go_simp; first | done | with_reducible rfl)
    try simp only [Act.put, List.setIfInBounds_toArray, List.set_cons_zero, List.set_cons_succ]
    refine take_op (i := 5) (v := ?va5) rfl (by kernel_rfl) (by kernel_rfl) (by kernel_rfl) (fun _ _ _ h => h) rfl hHeld ?ya5 ?ra5
    case ya5 => (intro wz hz; go_simp; first | done | with_reducible rfl)
    try simp only [Act.put, List.setIfInBounds_toArray, List.set_cons_zero, List.set_cons_succ]
    refine take_op (i := 6) (v := ?va6) rfl (by kernel_rfl) (by kernel_rfl) (by kernel_rfl) (fun _ _ _ h => h) rfl hHeld ?ya6 ?ra6
    case ya6 => (intro wz hz; have hcz := RUM.out wz; go_simp; first | done | with_reducible rfl)
    try simp only [Act.put, List.setIfInBounds_toArray, List.set_cons_zero, List.set_cons_succ]
    refine take_op (i := 8) (v := ?va8) rfl (by kernel_rfl) (by kernel_rfl) (by kernel_rfl) (fun _ _ _ h => h) rfl hHeld ?ya8 ?ra8
    case ya8 => (intro wz hz; go_simp; first | done | with_reducible rfl)
    try simp only [Act.put, List.setIfInBounds_toArray, List.set_cons_zero, List.set_cons_succ]
    refine regionK (fun G hG => ?_)
    refine actK (p := fun a => G 9 _ a W) (fun a0 ha0 => ?_)
    refine listK (p := fun l => G 9 l a0 W) (fun l0 hl0 => ?_)
    have HG : Hid _ := hG
    have HA0 : Hid _ := ha0
    have HL0 : Hid _ := hl0
    clear hG ha0 hl0
    have ST3_7_9_10_11_12 : Hid (∀ b1 b2 b3, ∀ W : World, st3 w W (some b1) (some b2) (some b3) → G 3 ((((((l0.setIfInBounds 3 true).setIfInBounds 7 true).setIfInBounds 9 true).setIfInBounds 10 true).setIfInBounds 11 true).setIfInBounds 12 true) ((((((a0.put (some 35) (.agg (rowV 32 (arrV A)))).put (some 39) (.agg (rowV 32 (arrV B)))).put (some 41) (.agg (rowV 32 (arrV C)))).put (some 7) (.pointer (some ⟨b1, 0, none⟩))).put (some 8) (.pointer (some ⟨b2, 0, none⟩))).put (some 9) (.pointer (some ⟨b3, 0, none⟩))) W) := (show ∀ b1 b2 b3, ∀ W : World, st3 w W (some b1) (some b2) (some b3) → G 3 ((((((l0.setIfInBounds 3 true).setIfInBounds 7 true).setIfInBounds 9 true).setIfInBounds 10 true).setIfInBounds 11 true).setIfInBounds 12 true) ((((((a0.put (some 35) (.agg (rowV 32 (arrV A)))).put (some 39) (.agg (rowV 32 (arrV B)))).put (some 41) (.agg (rowV 32 (arrV C)))).put (some 7) (.pointer (some ⟨b1, 0, none⟩))).put (some 8) (.pointer (some ⟨b2, 0, none⟩))).put (some 9) (.pointer (some ⟨b3, 0, none⟩))) W from by
      intro b1 b2 b3 W H
      rw [HA0.out, HL0.out, HG.out]
      try simp only [Act.put, List.setIfInBounds_toArray, List.set_cons_zero, List.set_cons_succ]
      obtain ⟨V1, V2, V3, e1, e2, e3, F⟩ := H.fin A B C
      refine take_one (i := 13) rfl (by kernel_rfl) rfl (fun K hK => ?_)
      unfold Oper.wp execOp
      simp only [Instr.storeAt, Instr.sureAddr, Sem.run_bind, Sem.run_pure, Result.andThen_ok]
      simp [Act.eval, e1, Oper.upon]
      refine hK.out _ _ trivial (fun _ => ?_)
      clear hK K
      try simp only [Act.put, List.setIfInBounds_toArray, List.set_cons_zero, List.set_cons_succ]
      refine take_one (i := 14) rfl (by kernel_rfl) rfl (fun K hK => ?_)
      unfold Oper.wp execOp
      simp only [Instr.storeAt, Instr.sureAddr, Sem.run_bind, Sem.run_pure, Result.andThen_ok]
      simp [Act.eval, e2, Oper.upon]
      refine hK.out _ _ trivial (fun _ => ?_)
      clear hK K
      try simp only [Act.put, List.setIfInBounds_toArray, List.set_cons_zero, List.set_cons_succ]
      refine take_one (i := 15) rfl (by kernel_rfl) rfl (fun K hK => ?_)
      unfold Oper.wp execOp
      simp only [Instr.storeAt, Instr.sureAddr, Sem.run_bind, Sem.run_pure, Result.andThen_ok]
      simp [Act.eval, e3, Oper.upon]
      refine hK.out _ _ trivial (fun _ => ?_)
      clear hK K
      try simp only [Act.put, List.setIfInBounds_toArray, List.set_cons_zero, List.set_cons_succ]
      refine wpAnyH_done (by kernel_rfl) ?_ _
      refine NoPanic.normal ?_
      clear e1 e2 e3 H
      go_wp2_with fail
      go_meet
      case rel => exact ⟨_, _, _, rfl, rfl, rfl, F⟩)
    have ST3_7_10_11_12 : Hid (∀ b1 b2 b3, ∀ W : World, st3 w W (some b1) (some b2) (some b3) → G 4 (((((l0.setIfInBounds 3 true).setIfInBounds 7 true).setIfInBounds 10 true).setIfInBounds 11 true).setIfInBounds 12 true) (((((a0.put (some 35) (.agg (rowV 32 (arrV A)))).put (some 39) (.agg (rowV 32 (arrV B)))).put (some 7) (.pointer (some ⟨b1, 0, none⟩))).put (some 8) (.pointer (some ⟨b2, 0, none⟩))).put (some 9) (.pointer (some ⟨b3, 0, none⟩))) W) := (show ∀ b1 b2 b3, ∀ W : World, st3 w W (some b1) (some b2) (some b3) → G 4 (((((l0.setIfInBounds 3 true).setIfInBounds 7 true).setIfInBounds 10 true).setIfInBounds 11 true).setIfInBounds 12 true) (((((a0.put (some 35) (.agg (rowV 32 (arrV A)))).put (some 39) (.agg (rowV 32 (arrV B)))).put (some 7) (.pointer (some ⟨b1, 0, none⟩))).put (some 8) (.pointer (some ⟨b2, 0, none⟩))).put (some 9) (.pointer (some ⟨b3, 0, none⟩))) W from by
      intro b1 b2 b3 W H
      rw [HA0.out, HL0.out, HG.out]
      try simp only [Act.put, List.setIfInBounds_toArray, List.set_cons_zero, List.set_cons_succ]
      refine take_one (i := 9) rfl (by kernel_rfl) rfl (fun K hK => ?_)
      go_simp
      refine Calls.mono (RC.out _ H.1) ?_
      rintro e W2 ⟨rfl, hb⟩
      have H2 := H.call hb
      refine hK.out _ _ trivial (fun _ => ?_)
      try simp only [Act.put, List.setIfInBounds_toArray, List.set_cons_zero, List.set_cons_succ]
      have T := ST3_7_9_10_11_12.out b1 b2 b3 W2 H2
      rw [HA0.out, HL0.out, HG.out] at T
      try simp only [Act.put, List.setIfInBounds_toArray, List.set_cons_zero, List.set_cons_succ] at T
      exact lcong (by kernel_rfl) T)
    have ST3_7_9_10_11 : Hid (∀ b1 b2, ∀ W : World, st3 w W (some b1) (some b2) none → G 4 (((((l0.setIfInBounds 3 true).setIfInBounds 7 true).setIfInBounds 9 true).setIfInBounds 10 true).setIfInBounds 11 true) (((((a0.put (some 35) (.agg (rowV 32 (arrV A)))).put (some 39) (.agg (rowV 32 (arrV B)))).put (some 41) (.agg (rowV 32 (arrV C)))).put (some 7) (.pointer (some ⟨b1, 0, none⟩))).put (some 8) (.pointer (some ⟨b2, 0, none⟩))) W) := (show ∀ b1 b2, ∀ W : World, st3 w W (some b1) (some b2) none → G 4 (((((l0.setIfInBounds 3 true).setIfInBounds 7 true).setIfInBounds 9 true).setIfInBounds 10 true).setIfInBounds 11 true) (((((a0.put (some 35) (.agg (rowV 32 (arrV A)))).put (some 39) (.agg (rowV 32 (arrV B)))).put (some 41) (.agg (rowV 32 (arrV C)))).put (some 7) (.pointer (some ⟨b1, 0, none⟩))).put (some 8) (.pointer (some ⟨b2, 0, none⟩))) W from by
      intro b1 b2 W H
      rw [HA0.out, HL0.out, HG.out]
      try simp only [Act.put, List.setIfInBounds_toArray, List.set_cons_zero, List.set_cons_succ]
      refine take_one (i := 12) rfl (by kernel_rfl) rfl (fun K hK => ?_)
      obtain ⟨W2, b3, hr, H2⟩ := H.al3
      refine wp_of_run (exec_allocR rfl hr) ?_
      refine hK.out _ _ trivial (fun _ => ?_)
      try simp only [Act.put, List.setIfInBounds_toArray, List.set_cons_zero, List.set_cons_succ]
      have T := ST3_7_9_10_11_12.out b1 b2 b3 W2 H2
      rw [HA0.out, HL0.out, HG.out] at T
      try simp only [Act.put, List.setIfInBounds_toArray, List.set_cons_zero, List.set_cons_succ] at T
      exact lcong (by kernel_rfl) T)
    have ST3_7_9_10_12 : Hid (∀ b1 b3, ∀ W : World, st3 w W (some b1) none (some b3) → G 4 (((((l0.setIfInBounds 3 true).setIfInBounds 7 true).setIfInBounds 9 true).setIfInBounds 10 true).setIfInBounds 12 true) (((((a0.put (some 35) (.agg (rowV 32 (arrV A)))).put (some 39) (.agg (rowV 32 (arrV B)))).put (some 41) (.agg (rowV 32 (arrV C)))).put (some 7) (.pointer (some ⟨b1, 0, none⟩))).put (some 9) (.pointer (some ⟨b3, 0, none⟩))) W) := (show ∀ b1 b3, ∀ W : World, st3 w W (some b1) none (some b3) → G 4 (((((l0.setIfInBounds 3 true).setIfInBounds 7 true).setIfInBounds 9 true).setIfInBounds 10 true).setIfInBounds 12 true) (((((a0.put (some 35) (.agg (rowV 32 (arrV A)))).put (some 39) (.agg (rowV 32 (arrV B)))).put (some 41) (.agg (rowV 32 (arrV C)))).put (some 7) (.pointer (some ⟨b1, 0, none⟩))).put (some 9) (.pointer (some ⟨b3, 0, none⟩))) W from by
      intro b1 b3 W H
      rw [HA0.out, HL0.out, HG.out]
      try simp only [Act.put, List.setIfInBounds_toArray, List.set_cons_zero, List.set_cons_succ]
      refine take_one (i := 11) rfl (by kernel_rfl) rfl (fun K hK => ?_)
      obtain ⟨W2, b2, hr, H2⟩ := H.al2
      refine wp_of_run (exec_allocR rfl hr) ?_
      refine hK.out _ _ trivial (fun _ => ?_)
      try simp only [Act.put, List.setIfInBounds_toArray, List.set_cons_zero, List.set_cons_succ]
      have T := ST3_7_9_10_11_12.out b1 b2 b3 W2 H2
      rw [HA0.out, HL0.out, HG.out] at T
      try simp only [Act.put, List.setIfInBounds_toArray, List.set_cons_zero, List.set_cons_succ] at T
      exact lcong (by kernel_rfl) T)
    have ST3_7_9_11_12 : Hid (∀ b2 b3, ∀ W : World, st3 w W none (some b2) (some b3) → G 4 (((((l0.setIfInBounds 3 true).setIfInBounds 7 true).setIfInBounds 9 true).setIfInBounds 11 true).setIfInBounds 12 true) (((((a0.put (some 35) (.agg (rowV 32 (arrV A)))).put (some 39) (.agg (rowV 32 (arrV B)))).put (some 41) (.agg (rowV 32 (arrV C)))).put (some 8) (.pointer (some ⟨b2, 0, none⟩))).put (some 9) (.pointer (some ⟨b3, 0, none⟩))) W) := (show ∀ b2 b3, ∀ W : World, st3 w W none (some b2) (some b3) → G 4 (((((l0.setIfInBounds 3 true).setIfInBounds 7 true).setIfInBounds 9 true).setIfInBounds 11 true).setIfInBounds 12 true) (((((a0.put (some 35) (.agg (rowV 32 (arrV A)))).put (some 39) (.agg (rowV 32 (arrV B)))).put (some 41) (.agg (rowV 32 (arrV C)))).put (some 8) (.pointer (some ⟨b2, 0, none⟩))).put (some 9) (.pointer (some ⟨b3, 0, none⟩))) W from by
      intro b2 b3 W H
      rw [HA0.out, HL0.out, HG.out]
      try simp only [Act.put, List.setIfInBounds_toArray, List.set_cons_zero, List.set_cons_succ]
      refine take_one (i := 10) rfl (by kernel_rfl) rfl (fun K hK => ?_)
      obtain ⟨W2, b1, hr, H2⟩ := H.al1
      refine wp_of_run (exec_allocR rfl hr) ?_
      refine hK.out _ _ trivial (fun _ => ?_)
      try simp only [Act.put, List.setIfInBounds_toArray, List.set_cons_zero, List.set_cons_succ]
      have T := ST3_7_9_10_11_12.out b1 b2 b3 W2 H2
      rw [HA0.out, HL0.out, HG.out] at T
      try simp only [Act.put, List.setIfInBounds_toArray, List.set_cons_zero, List.set_cons_succ] at T
      exact lcong (by kernel_rfl) T)
    have ST3_10_11_12 : Hid (∀ b1 b2 b3, ∀ W : World, st3 w W (some b1) (some b2) (some b3) → G 5 ((((l0.setIfInBounds 3 true).setIfInBounds 10 true).setIfInBounds 11 true).setIfInBounds 12 true) ((((a0.put (some 35) (.agg (rowV 32 (arrV A)))).put (some 7) (.pointer (some ⟨b1, 0, none⟩))).put (some 8) (.pointer (some ⟨b2, 0, none⟩))).put (some 9) (.pointer (some ⟨b3, 0, none⟩))) W) := (show ∀ b1 b2 b3, ∀ W : World, st3 w W (some b1) (some b2) (some b3) → G 5 ((((l0.setIfInBounds 3 true).setIfInBounds 10 true).setIfInBounds 11 true).setIfInBounds 12 true) ((((a0.put (some 35) (.agg (rowV 32 (arrV A)))).put (some 7) (.pointer (some ⟨b1, 0, none⟩))).put (some 8) (.pointer (some ⟨b2, 0, none⟩))).put (some 9) (.pointer (some ⟨b3, 0, none⟩))) W from by
      intro b1 b2 b3 W H
      rw [HA0.out, HL0.out, HG.out]
      try simp only [Act.put, List.setIfInBounds_toArray, List.set_cons_zero, List.set_cons_succ]
      refine take_one (i := 7) rfl (by kernel_rfl) rfl (fun K hK => ?_)
      go_simp
      refine Calls.mono (RB.out _ H.1) ?_
      rintro e W2 ⟨rfl, hb⟩
      have H2 := H.call hb
      refine hK.out _ _ trivial (fun _ => ?_)
      try simp only [Act.put, List.setIfInBounds_toArray, List.set_cons_zero, List.set_cons_succ]
      have T := ST3_7_10_11_12.out b1 b2 b3 W2 H2
      rw [HA0.out, HL0.out, HG.out] at T
      try simp only [Act.put, List.setIfInBounds_toArray, List.set_cons_zero, List.set_cons_succ] at T
      exact lcong (by kernel_rfl) T)
    have ST3_7_10_11 : Hid (∀ b1 b2, ∀ W : World, st3 w W (some b1) (some b2) none → G 5 ((((l0.setIfInBounds 3 true).setIfInBounds 7 true).setIfInBounds 10 true).setIfInBounds 11 true) ((((a0.put (some 35) (.agg (rowV 32 (arrV A)))).put (some 39) (.agg (rowV 32 (arrV B)))).put (some 7) (.pointer (some ⟨b1, 0, none⟩))).put (some 8) (.pointer (some ⟨b2, 0, none⟩))) W) := (show ∀ b1 b2, ∀ W : World, st3 w W (some b1) (some b2) none → G 5 ((((l0.setIfInBounds 3 true).setIfInBounds 7 true).setIfInBounds 10 true).setIfInBounds 11 true) ((((a0.put (some 35) (.agg (rowV 32 (arrV A)))).put (some 39) (.agg (rowV 32 (arrV B)))).put (some 7) (.pointer (some ⟨b1, 0, none⟩))).put (some 8) (.pointer (some ⟨b2, 0, none⟩))) W from by
      intro b1 b2 W H
      rw [HA0.out, HL0.out, HG.out]
      try simp only [Act.put, List.setIfInBounds_toArray, List.set_cons_zero, List.set_cons_succ]
      refine take_pair (i := 9) (j := 12) rfl rfl (by kernel_rfl) rfl rfl (fun K hK => ?_) (fun K hK => ?_)
      · go_simp
        refine Calls.mono (RC.out _ H.1) ?_
        rintro e W2 ⟨rfl, hb⟩
        have H2 := H.call hb
        refine hK.out _ _ trivial (fun _ => ?_)
        try simp only [Act.put, List.setIfInBounds_toArray, List.set_cons_zero, List.set_cons_succ]
        have T := ST3_7_9_10_11.out b1 b2 W2 H2
        rw [HA0.out, HL0.out, HG.out] at T
        try simp only [Act.put, List.setIfInBounds_toArray, List.set_cons_zero, List.set_cons_succ] at T
        exact lcong (by kernel_rfl) T
      · obtain ⟨W2, b3, hr, H2⟩ := H.al3
        refine wp_of_run (exec_allocR rfl hr) ?_
        refine hK.out _ _ trivial (fun _ => ?_)
        try simp only [Act.put, List.setIfInBounds_toArray, List.set_cons_zero, List.set_cons_succ]
        have T := ST3_7_10_11_12.out b1 b2 b3 W2 H2
        rw [HA0.out, HL0.out, HG.out] at T
        try simp only [Act.put, List.setIfInBounds_toArray, List.set_cons_zero, List.set_cons_succ] at T
        exact lcong (by kernel_rfl) T)
    have ST3_7_10_12 : Hid (∀ b1 b3, ∀ W : World, st3 w W (some b1) none (some b3) → G 5 ((((l0.setIfInBounds 3 true).setIfInBounds 7 true).setIfInBounds 10 true).setIfInBounds 12 true) ((((a0.put (some 35) (.agg (rowV 32 (arrV A)))).put (some 39) (.agg (rowV 32 (arrV B)))).put (some 7) (.pointer (some ⟨b1, 0, none⟩))).put (some 9) (.pointer (some ⟨b3, 0, none⟩))) W) := (show ∀ b1 b3, ∀ W : World, st3 w W (some b1) none (some b3) → G 5 ((((l0.setIfInBounds 3 true).setIfInBounds 7 true).setIfInBounds 10 true).setIfInBounds 12 true) ((((a0.put (some 35) (.agg (rowV 32 (arrV A)))).put (some 39) (.agg (rowV 32 (arrV B)))).put (some 7) (.pointer (some ⟨b1, 0, none⟩))).put (some 9) (.pointer (some ⟨b3, 0, none⟩))) W from by
      intro b1 b3 W H
      rw [HA0.out, HL0.out, HG.out]
      try simp only [Act.put, List.setIfInBounds_toArray, List.set_cons_zero, List.set_cons_succ]
      refine take_pair (i := 9) (j := 11) rfl rfl (by kernel_rfl) rfl rfl (fun K hK => ?_) (fun K hK => ?_)
      · go_simp
        refine Calls.mono (RC.out _ H.1) ?_
        rintro e W2 ⟨rfl, hb⟩
        have H2 := H.call hb
        refine hK.out _ _ trivial (fun _ => ?_)
        try simp only [Act.put, List.setIfInBounds_toArray, List.set_cons_zero, List.set_cons_succ]
        have T := ST3_7_9_10_12.out b1 b3 W2 H2
        rw [HA0.out, HL0.out, HG.out] at T
        try simp only [Act.put, List.setIfInBounds_toArray, List.set_cons_zero, List.set_cons_succ] at T
        exact lcong (by kernel_rfl) T
      · obtain ⟨W2, b2, hr, H2⟩ := H.al2
        refine wp_of_run (exec_allocR rfl hr) ?_
        refine hK.out _ _ trivial (fun _ => ?_)
        try simp only [Act.put, List.setIfInBounds_toArray, List.set_cons_zero, List.set_cons_succ]
        have T := ST3_7_10_11_12.out b1 b2 b3 W2 H2
        rw [HA0.out, HL0.out, HG.out] at T
        try simp only [Act.put, List.setIfInBounds_toArray, List.set_cons_zero, List.set_cons_succ] at T
        exact lcong (by kernel_rfl) T)
    have ST3_7_11_12 : Hid (∀ b2 b3, ∀ W : World, st3 w W none (some b2) (some b3) → G 5 ((((l0.setIfInBounds 3 true).setIfInBounds 7 true).setIfInBounds 11 true).setIfInBounds 12 true) ((((a0.put (some 35) (.agg (rowV 32 (arrV A)))).put (some 39) (.agg (rowV 32 (arrV B)))).put (some 8) (.pointer (some ⟨b2, 0, none⟩))).put (some 9) (.pointer (some ⟨b3, 0, none⟩))) W) := (show ∀ b2 b3, ∀ W : World, st3 w W none (some b2) (some b3) → G 5 ((((l0.setIfInBounds 3 true).setIfInBounds 7 true).setIfInBounds 11 true).setIfInBounds 12 true) ((((a0.put (some 35) (.agg (rowV 32 (arrV A)))).put (some 39) (.agg (rowV 32 (arrV B)))).put (some 8) (.pointer (some ⟨b2, 0, none⟩))).put (some 9) (.pointer (some ⟨b3, 0, none⟩))) W from by
      intro b2 b3 W H
      rw [HA0.out, HL0.out, HG.out]
      try simp only [Act.put, List.setIfInBounds_toArray, List.set_cons_zero, List.set_cons_succ]
      refine take_pair (i := 9) (j := 10) rfl rfl (by kernel_rfl) rfl rfl (fun K hK => ?_) (fun K hK => ?_)
      · go_simp
        refine Calls.mono (RC.out _ H.1) ?_
        rintro e W2 ⟨rfl, hb⟩
        have H2 := H.call hb
        refine hK.out _ _ trivial (fun _ => ?_)
        try simp only [Act.put, List.setIfInBounds_toArray, List.set_cons_zero, List.set_cons_succ]
        have T := ST3_7_9_11_12.out b2 b3 W2 H2
        rw [HA0.out, HL0.out, HG.out] at T
        try simp only [Act.put, List.setIfInBounds_toArray, List.set_cons_zero, List.set_cons_succ] at T
        exact lcong (by kernel_rfl) T
      · obtain ⟨W2, b1, hr, H2⟩ := H.al1
        refine wp_of_run (exec_allocR rfl hr) ?_
        refine hK.out _ _ trivial (fun _ => ?_)
        try simp only [Act.put, List.setIfInBounds_toArray, List.set_cons_zero, List.set_cons_succ]
        have T := ST3_7_10_11_12.out b1 b2 b3 W2 H2
        rw [HA0.out, HL0.out, HG.out] at T
        try simp only [Act.put, List.setIfInBounds_toArray, List.set_cons_zero, List.set_cons_succ] at T
        exact lcong (by kernel_rfl) T)
    have ST3_7_9_10 : Hid (∀ b1, ∀ W : World, st3 w W (some b1) none none → G 5 ((((l0.setIfInBounds 3 true).setIfInBounds 7 true).setIfInBounds 9 true).setIfInBounds 10 true) ((((a0.put (some 35) (.agg (rowV 32 (arrV A)))).put (some 39) (.agg (rowV 32 (arrV B)))).put (some 41) (.agg (rowV 32 (arrV C)))).put (some 7) (.pointer (some ⟨b1, 0, none⟩))) W) := (show ∀ b1, ∀ W : World, st3 w W (some b1) none none → G 5 ((((l0.setIfInBounds 3 true).setIfInBounds 7 true).setIfInBounds 9 true).setIfInBounds 10 true) ((((a0.put (some 35) (.agg (rowV 32 (arrV A)))).put (some 39) (.agg (rowV 32 (arrV B)))).put (some 41) (.agg (rowV 32 (arrV C)))).put (some 7) (.pointer (some ⟨b1, 0, none⟩))) W from by
      intro b1 W H
      rw [HA0.out, HL0.out, HG.out]
      try simp only [Act.put, List.setIfInBounds_toArray, List.set_cons_zero, List.set_cons_succ]
      refine take_pair (i := 11) (j := 12) rfl rfl (by kernel_rfl) rfl rfl (fun K hK => ?_) (fun K hK => ?_)
      · obtain ⟨W2, b2, hr, H2⟩ := H.al2
        refine wp_of_run (exec_allocR rfl hr) ?_
        refine hK.out _ _ trivial (fun _ => ?_)
        try simp only [Act.put, List.setIfInBounds_toArray, List.set_cons_zero, List.set_cons_succ]
        have T := ST3_7_9_10_11.out b1 b2 W2 H2
        rw [HA0.out, HL0.out, HG.out] at T
        try simp only [Act.put, List.setIfInBounds_toArray, List.set_cons_zero, List.set_cons_succ] at T
        exact lcong (by kernel_rfl) T
      · obtain ⟨W2, b3, hr, H2⟩ := H.al3
        refine wp_of_run (exec_allocR rfl hr) ?_
        refine hK.out _ _ trivial (fun _ => ?_)
        try simp only [Act.put, List.setIfInBounds_toArray, List.set_cons_zero, List.set_cons_succ]
        have T := ST3_7_9_10_12.out b1 b3 W2 H2
        rw [HA0.out, HL0.out, HG.out] at T
        try simp only [Act.put, List.setIfInBounds_toArray, List.set_cons_zero, List.set_cons_succ] at T
        exact lcong (by kernel_rfl) T)
    have ST3_7_9_11 : Hid (∀ b2, ∀ W : World, st3 w W none (some b2) none → G 5 ((((l0.setIfInBounds 3 true).setIfInBounds 7 true).setIfInBounds 9 true).setIfInBounds 11 true) ((((a0.put (some 35) (.agg (rowV 32 (arrV A)))).put (some 39) (.agg (rowV 32 (arrV B)))).put (some 41) (.agg (rowV 32 (arrV C)))).put (some 8) (.pointer (some ⟨b2, 0, none⟩))) W) := (show ∀ b2, ∀ W : World, st3 w W none (some b2) none → G 5 ((((l0.setIfInBounds 3 true).setIfInBounds 7 true).setIfInBounds 9 true).setIfInBounds 11 true) ((((a0.put (some 35) (.agg (rowV 32 (arrV A)))).put (some 39) (.agg (rowV 32 (arrV B)))).put (some 41) (.agg (rowV 32 (arrV C)))).put (some 8) (.pointer (some ⟨b2, 0, none⟩))) W from by
      intro b2 W H
      rw [HA0.out, HL0.out, HG.out]
      try simp only [Act.put, List.setIfInBounds_toArray, List.set_cons_zero, List.set_cons_succ]
      refine take_pair (i := 10) (j := 12) rfl rfl (by kernel_rfl) rfl rfl (fun K hK => ?_) (fun K hK => ?_)
      · obtain ⟨W2, b1, hr, H2⟩ := H.al1
        refine wp_of_run (exec_allocR rfl hr) ?_
        refine hK.out _ _ trivial (fun _ => ?_)
        try simp only [Act.put, List.setIfInBounds_toArray, List.set_cons_zero, List.set_cons_succ]
        have T := ST3_7_9_10_11.out b1 b2 W2 H2
        rw [HA0.out, HL0.out, HG.out] at T
        try simp only [Act.put, List.setIfInBounds_toArray, List.set_cons_zero, List.set_cons_succ] at T
        exact lcong (by kernel_rfl) T
      · obtain ⟨W2, b3, hr, H2⟩ := H.al3
        refine wp_of_run (exec_allocR rfl hr) ?_
        refine hK.out _ _ trivial (fun _ => ?_)
        try simp only [Act.put, List.setIfInBounds_toArray, List.set_cons_zero, List.set_cons_succ]
        have T := ST3_7_9_11_12.out b2 b3 W2 H2
        rw [HA0.out, HL0.out, HG.out] at T
        try simp only [Act.put, List.setIfInBounds_toArray, List.set_cons_zero, List.set_cons_succ] at T
        exact lcong (by kernel_rfl) T)
    have ST3_7_9_12 : Hid (∀ b3, ∀ W : World, st3 w W none none (some b3) → G 5 ((((l0.setIfInBounds 3 true).setIfInBounds 7 true).setIfInBounds 9 true).setIfInBounds 12 true) ((((a0.put (some 35) (.agg (rowV 32 (arrV A)))).put (some 39) (.agg (rowV 32 (arrV B)))).put (some 41) (.agg (rowV 32 (arrV C)))).put (some 9) (.pointer (some ⟨b3, 0, none⟩))) W) := (show ∀ b3, ∀ W : World, st3 w W none none (some b3) → G 5 ((((l0.setIfInBounds 3 true).setIfInBounds 7 true).setIfInBounds 9 true).setIfInBounds 12 true) ((((a0.put (some 35) (.agg (rowV 32 (arrV A)))).put (some 39) (.agg (rowV 32 (arrV B)))).put (some 41) (.agg (rowV 32 (arrV C)))).put (some 9) (.pointer (some ⟨b3, 0, none⟩))) W from by
      intro b3 W H
      rw [HA0.out, HL0.out, HG.out]
      try simp only [Act.put, List.setIfInBounds_toArray, List.set_cons_zero, List.set_cons_succ]
      refine take_pair (i := 10) (j := 11) rfl rfl (by kernel_rfl) rfl rfl (fun K hK => ?_) (fun K hK => ?_)
      · obtain ⟨W2, b1, hr, H2⟩ := H.al1
        refine wp_of_run (exec_allocR rfl hr) ?_
        refine hK.out _ _ trivial (fun _ => ?_)
        try simp only [Act.put, List.setIfInBounds_toArray, List.set_cons_zero, List.set_cons_succ]
        have T := ST3_7_9_10_12.out b1 b3 W2 H2
        rw [HA0.out, HL0.out, HG.out] at T
        try simp only [Act.put, List.setIfInBounds_toArray, List.set_cons_zero, List.set_cons_succ] at T
        exact lcong (by kernel_rfl) T
      · obtain ⟨W2, b2, hr, H2⟩ := H.al2
        refine wp_of_run (exec_allocR rfl hr) ?_
        refine hK.out _ _ trivial (fun _ => ?_)
        try simp only [Act.put, List.setIfInBounds_toArray, List.set_cons_zero, List.set_cons_succ]
        have T := ST3_7_9_11_12.out b2 b3 W2 H2
        rw [HA0.out, HL0.out, HG.out] at T
        try simp only [Act.put, List.setIfInBounds_toArray, List.set_cons_zero, List.set_cons_succ] at T
        exact lcong (by kernel_rfl) T)
    have ST10_11_12 : Hid (∀ b1 b2 b3, ∀ W : World, st3 w W (some b1) (some b2) (some b3) → G 6 (((l0.setIfInBounds 10 true).setIfInBounds 11 true).setIfInBounds 12 true) (((a0.put (some 7) (.pointer (some ⟨b1, 0, none⟩))).put (some 8) (.pointer (some ⟨b2, 0, none⟩))).put (some 9) (.pointer (some ⟨b3, 0, none⟩))) W) := (show ∀ b1 b2 b3, ∀ W : World, st3 w W (some b1) (some b2) (some b3) → G 6 (((l0.setIfInBounds 10 true).setIfInBounds 11 true).setIfInBounds 12 true) (((a0.put (some 7) (.pointer (some ⟨b1, 0, none⟩))).put (some 8) (.pointer (some ⟨b2, 0, none⟩))).put (some 9) (.pointer (some ⟨b3, 0, none⟩))) W from by
      intro b1 b2 b3 W H
      rw [HA0.out, HL0.out, HG.out]
      try simp only [Act.put, List.setIfInBounds_toArray, List.set_cons_zero, List.set_cons_succ]
      refine take_one (i := 3) rfl (by kernel_rfl) rfl (fun K hK => ?_)
      go_simp
      refine Calls.mono (RA.out _ H.1) ?_
      rintro e W2 ⟨rfl, hb⟩
      have H2 := H.call hb
      refine hK.out _ _ trivial (fun _ => ?_)
      try simp only [Act.put, List.setIfInBounds_toArray, List.set_cons_zero, List.set_cons_succ]
      have T := ST3_10_11_12.out b1 b2 b3 W2 H2
      rw [HA0.out, HL0.out, HG.out] at T
      try simp only [Act.put, List.setIfInBounds_toArray, List.set_cons_zero, List.set_cons_succ] at T
      exact lcong (by kernel_rfl) T)
    have ST3_10_11 : Hid (∀ b1 b2, ∀ W : World, st3 w W (some b1) (some b2) none → G 6 (((l0.setIfInBounds 3 true).setIfInBounds 10 true).setIfInBounds 11 true) (((a0.put (some 35) (.agg (rowV 32 (arrV A)))).put (some 7) (.pointer (some ⟨b1, 0, none⟩))).put (some 8) (.pointer (some ⟨b2, 0, none⟩))) W) := (show ∀ b1 b2, ∀ W : World, st3 w W (some b1) (some b2) none → G 6 (((l0.setIfInBounds 3 true).setIfInBounds 10 true).setIfInBounds 11 true) (((a0.put (some 35) (.agg (rowV 32 (arrV A)))).put (some 7) (.pointer (some ⟨b1, 0, none⟩))).put (some 8) (.pointer (some ⟨b2, 0, none⟩))) W from by
      intro b1 b2 W H
      rw [HA0.out, HL0.out, HG.out]
      try simp only [Act.put, List.setIfInBounds_toArray, List.set_cons_zero, List.set_cons_succ]
      refine take_pair (i := 7) (j := 12) rfl rfl (by kernel_rfl) rfl rfl (fun K hK => ?_) (fun K hK => ?_)
      · go_simp
        refine Calls.mono (RB.out _ H.1) ?_
        rintro e W2 ⟨rfl, hb⟩
        have H2 := H.call hb
        refine hK.out _ _ trivial (fun _ => ?_)
        try simp only [Act.put, List.setIfInBounds_toArray, List.set_cons_zero, List.set_cons_succ]
        have T := ST3_7_10_11.out b1 b2 W2 H2
        rw [HA0.out, HL0.out, HG.out] at T
        try simp only [Act.put, List.setIfInBounds_toArray, List.set_cons_zero, List.set_cons_succ] at T
        exact lcong (by kernel_rfl) T
      · obtain ⟨W2, b3, hr, H2⟩ := H.al3
        refine wp_of_run (exec_allocR rfl hr) ?_
        refine hK.out _ _ trivial (fun _ => ?_)
        try simp only [Act.put, List.setIfInBounds_toArray, List.set_cons_zero, List.set_cons_succ]
        have T := ST3_10_11_12.out b1 b2 b3 W2 H2
        rw [HA0.out, HL0.out, HG.out] at T
        try simp only [Act.put, List.setIfInBounds_toArray, List.set_cons_zero, List.set_cons_succ] at T
        exact lcong (by kernel_rfl) T)
    have ST3_10_12 : Hid (∀ b1 b3, ∀ W : World, st3 w W (some b1) none (some b3) → G 6 (((l0.setIfInBounds 3 true).setIfInBounds 10 true).setIfInBounds 12 true) (((a0.put (some 35) (.agg (rowV 32 (arrV A)))).put (some 7) (.pointer (some ⟨b1, 0, none⟩))).put (some 9) (.pointer (some ⟨b3, 0, none⟩))) W) := (show ∀ b1 b3, ∀ W : World, st3 w W (some b1) none (some b3) → G 6 (((l0.setIfInBounds 3 true).setIfInBounds 10 true).setIfInBounds 12 true) (((a0.put (some 35) (.agg (rowV 32 (arrV A)))).put (some 7) (.pointer (some ⟨b1, 0, none⟩))).put (some 9) (.pointer (some ⟨b3, 0, none⟩))) W from by
      intro b1 b3 W H
      rw [HA0.out, HL0.out, HG.out]
      try simp only [Act.put, List.setIfInBounds_toArray, List.set_cons_zero, List.set_cons_succ]
      refine take_pair (i := 7) (j := 11) rfl rfl (by kernel_rfl) rfl rfl (fun K hK => ?_) (fun K hK => ?_)
      · go_simp
        refine Calls.mono (RB.out _ H.1) ?_
        rintro e W2 ⟨rfl, hb⟩
        have H2 := H.call hb
        refine hK.out _ _ trivial (fun _ => ?_)
        try simp only [Act.put, List.setIfInBounds_toArray, List.set_cons_zero, List.set_cons_succ]
        have T := ST3_7_10_12.out b1 b3 W2 H2
        rw [HA0.out, HL0.out, HG.out] at T
        try simp only [Act.put, List.setIfInBounds_toArray, List.set_cons_zero, List.set_cons_succ] at T
        exact lcong (by kernel_rfl) T
      · obtain ⟨W2, b2, hr, H2⟩ := H.al2
        refine wp_of_run (exec_allocR rfl hr) ?_
        refine hK.out _ _ trivial (fun _ => ?_)
        try simp only [Act.put, List.setIfInBounds_toArray, List.set_cons_zero, List.set_cons_succ]
        have T := ST3_10_11_12.out b1 b2 b3 W2 H2
        rw [HA0.out, HL0.out, HG.out] at T
        try simp only [Act.put, List.setIfInBounds_toArray, List.set_cons_zero, List.set_cons_succ] at T
        exact lcong (by kernel_rfl) T)
    have ST3_11_12 : Hid (∀ b2 b3, ∀ W : World, st3 w W none (some b2) (some b3) → G 6 (((l0.setIfInBounds 3 true).setIfInBounds 11 true).setIfInBounds 12 true) (((a0.put (some 35) (.agg (rowV 32 (arrV A)))).put (some 8) (.pointer (some ⟨b2, 0, none⟩))).put (some 9) (.pointer (some ⟨b3, 0, none⟩))) W) := (show ∀ b2 b3, ∀ W : World, st3 w W none (some b2) (some b3) → G 6 (((l0.setIfInBounds 3 true).setIfInBounds 11 true).setIfInBounds 12 true) (((a0.put (some 35) (.agg (rowV 32 (arrV A)))).put (some 8) (.pointer (some ⟨b2, 0, none⟩))).put (some 9) (.pointer (some ⟨b3, 0, none⟩))) W from by
      intro b2 b3 W H
      rw [HA0.out, HL0.out, HG.out]
      try simp only [Act.put, List.setIfInBounds_toArray, List.set_cons_zero, List.set_cons_succ]
      refine take_pair (i := 7) (j := 10) rfl rfl (by kernel_rfl) rfl rfl (fun K hK => ?_) (fun K hK => ?_)
      · go_simp
        refine Calls.mono (RB.out _ H.1) ?_
        rintro e W2 ⟨rfl, hb⟩
        have H2 := H.call hb
        refine hK.out _ _ trivial (fun _ => ?_)
        try simp only [Act.put, List.setIfInBounds_toArray, List.set_cons_zero, List.set_cons_succ]
        have T := ST3_7_11_12.out b2 b3 W2 H2
        rw [HA0.out, HL0.out, HG.out] at T
        try simp only [Act.put, List.setIfInBounds_toArray, List.set_cons_zero, List.set_cons_succ] at T
        exact lcong (by kernel_rfl) T
      · obtain ⟨W2, b1, hr, H2⟩ := H.al1
        refine wp_of_run (exec_allocR rfl hr) ?_
        refine hK.out _ _ trivial (fun _ => ?_)
        try simp only [Act.put, List.setIfInBounds_toArray, List.set_cons_zero, List.set_cons_succ]
        have T := ST3_10_11_12.out b1 b2 b3 W2 H2
        rw [HA0.out, HL0.out, HG.out] at T
        try simp only [Act.put, List.setIfInBounds_toArray, List.set_cons_zero, List.set_cons_succ] at T
        exact lcong (by kernel_rfl) T)
    have ST3_7_10 : Hid (∀ b1, ∀ W : World, st3 w W (some b1) none none → G 6 (((l0.setIfInBounds 3 true).setIfInBounds 7 true).setIfInBounds 10 true) (((a0.put (some 35) (.agg (rowV 32 (arrV A)))).put (some 39) (.agg (rowV 32 (arrV B)))).put (some 7) (.pointer (some ⟨b1, 0, none⟩))) W) := (show ∀ b1, ∀ W : World, st3 w W (some b1) none none → G 6 (((l0.setIfInBounds 3 true).setIfInBounds 7 true).setIfInBounds 10 true) (((a0.put (some 35) (.agg (rowV 32 (arrV A)))).put (some 39) (.agg (rowV 32 (arrV B)))).put (some 7) (.pointer (some ⟨b1, 0, none⟩))) W from by
      intro b1 W H
      rw [HA0.out, HL0.out, HG.out]
      try simp only [Act.put, List.setIfInBounds_toArray, List.set_cons_zero, List.set_cons_succ]
      refine take_threeG (i := 9) (j := 11) (k := 12) rfl rfl rfl (by kernel_rfl) rfl rfl rfl (fun K hK => ?_) (fun K hK => ?_) (fun K hK => ?_)
      · go_simp
        refine Calls.mono (RC.out _ H.1) ?_
        rintro e W2 ⟨rfl, hb⟩
        have H2 := H.call hb
        refine hK.out _ _ trivial (fun _ => ?_)
        try simp only [Act.put, List.setIfInBounds_toArray, List.set_cons_zero, List.set_cons_succ]
        have T := ST3_7_9_10.out b1 W2 H2
        rw [HA0.out, HL0.out, HG.out] at T
        try simp only [Act.put, List.setIfInBounds_toArray, List.set_cons_zero, List.set_cons_succ] at T
        exact lcong (by kernel_rfl) T
      · obtain ⟨W2, b2, hr, H2⟩ := H.al2
        refine wp_of_run (exec_allocR rfl hr) ?_
        refine hK.out _ _ trivial (fun _ => ?_)
        try simp only [Act.put, List.setIfInBounds_toArray, List.set_cons_zero, List.set_cons_succ]
        have T := ST3_7_10_11.out b1 b2 W2 H2
        rw [HA0.out, HL0.out, HG.out] at T
        try simp only [Act.put, List.setIfInBounds_toArray, List.set_cons_zero, List.set_cons_succ] at T
        exact lcong (by kernel_rfl) T
      · obtain ⟨W2, b3, hr, H2⟩ := H.al3
        refine wp_of_run (exec_allocR rfl hr) ?_
        refine hK.out _ _ trivial (fun _ => ?_)
        try simp only [Act.put, List.setIfInBounds_toArray, List.set_cons_zero, List.set_cons_succ]
        have T := ST3_7_10_12.out b1 b3 W2 H2
        rw [HA0.out, HL0.out, HG.out] at T
        try simp only [Act.put, List.setIfInBounds_toArray, List.set_cons_zero, List.set_cons_succ] at T
        exact lcong (by kernel_rfl) T)
    have ST3_7_11 : Hid (∀ b2, ∀ W : World, st3 w W none (some b2) none → G 6 (((l0.setIfInBounds 3 true).setIfInBounds 7 true).setIfInBounds 11 true) (((a0.put (some 35) (.agg (rowV 32 (arrV A)))).put (some 39) (.agg (rowV 32 (arrV B)))).put (some 8) (.pointer (some ⟨b2, 0, none⟩))) W) := (show ∀ b2, ∀ W : World, st3 w W none (some b2) none → G 6 (((l0.setIfInBounds 3 true).setIfInBounds 7 true).setIfInBounds 11 true) (((a0.put (some 35) (.agg (rowV 32 (arrV A)))).put (some 39) (.agg (rowV 32 (arrV B)))).put (some 8) (.pointer (some ⟨b2, 0, none⟩))) W from by
      intro b2 W H
      rw [HA0.out, HL0.out, HG.out]
      try simp only [Act.put, List.setIfInBounds_toArray, List.set_cons_zero, List.set_cons_succ]
      refine take_threeG (i := 9) (j := 10) (k := 12) rfl rfl rfl (by kernel_rfl) rfl rfl rfl (fun K hK => ?_) (fun K hK => ?_) (fun K hK => ?_)
      · go_simp
        refine Calls.mono (RC.out _ H.1) ?_
        rintro e W2 ⟨rfl, hb⟩
        have H2 := H.call hb
        refine hK.out _ _ trivial (fun _ => ?_)
        try simp only [Act.put, List.setIfInBounds_toArray, List.set_cons_zero, List.set_cons_succ]
        have T := ST3_7_9_11.out b2 W2 H2
        rw [HA0.out, HL0.out, HG.out] at T
        try simp only [Act.put, List.setIfInBounds_toArray, List.set_cons_zero, List.set_cons_succ] at T
        exact lcong (by kernel_rfl) T
      · obtain ⟨W2, b1, hr, H2⟩ := H.al1
        refine wp_of_run (exec_allocR rfl hr) ?_
        refine hK.out _ _ trivial (fun _ => ?_)
        try simp only [Act.put, List.setIfInBounds_toArray, List.set_cons_zero, List.set_cons_succ]
        have T := ST3_7_10_11.out b1 b2 W2 H2
        rw [HA0.out, HL0.out, HG.out] at T
        try simp only [Act.put, List.setIfInBounds_toArray, List.set_cons_zero, List.set_cons_succ] at T
        exact lcong (by kernel_rfl) T
      · obtain ⟨W2, b3, hr, H2⟩ := H.al3
        refine wp_of_run (exec_allocR rfl hr) ?_
        refine hK.out _ _ trivial (fun _ => ?_)
        try simp only [Act.put, List.setIfInBounds_toArray, List.set_cons_zero, List.set_cons_succ]
        have T := ST3_7_11_12.out b2 b3 W2 H2
        rw [HA0.out, HL0.out, HG.out] at T
        try simp only [Act.put, List.setIfInBounds_toArray, List.set_cons_zero, List.set_cons_succ] at T
        exact lcong (by kernel_rfl) T)
    have ST3_7_12 : Hid (∀ b3, ∀ W : World, st3 w W none none (some b3) → G 6 (((l0.setIfInBounds 3 true).setIfInBounds 7 true).setIfInBounds 12 true) (((a0.put (some 35) (.agg (rowV 32 (arrV A)))).put (some 39) (.agg (rowV 32 (arrV B)))).put (some 9) (.pointer (some ⟨b3, 0, none⟩))) W) := (show ∀ b3, ∀ W : World, st3 w W none none (some b3) → G 6 (((l0.setIfInBounds 3 true).setIfInBounds 7 true).setIfInBounds 12 true) (((a0.put (some 35) (.agg (rowV 32 (arrV A)))).put (some 39) (.agg (rowV 32 (arrV B)))).put (some 9) (.pointer (some ⟨b3, 0, none⟩))) W from by
      intro b3 W H
      rw [HA0.out, HL0.out, HG.out]
      try simp only [Act.put, List.setIfInBounds_toArray, List.set_cons_zero, List.set_cons_succ]
      refine take_threeG (i := 9) (j := 10) (k := 11) rfl rfl rfl (by kernel_rfl) rfl rfl rfl (fun K hK => ?_) (fun K hK => ?_) (fun K hK => ?_)
      · go_simp
        refine Calls.mono (RC.out _ H.1) ?_
        rintro e W2 ⟨rfl, hb⟩
        have H2 := H.call hb
        refine hK.out _ _ trivial (fun _ => ?_)
        try simp only [Act.put, List.setIfInBounds_toArray, List.set_cons_zero, List.set_cons_succ]
        have T := ST3_7_9_12.out b3 W2 H2
        rw [HA0.out, HL0.out, HG.out] at T
        try simp only [Act.put, List.setIfInBounds_toArray, List.set_cons_zero, List.set_cons_succ] at T
        exact lcong (by kernel_rfl) T
      · obtain ⟨W2, b1, hr, H2⟩ := H.al1
        refine wp_of_run (exec_allocR rfl hr) ?_
        refine hK.out _ _ trivial (fun _ => ?_)
        try simp only [Act.put, List.setIfInBounds_toArray, List.set_cons_zero, List.set_cons_succ]
        have T := ST3_7_10_12.out b1 b3 W2 H2
        rw [HA0.out, HL0.out, HG.out] at T
        try simp only [Act.put, List.setIfInBounds_toArray, List.set_cons_zero, List.set_cons_succ] at T
        exact lcong (by kernel_rfl) T
      · obtain ⟨W2, b2, hr, H2⟩ := H.al2
        refine wp_of_run (exec_allocR rfl hr) ?_
        refine hK.out _ _ trivial (fun _ => ?_)
        try simp only [Act.put, List.setIfInBounds_toArray, List.set_cons_zero, List.set_cons_succ]
        have T := ST3_7_11_12.out b2 b3 W2 H2
        rw [HA0.out, HL0.out, HG.out] at T
        try simp only [Act.put, List.setIfInBounds_toArray, List.set_cons_zero, List.set_cons_succ] at T
        exact lcong (by kernel_rfl) T)
    have ST3_7_9 : Hid (∀ W : World, st3 w W none none none → G 6 (((l0.setIfInBounds 3 true).setIfInBounds 7 true).setIfInBounds 9 true) (((a0.put (some 35) (.agg (rowV 32 (arrV A)))).put (some 39) (.agg (rowV 32 (arrV B)))).put (some 41) (.agg (rowV 32 (arrV C)))) W) := (show ∀ W : World, st3 w W none none none → G 6 (((l0.setIfInBounds 3 true).setIfInBounds 7 true).setIfInBounds 9 true) (((a0.put (some 35) (.agg (rowV 32 (arrV A)))).put (some 39) (.agg (rowV 32 (arrV B)))).put (some 41) (.agg (rowV 32 (arrV C)))) W from by
      intro  W H
      rw [HA0.out, HL0.out, HG.out]
      try simp only [Act.put, List.setIfInBounds_toArray, List.set_cons_zero, List.set_cons_succ]
      refine take_threeG (i := 10) (j := 11) (k := 12) rfl rfl rfl (by kernel_rfl) rfl rfl rfl (fun K hK => ?_) (fun K hK => ?_) (fun K hK => ?_)
      · obtain ⟨W2, b1, hr, H2⟩ := H.al1
        refine wp_of_run (exec_allocR rfl hr) ?_
        refine hK.out _ _ trivial (fun _ => ?_)
        try simp only [Act.put, List.setIfInBounds_toArray, List.set_cons_zero, List.set_cons_succ]
        have T := ST3_7_9_10.out b1 W2 H2
        rw [HA0.out, HL0.out, HG.out] at T
        try simp only [Act.put, List.setIfInBounds_toArray, List.set_cons_zero, List.set_cons_succ] at T
        exact lcong (by kernel_rfl) T
      · obtain ⟨W2, b2, hr, H2⟩ := H.al2
        refine wp_of_run (exec_allocR rfl hr) ?_
        refine hK.out _ _ trivial (fun _ => ?_)
        try simp only [Act.put, List.setIfInBounds_toArray, List.set_cons_zero, List.set_cons_succ]
        have T := ST3_7_9_11.out b2 W2 H2
        rw [HA0.out, HL0.out, HG.out] at T
        try simp only [Act.put, List.setIfInBounds_toArray, List.set_cons_zero, List.set_cons_succ] at T
        exact lcong (by kernel_rfl) T
      · obtain ⟨W2, b3, hr, H2⟩ := H.al3
        refine wp_of_run (exec_allocR rfl hr) ?_
        refine hK.out _ _ trivial (fun _ => ?_)
        try simp only [Act.put, List.setIfInBounds_toArray, List.set_cons_zero, List.set_cons_succ]
        have T := ST3_7_9_12.out b3 W2 H2
        rw [HA0.out, HL0.out, HG.out] at T
        try simp only [Act.put, List.setIfInBounds_toArray, List.set_cons_zero, List.set_cons_succ] at T
        exact lcong (by kernel_rfl) T)
    have ST10_11 : Hid (∀ b1 b2, ∀ W : World, st3 w W (some b1) (some b2) none → G 7 ((l0.setIfInBounds 10 true).setIfInBounds 11 true) ((a0.put (some 7) (.pointer (some ⟨b1, 0, none⟩))).put (some 8) (.pointer (some ⟨b2, 0, none⟩))) W) := (show ∀ b1 b2, ∀ W : World, st3 w W (some b1) (some b2) none → G 7 ((l0.setIfInBounds 10 true).setIfInBounds 11 true) ((a0.put (some 7) (.pointer (some ⟨b1, 0, none⟩))).put (some 8) (.pointer (some ⟨b2, 0, none⟩))) W from by
      intro b1 b2 W H
      rw [HA0.out, HL0.out, HG.out]
      try simp only [Act.put, List.setIfInBounds_toArray, List.set_cons_zero, List.set_cons_succ]
      refine take_pair (i := 3) (j := 12) rfl rfl (by kernel_rfl) rfl rfl (fun K hK => ?_) (fun K hK => ?_)
      · go_simp
        refine Calls.mono (RA.out _ H.1) ?_
        rintro e W2 ⟨rfl, hb⟩
        have H2 := H.call hb
        refine hK.out _ _ trivial (fun _ => ?_)
        try simp only [Act.put, List.setIfInBounds_toArray, List.set_cons_zero, List.set_cons_succ]
        have T := ST3_10_11.out b1 b2 W2 H2
        rw [HA0.out, HL0.out, HG.out] at T
        try simp only [Act.put, List.setIfInBounds_toArray, List.set_cons_zero, List.set_cons_succ] at T
        exact lcong (by kernel_rfl) T
      · obtain ⟨W2, b3, hr, H2⟩ := H.al3
        refine wp_of_run (exec_allocR rfl hr) ?_
        refine hK.out _ _ trivial (fun _ => ?_)
        try simp only [Act.put, List.setIfInBounds_toArray, List.set_cons_zero, List.set_cons_succ]
        have T := ST10_11_12.out b1 b2 b3 W2 H2
        rw [HA0.out, HL0.out, HG.out] at T
        try simp only [Act.put, List.setIfInBounds_toArray, List.set_cons_zero, List.set_cons_succ] at T
        exact lcong (by kernel_rfl) T)
    have ST10_12 : Hid (∀ b1 b3, ∀ W : World, st3 w W (some b1) none (some b3) → G 7 ((l0.setIfInBounds 10 true).setIfInBounds 12 true) ((a0.put (some 7) (.pointer (some ⟨b1, 0, none⟩))).put (some 9) (.pointer (some ⟨b3, 0, none⟩))) W) := (show ∀ b1 b3, ∀ W : World, st3 w W (some b1) none (some b3) → G 7 ((l0.setIfInBounds 10 true).setIfInBounds 12 true) ((a0.put (some 7) (.pointer (some ⟨b1, 0, none⟩))).put (some 9) (.pointer (some ⟨b3, 0, none⟩))) W from by
      intro b1 b3 W H
      rw [HA0.out, HL0.out, HG.out]
      try simp only [Act.put, List.setIfInBounds_toArray, List.set_cons_zero, List.set_cons_succ]
      refine take_pair (i := 3) (j := 11) rfl rfl (by kernel_rfl) rfl rfl (fun K hK => ?_) (fun K hK => ?_)
      · go_simp
        refine Calls.mono (RA.out _ H.1) ?_
        rintro e W2 ⟨rfl, hb⟩
        have H2 := H.call hb
        refine hK.out _ _ trivial (fun _ => ?_)
        try simp only [Act.put, List.setIfInBounds_toArray, List.set_cons_zero, List.set_cons_succ]
        have T := ST3_10_12.out b1 b3 W2 H2
        rw [HA0.out, HL0.out, HG.out] at T
        try simp only [Act.put, List.setIfInBounds_toArray, List.set_cons_zero, List.set_cons_succ] at T
        exact lcong (by kernel_rfl) T
      · obtain ⟨W2, b2, hr, H2⟩ := H.al2
        refine wp_of_run (exec_allocR rfl hr) ?_
        refine hK.out _ _ trivial (fun _ => ?_)
        try simp only [Act.put, List.setIfInBounds_toArray, List.set_cons_zero, List.set_cons_succ]
        have T := ST10_11_12.out b1 b2 b3 W2 H2
        rw [HA0.out, HL0.out, HG.out] at T
        try simp only [Act.put, List.setIfInBounds_toArray, List.set_cons_zero, List.set_cons_succ] at T
        exact lcong (by kernel_rfl) T)
    have ST11_12 : Hid (∀ b2 b3, ∀ W : World, st3 w W none (some b2) (some b3) → G 7 ((l0.setIfInBounds 11 true).setIfInBounds 12 true) ((a0.put (some 8) (.pointer (some ⟨b2, 0, none⟩))).put (some 9) (.pointer (some ⟨b3, 0, none⟩))) W) := (show ∀ b2 b3, ∀ W : World, st3 w W none (some b2) (some b3) → G 7 ((l0.setIfInBounds 11 true).setIfInBounds 12 true) ((a0.put (some 8) (.pointer (some ⟨b2, 0, none⟩))).put (some 9) (.pointer (some ⟨b3, 0, none⟩))) W from by
      intro b2 b3 W H
      rw [HA0.out, HL0.out, HG.out]
      try simp only [Act.put, List.setIfInBounds_toArray, List.set_cons_zero, List.set_cons_succ]
      refine take_pair (i := 3) (j := 10) rfl rfl (by kernel_rfl) rfl rfl (fun K hK => ?_) (fun K hK => ?_)
      · go_simp
        refine Calls.mono (RA.out _ H.1) ?_
        rintro e W2 ⟨rfl, hb⟩
        have H2 := H.call hb
        refine hK.out _ _ trivial (fun _ => ?_)
        try simp only [Act.put, List.setIfInBounds_toArray, List.set_cons_zero, List.set_cons_succ]
        have T := ST3_11_12.out b2 b3 W2 H2
        rw [HA0.out, HL0.out, HG.out] at T
        try simp only [Act.put, List.setIfInBounds_toArray, List.set_cons_zero, List.set_cons_succ] at T
        exact lcong (by kernel_rfl) T
      · obtain ⟨W2, b1, hr, H2⟩ := H.al1
        refine wp_of_run (exec_allocR rfl hr) ?_
        refine hK.out _ _ trivial (fun _ => ?_)
        try simp only [Act.put, List.setIfInBounds_toArray, List.set_cons_zero, List.set_cons_succ]
        have T := ST10_11_12.out b1 b2 b3 W2 H2
        rw [HA0.out, HL0.out, HG.out] at T
        try simp only [Act.put, List.setIfInBounds_toArray, List.set_cons_zero, List.set_cons_succ] at T
        exact lcong (by kernel_rfl) T)
    have ST3_10 : Hid (∀ b1, ∀ W : World, st3 w W (some b1) none none → G 7 ((l0.setIfInBounds 3 true).setIfInBounds 10 true) ((a0.put (some 35) (.agg (rowV 32 (arrV A)))).put (some 7) (.pointer (some ⟨b1, 0, none⟩))) W) := (show ∀ b1, ∀ W : World, st3 w W (some b1) none none → G 7 ((l0.setIfInBounds 3 true).setIfInBounds 10 true) ((a0.put (some 35) (.agg (rowV 32 (arrV A)))).put (some 7) (.pointer (some ⟨b1, 0, none⟩))) W from by
      intro b1 W H
      rw [HA0.out, HL0.out, HG.out]
      try simp only [Act.put, List.setIfInBounds_toArray, List.set_cons_zero, List.set_cons_succ]
      refine take_threeG (i := 7) (j := 11) (k := 12) rfl rfl rfl (by kernel_rfl) rfl rfl rfl (fun K hK => ?_) (fun K hK => ?_) (fun K hK => ?_)
      · go_simp
        refine Calls.mono (RB.out _ H.1) ?_
        rintro e W2 ⟨rfl, hb⟩
        have H2 := H.call hb
        refine hK.out _ _ trivial (fun _ => ?_)
        try simp only [Act.put, List.setIfInBounds_toArray, List.set_cons_zero, List.set_cons_succ]
        have T := ST3_7_10.out b1 W2 H2
        rw [HA0.out, HL0.out, HG.out] at T
        try simp only [Act.put, List.setIfInBounds_toArray, List.set_cons_zero, List.set_cons_succ] at T
        exact lcong (by kernel_rfl) T
      · obtain ⟨W2, b2, hr, H2⟩ := H.al2
        refine wp_of_run (exec_allocR rfl hr) ?_
        refine hK.out _ _ trivial (fun _ => ?_)
        try simp only [Act.put, List.setIfInBounds_toArray, List.set_cons_zero, List.set_cons_succ]
        have T := ST3_10_11.out b1 b2 W2 H2
        rw [HA0.out, HL0.out, HG.out] at T
        try simp only [Act.put, List.setIfInBounds_toArray, List.set_cons_zero, List.set_cons_succ] at T
        exact lcong (by kernel_rfl) T
      · obtain ⟨W2, b3, hr, H2⟩ := H.al3
        refine wp_of_run (exec_allocR rfl hr) ?_
        refine hK.out _ _ trivial (fun _ => ?_)
        try simp only [Act.put, List.setIfInBounds_toArray, List.set_cons_zero, List.set_cons_succ]
        have T := ST3_10_12.out b1 b3 W2 H2
        rw [HA0.out, HL0.out, HG.out] at T
        try simp only [Act.put, List.setIfInBounds_toArray, List.set_cons_zero, List.set_cons_succ] at T
        exact lcong (by kernel_rfl) T)
    have ST3_11 : Hid (∀ b2, ∀ W : World, st3 w W none (some b2) none → G 7 ((l0.setIfInBounds 3 true).setIfInBounds 11 true) ((a0.put (some 35) (.agg (rowV 32 (arrV A)))).put (some 8) (.pointer (some ⟨b2, 0, none⟩))) W) := (show ∀ b2, ∀ W : World, st3 w W none (some b2) none → G 7 ((l0.setIfInBounds 3 true).setIfInBounds 11 true) ((a0.put (some 35) (.agg (rowV 32 (arrV A)))).put (some 8) (.pointer (some ⟨b2, 0, none⟩))) W from by
      intro b2 W H
      rw [HA0.out, HL0.out, HG.out]
      try simp only [Act.put, List.setIfInBounds_toArray, List.set_cons_zero, List.set_cons_succ]
      refine take_threeG (i := 7) (j := 10) (k := 12) rfl rfl rfl (by kernel_rfl) rfl rfl rfl (fun K hK => ?_) (fun K hK => ?_) (fun K hK => ?_)
      · go_simp
        refine Calls.mono (RB.out _ H.1) ?_
        rintro e W2 ⟨rfl, hb⟩
        have H2 := H.call hb
        refine hK.out _ _ trivial (fun _ => ?_)
        try simp only [Act.put, List.setIfInBounds_toArray, List.set_cons_zero, List.set_cons_succ]
        have T := ST3_7_11.out b2 W2 H2
        rw [HA0.out, HL0.out, HG.out] at T
        try simp only [Act.put, List.setIfInBounds_toArray, List.set_cons_zero, List.set_cons_succ] at T
        exact lcong (by kernel_rfl) T
      · obtain ⟨W2, b1, hr, H2⟩ := H.al1
        refine wp_of_run (exec_allocR rfl hr) ?_
        refine hK.out _ _ trivial (fun _ => ?_)
        try simp only [Act.put, List.setIfInBounds_toArray, List.set_cons_zero, List.set_cons_succ]
        have T := ST3_10_11.out b1 b2 W2 H2
        rw [HA0.out, HL0.out, HG.out] at T
        try simp only [Act.put, List.setIfInBounds_toArray, List.set_cons_zero, List.set_cons_succ] at T
        exact lcong (by kernel_rfl) T
      · obtain ⟨W2, b3, hr, H2⟩ := H.al3
        refine wp_of_run (exec_allocR rfl hr) ?_
        refine hK.out _ _ trivial (fun _ => ?_)
        try simp only [Act.put, List.setIfInBounds_toArray, List.set_cons_zero, List.set_cons_succ]
        have T := ST3_11_12.out b2 b3 W2 H2
        rw [HA0.out, HL0.out, HG.out] at T
        try simp only [Act.put, List.setIfInBounds_toArray, List.set_cons_zero, List.set_cons_succ] at T
        exact lcong (by kernel_rfl) T)
    have ST3_12 : Hid (∀ b3, ∀ W : World, st3 w W none none (some b3) → G 7 ((l0.setIfInBounds 3 true).setIfInBounds 12 true) ((a0.put (some 35) (.agg (rowV 32 (arrV A)))).put (some 9) (.pointer (some ⟨b3, 0, none⟩))) W) := (show ∀ b3, ∀ W : World, st3 w W none none (some b3) → G 7 ((l0.setIfInBounds 3 true).setIfInBounds 12 true) ((a0.put (some 35) (.agg (rowV 32 (arrV A)))).put (some 9) (.pointer (some ⟨b3, 0, none⟩))) W from by
      intro b3 W H
      rw [HA0.out, HL0.out, HG.out]
      try simp only [Act.put, List.setIfInBounds_toArray, List.set_cons_zero, List.set_cons_succ]
      refine take_threeG (i := 7) (j := 10) (k := 11) rfl rfl rfl (by kernel_rfl) rfl rfl rfl (fun K hK => ?_) (fun K hK => ?_) (fun K hK => ?_)
      · go_simp
        refine Calls.mono (RB.out _ H.1) ?_
        rintro e W2 ⟨rfl, hb⟩
        have H2 := H.call hb
        refine hK.out _ _ trivial (fun _ => ?_)
        try simp only [Act.put, List.setIfInBounds_toArray, List.set_cons_zero, List.set_cons_succ]
        have T := ST3_7_12.out b3 W2 H2
        rw [HA0.out, HL0.out, HG.out] at T
        try simp only [Act.put, List.setIfInBounds_toArray, List.set_cons_zero, List.set_cons_succ] at T
        exact lcong (by kernel_rfl) T
      · obtain ⟨W2, b1, hr, H2⟩ := H.al1
        refine wp_of_run (exec_allocR rfl hr) ?_
        refine hK.out _ _ trivial (fun _ => ?_)
        try simp only [Act.put, List.setIfInBounds_toArray, List.set_cons_zero, List.set_cons_succ]
        have T := ST3_10_12.out b1 b3 W2 H2
        rw [HA0.out, HL0.out, HG.out] at T
        try simp only [Act.put, List.setIfInBounds_toArray, List.set_cons_zero, List.set_cons_succ] at T
        exact lcong (by kernel_rfl) T
      · obtain ⟨W2, b2, hr, H2⟩ := H.al2
        refine wp_of_run (exec_allocR rfl hr) ?_
        refine hK.out _ _ trivial (fun _ => ?_)
        try simp only [Act.put, List.setIfInBounds_toArray, List.set_cons_zero, List.set_cons_succ]
        have T := ST3_11_12.out b2 b3 W2 H2
        rw [HA0.out, HL0.out, HG.out] at T
        try simp only [Act.put, List.setIfInBounds_toArray, List.set_cons_zero, List.set_cons_succ] at T
        exact lcong (by kernel_rfl) T)
    have ST3_7 : Hid (∀ W : World, st3 w W none none none → G 7 ((l0.setIfInBounds 3 true).setIfInBounds 7 true) ((a0.put (some 35) (.agg (rowV 32 (arrV A)))).put (some 39) (.agg (rowV 32 (arrV B)))) W) := (show ∀ W : World, st3 w W none none none → G 7 ((l0.setIfInBounds 3 true).setIfInBounds 7 true) ((a0.put (some 35) (.agg (rowV 32 (arrV A)))).put (some 39) (.agg (rowV 32 (arrV B)))) W from by
      intro  W H
      rw [HA0.out, HL0.out, HG.out]
      try simp only [Act.put, List.setIfInBounds_toArray, List.set_cons_zero, List.set_cons_succ]
      refine take_fourG (i := 9) (j := 10) (k := 11) (m := 12) rfl rfl rfl rfl (by kernel_rfl) rfl rfl rfl rfl (fun K hK => ?_) (fun K hK => ?_) (fun K hK => ?_) (fun K hK => ?_)
      · go_simp
        refine Calls.mono (RC.out _ H.1) ?_
        rintro e W2 ⟨rfl, hb⟩
        have H2 := H.call hb
        refine hK.out _ _ trivial (fun _ => ?_)
        try simp only [Act.put, List.setIfInBounds_toArray, List.set_cons_zero, List.set_cons_succ]
        have T := ST3_7_9.out  W2 H2
        rw [HA0.out, HL0.out, HG.out] at T
        try simp only [Act.put, List.setIfInBounds_toArray, List.set_cons_zero, List.set_cons_succ] at T
        exact lcong (by kernel_rfl) T
      · obtain ⟨W2, b1, hr, H2⟩ := H.al1
        refine wp_of_run (exec_allocR rfl hr) ?_
        refine hK.out _ _ trivial (fun _ => ?_)
        try simp only [Act.put, List.setIfInBounds_toArray, List.set_cons_zero, List.set_cons_succ]
        have T := ST3_7_10.out b1 W2 H2
        rw [HA0.out, HL0.out, HG.out] at T
        try simp only [Act.put, List.setIfInBounds_toArray, List.set_cons_zero, List.set_cons_succ] at T
        exact lcong (by kernel_rfl) T
      · obtain ⟨W2, b2, hr, H2⟩ := H.al2
        refine wp_of_run (exec_allocR rfl hr) ?_
        refine hK.out _ _ trivial (fun _ => ?_)
        try simp only [Act.put, List.setIfInBounds_toArray, List.set_cons_zero, List.set_cons_succ]
        have T := ST3_7_11.out b2 W2 H2
        rw [HA0.out, HL0.out, HG.out] at T
        try simp only [Act.put, List.setIfInBounds_toArray, List.set_cons_zero, List.set_cons_succ] at T
        exact lcong (by kernel_rfl) T
      · obtain ⟨W2, b3, hr, H2⟩ := H.al3
        refine wp_of_run (exec_allocR rfl hr) ?_
        refine hK.out _ _ trivial (fun _ => ?_)
        try simp only [Act.put, List.setIfInBounds_toArray, List.set_cons_zero, List.set_cons_succ]
        have T := ST3_7_12.out b3 W2 H2
        rw [HA0.out, HL0.out, HG.out] at T
        try simp only [Act.put, List.setIfInBounds_toArray, List.set_cons_zero, List.set_cons_succ] at T
        exact lcong (by kernel_rfl) T)
    have ST10 : Hid (∀ b1, ∀ W : World, st3 w W (some b1) none none → G 8 (l0.setIfInBounds 10 true) (a0.put (some 7) (.pointer (some ⟨b1, 0, none⟩))) W) := (show ∀ b1, ∀ W : World, st3 w W (some b1) none none → G 8 (l0.setIfInBounds 10 true) (a0.put (some 7) (.pointer (some ⟨b1, 0, none⟩))) W from by
      intro b1 W H
      rw [HA0.out, HL0.out, HG.out]
      try simp only [Act.put, List.setIfInBounds_toArray, List.set_cons_zero, List.set_cons_succ]
      refine take_threeG (i := 3) (j := 11) (k := 12) rfl rfl rfl (by kernel_rfl) rfl rfl rfl (fun K hK => ?_) (fun K hK => ?_) (fun K hK => ?_)
      · go_simp
        refine Calls.mono (RA.out _ H.1) ?_
        rintro e W2 ⟨rfl, hb⟩
        have H2 := H.call hb
        refine hK.out _ _ trivial (fun _ => ?_)
        try simp only [Act.put, List.setIfInBounds_toArray, List.set_cons_zero, List.set_cons_succ]
        have T := ST3_10.out b1 W2 H2
        rw [HA0.out, HL0.out, HG.out] at T
        try simp only [Act.put, List.setIfInBounds_toArray, List.set_cons_zero, List.set_cons_succ] at T
        exact lcong (by kernel_rfl) T
      · obtain ⟨W2, b2, hr, H2⟩ := H.al2
        refine wp_of_run (exec_allocR rfl hr) ?_
        refine hK.out _ _ trivial (fun _ => ?_)
        try simp only [Act.put, List.setIfInBounds_toArray, List.set_cons_zero, List.set_cons_succ]
        have T := ST10_11.out b1 b2 W2 H2
        rw [HA0.out, HL0.out, HG.out] at T
        try simp only [Act.put, List.setIfInBounds_toArray, List.set_cons_zero, List.set_cons_succ] at T
        exact lcong (by kernel_rfl) T
      · obtain ⟨W2, b3, hr, H2⟩ := H.al3
        refine wp_of_run (exec_allocR rfl hr) ?_
        refine hK.out _ _ trivial (fun _ => ?_)
        try simp only [Act.put, List.setIfInBounds_toArray, List.set_cons_zero, List.set_cons_succ]
        have T := ST10_12.out b1 b3 W2 H2
        rw [HA0.out, HL0.out, HG.out] at T
        try simp only [Act.put, List.setIfInBounds_toArray, List.set_cons_zero, List.set_cons_succ] at T
        exact lcong (by kernel_rfl) T)
    have ST11 : Hid (∀ b2, ∀ W : World, st3 w W none (some b2) none → G 8 (l0.setIfInBounds 11 true) (a0.put (some 8) (.pointer (some ⟨b2, 0, none⟩))) W) := (show ∀ b2, ∀ W : World, st3 w W none (some b2) none → G 8 (l0.setIfInBounds 11 true) (a0.put (some 8) (.pointer (some ⟨b2, 0, none⟩))) W from by
      intro b2 W H
      rw [HA0.out, HL0.out, HG.out]
      try simp only [Act.put, List.setIfInBounds_toArray, List.set_cons_zero, List.set_cons_succ]
      refine take_threeG (i := 3) (j := 10) (k := 12) rfl rfl rfl (by kernel_rfl) rfl rfl rfl (fun K hK => ?_) (fun K hK => ?_) (fun K hK => ?_)
      · go_simp
        refine Calls.mono (RA.out _ H.1) ?_
        rintro e W2 ⟨rfl, hb⟩
        have H2 := H.call hb
        refine hK.out _ _ trivial (fun _ => ?_)
        try simp only [Act.put, List.setIfInBounds_toArray, List.set_cons_zero, List.set_cons_succ]
        have T := ST3_11.out b2 W2 H2
        rw [HA0.out, HL0.out, HG.out] at T
        try simp only [Act.put, List.setIfInBounds_toArray, List.set_cons_zero, List.set_cons_succ] at T
        exact lcong (by kernel_rfl) T
      · obtain ⟨W2, b1, hr, H2⟩ := H.al1
        refine wp_of_run (exec_allocR rfl hr) ?_
        refine hK.out _ _ trivial (fun _ => ?_)
        try simp only [Act.put, List.setIfInBounds_toArray, List.set_cons_zero, List.set_cons_succ]
        have T := ST10_11.out b1 b2 W2 H2
        rw [HA0.out, HL0.out, HG.out] at T
        try simp only [Act.put, List.setIfInBounds_toArray, List.set_cons_zero, List.set_cons_succ] at T
        exact lcong (by kernel_rfl) T
      · obtain ⟨W2, b3, hr, H2⟩ := H.al3
        refine wp_of_run (exec_allocR rfl hr) ?_
        refine hK.out _ _ trivial (fun _ => ?_)
        try simp only [Act.put, List.setIfInBounds_toArray, List.set_cons_zero, List.set_cons_succ]
        have T := ST11_12.out b2 b3 W2 H2
        rw [HA0.out, HL0.out, HG.out] at T
        try simp only [Act.put, List.setIfInBounds_toArray, List.set_cons_zero, List.set_cons_succ] at T
        exact lcong (by kernel_rfl) T)
    have ST12 : Hid (∀ b3, ∀ W : World, st3 w W none none (some b3) → G 8 (l0.setIfInBounds 12 true) (a0.put (some 9) (.pointer (some ⟨b3, 0, none⟩))) W) := (show ∀ b3, ∀ W : World, st3 w W none none (some b3) → G 8 (l0.setIfInBounds 12 true) (a0.put (some 9) (.pointer (some ⟨b3, 0, none⟩))) W from by
      intro b3 W H
      rw [HA0.out, HL0.out, HG.out]
      try simp only [Act.put, List.setIfInBounds_toArray, List.set_cons_zero, List.set_cons_succ]
      refine take_threeG (i := 3) (j := 10) (k := 11) rfl rfl rfl (by kernel_rfl) rfl rfl rfl (fun K hK => ?_) (fun K hK => ?_) (fun K hK => ?_)
      · go_simp
        refine Calls.mono (RA.out _ H.1) ?_
        rintro e W2 ⟨rfl, hb⟩
        have H2 := H.call hb
        refine hK.out _ _ trivial (fun _ => ?_)
        try simp only [Act.put, List.setIfInBounds_toArray, List.set_cons_zero, List.set_cons_succ]
        have T := ST3_12.out b3 W2 H2
        rw [HA0.out, HL0.out, HG.out] at T
        try simp only [Act.put, List.setIfInBounds_toArray, List.set_cons_zero, List.set_cons_succ] at T
        exact lcong (by kernel_rfl) T
      · obtain ⟨W2, b1, hr, H2⟩ := H.al1
        refine wp_of_run (exec_allocR rfl hr) ?_
        refine hK.out _ _ trivial (fun _ => ?_)
        try simp only [Act.put, List.setIfInBounds_toArray, List.set_cons_zero, List.set_cons_succ]
        have T := ST10_12.out b1 b3 W2 H2
        rw [HA0.out, HL0.out, HG.out] at T
        try simp only [Act.put, List.setIfInBounds_toArray, List.set_cons_zero, List.set_cons_succ] at T
        exact lcong (by kernel_rfl) T
      · obtain ⟨W2, b2, hr, H2⟩ := H.al2
        refine wp_of_run (exec_allocR rfl hr) ?_
        refine hK.out _ _ trivial (fun _ => ?_)
        try simp only [Act.put, List.setIfInBounds_toArray, List.set_cons_zero, List.set_cons_succ]
        have T := ST11_12.out b2 b3 W2 H2
        rw [HA0.out, HL0.out, HG.out] at T
        try simp only [Act.put, List.setIfInBounds_toArray, List.set_cons_zero, List.set_cons_succ] at T
        exact lcong (by kernel_rfl) T)
    have ST3 : Hid (∀ W : World, st3 w W none none none → G 8 (l0.setIfInBounds 3 true) (a0.put (some 35) (.agg (rowV 32 (arrV A)))) W) := (show ∀ W : World, st3 w W none none none → G 8 (l0.setIfInBounds 3 true) (a0.put (some 35) (.agg (rowV 32 (arrV A)))) W from by
      intro  W H
      rw [HA0.out, HL0.out, HG.out]
      try simp only [Act.put, List.setIfInBounds_toArray, List.set_cons_zero, List.set_cons_succ]
      refine take_fourG (i := 7) (j := 10) (k := 11) (m := 12) rfl rfl rfl rfl (by kernel_rfl) rfl rfl rfl rfl (fun K hK => ?_) (fun K hK => ?_) (fun K hK => ?_) (fun K hK => ?_)
      · go_simp
        refine Calls.mono (RB.out _ H.1) ?_
        rintro e W2 ⟨rfl, hb⟩
        have H2 := H.call hb
        refine hK.out _ _ trivial (fun _ => ?_)
        try simp only [Act.put, List.setIfInBounds_toArray, List.set_cons_zero, List.set_cons_succ]
        have T := ST3_7.out  W2 H2
        rw [HA0.out, HL0.out, HG.out] at T
        try simp only [Act.put, List.setIfInBounds_toArray, List.set_cons_zero, List.set_cons_succ] at T
        exact lcong (by kernel_rfl) T
      · obtain ⟨W2, b1, hr, H2⟩ := H.al1
        refine wp_of_run (exec_allocR rfl hr) ?_
        refine hK.out _ _ trivial (fun _ => ?_)
        try simp only [Act.put, List.setIfInBounds_toArray, List.set_cons_zero, List.set_cons_succ]
        have T := ST3_10.out b1 W2 H2
        rw [HA0.out, HL0.out, HG.out] at T
        try simp only [Act.put, List.setIfInBounds_toArray, List.set_cons_zero, List.set_cons_succ] at T
        exact lcong (by kernel_rfl) T
      · obtain ⟨W2, b2, hr, H2⟩ := H.al2
        refine wp_of_run (exec_allocR rfl hr) ?_
        refine hK.out _ _ trivial (fun _ => ?_)
        try simp only [Act.put, List.setIfInBounds_toArray, List.set_cons_zero, List.set_cons_succ]
        have T := ST3_11.out b2 W2 H2
        rw [HA0.out, HL0.out, HG.out] at T
        try simp only [Act.put, List.setIfInBounds_toArray, List.set_cons_zero, List.set_cons_succ] at T
        exact lcong (by kernel_rfl) T
      · obtain ⟨W2, b3, hr, H2⟩ := H.al3
        refine wp_of_run (exec_allocR rfl hr) ?_
        refine hK.out _ _ trivial (fun _ => ?_)
        try simp only [Act.put, List.setIfInBounds_toArray, List.set_cons_zero, List.set_cons_succ]
        have T := ST3_12.out b3 W2 H2
        rw [HA0.out, HL0.out, HG.out] at T
        try simp only [Act.put, List.setIfInBounds_toArray, List.set_cons_zero, List.set_cons_succ] at T
        exact lcong (by kernel_rfl) T)
    have ST : Hid (∀ W : World, st3 w W none none none → G 9 l0 a0 W) := (show ∀ W : World, st3 w W none none none → G 9 l0 a0 W from by
      intro  W H
      rw [HA0.out, HL0.out, HG.out]
      try simp only [Act.put, List.setIfInBounds_toArray, List.set_cons_zero, List.set_cons_succ]
      refine take_fourG (i := 3) (j := 10) (k := 11) (m := 12) rfl rfl rfl rfl (by kernel_rfl) rfl rfl rfl rfl (fun K hK => ?_) (fun K hK => ?_) (fun K hK => ?_) (fun K hK => ?_)
      · go_simp
        refine Calls.mono (RA.out _ H.1) ?_
        rintro e W2 ⟨rfl, hb⟩
        have H2 := H.call hb
        refine hK.out _ _ trivial (fun _ => ?_)
        try simp only [Act.put, List.setIfInBounds_toArray, List.set_cons_zero, List.set_cons_succ]
        have T := ST3.out  W2 H2
        rw [HA0.out, HL0.out, HG.out] at T
        try simp only [Act.put, List.setIfInBounds_toArray, List.set_cons_zero, List.set_cons_succ] at T
        exact lcong (by kernel_rfl) T
      · obtain ⟨W2, b1, hr, H2⟩ := H.al1
        refine wp_of_run (exec_allocR rfl hr) ?_
        refine hK.out _ _ trivial (fun _ => ?_)
        try simp only [Act.put, List.setIfInBounds_toArray, List.set_cons_zero, List.set_cons_succ]
        have T := ST10.out b1 W2 H2
        rw [HA0.out, HL0.out, HG.out] at T
        try simp only [Act.put, List.setIfInBounds_toArray, List.set_cons_zero, List.set_cons_succ] at T
        exact lcong (by kernel_rfl) T
      · obtain ⟨W2, b2, hr, H2⟩ := H.al2
        refine wp_of_run (exec_allocR rfl hr) ?_
        refine hK.out _ _ trivial (fun _ => ?_)
        try simp only [Act.put, List.setIfInBounds_toArray, List.set_cons_zero, List.set_cons_succ]
        have T := ST11.out b2 W2 H2
        rw [HA0.out, HL0.out, HG.out] at T
        try simp only [Act.put, List.setIfInBounds_toArray, List.set_cons_zero, List.set_cons_succ] at T
        exact lcong (by kernel_rfl) T
      · obtain ⟨W2, b3, hr, H2⟩ := H.al3
        refine wp_of_run (exec_allocR rfl hr) ?_
        refine hK.out _ _ trivial (fun _ => ?_)
        try simp only [Act.put, List.setIfInBounds_toArray, List.set_cons_zero, List.set_cons_succ]
        have T := ST12.out b3 W2 H2
        rw [HA0.out, HL0.out, HG.out] at T
        try simp only [Act.put, List.setIfInBounds_toArray, List.set_cons_zero, List.set_cons_succ] at T
        exact lcong (by kernel_rfl) T)
    exact ST.out W H
  case rest =>
    obtain ⟨b7, b8, b9, rfl, rfl, rfl, r7, r8, r9, hB⟩ := hcut
    rename World => w6
    have L7 : Hid (∀ wz, Below w6.heap.size w6 wz → ∀ j, j < 32 → wz.cell? ⟨b7, 0 + j, none⟩ = some (arrV A j)) := (show _ from fun wz hz j hj => by rw [Nat.zero_add]; exact (hz.row r7 (gRow_lt r7)).cell hj)
    have L8 : Hid (∀ wz, Below w6.heap.size w6 wz → ∀ j, j < 32 → wz.cell? ⟨b8, 0 + j, none⟩ = some (arrV B j)) := (show _ from fun wz hz j hj => by rw [Nat.zero_add]; exact (hz.row r8 (gRow_lt r8)).cell hj)
    have L9 : Hid (∀ wz, Below w6.heap.size w6 wz → ∀ j, j < 32 → wz.cell? ⟨b9, 0 + j, none⟩ = some (arrV C j)) := (show _ from fun wz hz j hj => by rw [Nat.zero_add]; exact (hz.row r9 (gRow_lt r9)).cell hj)
    have HB : Hid (Below w.heap.size w w6) := (show Below w.heap.size w w6 from hB)
    have HS6 : Hid (∀ wz, Below w6.heap.size w6 wz → tabIs wz ∧ sumsAt wz (.slice va L.length vc) L ∧ sumsAt wz (.slice xj j yj) (L.take j) ∧ sumsAt wz (.slice xm m ym) (L.take m)) := (show _ from fun wz hz => HS.out wz (HB.out.trans (hz.mono HB.out.size)))
    have Bp : Hid (Below w6.heap.size w6 w6) := (show _ from Below.refl _ _)
    clear r7 r8 r9 hB RA RB RC
    go_upto_region 4 with fail
    refine wp_region_noPanic ?_
    refine wp_region_held_drew (S := fun w' => Below w6.heap.size w6 w') (by kernel_rfl) (Bp.out.drew) (fun hHeld => ?_)
    refine take_op (i := 0) (v := ?vp0) rfl (by kernel_rfl) (by kernel_rfl) (by kernel_rfl) (fun _ _ _ h => h) rfl hHeld ?yp0 ?rp0
    case yp0 => (intro wz hz; go_simp; first | done | with_reducible rfl)
    try simp only [Act.put, List.setIfInBounds_toArray, List.set_cons_zero, List.set_cons_succ]
    refine take_op (i := 1) (v := ?vp1) rfl (by kernel_rfl) (by kernel_rfl) (by kernel_rfl) (fun _ _ _ h => h) rfl hHeld ?yp1 ?rp1
    case yp1 => (intro wz hz; go_simp; first | done | with_reducible rfl)
    try simp only [Act.put, List.setIfInBounds_toArray, List.set_cons_zero, List.set_cons_succ]
    refine take_load (i := 2) rfl (by kernel_rfl) (by kernel_rfl) (by kernel_rfl) 29 _ rfl b7 0 32 (arrV A) rfl _ Tryd.underlying29 rfl (by kernel_rfl) (fun _ _ _ h => h) rfl hHeld (fun wz hz => L7.out wz hz) ?_
    try simp only [Act.put, List.setIfInBounds_toArray, List.set_cons_zero, List.set_cons_succ]
    refine take_load (i := 3) rfl (by kernel_rfl) (by kernel_rfl) (by kernel_rfl) 29 _ rfl b8 0 32 (arrV B) rfl _ Tryd.underlying29 rfl (by kernel_rfl) (fun _ _ _ h => h) rfl hHeld (fun wz hz => L8.out wz hz) ?_
    try simp only [Act.put, List.setIfInBounds_toArray, List.set_cons_zero, List.set_cons_succ]
    refine take_op (i := 4) (v := ?vp4) rfl (by kernel_rfl) (by kernel_rfl) (by kernel_rfl) (fun _ _ _ h => h) rfl hHeld ?yp4 ?rp4
    case yp4 => (intro wz hz; go_simp; first | done | with_reducible rfl)
    try simp only [Act.put, List.setIfInBounds_toArray, List.set_cons_zero, List.set_cons_succ]
    refine take_op (i := 5) (v := ?vp5) rfl (by kernel_rfl) (by kernel_rfl) (by kernel_rfl) (fun _ _ _ h => h) rfl hHeld ?yp5 ?rp5
    case yp5 => (intro wz hz; go_simp; first | done | with_reducible rfl)
    try simp only [Act.put, List.setIfInBounds_toArray, List.set_cons_zero, List.set_cons_succ]
    refine take_op (i := 6) (v := ?vp6) rfl (by kernel_rfl) (by kernel_rfl) (by kernel_rfl) (fun _ _ _ h => h) rfl hHeld ?yp6 ?rp6
    case yp6 => (intro wz hz; have hcz := RUM.out wz; go_simp; first | done | with_reducible rfl)
    try simp only [Act.put, List.setIfInBounds_toArray, List.set_cons_zero, List.set_cons_succ]
    refine take_op (i := 7) (v := ?vp7) rfl (by kernel_rfl) (by kernel_rfl) (by kernel_rfl) (fun _ _ _ h => h) rfl hHeld ?yp7 ?rp7
    case yp7 => (intro wz hz; go_simp; first | done | with_reducible rfl)
    try simp only [Act.put, List.setIfInBounds_toArray, List.set_cons_zero, List.set_cons_succ]
    have XBp := between_nil (L.take m) (.slice xm m ym) (j : Int) w6.drew (by have := HQ.out; omega) (HS6.out _ hHeld).2.2.2 (by have := HQ.out; omega) (HS6.out _ hHeld).1
    refine take_one (i := 8) rfl (by kernel_rfl) rfl (fun K hK => ?_)
    go_simp
    refine Calls.mono XBp ?_
    rintro e yp ⟨pv, rfl, np, bp⟩
    have hbp : Below w6.heap.size w6 yp := hHeld.trans (bp.mono hHeld.size)
    obtain ⟨pa, pc, rfl, _⟩ := ownsRow_slice np.2
    refine hK.out _ _ hbp (fun hHeld => ?_)
    clear hK K XBp
    try simp only [Act.put, List.setIfInBounds_toArray, List.set_cons_zero, List.set_cons_succ]
    have XEp := (by have h := ext_nil j m A B (gPath (L.take m) j) _ yp (by have := HQ.out; omega) (by have := HQ.out; omega) SA.out.1 SA.out.2.1 np.is (gPath_le _ _ (by have := HQ.out; omega)) (HS6.out _ hHeld).1; rw [E1.out] at h; exact h : Calls Tryd.prog 15 #[.pointer none, .int .i64 (j : Int), .int .i64 (m : Int), .agg (rowV 32 (arrV A)), .agg (rowV 32 (arrV B)), .slice pa (gPath (L.take m) j).length pc] yp fun e w' => e = .returned (.int .i64 0) ∧ Below (yp).heap.size yp w')
    refine take_one (i := 9) rfl (by kernel_rfl) rfl (fun K hK => ?_)
    go_simp
    refine Calls.mono XEp ?_
    rintro e zp ⟨rfl, be⟩
    have hcp : Below w6.heap.size w6 zp := hHeld.trans (be.mono hHeld.size)
    refine hK.out _ _ hcp (fun hHeld => ?_)
    clear hK K XEp np bp be hbp
    try simp only [Act.put, List.setIfInBounds_toArray, List.set_cons_zero, List.set_cons_succ]
    refine take_op (i := 10) (v := ?vp10) rfl (by kernel_rfl) (by kernel_rfl) (by kernel_rfl) (fun _ _ _ h => h) rfl hHeld ?yp10 ?rp10
    case yp10 => (intro wz hz; go_simp; first | done | with_reducible rfl)
    try simp only [Act.put, List.setIfInBounds_toArray, List.set_cons_zero, List.set_cons_succ]
    refine wpAnyH_done (by kernel_rfl) ?_ _
    refine NoPanic.normal ?_
    have Bp2 : Hid (Below w6.heap.size w6 zp) := (show Below w6.heap.size w6 zp from hHeld)
    clear hHeld hcp
    go_upto_region 5 with fail
    refine wp_region_noPanic ?_
    refine wp_region_held_drew (S := fun w' => Below w6.heap.size w6 w') (by kernel_rfl) (Bp2.out.drew) (fun hHeld => ?_)
    refine take_op (i := 0) (v := ?vq0) rfl (by kernel_rfl) (by kernel_rfl) (by kernel_rfl) (fun _ _ _ h => h) rfl hHeld ?yq0 ?rq0
    case yq0 => (intro wz hz; go_simp; first | done | with_reducible rfl)
    try simp only [Act.put, List.setIfInBounds_toArray, List.set_cons_zero, List.set_cons_succ]
    refine take_op (i := 1) (v := ?vq1) rfl (by kernel_rfl) (by kernel_rfl) (by kernel_rfl) (fun _ _ _ h => h) rfl hHeld ?yq1 ?rq1
    case yq1 => (intro wz hz; go_simp; first | done | with_reducible rfl)
    try simp only [Act.put, List.setIfInBounds_toArray, List.set_cons_zero, List.set_cons_succ]
    refine take_op (i := 2) (v := ?vq2) rfl (by kernel_rfl) (by kernel_rfl) (by kernel_rfl) (fun _ _ _ h => h) rfl hHeld ?yq2 ?rq2
    case yq2 => (intro wz hz; go_simp; first | done | with_reducible rfl)
    try simp only [Act.put, List.setIfInBounds_toArray, List.set_cons_zero, List.set_cons_succ]
    refine take_load (i := 3) rfl (by kernel_rfl) (by kernel_rfl) (by kernel_rfl) 29 _ rfl b8 0 32 (arrV B) rfl _ Tryd.underlying29 rfl (by kernel_rfl) (fun _ _ _ h => h) rfl hHeld (fun wz hz => L8.out wz hz) ?_
    try simp only [Act.put, List.setIfInBounds_toArray, List.set_cons_zero, List.set_cons_succ]
    refine take_load (i := 4) rfl (by kernel_rfl) (by kernel_rfl) (by kernel_rfl) 29 _ rfl b9 0 32 (arrV C) rfl _ Tryd.underlying29 rfl (by kernel_rfl) (fun _ _ _ h => h) rfl hHeld (fun wz hz => L9.out wz hz) ?_
    try simp only [Act.put, List.setIfInBounds_toArray, List.set_cons_zero, List.set_cons_succ]
    refine take_op (i := 5) (v := ?vq5) rfl (by kernel_rfl) (by kernel_rfl) (by kernel_rfl) (fun _ _ _ h => h) rfl hHeld ?yq5 ?rq5
    case yq5 => (intro wz hz; go_simp; first | done | with_reducible rfl)
    try simp only [Act.put, List.setIfInBounds_toArray, List.set_cons_zero, List.set_cons_succ]
    refine take_op (i := 6) (v := ?vq6) rfl (by kernel_rfl) (by kernel_rfl) (by kernel_rfl) (fun _ _ _ h => h) rfl hHeld ?yq6 ?rq6
    case yq6 => (intro wz hz; go_simp; first | done | with_reducible rfl)
    try simp only [Act.put, List.setIfInBounds_toArray, List.set_cons_zero, List.set_cons_succ]
    have XBq := between_nil L (.slice va L.length vc) (m : Int) zp.drew (by have := HQ.out; omega) (HS6.out _ hHeld).2.1 (by have := HQ.out; omega) (HS6.out _ hHeld).1
    refine take_one (i := 7) rfl (by kernel_rfl) rfl (fun K hK => ?_)
    go_simp
    refine Calls.mono XBq ?_
    rintro e yq ⟨pv, rfl, np, bp⟩
    have hbq : Below w6.heap.size w6 yq := hHeld.trans (bp.mono hHeld.size)
    obtain ⟨pa, pc, rfl, _⟩ := ownsRow_slice np.2
    refine hK.out _ _ hbq (fun hHeld => ?_)
    clear hK K XBq
    try simp only [Act.put, List.setIfInBounds_toArray, List.set_cons_zero, List.set_cons_succ]
    have XEq := (by have h := ext_nil m L.length B C (gPath L m) _ yq (by have := HQ.out; omega) (by have := HQ.out; omega) SA.out.2.1 SA.out.2.2 np.is (gPath_le _ _ (by have := HQ.out; omega)) (HS6.out _ hHeld).1; rw [E2.out] at h; exact h : Calls Tryd.prog 15 #[.pointer none, .int .i64 (m : Int), .int .i64 (L.length : Int), .agg (rowV 32 (arrV B)), .agg (rowV 32 (arrV C)), .slice pa (gPath L m).length pc] yq fun e w' => e = .returned (.int .i64 0) ∧ Below (yq).heap.size yq w')
    refine take_one (i := 8) rfl (by kernel_rfl) rfl (fun K hK => ?_)
    go_simp
    refine Calls.mono XEq ?_
    rintro e zq ⟨rfl, be⟩
    have hcq : Below w6.heap.size w6 zq := hHeld.trans (be.mono hHeld.size)
    refine hK.out _ _ hcq (fun hHeld => ?_)
    clear hK K XEq np bp be hbq
    try simp only [Act.put, List.setIfInBounds_toArray, List.set_cons_zero, List.set_cons_succ]
    refine take_op (i := 9) (v := ?vq9) rfl (by kernel_rfl) (by kernel_rfl) (by kernel_rfl) (fun _ _ _ h => h) rfl hHeld ?yq9 ?rq9
    case yq9 => (intro wz hz; go_simp; first | done | with_reducible rfl)
    try simp only [Act.put, List.setIfInBounds_toArray, List.set_cons_zero, List.set_cons_succ]
    refine wpAnyH_done (by kernel_rfl) ?_ _
    refine NoPanic.normal ?_
    have Bq2 : Hid (Below w6.heap.size w6 zq) := (show Below w6.heap.size w6 zq from hHeld)
    clear hHeld hcq
    go_upto_region 6 with fail
    refine wp_region_noPanic ?_
    refine wp_region_held_drew (S := fun w' => Below w6.heap.size w6 w') (by kernel_rfl) (Bq2.out.drew) (fun hHeld => ?_)
    refine take_op (i := 0) (v := ?vs0) rfl (by kernel_rfl) (by kernel_rfl) (by kernel_rfl) (fun _ _ _ h => h) rfl hHeld ?ys0 ?rs0
    case ys0 => (intro wz hz; go_simp; first | done | with_reducible rfl)
    try simp only [Act.put, List.setIfInBounds_toArray, List.set_cons_zero, List.set_cons_succ]
    refine take_op (i := 1) (v := ?vs1) rfl (by kernel_rfl) (by kernel_rfl) (by kernel_rfl) (fun _ _ _ h => h) rfl hHeld ?ys1 ?rs1
    case ys1 => (intro wz hz; go_simp; first | done | with_reducible rfl)
    try simp only [Act.put, List.setIfInBounds_toArray, List.set_cons_zero, List.set_cons_succ]
    refine take_op (i := 2) (v := ?vs2) rfl (by kernel_rfl) (by kernel_rfl) (by kernel_rfl) (fun _ _ _ h => h) rfl hHeld ?ys2 ?rs2
    case ys2 => (intro wz hz; go_simp; first | done | with_reducible rfl)
    try simp only [Act.put, List.setIfInBounds_toArray, List.set_cons_zero, List.set_cons_succ]
    refine take_load (i := 3) rfl (by kernel_rfl) (by kernel_rfl) (by kernel_rfl) 29 _ rfl b7 0 32 (arrV A) rfl _ Tryd.underlying29 rfl (by kernel_rfl) (fun _ _ _ h => h) rfl hHeld (fun wz hz => L7.out wz hz) ?_
    try simp only [Act.put, List.setIfInBounds_toArray, List.set_cons_zero, List.set_cons_succ]
    refine take_load (i := 4) rfl (by kernel_rfl) (by kernel_rfl) (by kernel_rfl) 29 _ rfl b9 0 32 (arrV C) rfl _ Tryd.underlying29 rfl (by kernel_rfl) (fun _ _ _ h => h) rfl hHeld (fun wz hz => L9.out wz hz) ?_
    try simp only [Act.put, List.setIfInBounds_toArray, List.set_cons_zero, List.set_cons_succ]
    refine take_op (i := 5) (v := ?vs5) rfl (by kernel_rfl) (by kernel_rfl) (by kernel_rfl) (fun _ _ _ h => h) rfl hHeld ?ys5 ?rs5
    case ys5 => (intro wz hz; go_simp; first | done | with_reducible rfl)
    try simp only [Act.put, List.setIfInBounds_toArray, List.set_cons_zero, List.set_cons_succ]
    refine take_op (i := 6) (v := ?vs6) rfl (by kernel_rfl) (by kernel_rfl) (by kernel_rfl) (fun _ _ _ h => h) rfl hHeld ?ys6 ?rs6
    case ys6 => (intro wz hz; go_simp; first | done | with_reducible rfl)
    try simp only [Act.put, List.setIfInBounds_toArray, List.set_cons_zero, List.set_cons_succ]
    have XBs := between_nil L (.slice va L.length vc) (j : Int) zq.drew (by have := HQ.out; omega) (HS6.out _ hHeld).2.1 (by have := HQ.out; omega) (HS6.out _ hHeld).1
    refine take_one (i := 7) rfl (by kernel_rfl) rfl (fun K hK => ?_)
    go_simp
    refine Calls.mono XBs ?_
    rintro e ys ⟨pv, rfl, np, bp⟩
    have hbs : Below w6.heap.size w6 ys := hHeld.trans (bp.mono hHeld.size)
    obtain ⟨pa, pc, rfl, _⟩ := ownsRow_slice np.2
    refine hK.out _ _ hbs (fun hHeld => ?_)
    clear hK K XBs
    try simp only [Act.put, List.setIfInBounds_toArray, List.set_cons_zero, List.set_cons_succ]
    have XEs := (by have h := ext_nil j L.length A C (gPath L j) _ ys (by have := HQ.out; omega) (by have := HQ.out; omega) SA.out.1 SA.out.2.2 np.is (gPath_le _ _ (by have := HQ.out; omega)) (HS6.out _ hHeld).1; rw [E3.out] at h; exact h : Calls Tryd.prog 15 #[.pointer none, .int .i64 (j : Int), .int .i64 (L.length : Int), .agg (rowV 32 (arrV A)), .agg (rowV 32 (arrV C)), .slice pa (gPath L j).length pc] ys fun e w' => e = .returned (.int .i64 0) ∧ Below (ys).heap.size ys w')
    refine take_one (i := 8) rfl (by kernel_rfl) rfl (fun K hK => ?_)
    go_simp
    refine Calls.mono XEs ?_
    rintro e zs ⟨rfl, be⟩
    have hcs : Below w6.heap.size w6 zs := hHeld.trans (be.mono hHeld.size)
    refine hK.out _ _ hcs (fun hHeld => ?_)
    clear hK K XEs np bp be hbs
    try simp only [Act.put, List.setIfInBounds_toArray, List.set_cons_zero, List.set_cons_succ]
    refine take_op (i := 9) (v := ?vs9) rfl (by kernel_rfl) (by kernel_rfl) (by kernel_rfl) (fun _ _ _ h => h) rfl hHeld ?ys9 ?rs9
    case ys9 => (intro wz hz; go_simp; first | done | with_reducible rfl)
    try simp only [Act.put, List.setIfInBounds_toArray, List.set_cons_zero, List.set_cons_succ]
    refine wpAnyH_done (by kernel_rfl) ?_ _
    refine NoPanic.normal ?_
    have Bs2 : Hid (Below w6.heap.size w6 zs) := (show Below w6.heap.size w6 zs from hHeld)
    clear hHeld hcs
    have XA := gawake_any zs (HS6.out zs Bs2.out).1
    go_wp2_with fail
    refine XA.mono ?_
    rintro e w8 ⟨rfl, b8'⟩
    have BF : Hid (Below w.heap.size w w8) := (show Below w.heap.size w w8 from HB.out.trans ((Bs2.out.trans (b8'.mono Bs2.out.size)).mono HB.out.size))
    clear XA b8'
    go_wp2
    go_ret
    exact ⟨rfl, BF.out⟩
theorem growOn_any (L : List (List Int)) (v : Value) (j m : Int) (hj : -9223372036854775808 ≤ j ∧ j ≤ 9223372036854775807) (hm : -9223372036854775808 ≤ m ∧ m ≤ 9223372036854775807) (w : World) (ht : tabIs w) (h : sumsAt w v L) :
    Calls Tryd.prog 7 #[v, .int .i64 j, .int .i64 m] w fun e w' => e = .returned (.bool true) ∧ Below w.heap.size w w' := by
  by_cases hok : L.length ≤ 150 ∧ 0 ≤ j ∧ j ≤ m ∧ m ≤ L.length
  · obtain ⟨h1, h2, h3, h4⟩ := hok
    obtain ⟨a, rfl⟩ : ∃ a : Nat, j = (a : Int) := ⟨j.toNat, by omega⟩
    obtain ⟨b, rfl⟩ : ∃ b : Nat, m = (b : Int) := ⟨m.toNat, by omega⟩
    exact growOn_in L v a b (by omega) (by omega) h1 w ht h
  have hsl : ∃ a cap, v = .slice a L.length cap ∧ L.length ≤ cap ∧ cap ≤ maxLen := by
    obtain ⟨_, a, cap, e, h3, h4, _⟩ := h; exact ⟨a, cap, e, h3, h4⟩
  obtain ⟨va, vc, rfl, h3, h4⟩ := hsl
  have X := gawake_any w ht
  have q0 : (L.length : Int) ≤ 9223372036854775807 := by unfold maxLen at h4; omega
  clear h ht h3 h4
  by_cases c1 : L.length > 150
  · have c1' : (L.length : Int) > 150 := by omega
    go_enter Tryd.func7, Tryd.ntmps7
    go_wp2_with fail
    refine X.mono ?_
    rintro e w1 ⟨rfl, b1⟩
    have B1 : Hid (Below w.heap.size w w1) := (show Below w.heap.size w w1 from b1)
    clear X b1
    go_wp2
    go_ret
    exact ⟨rfl, B1.out⟩
  have c1' : ¬ (L.length : Int) > 150 := by omega
  by_cases c2 : j < 0
  · go_enter Tryd.func7, Tryd.ntmps7
    go_wp2_with fail
    refine X.mono ?_
    rintro e w1 ⟨rfl, b1⟩
    have B1 : Hid (Below w.heap.size w w1) := (show Below w.heap.size w w1 from b1)
    clear X b1
    go_wp2
    go_ret
    exact ⟨rfl, B1.out⟩
  by_cases c3 : j > m
  · go_enter Tryd.func7, Tryd.ntmps7
    go_wp2_with fail
    refine X.mono ?_
    rintro e w1 ⟨rfl, b1⟩
    have B1 : Hid (Below w.heap.size w w1) := (show Below w.heap.size w w1 from b1)
    clear X b1
    go_wp2
    go_ret
    exact ⟨rfl, B1.out⟩
  · have c4 : m > (L.length : Int) := by omega
    go_enter Tryd.func7, Tryd.ntmps7
    go_wp2_with fail
    refine X.mono ?_
    rintro e w1 ⟨rfl, b1⟩
    have B1 : Hid (Below w.heap.size w w1) := (show Below w.heap.size w w1 from b1)
    clear X b1
    go_wp2
    go_ret
    exact ⟨rfl, B1.out⟩
end Go.Proofs.YthpnenblmkdmcaaDoor
