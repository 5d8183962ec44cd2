import Derived.ProofKit
import Derived.OpenShut
import Derived.Test.YthpnenblmkdmcaaDoorOwn1
import Derived.Test.YthpnenblmkdmcaaDoorOwn5
import Derived.Test.YthpnenblmkdmcaaDoorOwn8
import Derived.Test.YthpnenblmkdmcaaDoorOwn9
set_option linter.unusedVariables false
set_option linter.unusedSimpArgs false
/- GrowOn: its walk. -/
namespace Go.Proofs.YthpnenblmkdmcaaDoor
set_option linter.unusedSimpArgs false
set_option linter.unusedVariables false
open Go.RowKit Go.Deep

theorem store_stepG {o : Oper} {a : Act} {w w' : World} {K : Act → World → Prop} {Q : Exit → Act → World → Prop} {b : Nat} {v : Value} {x y : Operand} (ho : o.op = .store 29 x y) (hx : a.eval x = .pointer (some ⟨b, 0, none⟩)) (hy : a.eval y = v)
    (hr : (storeVar 29 ⟨b, 0, none⟩ v).run Tryd.prog w = .ok () w') (h : K (a.put o.dst undef) w') : Oper.wp Tryd.prog o a w K Q := by
  unfold Oper.wp execOp
  simp only [ho, hx, hy, Instr.storeAt, Instr.sureAddr, Sem.run_bind, Sem.run_pure, Result.andThen_ok]
  simp [hr, Oper.upon]
  exact h
theorem regionK {P : Program} {md : Region.Mode} {ops : Array Oper} {Q : Exit → Act → World → Prop} {S : World → Prop} {fuel : Nat} {listed : Array Bool} {a : Act} {w : World} (h : ∀ G : Nat → Array Bool → Act → World → Prop, (∀ f l a w, G f l a w = wpAnyH P md ops Q S f l a w) → G fuel listed a w) : wpAnyH P md ops Q S fuel listed a w :=
  h (wpAnyH P md ops Q S) (fun _ _ _ _ => rfl)
theorem actK {p : Act → Prop} {a : Act} (h : ∀ a0, a0 = a → p a0) : p a := h a rfl
theorem listK {p : Array Bool → Prop} {a : Array Bool} (h : ∀ a0, a0 = a → p a0) : p a := h a rfl
theorem lcong {P : Program} {md : Region.Mode} {ops : Array Oper} {Q : Exit → Act → World → Prop} {S : World → Prop} {fuel : Nat} {l l' : Array Bool} {a : Act} {w : World} (e : l = l') (h : wpAnyH P md ops Q S fuel l a w) : wpAnyH P md ops Q S fuel l' a w := e ▸ h
theorem gPath_le (L : List (List Int)) (m : Int) (h : L.length ≤ 1000) : (gPath L m).length ≤ 1000 := by
  have h1 := gPath_len L m
  have h2 := gI_len m (L.length : Int) (by omega)
  unfold gSteps at h1
  split at h1 <;> omega
set_option maxHeartbeats 8000000 in
set_option maxRecDepth 100000 in
theorem growOn_in (L : List (List Int)) (v : Value) (j m : Nat) (hj : j ≤ m) (hm : m ≤ L.length) (hL : L.length ≤ 150) (w : World) (ht : tabIs w) (h : sumsAt w v L) :
    Calls Tryd.prog 7 #[v, .int .i64 (j : Int), .int .i64 (m : Int)] w fun e w' => e = .returned (.bool true) ∧ Below w.heap.size w w' := by
  have hsl : ∃ a cap, v = .slice a L.length cap := by
    obtain ⟨_, a, cap, e, _⟩ := h; exact ⟨a, cap, e⟩
  obtain ⟨va, vc, rfl⟩ := hsl
  obtain ⟨uj, ruj, suj, _, xj, yj, rfl⟩ := h.upto j (by omega)
  obtain ⟨um, rum, sum, _, xm, ym, rfl⟩ := h.upto m hm
  have RUJ : Hid (∀ wz : World, (Instr.slice 22 (.slice va L.length vc) none (some (.int .i64 j)) none).run Tryd.prog wz = .ok (.slice xj j yj) wz) := (show _ from ruj)
  have RUM : Hid (∀ wz : World, (Instr.slice 22 (.slice va L.length vc) none (some (.int .i64 m)) none).run Tryd.prog wz = .ok (.slice xm m ym) wz) := (show _ from rum)
  have HS : Hid (∀ wz, Below w.heap.size w wz → tabIs wz ∧ sumsAt wz (.slice va L.length vc) L ∧ sumsAt wz (.slice xj j yj) (L.take j) ∧ sumsAt wz (.slice xm m ym) (L.take m)) := (show _ from fun wz hz => ⟨ht.below hz ht.1, h.below hz (Nat.le_refl _), suj.below hz (Nat.le_refl _), sum.below hz (Nat.le_refl _)⟩)
  have ljm : (L.take m).length = m := by rw [List.length_take]; omega
  have ljj : (L.take j).length = j := by rw [List.length_take]; omega
  have ett : (L.take m).take j = L.take j := by rw [List.take_take, Nat.min_eq_left hj]
  have E1 : Hid (extR j m (rootS (L.take j)) (rootS (L.take m)) (gPath (L.take m) j) = true) := (show _ from by
    have := ext_path (L.take m) j (by omega)
    rwa [ett, ljm] at this)
  have E2 : Hid (extR m L.length (rootS (L.take m)) (rootS L) (gPath L m) = true) := (show _ from ext_path L m hm)
  have E3 : Hid (extR j L.length (rootS (L.take j)) (rootS L) (gPath L j) = true) := (show _ from ext_path L j (by omega))
  have SA : Hid (isSum (rootS (L.take j)) ∧ isSum (rootS (L.take m)) ∧ isSum (rootS L)) := (show _ ∧ _ ∧ _ from ⟨rootS_sum suj.1, rootS_sum sum.1, rootS_sum h.1⟩)
  obtain ⟨A, hA⟩ : ∃ A, A = rootS (L.take j) := ⟨_, rfl⟩
  obtain ⟨B, hB⟩ : ∃ B, B = rootS (L.take m) := ⟨_, rfl⟩
  obtain ⟨C, hC⟩ : ∃ C, C = rootS L := ⟨_, rfl⟩
  rw [← hA, ← hB] at E1
  rw [← hB, ← hC] at E2
  rw [← hA, ← hC] at E3
  rw [← hA, ← hB, ← hC] at SA
  have RA : Hid (∀ W, Below w.heap.size w W → Calls Tryd.prog 18 #[.pointer none, .slice xj j yj] W fun e w' => e = .returned (.agg (rowV 32 (arrV A))) ∧ Below W.heap.size W w') := (show _ from fun W hW => by
    rw [hA]; exact root_nil 1000 _ _ W (by omega) (Nat.le_refl _) (HS.out W hW).2.2.1 (HS.out W hW).1)
  have RB : Hid (∀ W, Below w.heap.size w W → Calls Tryd.prog 18 #[.pointer none, .slice xm m ym] W fun e w' => e = .returned (.agg (rowV 32 (arrV B))) ∧ Below W.heap.size W w') := (show _ from fun W hW => by
    rw [hB]; exact root_nil 1000 _ _ W (by omega) (Nat.le_refl _) (HS.out W hW).2.2.2 (HS.out W hW).1)
  have RC : Hid (∀ W, Below w.heap.size w W → Calls Tryd.prog 18 #[.pointer none, .slice va L.length vc] W fun e w' => e = .returned (.agg (rowV 32 (arrV C))) ∧ Below W.heap.size W w') := (show _ from fun W hW => by
    rw [hC]; exact root_nil 1000 _ _ W (by omega) (Nat.le_refl _) (HS.out W hW).2.1 (HS.out W hW).1)
  have q1 : (L.length : Int) ≤ 150 := by omega
  have q2 : (0 : Int) ≤ (j : Int) := by omega
  have q3 : (j : Int) ≤ (m : Int) := by omega
  have q4 : (m : Int) ≤ (L.length : Int) := by omega
  have d1 : ¬ (150 : Int) < (L.length : Int) := by omega
  have d2 : ¬ (j : Int) < 0 := by omega
  have d3 : ¬ m < j := by omega
  have d4 : ¬ L.length < m := by omega
  have HQ : Hid (j ≤ m ∧ m ≤ L.length ∧ L.length ≤ 150 ∧ (L.take m).length = m) := (show _ from ⟨hj, hm, hL, ljm⟩)
  clear ruj rum suj sum ljm ljj ett h ht hA hB hC hj hm hL
  go_enter Tryd.func7, Tryd.ntmps7
  go_upto_region 3 with fail
  go_cut [7, 8, 9] from 32 to 41 (fun p7 p8 p9 wx => ∃ b7 b8 b9, p7 = .pointer (some ⟨b7, 0, none⟩) ∧ p8 = .pointer (some ⟨b8, 0, none⟩) ∧ p9 = .pointer (some ⟨b9, 0, none⟩) ∧ wx.rowIs b7 29 32 (arrV A) ∧ wx.rowIs b8 29 32 (arrV B) ∧ wx.rowIs b9 29 32 (arrV C) ∧ Below w.heap.size w wx)
  case first =>
    have H : st3 w w.drew none none none := ⟨(Below.refl _ _).drew, fun x h => (by cases h), fun x h => (by cases h), fun x h => (by cases h), fun x h => (by cases h), fun x h => (by cases h)⟩
    refine wp_region_noPanic ?_
    refine wp_region_held_drew (S := fun w' => True) (by kernel_rfl) trivial (fun hHeld => ?_)
    generalize w.drew = W at H ⊢
    refine take_op (i := 0) (v := ?va0) rfl (by kernel_rfl) (by kernel_rfl) (by kernel_rfl) (fun _ _ _ h => h) rfl hHeld ?ya0 ?ra0
    case ya0 => (intro wz hz; go_simp; first | done | with_reducible rfl)
    try simp only [Act.put, List.setIfInBounds_toArray, List.set_cons_zero, List.set_cons_succ]
    refine take_op (i := 1) (v := ?va1) rfl (by kernel_rfl) (by kernel_rfl) (by kernel_rfl) (fun _ _ _ h => h) rfl hHeld ?ya1 ?ra1
    case ya1 => (intro wz hz; go_simp; first | done | with_reducible rfl)
    try simp only [Act.put, List.setIfInBounds_toArray, List.set_cons_zero, List.set_cons_succ]
    refine take_op (i := 2) (v := ?va2) rfl (by kernel_rfl) (by kernel_rfl) (by kernel_rfl) (fun _ _ _ h => h) rfl hHeld ?ya2 ?ra2
    case ya2 => (intro wz hz; have hcz := RUJ.out wz; go_simp; first | done | with_reducible rfl)
    try simp only [Act.put, List.setIfInBounds_toArray, List.set_cons_zero, List.set_cons_succ]
    refine take_op (i := 4) (v := ?va4) rfl (by kernel_rfl) (by kernel_rfl) (by kernel_rfl) (fun _ _ _ h => h) rfl hHeld ?ya4 ?ra4
    case ya4 => (intro wz hz; go_simp; first | done | with_reducible rfl)
    try simp only [Act.put, List.setIfInBounds_toArray, List.set_cons_zero, List.set_cons_succ]
    refine take_op (i := 5) (v := ?va5) rfl (by kernel_rfl) (by kernel_rfl) (by kernel_rfl) (fun _ _ _ h => h) rfl hHeld ?ya5 ?ra5
    case ya5 => (intro wz hz; go_simp; first | done | with_reducible rfl)
    try simp only [Act.put, List.setIfInBounds_toArray, List.set_cons_zero, List.set_cons_succ]
    refine take_op (i := 6) (v := ?va6) rfl (by kernel_rfl) (by kernel_rfl) (by kernel_rfl) (fun _ _ _ h => h) rfl hHeld ?ya6 ?ra6
    case ya6 => (intro wz hz; have hcz := RUM.out wz; go_simp; first | done | with_reducible rfl)
    try simp only [Act.put, List.setIfInBounds_toArray, List.set_cons_zero, List.set_cons_succ]
    refine take_op (i := 8) (v := ?va8) rfl (by kernel_rfl) (by kernel_rfl) (by kernel_rfl) (fun _ _ _ h => h) rfl hHeld ?ya8 ?ra8
    case ya8 => (intro wz hz; go_simp; first | done | with_reducible rfl)
    try simp only [Act.put, List.setIfInBounds_toArray, List.set_cons_zero, List.set_cons_succ]
    refine regionK (fun G hG => ?_)
    refine actK (p := fun a => G 9 _ a W) (fun a0 ha0 => ?_)
    refine listK (p := fun l => G 9 l a0 W) (fun l0 hl0 => ?_)
    have HG : Hid _ := hG
    have HA0 : Hid _ := ha0
    have HL0 : Hid _ := hl0
    clear hG ha0 hl0
    have ST3_7_9_10_11_12 : Hid (∀ b1 b2 b3, ∀ W : World, st3 w W (some b1) (some b2) (some b3) → G 3 ((((((l0.setIfInBounds 3 true).setIfInBounds 7 true).setIfInBounds 9 true).setIfInBounds 10 true).setIfInBounds 11 true).setIfInBounds 12 true) ((((((a0.put (some 35) (.agg (rowV 32 (arrV A)))).put (some 39) (.agg (rowV 32 (arrV B)))).put (some 41) (.agg (rowV 32 (arrV C)))).put (some 7) (.pointer (some ⟨b1, 0, none⟩))).put (some 8) (.pointer (some ⟨b2, 0, none⟩))).put (some 9) (.pointer (some ⟨b3, 0, none⟩))) W) := (show ∀ b1 b2 b3, ∀ W : World, st3 w W (some b1) (some b2) (some b3) → G 3 ((((((l0.setIfInBounds 3 true).setIfInBounds 7 true).setIfInBounds 9 true).setIfInBounds 10 true).setIfInBounds 11 true).setIfInBounds 12 true) ((((((a0.put (some 35) (.agg (rowV 32 (arrV A)))).put (some 39) (.agg (rowV 32 (arrV B)))).put (some 41) (.agg (rowV 32 (arrV C)))).put (some 7) (.pointer (some ⟨b1, 0, none⟩))).put (some 8) (.pointer (some ⟨b2, 0, none⟩))).put (some 9) (.pointer (some ⟨b3, 0, none⟩))) W from by
      intro b1 b2 b3 W H
      rw [HA0.out, HL0.out, HG.out]
      try simp only [Act.put, List.setIfInBounds_toArray, List.set_cons_zero, List.set_cons_succ]
      obtain ⟨V1, V2, V3, e1, e2, e3, F⟩ := H.fin A B C
      refine take_one (i := 13) rfl (by kernel_rfl) rfl (fun K hK => ?_)
      unfold Oper.wp execOp
      simp only [Instr.storeAt, Instr.sureAddr, Sem.run_bind, Sem.run_pure, Result.andThen_ok]
      simp [Act.eval, e1, Oper.upon]
      refine hK.out _ _ trivial (fun _ => ?_)
      clear hK K
      try simp only [Act.put, List.setIfInBounds_toArray, List.set_cons_zero, List.set_cons_succ]
      refine take_one (i := 14) rfl (by kernel_rfl) rfl (fun K hK => ?_)
      unfold Oper.wp execOp
      simp only [Instr.storeAt, Instr.sureAddr, Sem.run_bind, Sem.run_pure, Result.andThen_ok]
      simp [Act.eval, e2, Oper.upon]
      refine hK.out _ _ trivial (fun _ => ?_)
      clear hK K
      try simp only [Act.put, List.setIfInBounds_toArray, List.set_cons_zero, List.set_cons_succ]
      refine take_one (i := 15) rfl (by kernel_rfl) rfl (fun K hK => ?_)
      unfold Oper.wp execOp
      simp only [Instr.storeAt, Instr.sureAddr, Sem.run_bind, Sem.run_pure, Result.andThen_ok]
      simp [Act.eval, e3, Oper.upon]
      refine hK.out _ _ trivial (fun _ => ?_)
      clear hK K
      try simp only [Act.put, List.setIfInBounds_toArray, List.set_cons_zero, List.set_cons_succ]
      refine wpAnyH_done (by kernel_rfl) ?_ _
      refine NoPanic.normal ?_
      clear e1 e2 e3 H
      go_wp2_with fail
      go_meet
      case rel => exact ⟨_, _, _, rfl, rfl, rfl, F⟩)
    have ST3_7_10_11_12 : Hid (∀ b1 b2 b3, ∀ W : World, st3 w W (some b1) (some b2) (some b3) → G 4 (((((l0.setIfInBounds 3 true).setIfInBounds 7 true).setIfInBounds 10 true).setIfInBounds 11 true).setIfInBounds 12 true) (((((a0.put (some 35) (.agg (rowV 32 (arrV A)))).put (some 39) (.agg (rowV 32 (arrV B)))).put (some 7) (.pointer (some ⟨b1, 0, none⟩))).put (some 8) (.pointer (some ⟨b2, 0, none⟩))).put (some 9) (.pointer (some ⟨b3, 0, none⟩))) W) := (show ∀ b1 b2 b3, ∀ W : World, st3 w W (some b1) (some b2) (some b3) → G 4 (((((l0.setIfInBounds 3 true).setIfInBounds 7 true).setIfInBounds 10 true).setIfInBounds 11 true).setIfInBounds 12 true) (((((a0.put (some 35) (.agg (rowV 32 (arrV A)))).put (some 39) (.agg (rowV 32 (arrV B)))).put (some 7) (.pointer (some ⟨b1, 0, none⟩))).put (some 8) (.pointer (some ⟨b2, 0, none⟩))).put (some 9) (.pointer (some ⟨b3, 0, none⟩))) W from by
      intro b1 b2 b3 W H
      rw [HA0.out, HL0.out, HG.out]
      try simp only [Act.put, List.setIfInBounds_toArray, List.set_cons_zero, List.set_cons_succ]
      refine take_one (i := 9) rfl (by kernel_rfl) rfl (fun K hK => ?_)
      go_simp
      refine Calls.mono (RC.out _ H.1) ?_
      rintro e W2 ⟨rfl, hb⟩
      have H2 := H.call hb
      refine hK.out _ _ trivial (fun _ => ?_)
      try simp only [Act.put, List.setIfInBounds_toArray, List.set_cons_zero, List.set_cons_succ]
      have T := ST3_7_9_10_11_12.out b1 b2 b3 W2 H2
      rw [HA0.out, HL0.out, HG.out] at T
      try simp only [Act.put, List.setIfInBounds_toArray, List.set_cons_zero, List.set_cons_succ] at T
      exact lcong (by kernel_rfl) T)
    have ST3_7_9_10_11 : Hid (∀ b1 b2, ∀ W : World, st3 w W (some b1) (some b2) none → G 4 (((((l0.setIfInBounds 3 true).setIfInBounds 7 true).setIfInBounds 9 true).setIfInBounds 10 true).setIfInBounds 11 true) (((((a0.put (some 35) (.agg (rowV 32 (arrV A)))).put (some 39) (.agg (rowV 32 (arrV B)))).put (some 41) (.agg (rowV 32 (arrV C)))).put (some 7) (.pointer (some ⟨b1, 0, none⟩))).put (some 8) (.pointer (some ⟨b2, 0, none⟩))) W) := (show ∀ b1 b2, ∀ W : World, st3 w W (some b1) (some b2) none → G 4 (((((l0.setIfInBounds 3 true).setIfInBounds 7 true).setIfInBounds 9 true).setIfInBounds 10 true).setIfInBounds 11 true) (((((a0.put (some 35) (.agg (rowV 32 (arrV A)))).put (some 39) (.agg (rowV 32 (arrV B)))).put (some 41) (.agg (rowV 32 (arrV C)))).put (some 7) (.pointer (some ⟨b1, 0, none⟩))).put (some 8) (.pointer (some ⟨b2, 0, none⟩))) W from by
      intro b1 b2 W H
      rw [HA0.out, HL0.out, HG.out]
      try simp only [Act.put, List.setIfInBounds_toArray, List.set_cons_zero, List.set_cons_succ]
      refine take_one (i := 12) rfl (by kernel_rfl) rfl (fun K hK => ?_)
      obtain ⟨W2, b3, hr, H2⟩ := H.al3
      refine wp_of_run (exec_allocR rfl hr) ?_
      refine hK.out _ _ trivial (fun _ => ?_)
      try simp only [Act.put, List.setIfInBounds_toArray, List.set_cons_zero, List.set_cons_succ]
      have T := ST3_7_9_10_11_12.out b1 b2 b3 W2 H2
      rw [HA0.out, HL0.out, HG.out] at T
      try simp only [Act.put, List.setIfInBounds_toArray, List.set_cons_zero, List.set_cons_succ] at T
      exact lcong (by kernel_rfl) T)
    have ST3_7_9_10_12 : Hid (∀ b1 b3, ∀ W : World, st3 w W (some b1) none (some b3) → G 4 (((((l0.setIfInBounds 3 true).setIfInBounds 7 true).setIfInBounds 9 true).setIfInBounds 10 true).setIfInBounds 12 true) (((((a0.put (some 35) (.agg (rowV 32 (arrV A)))).put (some 39) (.agg (rowV 32 (arrV B)))).put (some 41) (.agg (rowV 32 (arrV C)))).put (some 7) (.pointer (some ⟨b1, 0, none⟩))).put (some 9) (.pointer (some ⟨b3, 0, none⟩))) W) := (show ∀ b1 b3, ∀ W : World, st3 w W (some b1) none (some b3) → G 4 (((((l0.setIfInBounds 3 true).setIfInBounds 7 true).setIfInBounds 9 true).setIfInBounds 10 true).setIfInBounds 12 true) (((((a0.put (some 35) (.agg (rowV 32 (arrV A)))).put (some 39) (.agg (rowV 32 (arrV B)))).put (some 41) (.agg (rowV 32 (arrV C)))).put (some 7) (.pointer (some ⟨b1, 0, none⟩))).put (some 9) (.pointer (some ⟨b3, 0, none⟩))) W from by
      intro b1 b3 W H
      rw [HA0.out, HL0.out, HG.out]
      try simp only [Act.put, List.setIfInBounds_toArray, List.set_cons_zero, List.set_cons_succ]
      refine take_one (i := 11) rfl (by kernel_rfl) rfl (fun K hK => ?_)
      obtain ⟨W2, b2, hr, H2⟩ := H.al2
      refine wp_of_run (exec_allocR rfl hr) ?_
      refine hK.out _ _ trivial (fun _ => ?_)
      try simp only [Act.put, List.setIfInBounds_toArray, List.set_cons_zero, List.set_cons_succ]
      have T := ST3_7_9_10_11_12.out b1 b2 b3 W2 H2
      rw [HA0.out, HL0.out, HG.out] at T
      try simp only [Act.put, List.setIfInBounds_toArray, List.set_cons_zero, List.set_cons_succ] at T
      exact lcong (by kernel_rfl) T)
    have ST3_7_9_11_12 : Hid (∀ b2 b3, ∀ W : World, st3 w W none (some b2) (some b3) → G 4 (((((l0.setIfInBounds 3 true).setIfInBounds 7 true).setIfInBounds 9 true).setIfInBounds 11 true).setIfInBounds 12 true) (((((a0.put (some 35) (.agg (rowV 32 (arrV A)))).put (some 39) (.agg (rowV 32 (arrV B)))).put (some 41) (.agg (rowV 32 (arrV C)))).put (some 8) (.pointer (some ⟨b2, 0, none⟩))).put (some 9) (.pointer (some ⟨b3, 0, none⟩))) W) := (show ∀ b2 b3, ∀ W : World, st3 w W none (some b2) (some b3) → G 4 (((((l0.setIfInBounds 3 true).setIfInBounds 7 true).setIfInBounds 9 true).setIfInBounds 11 true).setIfInBounds 12 true) (((((a0.put (some 35) (.agg (rowV 32 (arrV A)))).put (some 39) (.agg (rowV 32 (arrV B)))).put (some 41) (.agg (rowV 32 (arrV C)))).put (some 8) (.pointer (some ⟨b2, 0, none⟩))).put (some 9) (.pointer (some ⟨b3, 0, none⟩))) W from by
      intro b2 b3 W H
      rw [HA0.out, HL0.out, HG.out]
      try simp only [Act.put, List.setIfInBounds_toArray, List.set_cons_zero, List.set_cons_succ]
      refine take_one (i := 10) rfl (by kernel_rfl) rfl (fun K hK => ?_)
      obtain ⟨W2, b1, hr, H2⟩ := H.al1
      refine wp_of_run (exec_allocR rfl hr) ?_
      refine hK.out _ _ trivial (fun _ => ?_)
      try simp only [Act.put, List.setIfInBounds_toArray, List.set_cons_zero, List.set_cons_succ]
      have T := ST3_7_9_10_11_12.out b1 b2 b3 W2 H2
      rw [HA0.out, HL0.out, HG.out] at T
      try simp only [Act.put, List.setIfInBounds_toArray, List.set_cons_zero, List.set_cons_succ] at T
      exact lcong (by kernel_rfl) T)
    have ST3_10_11_12 : Hid (∀ b1 b2 b3, ∀ W : World, st3 w W (some b1) (some b2) (some b3) → G 5 ((((l0.setIfInBounds 3 true).setIfInBounds 10 true).setIfInBounds 11 true).setIfInBounds 12 true) ((((a0.put (some 35) (.agg (rowV 32 (arrV A)))).put (some 7) (.pointer (some ⟨b1, 0, none⟩))).put (some 8) (.pointer (some ⟨b2, 0, none⟩))).put (some 9) (.pointer (some ⟨b3, 0, none⟩))) W) := (show ∀ b1 b2 b3, ∀ W : World, st3 w W (some b1) (some b2) (some b3) → G 5 ((((l0.setIfInBounds 3 true).setIfInBounds 10 true).setIfInBounds 11 true).setIfInBounds 12 true) ((((a0.put (some 35) (.agg (rowV 32 (arrV A)))).put (some 7) (.pointer (some ⟨b1, 0, none⟩))).put (some 8) (.pointer (some ⟨b2, 0, none⟩))).put (some 9) (.pointer (some ⟨b3, 0, none⟩))) W from by
      intro b1 b2 b3 W H
      rw [HA0.out, HL0.out, HG.out]
      try simp only [Act.put, List.setIfInBounds_toArray, List.set_cons_zero, List.set_cons_succ]
      refine take_one (i := 7) rfl (by kernel_rfl) rfl (fun K hK => ?_)
      go_simp
      refine Calls.mono (RB.out _ H.1) ?_
      rintro e W2 ⟨rfl, hb⟩
      have H2 := H.call hb
      refine hK.out _ _ trivial (fun _ => ?_)
      try simp only [Act.put, List.setIfInBounds_toArray, List.set_cons_zero, List.set_cons_succ]
      have T := ST3_7_10_11_12.out b1 b2 b3 W2 H2
      rw [HA0.out, HL0.out, HG.out] at T
      try simp only [Act.put, List.setIfInBounds_toArray, List.set_cons_zero, List.set_cons_succ] at T
      exact lcong (by kernel_rfl) T)
    have ST3_7_10_11 : Hid (∀ b1 b2, ∀ W : World, st3 w W (some b1) (some b2) none → G 5 ((((l0.setIfInBounds 3 true).setIfInBounds 7 true).setIfInBounds 10 true).setIfInBounds 11 true) ((((a0.put (some 35) (.agg (rowV 32 (arrV A)))).put (some 39) (.agg (rowV 32 (arrV B)))).put (some 7) (.pointer (some ⟨b1, 0, none⟩))).put (some 8) (.pointer (some ⟨b2, 0, none⟩))) W) := (show ∀ b1 b2, ∀ W : World, st3 w W (some b1) (some b2) none → G 5 ((((l0.setIfInBounds 3 true).setIfInBounds 7 true).setIfInBounds 10 true).setIfInBounds 11 true) ((((a0.put (some 35) (.agg (rowV 32 (arrV A)))).put (some 39) (.agg (rowV 32 (arrV B)))).put (some 7) (.pointer (some ⟨b1, 0, none⟩))).put (some 8) (.pointer (some ⟨b2, 0, none⟩))) W from by
      intro b1 b2 W H
      rw [HA0.out, HL0.out, HG.out]
      try simp only [Act.put, List.setIfInBounds_toArray, List.set_cons_zero, List.set_cons_succ]
      refine take_pair (i := 9) (j := 12) rfl rfl (by kernel_rfl) rfl rfl (fun K hK => ?_) (fun K hK => ?_)
      · go_simp
        refine Calls.mono (RC.out _ H.1) ?_
        rintro e W2 ⟨rfl, hb⟩
        have H2 := H.call hb
        refine hK.out _ _ trivial (fun _ => ?_)
        try simp only [Act.put, List.setIfInBounds_toArray, List.set_cons_zero, List.set_cons_succ]
        have T := ST3_7_9_10_11.out b1 b2 W2 H2
        rw [HA0.out, HL0.out, HG.out] at T
        try simp only [Act.put, List.setIfInBounds_toArray, List.set_cons_zero, List.set_cons_succ] at T
        exact lcong (by kernel_rfl) T
      · obtain ⟨W2, b3, hr, H2⟩ := H.al3
        refine wp_of_run (exec_allocR rfl hr) ?_
        refine hK.out _ _ trivial (fun _ => ?_)
        try simp only [Act.put, List.setIfInBounds_toArray, List.set_cons_zero, List.set_cons_succ]
        have T := ST3_7_10_11_12.out b1 b2 b3 W2 H2
        rw [HA0.out, HL0.out, HG.out] at T
        try simp only [Act.put, List.setIfInBounds_toArray, List.set_cons_zero, List.set_cons_succ] at T
        exact lcong (by kernel_rfl) T)
    have ST3_7_10_12 : Hid (∀ b1 b3, ∀ W : World, st3 w W (some b1) none (some b3) → G 5 ((((l0.setIfInBounds 3 true).setIfInBounds 7 true).setIfInBounds 10 true).setIfInBounds 12 true) ((((a0.put (some 35) (.agg (rowV 32 (arrV A)))).put (some 39) (.agg (rowV 32 (arrV B)))).put (some 7) (.pointer (some ⟨b1, 0, none⟩))).put (some 9) (.pointer (some ⟨b3, 0, none⟩))) W) := (show ∀ b1 b3, ∀ W : World, st3 w W (some b1) none (some b3) → G 5 ((((l0.setIfInBounds 3 true).setIfInBounds 7 true).setIfInBounds 10 true).setIfInBounds 12 true) ((((a0.put (some 35) (.agg (rowV 32 (arrV A)))).put (some 39) (.agg (rowV 32 (arrV B)))).put (some 7) (.pointer (some ⟨b1, 0, none⟩))).put (some 9) (.pointer (some ⟨b3, 0, none⟩))) W from by
      intro b1 b3 W H
      rw [HA0.out, HL0.out, HG.out]
      try simp only [Act.put, List.setIfInBounds_toArray, List.set_cons_zero, List.set_cons_succ]
      refine take_pair (i := 9) (j := 11) rfl rfl (by kernel_rfl) rfl rfl (fun K hK => ?_) (fun K hK => ?_)
      · go_simp
        refine Calls.mono (RC.out _ H.1) ?_
        rintro e W2 ⟨rfl, hb⟩
        have H2 := H.call hb
        refine hK.out _ _ trivial (fun _ => ?_)
        try simp only [Act.put, List.setIfInBounds_toArray, List.set_cons_zero, List.set_cons_succ]
        have T := ST3_7_9_10_12.out b1 b3 W2 H2
        rw [HA0.out, HL0.out, HG.out] at T
        try simp only [Act.put, List.setIfInBounds_toArray, List.set_cons_zero, List.set_cons_succ] at T
        exact lcong (by kernel_rfl) T
      · obtain ⟨W2, b2, hr, H2⟩ := H.al2
        refine wp_of_run (exec_allocR rfl hr) ?_
        refine hK.out _ _ trivial (fun _ => ?_)
        try simp only [Act.put, List.setIfInBounds_toArray, List.set_cons_zero, List.set_cons_succ]
        have T := ST3_7_10_11_12.out b1 b2 b3 W2 H2
        rw [HA0.out, HL0.out, HG.out] at T
        try simp only [Act.put, List.setIfInBounds_toArray, List.set_cons_zero, List.set_cons_succ] at T
        exact lcong (by kernel_rfl) T)
    have ST3_7_11_12 : Hid (∀ b2 b3, ∀ W : World, st3 w W none (some b2) (some b3) → G 5 ((((l0.setIfInBounds 3 true).setIfInBounds 7 true).setIfInBounds 11 true).setIfInBounds 12 true) ((((a0.put (some 35) (.agg (rowV 32 (arrV A)))).put (some 39) (.agg (rowV 32 (arrV B)))).put (some 8) (.pointer (some ⟨b2, 0, none⟩))).put (some 9) (.pointer (some ⟨b3, 0, none⟩))) W) := (show ∀ b2 b3, ∀ W : World, st3 w W none (some b2) (some b3) → G 5 ((((l0.setIfInBounds 3 true).setIfInBounds 7 true).setIfInBounds 11 true).setIfInBounds 12 true) ((((a0.put (some 35) (.agg (rowV 32 (arrV A)))).put (some 39) (.agg (rowV 32 (arrV B)))).put (some 8) (.pointer (some ⟨b2, 0, none⟩))).put (some 9) (.pointer (some ⟨b3, 0, none⟩))) W from by
      intro b2 b3 W H
      rw [HA0.out, HL0.out, HG.out]
      try simp only [Act.put, List.setIfInBounds_toArray, List.set_cons_zero, List.set_cons_succ]
      refine take_pair (i := 9) (j := 10) rfl rfl (by kernel_rfl) rfl rfl (fun K hK => ?_) (fun K hK => ?_)
      · go_simp
        refine Calls.mono (RC.out _ H.1) ?_
        rintro e W2 ⟨rfl, hb⟩
        have H2 := H.call hb
        refine hK.out _ _ trivial (fun _ => ?_)
        try simp only [Act.put, List.setIfInBounds_toArray, List.set_cons_zero, List.set_cons_succ]
        have T := ST3_7_9_11_12.out b2 b3 W2 H2
        rw [HA0.out, HL0.out, HG.out] at T
        try simp only [Act.put, List.setIfInBounds_toArray, List.set_cons_zero, List.set_cons_succ] at T
        exact lcong (by kernel_rfl) T
      · obtain ⟨W2, b1, hr, H2⟩ := H.al1
        refine wp_of_run (exec_allocR rfl hr) ?_
        refine hK.out _ _ trivial (fun _ => ?_)
        try simp only [Act.put, List.setIfInBounds_toArray, List.set_cons_zero, List.set_cons_succ]
        have T := ST3_7_10_11_12.out b1 b2 b3 W2 H2
        rw [HA0.out, HL0.out, HG.out] at T
        try simp only [Act.put, List.setIfInBounds_toArray, List.set_cons_zero, List.set_cons_succ] at T
        exact lcong (by kernel_rfl) T)
    have ST3_7_9_10 : Hid (∀ b1, ∀ W : World, st3 w W (some b1) none none → G 5 ((((l0.setIfInBounds 3 true).setIfInBounds 7 true).setIfInBounds 9 true).setIfInBounds 10 true) ((((a0.put (some 35) (.agg (rowV 32 (arrV A)))).put (some 39) (.agg (rowV 32 (arrV B)))).put (some 41) (.agg (rowV 32 (arrV C)))).put (some 7) (.pointer (some ⟨b1, 0, none⟩))) W) := (show ∀ b1, ∀ W : World, st3 w W (some b1) none none → G 5 ((((l0.setIfInBounds 3 true).setIfInBounds 7 true).setIfInBounds 9 true).setIfInBounds 10 true) ((((a0.put (some 35) (.agg (rowV 32 (arrV A)))).put (some 39) (.agg (rowV 32 (arrV B)))).put (some 41) (.agg (rowV 32 (arrV C)))).put (some 7) (.pointer (some ⟨b1, 0, none⟩))) W from by
      intro b1 W H
      rw [HA0.out, HL0.out, HG.out]
      try simp only [Act.put, List.setIfInBounds_toArray, List.set_cons_zero, List.set_cons_succ]
      refine take_pair (i := 11) (j := 12) rfl rfl (by kernel_rfl) rfl rfl (fun K hK => ?_) (fun K hK => ?_)
      · obtain ⟨W2, b2, hr, H2⟩ := H.al2
        refine wp_of_run (exec_allocR rfl hr) ?_
        refine hK.out _ _ trivial (fun _ => ?_)
        try simp only [Act.put, List.setIfInBounds_toArray, List.set_cons_zero, List.set_cons_succ]
        have T := ST3_7_9_10_11.out b1 b2 W2 H2
        rw [HA0.out, HL0.out, HG.out] at T
        try simp only [Act.put, List.setIfInBounds_toArray, List.set_cons_zero, List.set_cons_succ] at T
        exact lcong (by kernel_rfl) T
      · obtain ⟨W2, b3, hr, H2⟩ := H.al3
        refine wp_of_run (exec_allocR rfl hr) ?_
        refine hK.out _ _ trivial (fun _ => ?_)
        try simp only [Act.put, List.setIfInBounds_toArray, List.set_cons_zero, List.set_cons_succ]
        have T := ST3_7_9_10_12.out b1 b3 W2 H2
        rw [HA0.out, HL0.out, HG.out] at T
        try simp only [Act.put, List.setIfInBounds_toArray, List.set_cons_zero, List.set_cons_succ] at T
        exact lcong (by kernel_rfl) T)
    have ST3_7_9_11 : Hid (∀ b2, ∀ W : World, st3 w W none (some b2) none → G 5 ((((l0.setIfInBounds 3 true).setIfInBounds 7 true).setIfInBounds 9 true).setIfInBounds 11 true) ((((a0.put (some 35) (.agg (rowV 32 (arrV A)))).put (some 39) (.agg (rowV 32 (arrV B)))).put (some 41) (.agg (rowV 32 (arrV C)))).put (some 8) (.pointer (some ⟨b2, 0, none⟩))) W) := (show ∀ b2, ∀ W : World, st3 w W none (some b2) none → G 5 ((((l0.setIfInBounds 3 true).setIfInBounds 7 true).setIfInBounds 9 true).setIfInBounds 11 true) ((((a0.put (some 35) (.agg (rowV 32 (arrV A)))).put (some 39) (.agg (rowV 32 (arrV B)))).put (some 41) (.agg (rowV 32 (arrV C)))).put (some 8) (.pointer (some ⟨b2, 0, none⟩))) W from by
      intro b2 W H
      rw [HA0.out, HL0.out, HG.out]
      try simp only [Act.put, List.setIfInBounds_toArray, List.set_cons_zero, List.set_cons_succ]
      refine take_pair (i := 10) (j := 12) rfl rfl (by kernel_rfl) rfl rfl (fun K hK => ?_) (fun K hK => ?_)
      · obtain ⟨W2, b1, hr, H2⟩ := H.al1
        refine wp_of_run (exec_allocR rfl hr) ?_
        refine hK.out _ _ trivial (fun _ => ?_)
        try simp only [Act.put, List.setIfInBounds_toArray, List.set_cons_zero, List.set_cons_succ]
        have T := ST3_7_9_10_11.out b1 b2 W2 H2
        rw [HA0.out, HL0.out, HG.out] at T
        try simp only [Act.put, List.setIfInBounds_toArray, List.set_cons_zero, List.set_cons_succ] at T
        exact lcong (by kernel_rfl) T
      · obtain ⟨W2, b3, hr, H2⟩ := H.al3
        refine wp_of_run (exec_allocR rfl hr) ?_
        refine hK.out _ _ trivial (fun _ => ?_)
        try simp only [Act.put, List.setIfInBounds_toArray, List.set_cons_zero, List.set_cons_succ]
        have T := ST3_7_9_11_12.out b2 b3 W2 H2
        rw [HA0.out, HL0.out, HG.out] at T
        try simp only [Act.put, List.setIfInBounds_toArray, List.set_cons_zero, List.set_cons_succ] at T
        exact lcong (by kernel_rfl) T)
    have ST3_7_9_12 : Hid (∀ b3, ∀ W : World, st3 w W none none (some b3) → G 5 ((((l0.setIfInBounds 3 true).setIfInBounds 7 true).setIfInBounds 9 true).setIfInBounds 12 true) ((((a0.put (some 35) (.agg (rowV 32 (arrV A)))).put (some 39) (.agg (rowV 32 (arrV B)))).put (some 41) (.agg (rowV 32 (arrV C)))).put (some 9) (.pointer (some ⟨b3, 0, none⟩))) W) := (show ∀ b3, ∀ W : World, st3 w W none none (some b3) → G 5 ((((l0.setIfInBounds 3 true).setIfInBounds 7 true).setIfInBounds 9 true).setIfInBounds 12 true) ((((a0.put (some 35) (.agg (rowV 32 (arrV A)))).put (some 39) (.agg (rowV 32 (arrV B)))).put (some 41) (.agg (rowV 32 (arrV C)))).put (some 9) (.pointer (some ⟨b3, 0, none⟩))) W from by
      intro b3 W H
      rw [HA0.out, HL0.out, HG.out]
      try simp only [Act.put, List.setIfInBounds_toArray, List.set_cons_zero, List.set_cons_succ]
      refine take_pair (i := 10) (j := 11) rfl rfl (by kernel_rfl) rfl rfl (fun K hK => ?_) (fun K hK => ?_)
      · obtain ⟨W2, b1, hr, H2⟩ := H.al1
        refine wp_of_run (exec_allocR rfl hr) ?_
        refine hK.out _ _ trivial (fun _ => ?_)
        try simp only [Act.put, List.setIfInBounds_toArray, List.set_cons_zero, List.set_cons_succ]
        have T := ST3_7_9_10_12.out b1 b3 W2 H2
        rw [HA0.out, HL0.out, HG.out] at T
        try simp only [Act.put, List.setIfInBounds_toArray, List.set_cons_zero, List.set_cons_succ] at T
        exact lcong (by kernel_rfl) T
      · obtain ⟨W2, b2, hr, H2⟩ := H.al2
        refine wp_of_run (exec_allocR rfl hr) ?_
        refine hK.out _ _ trivial (fun _ => ?_)
        try simp only [Act.put, List.setIfInBounds_toArray, List.set_cons_zero, List.set_cons_succ]
        have T := ST3_7_9_11_12.out b2 b3 W2 H2
        rw [HA0.out, HL0.out, HG.out] at T
        try simp only [Act.put, List.setIfInBounds_toArray, List.set_cons_zero, List.set_cons_succ] at T
        exact lcong (by kernel_rfl) T)
    have ST10_11_12 : Hid (∀ b1 b2 b3, ∀ W : World, st3 w W (some b1) (some b2) (some b3) → G 6 (((l0.setIfInBounds 10 true).setIfInBounds 11 true).setIfInBounds 12 true) (((a0.put (some 7) (.pointer (some ⟨b1, 0, none⟩))).put (some 8) (.pointer (some ⟨b2, 0, none⟩))).put (some 9) (.pointer (some ⟨b3, 0, none⟩))) W) := (show ∀ b1 b2 b3, ∀ W : World, st3 w W (some b1) (some b2) (some b3) → G 6 (((l0.setIfInBounds 10 true).setIfInBounds 11 true).setIfInBounds 12 true) (((a0.put (some 7) (.pointer (some ⟨b1, 0, none⟩))).put (some 8) (.pointer (some ⟨b2, 0, none⟩))).put (some 9) (.pointer (some ⟨b3, 0, none⟩))) W from by
      intro b1 b2 b3 W H
      rw [HA0.out, HL0.out, HG.out]
      try simp only [Act.put, List.setIfInBounds_toArray, List.set_cons_zero, List.set_cons_succ]
      refine take_one (i := 3) rfl (by kernel_rfl) rfl (fun K hK => ?_)
      go_simp
      refine Calls.mono (RA.out _ H.1) ?_
      rintro e W2 ⟨rfl, hb⟩
      have H2 := H.call hb
      refine hK.out _ _ trivial (fun _ => ?_)
      try simp only [Act.put, List.setIfInBounds_toArray, List.set_cons_zero, List.set_cons_succ]
      have T := ST3_10_11_12.out b1 b2 b3 W2 H2
      rw [HA0.out, HL0.out, HG.out] at T
      try simp only [Act.put, List.setIfInBounds_toArray, List.set_cons_zero, List.set_cons_succ] at T
      exact lcong (by kernel_rfl) T)
    have ST3_10_11 : Hid (∀ b1 b2, ∀ W : World, st3 w W (some b1) (some b2) none → G 6 (((l0.setIfInBounds 3 true).setIfInBounds 10 true).setIfInBounds 11 true) (((a0.put (some 35) (.agg (rowV 32 (arrV A)))).put (some 7) (.pointer (some ⟨b1, 0, none⟩))).put (some 8) (.pointer (some ⟨b2, 0, none⟩))) W) := (show ∀ b1 b2, ∀ W : World, st3 w W (some b1) (some b2) none → G 6 (((l0.setIfInBounds 3 true).setIfInBounds 10 true).setIfInBounds 11 true) (((a0.put (some 35) (.agg (rowV 32 (arrV A)))).put (some 7) (.pointer (some ⟨b1, 0, none⟩))).put (some 8) (.pointer (some ⟨b2, 0, none⟩))) W from by
      intro b1 b2 W H
      rw [HA0.out, HL0.out, HG.out]
      try simp only [Act.put, List.setIfInBounds_toArray, List.set_cons_zero, List.set_cons_succ]
      refine take_pair (i := 7) (j := 12) rfl rfl (by kernel_rfl) rfl rfl (fun K hK => ?_) (fun K hK => ?_)
      · go_simp
        refine Calls.mono (RB.out _ H.1) ?_
        rintro e W2 ⟨rfl, hb⟩
        have H2 := H.call hb
        refine hK.out _ _ trivial (fun _ => ?_)
        try simp only [Act.put, List.setIfInBounds_toArray, List.set_cons_zero, List.set_cons_succ]
        have T := ST3_7_10_11.out b1 b2 W2 H2
        rw [HA0.out, HL0.out, HG.out] at T
        try simp only [Act.put, List.setIfInBounds_toArray, List.set_cons_zero, List.set_cons_succ] at T
        exact lcong (by kernel_rfl) T
      · obtain ⟨W2, b3, hr, H2⟩ := H.al3
        refine wp_of_run (exec_allocR rfl hr) ?_
        refine hK.out _ _ trivial (fun _ => ?_)
        try simp only [Act.put, List.setIfInBounds_toArray, List.set_cons_zero, List.set_cons_succ]
        have T := ST3_10_11_12.out b1 b2 b3 W2 H2
        rw [HA0.out, HL0.out, HG.out] at T
        try simp only [Act.put, List.setIfInBounds_toArray, List.set_cons_zero, List.set_cons_succ] at T
        exact lcong (by kernel_rfl) T)
    have ST3_10_12 : Hid (∀ b1 b3, ∀ W : World, st3 w W (some b1) none (some b3) → G 6 (((l0.setIfInBounds 3 true).setIfInBounds 10 true).setIfInBounds 12 true) (((a0.put (some 35) (.agg (rowV 32 (arrV A)))).put (some 7) (.pointer (some ⟨b1, 0, none⟩))).put (some 9) (.pointer (some ⟨b3, 0, none⟩))) W) := (show ∀ b1 b3, ∀ W : World, st3 w W (some b1) none (some b3) → G 6 (((l0.setIfInBounds 3 true).setIfInBounds 10 true).setIfInBounds 12 true) (((a0.put (some 35) (.agg (rowV 32 (arrV A)))).put (some 7) (.pointer (some ⟨b1, 0, none⟩))).put (some 9) (.pointer (some ⟨b3, 0, none⟩))) W from by
      intro b1 b3 W H
      rw [HA0.out, HL0.out, HG.out]
      try simp only [Act.put, List.setIfInBounds_toArray, List.set_cons_zero, List.set_cons_succ]
      refine take_pair (i := 7) (j := 11) rfl rfl (by kernel_rfl) rfl rfl (fun K hK => ?_) (fun K hK => ?_)
      · go_simp
        refine Calls.mono (RB.out _ H.1) ?_
        rintro e W2 ⟨rfl, hb⟩
        have H2 := H.call hb
        refine hK.out _ _ trivial (fun _ => ?_)
        try simp only [Act.put, List.setIfInBounds_toArray, List.set_cons_zero, List.set_cons_succ]
        have T := ST3_7_10_12.out b1 b3 W2 H2
        rw [HA0.out, HL0.out, HG.out] at T
        try simp only [Act.put, List.setIfInBounds_toArray, List.set_cons_zero, List.set_cons_succ] at T
        exact lcong (by kernel_rfl) T
      · obtain ⟨W2, b2, hr, H2⟩ := H.al2
        refine wp_of_run (exec_allocR rfl hr) ?_
        refine hK.out _ _ trivial (fun _ => ?_)
        try simp only [Act.put, List.setIfInBounds_toArray, List.set_cons_zero, List.set_cons_succ]
        have T := ST3_10_11_12.out b1 b2 b3 W2 H2
        rw [HA0.out, HL0.out, HG.out] at T
        try simp only [Act.put, List.setIfInBounds_toArray, List.set_cons_zero, List.set_cons_succ] at T
        exact lcong (by kernel_rfl) T)
    have ST3_11_12 : Hid (∀ b2 b3, ∀ W : World, st3 w W none (some b2) (some b3) → G 6 (((l0.setIfInBounds 3 true).setIfInBounds 11 true).setIfInBounds 12 true) (((a0.put (some 35) (.agg (rowV 32 (arrV A)))).put (some 8) (.pointer (some ⟨b2, 0, none⟩))).put (some 9) (.pointer (some ⟨b3, 0, none⟩))) W) := (show ∀ b2 b3, ∀ W : World, st3 w W none (some b2) (some b3) → G 6 (((l0.setIfInBounds 3 true).setIfInBounds 11 true).setIfInBounds 12 true) (((a0.put (some 35) (.agg (rowV 32 (arrV A)))).put (some 8) (.pointer (some ⟨b2, 0, none⟩))).put (some 9) (.pointer (some ⟨b3, 0, none⟩))) W from by
      intro b2 b3 W H
      rw [HA0.out, HL0.out, HG.out]
      try simp only [Act.put, List.setIfInBounds_toArray, List.set_cons_zero, List.set_cons_succ]
      refine take_pair (i := 7) (j := 10) rfl rfl (by kernel_rfl) rfl rfl (fun K hK => ?_) (fun K hK => ?_)
      · go_simp
        refine Calls.mono (RB.out _ H.1) ?_
        rintro e W2 ⟨rfl, hb⟩
        have H2 := H.call hb
        refine hK.out _ _ trivial (fun _ => ?_)
        try simp only [Act.put, List.setIfInBounds_toArray, List.set_cons_zero, List.set_cons_succ]
        have T := ST3_7_11_12.out b2 b3 W2 H2
        rw [HA0.out, HL0.out, HG.out] at T
        try simp only [Act.put, List.setIfInBounds_toArray, List.set_cons_zero, List.set_cons_succ] at T
        exact lcong (by kernel_rfl) T
      · obtain ⟨W2, b1, hr, H2⟩ := H.al1
        refine wp_of_run (exec_allocR rfl hr) ?_
        refine hK.out _ _ trivial (fun _ => ?_)
        try simp only [Act.put, List.setIfInBounds_toArray, List.set_cons_zero, List.set_cons_succ]
        have T := ST3_10_11_12.out b1 b2 b3 W2 H2
        rw [HA0.out, HL0.out, HG.out] at T
        try simp only [Act.put, List.setIfInBounds_toArray, List.set_cons_zero, List.set_cons_succ] at T
        exact lcong (by kernel_rfl) T)
    have ST3_7_10 : Hid (∀ b1, ∀ W : World, st3 w W (some b1) none none → G 6 (((l0.setIfInBounds 3 true).setIfInBounds 7 true).setIfInBounds 10 true) (((a0.put (some 35) (.agg (rowV 32 (arrV A)))).put (some 39) (.agg (rowV 32 (arrV B)))).put (some 7) (.pointer (some ⟨b1, 0, none⟩))) W) := (show ∀ b1, ∀ W : World, st3 w W (some b1) none none → G 6 (((l0.setIfInBounds 3 true).setIfInBounds 7 true).setIfInBounds 10 true) (((a0.put (some 35) (.agg (rowV 32 (arrV A)))).put (some 39) (.agg (rowV 32 (arrV B)))).put (some 7) (.pointer (some ⟨b1, 0, none⟩))) W from by
      intro b1 W H
      rw [HA0.out, HL0.out, HG.out]
      try simp only [Act.put, List.setIfInBounds_toArray, List.set_cons_zero, List.set_cons_succ]
      refine take_threeG (i := 9) (j := 11) (k := 12) rfl rfl rfl (by kernel_rfl) rfl rfl rfl (fun K hK => ?_) (fun K hK => ?_) (fun K hK => ?_)
      · go_simp
        refine Calls.mono (RC.out _ H.1) ?_
        rintro e W2 ⟨rfl, hb⟩
        have H2 := H.call hb
        refine hK.out _ _ trivial (fun _ => ?_)
        try simp only [Act.put, List.setIfInBounds_toArray, List.set_cons_zero, List.set_cons_succ]
        have T := ST3_7_9_10.out b1 W2 H2
        rw [HA0.out, HL0.out, HG.out] at T
        try simp only [Act.put, List.setIfInBounds_toArray, List.set_cons_zero, List.set_cons_succ] at T
        exact lcong (by kernel_rfl) T
      · obtain ⟨W2, b2, hr, H2⟩ := H.al2
        refine wp_of_run (exec_allocR rfl hr) ?_
        refine hK.out _ _ trivial (fun _ => ?_)
        try simp only [Act.put, List.setIfInBounds_toArray, List.set_cons_zero, List.set_cons_succ]
        have T := ST3_7_10_11.out b1 b2 W2 H2
        rw [HA0.out, HL0.out, HG.out] at T
        try simp only [Act.put, List.setIfInBounds_toArray, List.set_cons_zero, List.set_cons_succ] at T
        exact lcong (by kernel_rfl) T
      · obtain ⟨W2, b3, hr, H2⟩ := H.al3
        refine wp_of_run (exec_allocR rfl hr) ?_
        refine hK.out _ _ trivial (fun _ => ?_)
        try simp only [Act.put, List.setIfInBounds_toArray, List.set_cons_zero, List.set_cons_succ]
        have T := ST3_7_10_12.out b1 b3 W2 H2
        rw [HA0.out, HL0.out, HG.out] at T
        try simp only [Act.put, List.setIfInBounds_toArray, List.set_cons_zero, List.set_cons_succ] at T
        exact lcong (by kernel_rfl) T)
    have ST3_7_11 : Hid (∀ b2, ∀ W : World, st3 w W none (some b2) none → G 6 (((l0.setIfInBounds 3 true).setIfInBounds 7 true).setIfInBounds 11 true) (((a0.put (some 35) (.agg (rowV 32 (arrV A)))).put (some 39) (.agg (rowV 32 (arrV B)))).put (some 8) (.pointer (some ⟨b2, 0, none⟩))) W) := (show ∀ b2, ∀ W : World, st3 w W none (some b2) none → G 6 (((l0.setIfInBounds 3 true).setIfInBounds 7 true).setIfInBounds 11 true) (((a0.put (some 35) (.agg (rowV 32 (arrV A)))).put (some 39) (.agg (rowV 32 (arrV B)))).put (some 8) (.pointer (some ⟨b2, 0, none⟩))) W from by
      intro b2 W H
      rw [HA0.out, HL0.out, HG.out]
      try simp only [Act.put, List.setIfInBounds_toArray, List.set_cons_zero, List.set_cons_succ]
      refine take_threeG (i := 9) (j := 10) (k := 12) rfl rfl rfl (by kernel_rfl) rfl rfl rfl (fun K hK => ?_) (fun K hK => ?_) (fun K hK => ?_)
      · go_simp
        refine Calls.mono (RC.out _ H.1) ?_
        rintro e W2 ⟨rfl, hb⟩
        have H2 := H.call hb
        refine hK.out _ _ trivial (fun _ => ?_)
        try simp only [Act.put, List.setIfInBounds_toArray, List.set_cons_zero, List.set_cons_succ]
        have T := ST3_7_9_11.out b2 W2 H2
        rw [HA0.out, HL0.out, HG.out] at T
        try simp only [Act.put, List.setIfInBounds_toArray, List.set_cons_zero, List.set_cons_succ] at T
        exact lcong (by kernel_rfl) T
      · obtain ⟨W2, b1, hr, H2⟩ := H.al1
        refine wp_of_run (exec_allocR rfl hr) ?_
        refine hK.out _ _ trivial (fun _ => ?_)
        try simp only [Act.put, List.setIfInBounds_toArray, List.set_cons_zero, List.set_cons_succ]
        have T := ST3_7_10_11.out b1 b2 W2 H2
        rw [HA0.out, HL0.out, HG.out] at T
        try simp only [Act.put, List.setIfInBounds_toArray, List.set_cons_zero, List.set_cons_succ] at T
        exact lcong (by kernel_rfl) T
      · obtain ⟨W2, b3, hr, H2⟩ := H.al3
        refine wp_of_run (exec_allocR rfl hr) ?_
        refine hK.out _ _ trivial (fun _ => ?_)
        try simp only [Act.put, List.setIfInBounds_toArray, List.set_cons_zero, List.set_cons_succ]
        have T := ST3_7_11_12.out b2 b3 W2 H2
        rw [HA0.out, HL0.out, HG.out] at T
        try simp only [Act.put, List.setIfInBounds_toArray, List.set_cons_zero, List.set_cons_succ] at T
        exact lcong (by kernel_rfl) T)
    have ST3_7_12 : Hid (∀ b3, ∀ W : World, st3 w W none none (some b3) → G 6 (((l0.setIfInBounds 3 true).setIfInBounds 7 true).setIfInBounds 12 true) (((a0.put (some 35) (.agg (rowV 32 (arrV A)))).put (some 39) (.agg (rowV 32 (arrV B)))).put (some 9) (.pointer (some ⟨b3, 0, none⟩))) W) := (show ∀ b3, ∀ W : World, st3 w W none none (some b3) → G 6 (((l0.setIfInBounds 3 true).setIfInBounds 7 true).setIfInBounds 12 true) (((a0.put (some 35) (.agg (rowV 32 (arrV A)))).put (some 39) (.agg (rowV 32 (arrV B)))).put (some 9) (.pointer (some ⟨b3, 0, none⟩))) W from by
      intro b3 W H
      rw [HA0.out, HL0.out, HG.out]
      try simp only [Act.put, List.setIfInBounds_toArray, List.set_cons_zero, List.set_cons_succ]
      refine take_threeG (i := 9) (j := 10) (k := 11) rfl rfl rfl (by kernel_rfl) rfl rfl rfl (fun K hK => ?_) (fun K hK => ?_) (fun K hK => ?_)
      · go_simp
        refine Calls.mono (RC.out _ H.1) ?_
        rintro e W2 ⟨rfl, hb⟩
        have H2 := H.call hb
        refine hK.out _ _ trivial (fun _ => ?_)
        try simp only [Act.put, List.setIfInBounds_toArray, List.set_cons_zero, List.set_cons_succ]
        have T := ST3_7_9_12.out b3 W2 H2
        rw [HA0.out, HL0.out, HG.out] at T
        try simp only [Act.put, List.setIfInBounds_toArray, List.set_cons_zero, List.set_cons_succ] at T
        exact lcong (by kernel_rfl) T
      · obtain ⟨W2, b1, hr, H2⟩ := H.al1
        refine wp_of_run (exec_allocR rfl hr) ?_
        refine hK.out _ _ trivial (fun _ => ?_)
        try simp only [Act.put, List.setIfInBounds_toArray, List.set_cons_zero, List.set_cons_succ]
        have T := ST3_7_10_12.out b1 b3 W2 H2
        rw [HA0.out, HL0.out, HG.out] at T
        try simp only [Act.put, List.setIfInBounds_toArray, List.set_cons_zero, List.set_cons_succ] at T
        exact lcong (by kernel_rfl) T
      · obtain ⟨W2, b2, hr, H2⟩ := H.al2
        refine wp_of_run (exec_allocR rfl hr) ?_
        refine hK.out _ _ trivial (fun _ => ?_)
        try simp only [Act.put, List.setIfInBounds_toArray, List.set_cons_zero, List.set_cons_succ]
        have T := ST3_7_11_12.out b2 b3 W2 H2
        rw [HA0.out, HL0.out, HG.out] at T
        try simp only [Act.put, List.setIfInBounds_toArray, List.set_cons_zero, List.set_cons_succ] at T
        exact lcong (by kernel_rfl) T)
    have ST3_7_9 : Hid (∀ W : World, st3 w W none none none → G 6 (((l0.setIfInBounds 3 true).setIfInBounds 7 true).setIfInBounds 9 true) (((a0.put (some 35) (.agg (rowV 32 (arrV A)))).put (some 39) (.agg (rowV 32 (arrV B)))).put (some 41) (.agg (rowV 32 (arrV C)))) W) := (show ∀ W : World, st3 w W none none none → G 6 (((l0.setIfInBounds 3 true).setIfInBounds 7 true).setIfInBounds 9 true) (((a0.put (some 35) (.agg (rowV 32 (arrV A)))).put (some 39) (.agg (rowV 32 (arrV B)))).put (some 41) (.agg (rowV 32 (arrV C)))) W from by
      intro  W H
      rw [HA0.out, HL0.out, HG.out]
      try simp only [Act.put, List.setIfInBounds_toArray, List.set_cons_zero, List.set_cons_succ]
      refine take_threeG (i := 10) (j := 11) (k := 12) rfl rfl rfl (by kernel_rfl) rfl rfl rfl (fun K hK => ?_) (fun K hK => ?_) (fun K hK => ?_)
      · obtain ⟨W2, b1, hr, H2⟩ := H.al1
        refine wp_of_run (exec_allocR rfl hr) ?_
        refine hK.out _ _ trivial (fun _ => ?_)
        try simp only [Act.put, List.setIfInBounds_toArray, List.set_cons_zero, List.set_cons_succ]
        have T := ST3_7_9_10.out b1 W2 H2
        rw [HA0.out, HL0.out, HG.out] at T
        try simp only [Act.put, List.setIfInBounds_toArray, List.set_cons_zero, List.set_cons_succ] at T
        exact lcong (by kernel_rfl) T
      · obtain ⟨W2, b2, hr, H2⟩ := H.al2
        refine wp_of_run (exec_allocR rfl hr) ?_
        refine hK.out _ _ trivial (fun _ => ?_)
        try simp only [Act.put, List.setIfInBounds_toArray, List.set_cons_zero, List.set_cons_succ]
        have T := ST3_7_9_11.out b2 W2 H2
        rw [HA0.out, HL0.out, HG.out] at T
        try simp only [Act.put, List.setIfInBounds_toArray, List.set_cons_zero, List.set_cons_succ] at T
        exact lcong (by kernel_rfl) T
      · obtain ⟨W2, b3, hr, H2⟩ := H.al3
        refine wp_of_run (exec_allocR rfl hr) ?_
        refine hK.out _ _ trivial (fun _ => ?_)
        try simp only [Act.put, List.setIfInBounds_toArray, List.set_cons_zero, List.set_cons_succ]
        have T := ST3_7_9_12.out b3 W2 H2
        rw [HA0.out, HL0.out, HG.out] at T
        try simp only [Act.put, List.setIfInBounds_toArray, List.set_cons_zero, List.set_cons_succ] at T
        exact lcong (by kernel_rfl) T)
    have ST10_11 : Hid (∀ b1 b2, ∀ W : World, st3 w W (some b1) (some b2) none → G 7 ((l0.setIfInBounds 10 true).setIfInBounds 11 true) ((a0.put (some 7) (.pointer (some ⟨b1, 0, none⟩))).put (some 8) (.pointer (some ⟨b2, 0, none⟩))) W) := (show ∀ b1 b2, ∀ W : World, st3 w W (some b1) (some b2) none → G 7 ((l0.setIfInBounds 10 true).setIfInBounds 11 true) ((a0.put (some 7) (.pointer (some ⟨b1, 0, none⟩))).put (some 8) (.pointer (some ⟨b2, 0, none⟩))) W from by
      intro b1 b2 W H
      rw [HA0.out, HL0.out, HG.out]
      try simp only [Act.put, List.setIfInBounds_toArray, List.set_cons_zero, List.set_cons_succ]
      refine take_pair (i := 3) (j := 12) rfl rfl (by kernel_rfl) rfl rfl (fun K hK => ?_) (fun K hK => ?_)
      · go_simp
        refine Calls.mono (RA.out _ H.1) ?_
        rintro e W2 ⟨rfl, hb⟩
        have H2 := H.call hb
        refine hK.out _ _ trivial (fun _ => ?_)
        try simp only [Act.put, List.setIfInBounds_toArray, List.set_cons_zero, List.set_cons_succ]
        have T := ST3_10_11.out b1 b2 W2 H2
        rw [HA0.out, HL0.out, HG.out] at T
        try simp only [Act.put, List.setIfInBounds_toArray, List.set_cons_zero, List.set_cons_succ] at T
        exact lcong (by kernel_rfl) T
      · obtain ⟨W2, b3, hr, H2⟩ := H.al3
        refine wp_of_run (exec_allocR rfl hr) ?_
        refine hK.out _ _ trivial (fun _ => ?_)
        try simp only [Act.put, List.setIfInBounds_toArray, List.set_cons_zero, List.set_cons_succ]
        have T := ST10_11_12.out b1 b2 b3 W2 H2
        rw [HA0.out, HL0.out, HG.out] at T
        try simp only [Act.put, List.setIfInBounds_toArray, List.set_cons_zero, List.set_cons_succ] at T
        exact lcong (by kernel_rfl) T)
    have ST10_12 : Hid (∀ b1 b3, ∀ W : World, st3 w W (some b1) none (some b3) → G 7 ((l0.setIfInBounds 10 true).setIfInBounds 12 true) ((a0.put (some 7) (.pointer (some ⟨b1, 0, none⟩))).put (some 9) (.pointer (some ⟨b3, 0, none⟩))) W) := (show ∀ b1 b3, ∀ W : World, st3 w W (some b1) none (some b3) → G 7 ((l0.setIfInBounds 10 true).setIfInBounds 12 true) ((a0.put (some 7) (.pointer (some ⟨b1, 0, none⟩))).put (some 9) (.pointer (some ⟨b3, 0, none⟩))) W from by
      intro b1 b3 W H
      rw [HA0.out, HL0.out, HG.out]
      try simp only [Act.put, List.setIfInBounds_toArray, List.set_cons_zero, List.set_cons_succ]
      refine take_pair (i := 3) (j := 11) rfl rfl (by kernel_rfl) rfl rfl (fun K hK => ?_) (fun K hK => ?_)
      · go_simp
        refine Calls.mono (RA.out _ H.1) ?_
        rintro e W2 ⟨rfl, hb⟩
        have H2 := H.call hb
        refine hK.out _ _ trivial (fun _ => ?_)
        try simp only [Act.put, List.setIfInBounds_toArray, List.set_cons_zero, List.set_cons_succ]
        have T := ST3_10_12.out b1 b3 W2 H2
        rw [HA0.out, HL0.out, HG.out] at T
        try simp only [Act.put, List.setIfInBounds_toArray, List.set_cons_zero, List.set_cons_succ] at T
        exact lcong (by kernel_rfl) T
      · obtain ⟨W2, b2, hr, H2⟩ := H.al2
        refine wp_of_run (exec_allocR rfl hr) ?_
        refine hK.out _ _ trivial (fun _ => ?_)
        try simp only [Act.put, List.setIfInBounds_toArray, List.set_cons_zero, List.set_cons_succ]
        have T := ST10_11_12.out b1 b2 b3 W2 H2
        rw [HA0.out, HL0.out, HG.out] at T
        try simp only [Act.put, List.setIfInBounds_toArray, List.set_cons_zero, List.set_cons_succ] at T
        exact lcong (by kernel_rfl) T)
    have ST11_12 : Hid (∀ b2 b3, ∀ W : World, st3 w W none (some b2) (some b3) → G 7 ((l0.setIfInBounds 11 true).setIfInBounds 12 true) ((a0.put (some 8) (.pointer (some ⟨b2, 0, none⟩))).put (some 9) (.pointer (some ⟨b3, 0, none⟩))) W) := (show ∀ b2 b3, ∀ W : World, st3 w W none (some b2) (some b3) → G 7 ((l0.setIfInBounds 11 true).setIfInBounds 12 true) ((a0.put (some 8) (.pointer (some ⟨b2, 0, none⟩))).put (some 9) (.pointer (some ⟨b3, 0, none⟩))) W from by
      intro b2 b3 W H
      rw [HA0.out, HL0.out, HG.out]
      try simp only [Act.put, List.setIfInBounds_toArray, List.set_cons_zero, List.set_cons_succ]
      refine take_pair (i := 3) (j := 10) rfl rfl (by kernel_rfl) rfl rfl (fun K hK => ?_) (fun K hK => ?_)
      · go_simp
        refine Calls.mono (RA.out _ H.1) ?_
        rintro e W2 ⟨rfl, hb⟩
        have H2 := H.call hb
        refine hK.out _ _ trivial (fun _ => ?_)
        try simp only [Act.put, List.setIfInBounds_toArray, List.set_cons_zero, List.set_cons_succ]
        have T := ST3_11_12.out b2 b3 W2 H2
        rw [HA0.out, HL0.out, HG.out] at T
        try simp only [Act.put, List.setIfInBounds_toArray, List.set_cons_zero, List.set_cons_succ] at T
        exact lcong (by kernel_rfl) T
      · obtain ⟨W2, b1, hr, H2⟩ := H.al1
        refine wp_of_run (exec_allocR rfl hr) ?_
        refine hK.out _ _ trivial (fun _ => ?_)
        try simp only [Act.put, List.setIfInBounds_toArray, List.set_cons_zero, List.set_cons_succ]
        have T := ST10_11_12.out b1 b2 b3 W2 H2
        rw [HA0.out, HL0.out, HG.out] at T
        try simp only [Act.put, List.setIfInBounds_toArray, List.set_cons_zero, List.set_cons_succ] at T
        exact lcong (by kernel_rfl) T)
    have ST3_10 : Hid (∀ b1, ∀ W : World, st3 w W (some b1) none none → G 7 ((l0.setIfInBounds 3 true).setIfInBounds 10 true) ((a0.put (some 35) (.agg (rowV 32 (arrV A)))).put (some 7) (.pointer (some ⟨b1, 0, none⟩))) W) := (show ∀ b1, ∀ W : World, st3 w W (some b1) none none → G 7 ((l0.setIfInBounds 3 true).setIfInBounds 10 true) ((a0.put (some 35) (.agg (rowV 32 (arrV A)))).put (some 7) (.pointer (some ⟨b1, 0, none⟩))) W from by
      intro b1 W H
      rw [HA0.out, HL0.out, HG.out]
      try simp only [Act.put, List.setIfInBounds_toArray, List.set_cons_zero, List.set_cons_succ]
      refine take_threeG (i := 7) (j := 11) (k := 12) rfl rfl rfl (by kernel_rfl) rfl rfl rfl (fun K hK => ?_) (fun K hK => ?_) (fun K hK => ?_)
      · go_simp
        refine Calls.mono (RB.out _ H.1) ?_
        rintro e W2 ⟨rfl, hb⟩
        have H2 := H.call hb
        refine hK.out _ _ trivial (fun _ => ?_)
        try simp only [Act.put, List.setIfInBounds_toArray, List.set_cons_zero, List.set_cons_succ]
        have T := ST3_7_10.out b1 W2 H2
        rw [HA0.out, HL0.out, HG.out] at T
        try simp only [Act.put, List.setIfInBounds_toArray, List.set_cons_zero, List.set_cons_succ] at T
        exact lcong (by kernel_rfl) T
      · obtain ⟨W2, b2, hr, H2⟩ := H.al2
        refine wp_of_run (exec_allocR rfl hr) ?_
        refine hK.out _ _ trivial (fun _ => ?_)
        try simp only [Act.put, List.setIfInBounds_toArray, List.set_cons_zero, List.set_cons_succ]
        have T := ST3_10_11.out b1 b2 W2 H2
        rw [HA0.out, HL0.out, HG.out] at T
        try simp only [Act.put, List.setIfInBounds_toArray, List.set_cons_zero, List.set_cons_succ] at T
        exact lcong (by kernel_rfl) T
      · obtain ⟨W2, b3, hr, H2⟩ := H.al3
        refine wp_of_run (exec_allocR rfl hr) ?_
        refine hK.out _ _ trivial (fun _ => ?_)
        try simp only [Act.put, List.setIfInBounds_toArray, List.set_cons_zero, List.set_cons_succ]
        have T := ST3_10_12.out b1 b3 W2 H2
        rw [HA0.out, HL0.out, HG.out] at T
        try simp only [Act.put, List.setIfInBounds_toArray, List.set_cons_zero, List.set_cons_succ] at T
        exact lcong (by kernel_rfl) T)
    have ST3_11 : Hid (∀ b2, ∀ W : World, st3 w W none (some b2) none → G 7 ((l0.setIfInBounds 3 true).setIfInBounds 11 true) ((a0.put (some 35) (.agg (rowV 32 (arrV A)))).put (some 8) (.pointer (some ⟨b2, 0, none⟩))) W) := (show ∀ b2, ∀ W : World, st3 w W none (some b2) none → G 7 ((l0.setIfInBounds 3 true).setIfInBounds 11 true) ((a0.put (some 35) (.agg (rowV 32 (arrV A)))).put (some 8) (.pointer (some ⟨b2, 0, none⟩))) W from by
      intro b2 W H
      rw [HA0.out, HL0.out, HG.out]
      try simp only [Act.put, List.setIfInBounds_toArray, List.set_cons_zero, List.set_cons_succ]
      refine take_threeG (i := 7) (j := 10) (k := 12) rfl rfl rfl (by kernel_rfl) rfl rfl rfl (fun K hK => ?_) (fun K hK => ?_) (fun K hK => ?_)
      · go_simp
        refine Calls.mono (RB.out _ H.1) ?_
        rintro e W2 ⟨rfl, hb⟩
        have H2 := H.call hb
        refine hK.out _ _ trivial (fun _ => ?_)
        try simp only [Act.put, List.setIfInBounds_toArray, List.set_cons_zero, List.set_cons_succ]
        have T := ST3_7_11.out b2 W2 H2
        rw [HA0.out, HL0.out, HG.out] at T
        try simp only [Act.put, List.setIfInBounds_toArray, List.set_cons_zero, List.set_cons_succ] at T
        exact lcong (by kernel_rfl) T
      · obtain ⟨W2, b1, hr, H2⟩ := H.al1
        refine wp_of_run (exec_allocR rfl hr) ?_
        refine hK.out _ _ trivial (fun _ => ?_)
        try simp only [Act.put, List.setIfInBounds_toArray, List.set_cons_zero, List.set_cons_succ]
        have T := ST3_10_11.out b1 b2 W2 H2
        rw [HA0.out, HL0.out, HG.out] at T
        try simp only [Act.put, List.setIfInBounds_toArray, List.set_cons_zero, List.set_cons_succ] at T
        exact lcong (by kernel_rfl) T
      · obtain ⟨W2, b3, hr, H2⟩ := H.al3
        refine wp_of_run (exec_allocR rfl hr) ?_
        refine hK.out _ _ trivial (fun _ => ?_)
        try simp only [Act.put, List.setIfInBounds_toArray, List.set_cons_zero, List.set_cons_succ]
        have T := ST3_11_12.out b2 b3 W2 H2
        rw [HA0.out, HL0.out, HG.out] at T
        try simp only [Act.put, List.setIfInBounds_toArray, List.set_cons_zero, List.set_cons_succ] at T
        exact lcong (by kernel_rfl) T)
    have ST3_12 : Hid (∀ b3, ∀ W : World, st3 w W none none (some b3) → G 7 ((l0.setIfInBounds 3 true).setIfInBounds 12 true) ((a0.put (some 35) (.agg (rowV 32 (arrV A)))).put (some 9) (.pointer (some ⟨b3, 0, none⟩))) W) := (show ∀ b3, ∀ W : World, st3 w W none none (some b3) → G 7 ((l0.setIfInBounds 3 true).setIfInBounds 12 true) ((a0.put (some 35) (.agg (rowV 32 (arrV A)))).put (some 9) (.pointer (some ⟨b3, 0, none⟩))) W from by
      intro b3 W H
      rw [HA0.out, HL0.out, HG.out]
      try simp only [Act.put, List.setIfInBounds_toArray, List.set_cons_zero, List.set_cons_succ]
      refine take_threeG (i := 7) (j := 10) (k := 11) rfl rfl rfl (by kernel_rfl) rfl rfl rfl (fun K hK => ?_) (fun K hK => ?_) (fun K hK => ?_)
      · go_simp
        refine Calls.mono (RB.out _ H.1) ?_
        rintro e W2 ⟨rfl, hb⟩
        have H2 := H.call hb
        refine hK.out _ _ trivial (fun _ => ?_)
        try simp only [Act.put, List.setIfInBounds_toArray, List.set_cons_zero, List.set_cons_succ]
        have T := ST3_7_12.out b3 W2 H2
        rw [HA0.out, HL0.out, HG.out] at T
        try simp only [Act.put, List.setIfInBounds_toArray, List.set_cons_zero, List.set_cons_succ] at T
        exact lcong (by kernel_rfl) T
      · obtain ⟨W2, b1, hr, H2⟩ := H.al1
        refine wp_of_run (exec_allocR rfl hr) ?_
        refine hK.out _ _ trivial (fun _ => ?_)
        try simp only [Act.put, List.setIfInBounds_toArray, List.set_cons_zero, List.set_cons_succ]
        have T := ST3_10_12.out b1 b3 W2 H2
        rw [HA0.out, HL0.out, HG.out] at T
        try simp only [Act.put, List.setIfInBounds_toArray, List.set_cons_zero, List.set_cons_succ] at T
        exact lcong (by kernel_rfl) T
      · obtain ⟨W2, b2, hr, H2⟩ := H.al2
        refine wp_of_run (exec_allocR rfl hr) ?_
        refine hK.out _ _ trivial (fun _ => ?_)
        try simp only [Act.put, List.setIfInBounds_toArray, List.set_cons_zero, List.set_cons_succ]
        have T := ST3_11_12.out b2 b3 W2 H2
        rw [HA0.out, HL0.out, HG.out] at T
        try simp only [Act.put, List.setIfInBounds_toArray, List.set_cons_zero, List.set_cons_succ] at T
        exact lcong (by kernel_rfl) T)
    have ST3_7 : Hid (∀ W : World, st3 w W none none none → G 7 ((l0.setIfInBounds 3 true).setIfInBounds 7 true) ((a0.put (some 35) (.agg (rowV 32 (arrV A)))).put (some 39) (.agg (rowV 32 (arrV B)))) W) := (show ∀ W : World, st3 w W none none none → G 7 ((l0.setIfInBounds 3 true).setIfInBounds 7 true) ((a0.put (some 35) (.agg (rowV 32 (arrV A)))).put (some 39) (.agg (rowV 32 (arrV B)))) W from by
      intro  W H
      rw [HA0.out, HL0.out, HG.out]
      try simp only [Act.put, List.setIfInBounds_toArray, List.set_cons_zero, List.set_cons_succ]
      refine take_fourG (i := 9) (j := 10) (k := 11) (m := 12) rfl rfl rfl rfl (by kernel_rfl) rfl rfl rfl rfl (fun K hK => ?_) (fun K hK => ?_) (fun K hK => ?_) (fun K hK => ?_)
      · go_simp
        refine Calls.mono (RC.out _ H.1) ?_
        rintro e W2 ⟨rfl, hb⟩
        have H2 := H.call hb
        refine hK.out _ _ trivial (fun _ => ?_)
        try simp only [Act.put, List.setIfInBounds_toArray, List.set_cons_zero, List.set_cons_succ]
        have T := ST3_7_9.out  W2 H2
        rw [HA0.out, HL0.out, HG.out] at T
        try simp only [Act.put, List.setIfInBounds_toArray, List.set_cons_zero, List.set_cons_succ] at T
        exact lcong (by kernel_rfl) T
      · obtain ⟨W2, b1, hr, H2⟩ := H.al1
        refine wp_of_run (exec_allocR rfl hr) ?_
        refine hK.out _ _ trivial (fun _ => ?_)
        try simp only [Act.put, List.setIfInBounds_toArray, List.set_cons_zero, List.set_cons_succ]
        have T := ST3_7_10.out b1 W2 H2
        rw [HA0.out, HL0.out, HG.out] at T
        try simp only [Act.put, List.setIfInBounds_toArray, List.set_cons_zero, List.set_cons_succ] at T
        exact lcong (by kernel_rfl) T
      · obtain ⟨W2, b2, hr, H2⟩ := H.al2
        refine wp_of_run (exec_allocR rfl hr) ?_
        refine hK.out _ _ trivial (fun _ => ?_)
        try simp only [Act.put, List.setIfInBounds_toArray, List.set_cons_zero, List.set_cons_succ]
        have T := ST3_7_11.out b2 W2 H2
        rw [HA0.out, HL0.out, HG.out] at T
        try simp only [Act.put, List.setIfInBounds_toArray, List.set_cons_zero, List.set_cons_succ] at T
        exact lcong (by kernel_rfl) T
      · obtain ⟨W2, b3, hr, H2⟩ := H.al3
        refine wp_of_run (exec_allocR rfl hr) ?_
        refine hK.out _ _ trivial (fun _ => ?_)
        try simp only [Act.put, List.setIfInBounds_toArray, List.set_cons_zero, List.set_cons_succ]
        have T := ST3_7_12.out b3 W2 H2
        rw [HA0.out, HL0.out, HG.out] at T
        try simp only [Act.put, List.setIfInBounds_toArray, List.set_cons_zero, List.set_cons_succ] at T
        exact lcong (by kernel_rfl) T)
    have ST10 : Hid (∀ b1, ∀ W : World, st3 w W (some b1) none none → G 8 (l0.setIfInBounds 10 true) (a0.put (some 7) (.pointer (some ⟨b1, 0, none⟩))) W) := (show ∀ b1, ∀ W : World, st3 w W (some b1) none none → G 8 (l0.setIfInBounds 10 true) (a0.put (some 7) (.pointer (some ⟨b1, 0, none⟩))) W from by
      intro b1 W H
      rw [HA0.out, HL0.out, HG.out]
      try simp only [Act.put, List.setIfInBounds_toArray, List.set_cons_zero, List.set_cons_succ]
      refine take_threeG (i := 3) (j := 11) (k := 12) rfl rfl rfl (by kernel_rfl) rfl rfl rfl (fun K hK => ?_) (fun K hK => ?_) (fun K hK => ?_)
      · go_simp
        refine Calls.mono (RA.out _ H.1) ?_
        rintro e W2 ⟨rfl, hb⟩
        have H2 := H.call hb
        refine hK.out _ _ trivial (fun _ => ?_)
        try simp only [Act.put, List.setIfInBounds_toArray, List.set_cons_zero, List.set_cons_succ]
        have T := ST3_10.out b1 W2 H2
        rw [HA0.out, HL0.out, HG.out] at T
        try simp only [Act.put, List.setIfInBounds_toArray, List.set_cons_zero, List.set_cons_succ] at T
        exact lcong (by kernel_rfl) T
      · obtain ⟨W2, b2, hr, H2⟩ := H.al2
        refine wp_of_run (exec_allocR rfl hr) ?_
        refine hK.out _ _ trivial (fun _ => ?_)
        try simp only [Act.put, List.setIfInBounds_toArray, List.set_cons_zero, List.set_cons_succ]
        have T := ST10_11.out b1 b2 W2 H2
        rw [HA0.out, HL0.out, HG.out] at T
        try simp only [Act.put, List.setIfInBounds_toArray, List.set_cons_zero, List.set_cons_succ] at T
        exact lcong (by kernel_rfl) T
      · obtain ⟨W2, b3, hr, H2⟩ := H.al3
        refine wp_of_run (exec_allocR rfl hr) ?_
        refine hK.out _ _ trivial (fun _ => ?_)
        try simp only [Act.put, List.setIfInBounds_toArray, List.set_cons_zero, List.set_cons_succ]
        have T := ST10_12.out b1 b3 W2 H2
        rw [HA0.out, HL0.out, HG.out] at T
        try simp only [Act.put, List.setIfInBounds_toArray, List.set_cons_zero, List.set_cons_succ] at T
        exact lcong (by kernel_rfl) T)
    have ST11 : Hid (∀ b2, ∀ W : World, st3 w W none (some b2) none → G 8 (l0.setIfInBounds 11 true) (a0.put (some 8) (.pointer (some ⟨b2, 0, none⟩))) W) := (show ∀ b2, ∀ W : World, st3 w W none (some b2) none → G 8 (l0.setIfInBounds 11 true) (a0.put (some 8) (.pointer (some ⟨b2, 0, none⟩))) W from by
      intro b2 W H
      rw [HA0.out, HL0.out, HG.out]
      try simp only [Act.put, List.setIfInBounds_toArray, List.set_cons_zero, List.set_cons_succ]
      refine take_threeG (i := 3) (j := 10) (k := 12) rfl rfl rfl (by kernel_rfl) rfl rfl rfl (fun K hK => ?_) (fun K hK => ?_) (fun K hK => ?_)
      · go_simp
        refine Calls.mono (RA.out _ H.1) ?_
        rintro e W2 ⟨rfl, hb⟩
        have H2 := H.call hb
        refine hK.out _ _ trivial (fun _ => ?_)
        try simp only [Act.put, List.setIfInBounds_toArray, List.set_cons_zero, List.set_cons_succ]
        have T := ST3_11.out b2 W2 H2
        rw [HA0.out, HL0.out, HG.out] at T
        try simp only [Act.put, List.setIfInBounds_toArray, List.set_cons_zero, List.set_cons_succ] at T
        exact lcong (by kernel_rfl) T
      · obtain ⟨W2, b1, hr, H2⟩ := H.al1
        refine wp_of_run (exec_allocR rfl hr) ?_
        refine hK.out _ _ trivial (fun _ => ?_)
        try simp only [Act.put, List.setIfInBounds_toArray, List.set_cons_zero, List.set_cons_succ]
        have T := ST10_11.out b1 b2 W2 H2
        rw [HA0.out, HL0.out, HG.out] at T
        try simp only [Act.put, List.setIfInBounds_toArray, List.set_cons_zero, List.set_cons_succ] at T
        exact lcong (by kernel_rfl) T
      · obtain ⟨W2, b3, hr, H2⟩ := H.al3
        refine wp_of_run (exec_allocR rfl hr) ?_
        refine hK.out _ _ trivial (fun _ => ?_)
        try simp only [Act.put, List.setIfInBounds_toArray, List.set_cons_zero, List.set_cons_succ]
        have T := ST11_12.out b2 b3 W2 H2
        rw [HA0.out, HL0.out, HG.out] at T
        try simp only [Act.put, List.setIfInBounds_toArray, List.set_cons_zero, List.set_cons_succ] at T
        exact lcong (by kernel_rfl) T)
    have ST12 : Hid (∀ b3, ∀ W : World, st3 w W none none (some b3) → G 8 (l0.setIfInBounds 12 true) (a0.put (some 9) (.pointer (some ⟨b3, 0, none⟩))) W) := (show ∀ b3, ∀ W : World, st3 w W none none (some b3) → G 8 (l0.setIfInBounds 12 true) (a0.put (some 9) (.pointer (some ⟨b3, 0, none⟩))) W from by
      intro b3 W H
      rw [HA0.out, HL0.out, HG.out]
      try simp only [Act.put, List.setIfInBounds_toArray, List.set_cons_zero, List.set_cons_succ]
      refine take_threeG (i := 3) (j := 10) (k := 11) rfl rfl rfl (by kernel_rfl) rfl rfl rfl (fun K hK => ?_) (fun K hK => ?_) (fun K hK => ?_)
      · go_simp
        refine Calls.mono (RA.out _ H.1) ?_
        rintro e W2 ⟨rfl, hb⟩
        have H2 := H.call hb
        refine hK.out _ _ trivial (fun _ => ?_)
        try simp only [Act.put, List.setIfInBounds_toArray, List.set_cons_zero, List.set_cons_succ]
        have T := ST3_12.out b3 W2 H2
        rw [HA0.out, HL0.out, HG.out] at T
        try simp only [Act.put, List.setIfInBounds_toArray, List.set_cons_zero, List.set_cons_succ] at T
        exact lcong (by kernel_rfl) T
      · obtain ⟨W2, b1, hr, H2⟩ := H.al1
        refine wp_of_run (exec_allocR rfl hr) ?_
        refine hK.out _ _ trivial (fun _ => ?_)
        try simp only [Act.put, List.setIfInBounds_toArray, List.set_cons_zero, List.set_cons_succ]
        have T := ST10_12.out b1 b3 W2 H2
        rw [HA0.out, HL0.out, HG.out] at T
        try simp only [Act.put, List.setIfInBounds_toArray, List.set_cons_zero, List.set_cons_succ] at T
        exact lcong (by kernel_rfl) T
      · obtain ⟨W2, b2, hr, H2⟩ := H.al2
        refine wp_of_run (exec_allocR rfl hr) ?_
        refine hK.out _ _ trivial (fun _ => ?_)
        try simp only [Act.put, List.setIfInBounds_toArray, List.set_cons_zero, List.set_cons_succ]
        have T := ST11_12.out b2 b3 W2 H2
        rw [HA0.out, HL0.out, HG.out] at T
        try simp only [Act.put, List.setIfInBounds_toArray, List.set_cons_zero, List.set_cons_succ] at T
        exact lcong (by kernel_rfl) T)
    have ST3 : Hid (∀ W : World, st3 w W none none none → G 8 (l0.setIfInBounds 3 true) (a0.put (some 35) (.agg (rowV 32 (arrV A)))) W) := (show ∀ W : World, st3 w W none none none → G 8 (l0.setIfInBounds 3 true) (a0.put (some 35) (.agg (rowV 32 (arrV A)))) W from by
      intro  W H
      rw [HA0.out, HL0.out, HG.out]
      try simp only [Act.put, List.setIfInBounds_toArray, List.set_cons_zero, List.set_cons_succ]
      refine take_fourG (i := 7) (j := 10) (k := 11) (m := 12) rfl rfl rfl rfl (by kernel_rfl) rfl rfl rfl rfl (fun K hK => ?_) (fun K hK => ?_) (fun K hK => ?_) (fun K hK => ?_)
      · go_simp
        refine Calls.mono (RB.out _ H.1) ?_
        rintro e W2 ⟨rfl, hb⟩
        have H2 := H.call hb
        refine hK.out _ _ trivial (fun _ => ?_)
        try simp only [Act.put, List.setIfInBounds_toArray, List.set_cons_zero, List.set_cons_succ]
        have T := ST3_7.out  W2 H2
        rw [HA0.out, HL0.out, HG.out] at T
        try simp only [Act.put, List.setIfInBounds_toArray, List.set_cons_zero, List.set_cons_succ] at T
        exact lcong (by kernel_rfl) T
      · obtain ⟨W2, b1, hr, H2⟩ := H.al1
        refine wp_of_run (exec_allocR rfl hr) ?_
        refine hK.out _ _ trivial (fun _ => ?_)
        try simp only [Act.put, List.setIfInBounds_toArray, List.set_cons_zero, List.set_cons_succ]
        have T := ST3_10.out b1 W2 H2
        rw [HA0.out, HL0.out, HG.out] at T
        try simp only [Act.put, List.setIfInBounds_toArray, List.set_cons_zero, List.set_cons_succ] at T
        exact lcong (by kernel_rfl) T
      · obtain ⟨W2, b2, hr, H2⟩ := H.al2
        refine wp_of_run (exec_allocR rfl hr) ?_
        refine hK.out _ _ trivial (fun _ => ?_)
        try simp only [Act.put, List.setIfInBounds_toArray, List.set_cons_zero, List.set_cons_succ]
        have T := ST3_11.out b2 W2 H2
        rw [HA0.out, HL0.out, HG.out] at T
        try simp only [Act.put, List.setIfInBounds_toArray, List.set_cons_zero, List.set_cons_succ] at T
        exact lcong (by kernel_rfl) T
      · obtain ⟨W2, b3, hr, H2⟩ := H.al3
        refine wp_of_run (exec_allocR rfl hr) ?_
        refine hK.out _ _ trivial (fun _ => ?_)
        try simp only [Act.put, List.setIfInBounds_toArray, List.set_cons_zero, List.set_cons_succ]
        have T := ST3_12.out b3 W2 H2
        rw [HA0.out, HL0.out, HG.out] at T
        try simp only [Act.put, List.setIfInBounds_toArray, List.set_cons_zero, List.set_cons_succ] at T
        exact lcong (by kernel_rfl) T)
    have ST : Hid (∀ W : World, st3 w W none none none → G 9 l0 a0 W) := (show ∀ W : World, st3 w W none none none → G 9 l0 a0 W from by
      intro  W H
      rw [HA0.out, HL0.out, HG.out]
      try simp only [Act.put, List.setIfInBounds_toArray, List.set_cons_zero, List.set_cons_succ]
      refine take_fourG (i := 3) (j := 10) (k := 11) (m := 12) rfl rfl rfl rfl (by kernel_rfl) rfl rfl rfl rfl (fun K hK => ?_) (fun K hK => ?_) (fun K hK => ?_) (fun K hK => ?_)
      · go_simp
        refine Calls.mono (RA.out _ H.1) ?_
        rintro e W2 ⟨rfl, hb⟩
        have H2 := H.call hb
        refine hK.out _ _ trivial (fun _ => ?_)
        try simp only [Act.put, List.setIfInBounds_toArray, List.set_cons_zero, List.set_cons_succ]
        have T := ST3.out  W2 H2
        rw [HA0.out, HL0.out, HG.out] at T
        try simp only [Act.put, List.setIfInBounds_toArray, List.set_cons_zero, List.set_cons_succ] at T
        exact lcong (by kernel_rfl) T
      · obtain ⟨W2, b1, hr, H2⟩ := H.al1
        refine wp_of_run (exec_allocR rfl hr) ?_
        refine hK.out _ _ trivial (fun _ => ?_)
        try simp only [Act.put, List.setIfInBounds_toArray, List.set_cons_zero, List.set_cons_succ]
        have T := ST10.out b1 W2 H2
        rw [HA0.out, HL0.out, HG.out] at T
        try simp only [Act.put, List.setIfInBounds_toArray, List.set_cons_zero, List.set_cons_succ] at T
        exact lcong (by kernel_rfl) T
      · obtain ⟨W2, b2, hr, H2⟩ := H.al2
        refine wp_of_run (exec_allocR rfl hr) ?_
        refine hK.out _ _ trivial (fun _ => ?_)
        try simp only [Act.put, List.setIfInBounds_toArray, List.set_cons_zero, List.set_cons_succ]
        have T := ST11.out b2 W2 H2
        rw [HA0.out, HL0.out, HG.out] at T
        try simp only [Act.put, List.setIfInBounds_toArray, List.set_cons_zero, List.set_cons_succ] at T
        exact lcong (by kernel_rfl) T
      · obtain ⟨W2, b3, hr, H2⟩ := H.al3
        refine wp_of_run (exec_allocR rfl hr) ?_
        refine hK.out _ _ trivial (fun _ => ?_)
        try simp only [Act.put, List.setIfInBounds_toArray, List.set_cons_zero, List.set_cons_succ]
        have T := ST12.out b3 W2 H2
        rw [HA0.out, HL0.out, HG.out] at T
        try simp only [Act.put, List.setIfInBounds_toArray, List.set_cons_zero, List.set_cons_succ] at T
        exact lcong (by kernel_rfl) T)
    exact ST.out W H
  case rest =>
    obtain ⟨b7, b8, b9, rfl, rfl, rfl, r7, r8, r9, hB⟩ := hcut
    rename World => w6
    have L7 : Hid (∀ wz, Below w6.heap.size w6 wz → ∀ j, j < 32 → wz.cell? ⟨b7, 0 + j, none⟩ = some (arrV A j)) := (show _ from fun wz hz j hj => by rw [Nat.zero_add]; exact (hz.row r7 (gRow_lt r7)).cell hj)
    have L8 : Hid (∀ wz, Below w6.heap.size w6 wz → ∀ j, j < 32 → wz.cell? ⟨b8, 0 + j, none⟩ = some (arrV B j)) := (show _ from fun wz hz j hj => by rw [Nat.zero_add]; exact (hz.row r8 (gRow_lt r8)).cell hj)
    have L9 : Hid (∀ wz, Below w6.heap.size w6 wz → ∀ j, j < 32 → wz.cell? ⟨b9, 0 + j, none⟩ = some (arrV C j)) := (show _ from fun wz hz j hj => by rw [Nat.zero_add]; exact (hz.row r9 (gRow_lt r9)).cell hj)
    have HB : Hid (Below w.heap.size w w6) := (show Below w.heap.size w w6 from hB)
    have HS6 : Hid (∀ wz, Below w6.heap.size w6 wz → tabIs wz ∧ sumsAt wz (.slice va L.length vc) L ∧ sumsAt wz (.slice xj j yj) (L.take j) ∧ sumsAt wz (.slice xm m ym) (L.take m)) := (show _ from fun wz hz => HS.out wz (HB.out.trans (hz.mono HB.out.size)))
    have Bp : Hid (Below w6.heap.size w6 w6) := (show _ from Below.refl _ _)
    clear r7 r8 r9 hB RA RB RC
    go_upto_region 4 with fail
    refine wp_region_noPanic ?_
    refine wp_region_held_drew (S := fun w' => Below w6.heap.size w6 w') (by kernel_rfl) (Bp.out.drew) (fun hHeld => ?_)
    refine take_op (i := 0) (v := ?vp0) rfl (by kernel_rfl) (by kernel_rfl) (by kernel_rfl) (fun _ _ _ h => h) rfl hHeld ?yp0 ?rp0
    case yp0 => (intro wz hz; go_simp; first | done | with_reducible rfl)
    try simp only [Act.put, List.setIfInBounds_toArray, List.set_cons_zero, List.set_cons_succ]
    refine take_op (i := 1) (v := ?vp1) rfl (by kernel_rfl) (by kernel_rfl) (by kernel_rfl) (fun _ _ _ h => h) rfl hHeld ?yp1 ?rp1
    case yp1 => (intro wz hz; go_simp; first | done | with_reducible rfl)
    try simp only [Act.put, List.setIfInBounds_toArray, List.set_cons_zero, List.set_cons_succ]
    refine take_load (i := 2) rfl (by kernel_rfl) (by kernel_rfl) (by kernel_rfl) 29 _ rfl b7 0 32 (arrV A) rfl _ Tryd.underlying29 rfl (by kernel_rfl) (fun _ _ _ h => h) rfl hHeld (fun wz hz => L7.out wz hz) ?_
    try simp only [Act.put, List.setIfInBounds_toArray, List.set_cons_zero, List.set_cons_succ]
    refine take_load (i := 3) rfl (by kernel_rfl) (by kernel_rfl) (by kernel_rfl) 29 _ rfl b8 0 32 (arrV B) rfl _ Tryd.underlying29 rfl (by kernel_rfl) (fun _ _ _ h => h) rfl hHeld (fun wz hz => L8.out wz hz) ?_
    try simp only [Act.put, List.setIfInBounds_toArray, List.set_cons_zero, List.set_cons_succ]
    refine take_op (i := 4) (v := ?vp4) rfl (by kernel_rfl) (by kernel_rfl) (by kernel_rfl) (fun _ _ _ h => h) rfl hHeld ?yp4 ?rp4
    case yp4 => (intro wz hz; go_simp; first | done | with_reducible rfl)
    try simp only [Act.put, List.setIfInBounds_toArray, List.set_cons_zero, List.set_cons_succ]
    refine take_op (i := 5) (v := ?vp5) rfl (by kernel_rfl) (by kernel_rfl) (by kernel_rfl) (fun _ _ _ h => h) rfl hHeld ?yp5 ?rp5
    case yp5 => (intro wz hz; go_simp; first | done | with_reducible rfl)
    try simp only [Act.put, List.setIfInBounds_toArray, List.set_cons_zero, List.set_cons_succ]
    refine take_op (i := 6) (v := ?vp6) rfl (by kernel_rfl) (by kernel_rfl) (by kernel_rfl) (fun _ _ _ h => h) rfl hHeld ?yp6 ?rp6
    case yp6 => (intro wz hz; have hcz := RUM.out wz; go_simp; first | done | with_reducible rfl)
    try simp only [Act.put, List.setIfInBounds_toArray, List.set_cons_zero, List.set_cons_succ]
    refine take_op (i := 7) (v := ?vp7) rfl (by kernel_rfl) (by kernel_rfl) (by kernel_rfl) (fun _ _ _ h => h) rfl hHeld ?yp7 ?rp7
    case yp7 => (intro wz hz; go_simp; first | done | with_reducible rfl)
    try simp only [Act.put, List.setIfInBounds_toArray, List.set_cons_zero, List.set_cons_succ]
    have XBp := between_nil (L.take m) (.slice xm m ym) (j : Int) w6.drew (by have := HQ.out; omega) (HS6.out _ hHeld).2.2.2 (by have := HQ.out; omega) (HS6.out _ hHeld).1
    refine take_one (i := 8) rfl (by kernel_rfl) rfl (fun K hK => ?_)
    go_simp
    refine Calls.mono XBp ?_
    rintro e yp ⟨pv, rfl, np, bp⟩
    have hbp : Below w6.heap.size w6 yp := hHeld.trans (bp.mono hHeld.size)
    obtain ⟨pa, pc, rfl, _⟩ := ownsRow_slice np.2
    refine hK.out _ _ hbp (fun hHeld => ?_)
    clear hK K XBp
    try simp only [Act.put, List.setIfInBounds_toArray, List.set_cons_zero, List.set_cons_succ]
    have XEp := (by have h := ext_nil j m A B (gPath (L.take m) j) _ yp (by have := HQ.out; omega) (by have := HQ.out; omega) SA.out.1 SA.out.2.1 np.is (gPath_le _ _ (by have := HQ.out; omega)) (HS6.out _ hHeld).1; rw [E1.out] at h; exact h : Calls Tryd.prog 15 #[.pointer none, .int .i64 (j : Int), .int .i64 (m : Int), .agg (rowV 32 (arrV A)), .agg (rowV 32 (arrV B)), .slice pa (gPath (L.take m) j).length pc] yp fun e w' => e = .returned (.int .i64 0) ∧ Below (yp).heap.size yp w')
    refine take_one (i := 9) rfl (by kernel_rfl) rfl (fun K hK => ?_)
    go_simp
    refine Calls.mono XEp ?_
    rintro e zp ⟨rfl, be⟩
    have hcp : Below w6.heap.size w6 zp := hHeld.trans (be.mono hHeld.size)
    refine hK.out _ _ hcp (fun hHeld => ?_)
    clear hK K XEp np bp be hbp
    try simp only [Act.put, List.setIfInBounds_toArray, List.set_cons_zero, List.set_cons_succ]
    refine take_op (i := 10) (v := ?vp10) rfl (by kernel_rfl) (by kernel_rfl) (by kernel_rfl) (fun _ _ _ h => h) rfl hHeld ?yp10 ?rp10
    case yp10 => (intro wz hz; go_simp; first | done | with_reducible rfl)
    try simp only [Act.put, List.setIfInBounds_toArray, List.set_cons_zero, List.set_cons_succ]
    refine wpAnyH_done (by kernel_rfl) ?_ _
    refine NoPanic.normal ?_
    have Bp2 : Hid (Below w6.heap.size w6 zp) := (show Below w6.heap.size w6 zp from hHeld)
    clear hHeld hcp
    go_upto_region 5 with fail
    refine wp_region_noPanic ?_
    refine wp_region_held_drew (S := fun w' => Below w6.heap.size w6 w') (by kernel_rfl) (Bp2.out.drew) (fun hHeld => ?_)
    refine take_op (i := 0) (v := ?vq0) rfl (by kernel_rfl) (by kernel_rfl) (by kernel_rfl) (fun _ _ _ h => h) rfl hHeld ?yq0 ?rq0
    case yq0 => (intro wz hz; go_simp; first | done | with_reducible rfl)
    try simp only [Act.put, List.setIfInBounds_toArray, List.set_cons_zero, List.set_cons_succ]
    refine take_op (i := 1) (v := ?vq1) rfl (by kernel_rfl) (by kernel_rfl) (by kernel_rfl) (fun _ _ _ h => h) rfl hHeld ?yq1 ?rq1
    case yq1 => (intro wz hz; go_simp; first | done | with_reducible rfl)
    try simp only [Act.put, List.setIfInBounds_toArray, List.set_cons_zero, List.set_cons_succ]
    refine take_op (i := 2) (v := ?vq2) rfl (by kernel_rfl) (by kernel_rfl) (by kernel_rfl) (fun _ _ _ h => h) rfl hHeld ?yq2 ?rq2
    case yq2 => (intro wz hz; go_simp; first | done | with_reducible rfl)
    try simp only [Act.put, List.setIfInBounds_toArray, List.set_cons_zero, List.set_cons_succ]
    refine take_load (i := 3) rfl (by kernel_rfl) (by kernel_rfl) (by kernel_rfl) 29 _ rfl b8 0 32 (arrV B) rfl _ Tryd.underlying29 rfl (by kernel_rfl) (fun _ _ _ h => h) rfl hHeld (fun wz hz => L8.out wz hz) ?_
    try simp only [Act.put, List.setIfInBounds_toArray, List.set_cons_zero, List.set_cons_succ]
    refine take_load (i := 4) rfl (by kernel_rfl) (by kernel_rfl) (by kernel_rfl) 29 _ rfl b9 0 32 (arrV C) rfl _ Tryd.underlying29 rfl (by kernel_rfl) (fun _ _ _ h => h) rfl hHeld (fun wz hz => L9.out wz hz) ?_
    try simp only [Act.put, List.setIfInBounds_toArray, List.set_cons_zero, List.set_cons_succ]
    refine take_op (i := 5) (v := ?vq5) rfl (by kernel_rfl) (by kernel_rfl) (by kernel_rfl) (fun _ _ _ h => h) rfl hHeld ?yq5 ?rq5
    case yq5 => (intro wz hz; go_simp; first | done | with_reducible rfl)
    try simp only [Act.put, List.setIfInBounds_toArray, List.set_cons_zero, List.set_cons_succ]
    refine take_op (i := 6) (v := ?vq6) rfl (by kernel_rfl) (by kernel_rfl) (by kernel_rfl) (fun _ _ _ h => h) rfl hHeld ?yq6 ?rq6
    case yq6 => (intro wz hz; go_simp; first | done | with_reducible rfl)
    try simp only [Act.put, List.setIfInBounds_toArray, List.set_cons_zero, List.set_cons_succ]
    have XBq := between_nil L (.slice va L.length vc) (m : Int) zp.drew (by have := HQ.out; omega) (HS6.out _ hHeld).2.1 (by have := HQ.out; omega) (HS6.out _ hHeld).1
    refine take_one (i := 7) rfl (by kernel_rfl) rfl (fun K hK => ?_)
    go_simp
    refine Calls.mono XBq ?_
    rintro e yq ⟨pv, rfl, np, bp⟩
    have hbq : Below w6.heap.size w6 yq := hHeld.trans (bp.mono hHeld.size)
    obtain ⟨pa, pc, rfl, _⟩ := ownsRow_slice np.2
    refine hK.out _ _ hbq (fun hHeld => ?_)
    clear hK K XBq
    try simp only [Act.put, List.setIfInBounds_toArray, List.set_cons_zero, List.set_cons_succ]
    have XEq := (by have h := ext_nil m L.length B C (gPath L m) _ yq (by have := HQ.out; omega) (by have := HQ.out; omega) SA.out.2.1 SA.out.2.2 np.is (gPath_le _ _ (by have := HQ.out; omega)) (HS6.out _ hHeld).1; rw [E2.out] at h; exact h : Calls Tryd.prog 15 #[.pointer none, .int .i64 (m : Int), .int .i64 (L.length : Int), .agg (rowV 32 (arrV B)), .agg (rowV 32 (arrV C)), .slice pa (gPath L m).length pc] yq fun e w' => e = .returned (.int .i64 0) ∧ Below (yq).heap.size yq w')
    refine take_one (i := 8) rfl (by kernel_rfl) rfl (fun K hK => ?_)
    go_simp
    refine Calls.mono XEq ?_
    rintro e zq ⟨rfl, be⟩
    have hcq : Below w6.heap.size w6 zq := hHeld.trans (be.mono hHeld.size)
    refine hK.out _ _ hcq (fun hHeld => ?_)
    clear hK K XEq np bp be hbq
    try simp only [Act.put, List.setIfInBounds_toArray, List.set_cons_zero, List.set_cons_succ]
    refine take_op (i := 9) (v := ?vq9) rfl (by kernel_rfl) (by kernel_rfl) (by kernel_rfl) (fun _ _ _ h => h) rfl hHeld ?yq9 ?rq9
    case yq9 => (intro wz hz; go_simp; first | done | with_reducible rfl)
    try simp only [Act.put, List.setIfInBounds_toArray, List.set_cons_zero, List.set_cons_succ]
    refine wpAnyH_done (by kernel_rfl) ?_ _
    refine NoPanic.normal ?_
    have Bq2 : Hid (Below w6.heap.size w6 zq) := (show Below w6.heap.size w6 zq from hHeld)
    clear hHeld hcq
    go_upto_region 6 with fail
    refine wp_region_noPanic ?_
    refine wp_region_held_drew (S := fun w' => Below w6.heap.size w6 w') (by kernel_rfl) (Bq2.out.drew) (fun hHeld => ?_)
    refine take_op (i := 0) (v := ?vs0) rfl (by kernel_rfl) (by kernel_rfl) (by kernel_rfl) (fun _ _ _ h => h) rfl hHeld ?ys0 ?rs0
    case ys0 => (intro wz hz; go_simp; first | done | with_reducible rfl)
    try simp only [Act.put, List.setIfInBounds_toArray, List.set_cons_zero, List.set_cons_succ]
    refine take_op (i := 1) (v := ?vs1) rfl (by kernel_rfl) (by kernel_rfl) (by kernel_rfl) (fun _ _ _ h => h) rfl hHeld ?ys1 ?rs1
    case ys1 => (intro wz hz; go_simp; first | done | with_reducible rfl)
    try simp only [Act.put, List.setIfInBounds_toArray, List.set_cons_zero, List.set_cons_succ]
    refine take_op (i := 2) (v := ?vs2) rfl (by kernel_rfl) (by kernel_rfl) (by kernel_rfl) (fun _ _ _ h => h) rfl hHeld ?ys2 ?rs2
    case ys2 => (intro wz hz; go_simp; first | done | with_reducible rfl)
    try simp only [Act.put, List.setIfInBounds_toArray, List.set_cons_zero, List.set_cons_succ]
    refine take_load (i := 3) rfl (by kernel_rfl) (by kernel_rfl) (by kernel_rfl) 29 _ rfl b7 0 32 (arrV A) rfl _ Tryd.underlying29 rfl (by kernel_rfl) (fun _ _ _ h => h) rfl hHeld (fun wz hz => L7.out wz hz) ?_
    try simp only [Act.put, List.setIfInBounds_toArray, List.set_cons_zero, List.set_cons_succ]
    refine take_load (i := 4) rfl (by kernel_rfl) (by kernel_rfl) (by kernel_rfl) 29 _ rfl b9 0 32 (arrV C) rfl _ Tryd.underlying29 rfl (by kernel_rfl) (fun _ _ _ h => h) rfl hHeld (fun wz hz => L9.out wz hz) ?_
    try simp only [Act.put, List.setIfInBounds_toArray, List.set_cons_zero, List.set_cons_succ]
    refine take_op (i := 5) (v := ?vs5) rfl (by kernel_rfl) (by kernel_rfl) (by kernel_rfl) (fun _ _ _ h => h) rfl hHeld ?ys5 ?rs5
    case ys5 => (intro wz hz; go_simp; first | done | with_reducible rfl)
    try simp only [Act.put, List.setIfInBounds_toArray, List.set_cons_zero, List.set_cons_succ]
    refine take_op (i := 6) (v := ?vs6) rfl (by kernel_rfl) (by kernel_rfl) (by kernel_rfl) (fun _ _ _ h => h) rfl hHeld ?ys6 ?rs6
    case ys6 => (intro wz hz; go_simp; first | done | with_reducible rfl)
    try simp only [Act.put, List.setIfInBounds_toArray, List.set_cons_zero, List.set_cons_succ]
    have XBs := between_nil L (.slice va L.length vc) (j : Int) zq.drew (by have := HQ.out; omega) (HS6.out _ hHeld).2.1 (by have := HQ.out; omega) (HS6.out _ hHeld).1
    refine take_one (i := 7) rfl (by kernel_rfl) rfl (fun K hK => ?_)
    go_simp
    refine Calls.mono XBs ?_
    rintro e ys ⟨pv, rfl, np, bp⟩
    have hbs : Below w6.heap.size w6 ys := hHeld.trans (bp.mono hHeld.size)
    obtain ⟨pa, pc, rfl, _⟩ := ownsRow_slice np.2
    refine hK.out _ _ hbs (fun hHeld => ?_)
    clear hK K XBs
    try simp only [Act.put, List.setIfInBounds_toArray, List.set_cons_zero, List.set_cons_succ]
    have XEs := (by have h := ext_nil j L.length A C (gPath L j) _ ys (by have := HQ.out; omega) (by have := HQ.out; omega) SA.out.1 SA.out.2.2 np.is (gPath_le _ _ (by have := HQ.out; omega)) (HS6.out _ hHeld).1; rw [E3.out] at h; exact h : Calls Tryd.prog 15 #[.pointer none, .int .i64 (j : Int), .int .i64 (L.length : Int), .agg (rowV 32 (arrV A)), .agg (rowV 32 (arrV C)), .slice pa (gPath L j).length pc] ys fun e w' => e = .returned (.int .i64 0) ∧ Below (ys).heap.size ys w')
    refine take_one (i := 8) rfl (by kernel_rfl) rfl (fun K hK => ?_)
    go_simp
    refine Calls.mono XEs ?_
    rintro e zs ⟨rfl, be⟩
    have hcs : Below w6.heap.size w6 zs := hHeld.trans (be.mono hHeld.size)
    refine hK.out _ _ hcs (fun hHeld => ?_)
    clear hK K XEs np bp be hbs
    try simp only [Act.put, List.setIfInBounds_toArray, List.set_cons_zero, List.set_cons_succ]
    refine take_op (i := 9) (v := ?vs9) rfl (by kernel_rfl) (by kernel_rfl) (by kernel_rfl) (fun _ _ _ h => h) rfl hHeld ?ys9 ?rs9
    case ys9 => (intro wz hz; go_simp; first | done | with_reducible rfl)
    try simp only [Act.put, List.setIfInBounds_toArray, List.set_cons_zero, List.set_cons_succ]
    refine wpAnyH_done (by kernel_rfl) ?_ _
    refine NoPanic.normal ?_
    have Bs2 : Hid (Below w6.heap.size w6 zs) := (show Below w6.heap.size w6 zs from hHeld)
    clear hHeld hcs
    have XA := gawake_any zs (HS6.out zs Bs2.out).1
    go_wp2_with fail
    refine XA.mono ?_
    rintro e w8 ⟨rfl, b8'⟩
    have BF : Hid (Below w.heap.size w w8) := (show Below w.heap.size w w8 from HB.out.trans ((Bs2.out.trans (b8'.mono Bs2.out.size)).mono HB.out.size))
    clear XA b8'
    go_wp2
    go_ret
    exact ⟨rfl, BF.out⟩
theorem growOn_any (L : List (List Int)) (v : Value) (j m : Int) (hj : -9223372036854775808 ≤ j ∧ j ≤ 9223372036854775807) (hm : -9223372036854775808 ≤ m ∧ m ≤ 9223372036854775807) (w : World) (ht : tabIs w) (h : sumsAt w v L) :
    Calls Tryd.prog 7 #[v, .int .i64 j, .int .i64 m] w fun e w' => e = .returned (.bool true) ∧ Below w.heap.size w w' := by
  by_cases hok : L.length ≤ 150 ∧ 0 ≤ j ∧ j ≤ m ∧ m ≤ L.length
  · obtain ⟨h1, h2, h3, h4⟩ := hok
    obtain ⟨a, rfl⟩ : ∃ a : Nat, j = (a : Int) := ⟨j.toNat, by omega⟩
    obtain ⟨b, rfl⟩ : ∃ b : Nat, m = (b : Int) := ⟨m.toNat, by omega⟩
    exact growOn_in L v a b (by omega) (by omega) h1 w ht h
  have hsl : ∃ a cap, v = .slice a L.length cap ∧ L.length ≤ cap ∧ cap ≤ maxLen := by
    obtain ⟨_, a, cap, e, h3, h4, _⟩ := h; exact ⟨a, cap, e, h3, h4⟩
  obtain ⟨va, vc, rfl, h3, h4⟩ := hsl
  have X := gawake_any w ht
  have q0 : (L.length : Int) ≤ 9223372036854775807 := by unfold maxLen at h4; omega
  clear h ht h3 h4
  by_cases c1 : L.length > 150
  · have c1' : (L.length : Int) > 150 := by omega
    go_enter Tryd.func7, Tryd.ntmps7
    go_wp2_with fail
    refine X.mono ?_
    rintro e w1 ⟨rfl, b1⟩
    have B1 : Hid (Below w.heap.size w w1) := (show Below w.heap.size w w1 from b1)
    clear X b1
    go_wp2
    go_ret
    exact ⟨rfl, B1.out⟩
  have c1' : ¬ (L.length : Int) > 150 := by omega
  by_cases c2 : j < 0
  · go_enter Tryd.func7, Tryd.ntmps7
    go_wp2_with fail
    refine X.mono ?_
    rintro e w1 ⟨rfl, b1⟩
    have B1 : Hid (Below w.heap.size w w1) := (show Below w.heap.size w w1 from b1)
    clear X b1
    go_wp2
    go_ret
    exact ⟨rfl, B1.out⟩
  by_cases c3 : j > m
  · go_enter Tryd.func7, Tryd.ntmps7
    go_wp2_with fail
    refine X.mono ?_
    rintro e w1 ⟨rfl, b1⟩
    have B1 : Hid (Below w.heap.size w w1) := (show Below w.heap.size w w1 from b1)
    clear X b1
    go_wp2
    go_ret
    exact ⟨rfl, B1.out⟩
  · have c4 : m > (L.length : Int) := by omega
    go_enter Tryd.func7, Tryd.ntmps7
    go_wp2_with fail
    refine X.mono ?_
    rintro e w1 ⟨rfl, b1⟩
    have B1 : Hid (Below w.heap.size w w1) := (show Below w.heap.size w w1 from b1)
    clear X b1
    go_wp2
    go_ret
    exact ⟨rfl, B1.out⟩
end Go.Proofs.YthpnenblmkdmcaaDoor

/- GrowBinds: two books that are written into, one that waits, and two boxes made at any time. -/
namespace Go.Proofs.YthpnenblmkdmcaaDoor
set_option linter.unusedSimpArgs false
set_option linter.unusedVariables false
open Go.RowKit Go.Deep

def bkS (w0 : World) (B ka kb kc : Nat) (MA : List Nt) (ca : Int) (MB : List Nt) (cb : Int) (W : World) (x y : Option Nat) : Prop :=
  Below B w0 W ∧ B ≤ W.heap.size ∧ (∃ G H : Nat → Prop, bookAt W G ka MA ca ∧ bookAt W H kb MB cb ∧ (∀ j, G j → B ≤ j ∧ ¬ H j ∧ j ≠ kc ∧ x ≠ some j ∧ y ≠ some j) ∧ (∀ j, H j → B ≤ j ∧ j ≠ kc ∧ x ≠ some j ∧ y ≠ some j)) ∧
  bookAt W (fun j => j = kc) kc [] 0 ∧ (∀ b, x = some b → B ≤ b ∧ b ≠ kc ∧ W.rowIs b 29 32 (fun _ => .int .u8 0)) ∧ (∀ b, y = some b → B ≤ b ∧ b ≠ kc ∧ W.rowIs b 29 32 (fun _ => .int .u8 0)) ∧ (∀ b, x = some b → y ≠ some b)
section
variable {w0 W : World} {B ka kb kc : Nat} {MA MB : List Nt} {ca cb : Int} {x y : Option Nat}
theorem bkS.callA (h : bkS w0 B ka kb kc MA ca MB cb W x y) : ∃ G : Nat → Prop, bookAt W G ka MA ca ∧ (∀ j, G j → B ≤ j) ∧ ∀ W' MA' ca', bookAt W' (Gr G W W') ka MA' ca' → Fr G W W' → bkS w0 B ka kb kc MA' ca' MB cb W' x y := by
  obtain ⟨h1, hB, ⟨G, H, hG, hH, dG, dH⟩, hc, hx, hy, hxy⟩ := h
  refine ⟨G, hG, fun j hj => (dG j hj).1, fun W' MA' ca' k f => ?_⟩
  have fs := f.size
  have lc : kc < W.heap.size := hc.2.1 kc rfl
  refine ⟨h1.trans (f.below (fun j hj => (dG j hj).1) hB), by omega, ⟨Gr G W W', H, k, hH.far (fun j hj hl => f.block j hl (fun g => (dG j g).2.1 hj)) fs, fun j hj => ?_, dH⟩, hc.far (fun j hj hl => f.block j hl (fun g => (dG j g).2.2.1 hj)) fs, fun b hb => ?_, fun b hb => ?_, hxy⟩
  · rcases hj with hj | hj
    · exact dG j hj
    · refine ⟨by omega, fun hh => by have := hH.2.1 j hh; omega, by omega, fun e => ?_, fun e => ?_⟩
      · have := gRow_lt (hx j e).2.2; omega
      · have := gRow_lt (hy j e).2.2; omega
  · obtain ⟨a1, a2, a3⟩ := hx b hb
    exact ⟨a1, a2, World.rowIs.of_block a3 (f.block b (gRow_lt a3) (fun g => (dG b g).2.2.2.1 hb))⟩
  · obtain ⟨a1, a2, a3⟩ := hy b hb
    exact ⟨a1, a2, World.rowIs.of_block a3 (f.block b (gRow_lt a3) (fun g => (dG b g).2.2.2.2 hb))⟩
theorem bkS.callB (h : bkS w0 B ka kb kc MA ca MB cb W x y) : ∃ H : Nat → Prop, bookAt W H kb MB cb ∧ (∀ j, H j → B ≤ j) ∧ ∀ W' MB' cb', bookAt W' (Gr H W W') kb MB' cb' → Fr H W W' → bkS w0 B ka kb kc MA ca MB' cb' W' x y := by
  obtain ⟨h1, hB, ⟨G, H, hG, hH, dG, dH⟩, hc, hx, hy, hxy⟩ := h
  refine ⟨H, hH, fun j hj => (dH j hj).1, fun W' MB' cb' k f => ?_⟩
  have fs := f.size
  have lc : kc < W.heap.size := hc.2.1 kc rfl
  refine ⟨h1.trans (f.below (fun j hj => (dH j hj).1) hB), by omega, ⟨G, Gr H W W', hG.far (fun j hj hl => f.block j hl (fun g => (dG j hj).2.1 g)) fs, k, fun j hj => ?_, fun j hj => ?_⟩, hc.far (fun j hj hl => f.block j hl (fun g => (dH j g).2.1 hj)) fs, fun b hb => ?_, fun b hb => ?_, hxy⟩
  · obtain ⟨d1, d2, d3⟩ := dG j hj
    refine ⟨d1, fun hh => ?_, d3⟩
    rcases hh with hh | hh
    · exact d2 hh
    · have := hG.2.1 j hj; omega
  · rcases hj with hj | hj
    · exact dH j hj
    · refine ⟨by omega, by omega, fun e => ?_, fun e => ?_⟩
      · have := gRow_lt (hx j e).2.2; omega
      · have := gRow_lt (hy j e).2.2; omega
  · obtain ⟨a1, a2, a3⟩ := hx b hb
    exact ⟨a1, a2, World.rowIs.of_block a3 (f.block b (gRow_lt a3) (fun g => (dH b g).2.2.1 hb))⟩
  · obtain ⟨a1, a2, a3⟩ := hy b hb
    exact ⟨a1, a2, World.rowIs.of_block a3 (f.block b (gRow_lt a3) (fun g => (dH b g).2.2.2 hb))⟩
theorem bkS.al (h : bkS w0 B ka kb kc MA ca MB cb W x y) (x' y' : Option Nat) (ex : ∀ b, x' = some b → x = some b ∨ b = W.heap.size) (ey : ∀ b, y' = some b → y = some b ∨ b = W.heap.size) (exy : ∀ b, x' = some b → y' ≠ some b) :
    bkS w0 B ka kb kc MA ca MB cb (W.alloc (.cells (rowV 32 (fun _ => .int .u8 0)) 29)) x' y' := by
  obtain ⟨h1, hB, ⟨G, H, hG, hH, dG, dH⟩, hc, hx, hy, hxy⟩ := h
  have hb : Below W.heap.size W (W.alloc (.cells (rowV 32 (fun _ => .int .u8 0)) 29)) := (Below.refl _ _).alloc (Nat.le_refl _) _
  have lc : kc < W.heap.size := hc.2.1 kc rfl
  have nG : ∀ z z' : Option Nat, (∀ b, z' = some b → z = some b ∨ b = W.heap.size) → ∀ j, j < W.heap.size → z ≠ some j → z' ≠ some j := fun z z' e j hj hz e2 => by
    rcases e j e2 with e3 | e3
    · exact hz e3
    · omega
  refine ⟨h1.trans (hb.mono hB), by simp; omega, ⟨G, H, hG.below hb (Nat.le_refl _), hH.below hb (Nat.le_refl _), fun j hj => ?_, fun j hj => ?_⟩, hc.below hb (Nat.le_refl _), fun b e => ?_, fun b e => ?_, exy⟩
  · obtain ⟨d1, d2, d3, d4, d5⟩ := dG j hj
    exact ⟨d1, d2, d3, nG x x' ex j (hG.2.1 j hj) d4, nG y y' ey j (hG.2.1 j hj) d5⟩
  · obtain ⟨d1, d3, d4, d5⟩ := dH j hj
    exact ⟨d1, d3, nG x x' ex j (hH.2.1 j hj) d4, nG y y' ey j (hH.2.1 j hj) d5⟩
  · rcases ex b e with e | rfl
    · obtain ⟨a1, a2, a3⟩ := hx b e
      exact ⟨a1, a2, hb.row a3 (gRow_lt a3)⟩
    · exact ⟨hB, by omega, rowIs_box W _ _ _⟩
  · rcases ey b e with e | rfl
    · obtain ⟨a1, a2, a3⟩ := hy b e
      exact ⟨a1, a2, hb.row a3 (gRow_lt a3)⟩
    · exact ⟨hB, by omega, rowIs_box W _ _ _⟩
end
theorem bkS.al1 {w0 W : World} {B ka kb kc : Nat} {MA MB : List Nt} {ca cb : Int} {y : Option Nat} (h : bkS w0 B ka kb kc MA ca MB cb W none y) : ∃ W' b, (Instr.alloc 29 true (.tuple #[])).run Tryd.prog W = .ok (.pointer (some ⟨b, 0, none⟩)) W' ∧ bkS w0 B ka kb kc MA ca MB cb W' (some b) y := by
  refine ⟨_, W.heap.size, al32 W, h.al _ _ (fun b e => Or.inr (Option.some.inj e).symm) (fun b e => Or.inl e) (fun b e e2 => ?_)⟩
  obtain ⟨_, _, _, _, _, hy, _⟩ := h
  have := gRow_lt (hy b e2).2.2
  have := Option.some.inj e
  omega
theorem bkS.al2 {w0 W : World} {B ka kb kc : Nat} {MA MB : List Nt} {ca cb : Int} {x : Option Nat} (h : bkS w0 B ka kb kc MA ca MB cb W x none) : ∃ W' b, (Instr.alloc 29 true (.tuple #[])).run Tryd.prog W = .ok (.pointer (some ⟨b, 0, none⟩)) W' ∧ bkS w0 B ka kb kc MA ca MB cb W' x (some b) := by
  refine ⟨_, W.heap.size, al32 W, h.al _ _ (fun b e => Or.inl e) (fun b e => Or.inr (Option.some.inj e).symm) (fun b e e2 => ?_)⟩
  obtain ⟨_, _, _, _, hx, _, _⟩ := h
  have := gRow_lt (hx b e).2.2
  have := Option.some.inj e2
  omega
/-- behind the stores. -/
def bkF (w0 : World) (B ka kb kc : Nat) (MA : List Nt) (ca : Int) (MB : List Nt) (cb : Int) (V : World) (x y : Nat) (p q : List Int) : Prop :=
  Below B w0 V ∧ B ≤ V.heap.size ∧ (∃ G H : Nat → Prop, bookAt V G ka MA ca ∧ bookAt V H kb MB cb ∧ ¬ G kc ∧ ¬ H kc) ∧ bookAt V (fun j => j = kc) kc [] 0 ∧ V.rowIs x 29 32 (arrV p) ∧ V.rowIs y 29 32 (arrV q) ∧ x ≠ kc ∧ y ≠ kc
theorem bkS.fin {w0 W : World} {B ka kb kc : Nat} {MA MB : List Nt} {ca cb : Int} {x y : Nat} (h : bkS w0 B ka kb kc MA ca MB cb W (some x) (some y)) (p q : List Int) : ∃ V1 V2, (storeVar 29 ⟨x, 0, none⟩ (.agg (rowV 32 (arrV p)))).run Tryd.prog W = .ok () V1 ∧ (storeVar 29 ⟨y, 0, none⟩ (.agg (rowV 32 (arrV q)))).run Tryd.prog V1 = .ok () V2 ∧ bkF w0 B ka kb kc MA ca MB cb V2 x y p q := by
  obtain ⟨h1, hB, ⟨G, H, hG, hH, dG, dH⟩, hc, hx, hy, hxy⟩ := h
  obtain ⟨x1, x2, rx⟩ := hx x rfl
  obtain ⟨y1, y2, ry⟩ := hy y rfl
  have nxy : y ≠ x := fun e => hxy x rfl (by rw [e])
  obtain ⟨V1, e1, q1, z1, b1⟩ := tell_store (q := p) rx
  have ry1 := b1.row ry (gRow_lt ry) nxy
  obtain ⟨V2, e2, q2, z2, b2⟩ := tell_store (q := q) ry1
  have far : ∀ (F : Nat → Prop) (k : Nat) (N : List Nt) (c : Int), bookAt W F k N c → (∀ j, F j → j ≠ x ∧ j ≠ y) → bookAt V2 F k N c := fun F k N c hk hd => by
    refine (hk.far (w' := V1) (fun j hj hl => b1.block j hl (hd j hj).1) b1.size).far (fun j hj hl => b2.block j hl (hd j hj).2) b2.size
  refine ⟨V1, V2, e1, e2, h1.trans ((b1.below' x1 hB).trans (b2.below' y1 (by omega))), by omega, ⟨G, H, far G _ _ _ hG fun j hj => ?_, far H _ _ _ hH fun j hj => ?_, fun g => (dG kc g).2.2.1 rfl, fun g => (dH kc g).2.1 rfl⟩, far _ _ _ _ hc fun j hj => ?_, b2.row q1 (gRow_lt q1) (Ne.symm nxy), q2, x2, y2⟩
  · obtain ⟨_, _, _, d4, d5⟩ := dG j hj
    exact ⟨fun e => d4 (by rw [e]), fun e => d5 (by rw [e])⟩
  · obtain ⟨_, _, d4, d5⟩ := dH j hj
    exact ⟨fun e => d4 (by rw [e]), fun e => d5 (by rw [e])⟩
  · subst hj; exact ⟨Ne.symm x2, Ne.symm y2⟩
end Go.Proofs.YthpnenblmkdmcaaDoor

/- How long notes are. -/
namespace Go.Proofs.YthpnenblmkdmcaaDoor
set_option linter.unusedSimpArgs false
set_option linter.unusedVariables false
open Go.RowKit Go.Deep

theorem nodeT_size {L : List (List Int)} (hL : L.length ≤ 1000) (hs : ∀ x ∈ L, isSum x) : (nodeT L).size ≤ 1000000000 := by
  have := nodeS_light L hL hs L.length (Nat.le_refl _)
  unfold nodeT
  rw [strOf_size]
  unfold preB
  rw [List.length_append, List.length_singleton]
  omega
theorem two_all {p q : List Int} (hp : isSum p) (hq : isSum q) : ∀ x ∈ [p, q], isSum x := fun x hx => by
  rcases List.mem_cons.1 hx with rfl | hx
  · exact hp
  · rw [List.mem_singleton.1 hx]; exact hq
theorem rootNF_size : ∀ (n : Nat) (N : List Nt) (L : List (List Int)), (∀ x ∈ L, isSum x) → (∀ x ∈ N, x.2.size ≤ 1000000000) → ∀ x ∈ rootNF n N L, x.2.size ≤ 1000000000
  | 0, N, L, hL, hN, x, hx => by
    rw [rootNF] at hx
    rcases addN_mem hx with h | h
    · exact hN x h
    · rw [h]; exact nodeT_size (by simp) (fun x hx => by simp at hx)
  | n + 1, N, L, hL, hN, x, hx => by
    have hT : ∀ x ∈ L.take (halfN L.length), isSum x := fun x hx => hL x (List.mem_of_mem_take hx)
    have hD : ∀ x ∈ L.drop (halfN L.length), isSum x := fun x hx => hL x (List.mem_of_mem_drop hx)
    rw [rootNF] at hx
    split at hx
    · rcases addN_mem hx with h | h
      · exact hN x h
      · rw [h]; exact nodeT_size (by simp) (fun x hx => by simp at hx)
    · split at hx
      · exact hN x hx
      · rcases addN_mem hx with h | h
        · exact rootNF_size n _ _ hD (rootNF_size n N _ hT hN) x h
        · rw [h]; exact nodeT_size (by simp) (two_all (rootS_sum hT) (rootS_sum hD))
theorem rootN_size {L : List (List Int)} (hL : ∀ x ∈ L, isSum x) : ∀ x ∈ rootN [] L, x.2.size ≤ 1000000000 := rootNF_size _ _ _ hL (fun x hx => by simp at hx)
theorem rootN_len (L : List (List Int)) : (rootN [] L).length ≤ L.length + 1 := by
  have := (rootNF_length L.length [] L (Nat.le_refl _)).1
  simpa [rootN] using this
theorem gUpN_size : ∀ (U : List (Bool × List Int)) (N : List Nt) (s : List Int × List Int), isSum s.1 → isSum s.2 → (∀ x ∈ U, isSum x.2) → (∀ x ∈ N, x.2.size ≤ 1000000000) → ∀ x ∈ (U.foldl gUpN (N, s)).1, x.2.size ≤ 1000000000
  | [], N, s, _, _, _, hN, x, hx => hN x hx
  | y :: r, N, s, h1, h2, hU, hN, x, hx => by
    rw [List.foldl_cons] at hx
    have hy := hU y List.mem_cons_self
    have hs := gUp_sum (x := y) h1 h2
    refine gUpN_size r (gUpN (N, s) y).1 (gUpN (N, s) y).2 hs.1 hs.2 (fun z hz => hU z (List.mem_cons_of_mem _ hz)) (fun z hz => ?_) x hx
    unfold gUpN at hz
    simp only at hz
    split at hz
    · rcases addN_mem hz with h | h
      · exact hN z h
      · rw [h]; exact nodeT_size (by simp) (two_all h2 hy)
    · rcases addN_mem hz with h | h
      · rcases addN_mem h with h | h
        · exact hN z h
        · rw [h]; exact nodeT_size (by simp) (two_all hy h1)
      · rw [h]; exact nodeT_size (by simp) (two_all hy h2)
theorem gRest_sum {Y : List (Nat × Bool)} {path : List (List Int)} (hp : ∀ x ∈ path, isSum x) : ∀ x ∈ gRest Y path, isSum x := fun x hx => by
  unfold gRest at hx
  split at hx
  · exact hp x (List.mem_of_mem_drop hx)
  · exact hp x hx
theorem gUps_sums {Y : List (Nat × Bool)} {path : List (List Int)} (hp : ∀ x ∈ path, isSum x) : ∀ x ∈ gUps Y path, isSum x.2 := fun x hx => by
  unfold gUps at hx
  exact hp _ (List.of_mem_zip hx).2
/-- what Extends notes: how much, how long. -/
theorem extN_len (m n : Int) (old : List Int) (path : List (List Int)) : (extN [] m n old path).length ≤ 2 * path.length + 1 := by
  unfold extN
  split
  · simp
  · split
    · have := rootN_len []
      simp at this; omega
    · unfold gTellN
      have h := gUpN_len (gUps (gI m n) (gRest (gI m n) path)) [] (gSeed (gI m n) old path, gSeed (gI m n) old path)
      have h2 : (gUps (gI m n) (gRest (gI m n) path)).length ≤ path.length := by
        unfold gUps gRest
        rw [List.length_zip]
        split <;> simp <;> omega
      simp at h
      omega
theorem extN_size (m n : Int) (old : List Int) (path : List (List Int)) (hne : extNo m n path.length = false) (ho : isSum old) (hp : ∀ x ∈ path, isSum x) : ∀ x ∈ extN [] m n old path, x.2.size ≤ 1000000000 := fun x hx => by
  unfold extN at hx
  rw [hne, if_neg (by simp)] at hx
  split at hx
  · exact rootN_size (L := []) (fun x hx => by simp at hx) x hx
  · rename_i h0
    unfold gTellN at hx
    have hs : isSum (gSeed (gI m n) old path) := by
      unfold gSeed
      split
      · rename_i hi
        have hl : (path.length : Int) = gSteps m n := by
          unfold extNo at hne
          by_cases hh : (path.length : Int) = gSteps m n
          · exact hh
          · simp [hh] at hne
        unfold gSteps at hl
        rw [if_pos hi] at hl
        rw [List.getD_eq_getElem?_getD, List.getElem?_eq_getElem (by omega)]
        exact hp _ (List.getElem_mem _)
      · exact ho
    exact gUpN_size _ _ _ hs hs (gUps_sums (gRest_sum hp)) (fun x hx => by simp at hx) x hx
end Go.Proofs.YthpnenblmkdmcaaDoor

/- The frame of a law's row: what was read reads behind the call as it did, where nothing old has turned. -/
namespace Go.Proofs.YthpnenblmkdmcaaDoor
open Go.RowKit Go.Deep Go.ChangeShapes Go.WideShapes Go.ChangeAt

theorem below_trodAll {H : Type} {enc : TypeId × Value → H} {P : Program} (hl : laidOutB P = true) {W W' : World} (hb : Below W.heap.size W W') :
    ∀ {ts : List TypeId} {vs : List Value} {ds : List (DataW H)} {ps : List MemPlace}, (∀ t ∈ ts, P.readableRec t = true ∧ t < P.types.size) → DataW.TrodAll enc P W 0 (fun _ => true) true ts vs ds ps → (∀ x ∈ ps, x.block < W.heap.size) →
      DataW.TrodAll enc P W' 0 (fun b => decide (b < W.heap.size)) true ts vs ds ps
  | [], [], [], _, _, h, _ => h
  | t :: ts, v :: vs, d :: ds, ps, hts, h, hlt => by
    obtain ⟨p, q, h1, h2, e⟩ := h
    subst e
    exact ⟨p, q, Below.trod hl (hts t List.mem_cons_self).1 (hts t List.mem_cons_self).2 h1 hb (fun x hx => hlt x (List.mem_append_left _ hx)), below_trodAll hl hb (fun u hu => hts u (List.mem_cons_of_mem _ hu)) h2 (fun x hx => hlt x (List.mem_append_right _ hx)), rfl⟩

/-- WHAT A LAW's ROW ASKS BEHIND THE CALL, where the answer is true and nothing old has turned. -/
theorem law_post {H : Type} {enc : TypeId × Value → H} {P : Program} {spec : ChangeSpec} {f : Func} {W W' : World} {args : Array Value} {ds gs : List (DataW H)} {before : List MemPlace} {tb : TypeId}
    (hl : laidOutB P = true) (hts : ∀ t ∈ f.params.toList, P.readableRec t = true ∧ t < P.types.size) (hvars : spec.vars = []) (hres : f.resultTypes = #[tb]) (hbool : P.underlying tb = some .bool)
    (hspec : spec.fn H (ds ++ gs) = { results := [.lit (.bool true)], args := ds })
    (hW : DataW.Whole enc P f.params.toList spec.vars false W args.toList ds gs before) (hb : Below W.heap.size W W') : spec.post enc P f false true false false W args (.bool true) W' := by
  have hW' := hW
  have hlt := hW.lt
  obtain ⟨p, q, hA, hV, rfl, hfz, hnd⟩ := hW
  rw [hvars] at hV
  obtain ⟨rfl, rfl⟩ := trodVars_none hV
  refine ⟨ds, [], p ++ [], [], p, [], hW', ?_, ?_, ?_, ?_, fun h => by cases h⟩
  · rw [hspec, hres]
    exact trodAll_cons_mk (shut_bool hbool _) trodAll_mk0
  · rw [hspec]
    exact below_trodAll hl hb hts hA (fun x hx => hlt x (List.mem_append_left _ hx))
  · rw [hspec, hvars]; exact hV
  · exact hb.frame _

/-- AN ARRAY OF BYTES, opened. -/
theorem open_bytes {H : Type} {enc : TypeId × Value → H} {P : Program} {w : World} {base b0 : Nat} {sp : Nat → Bool} {held : Bool} {r : Reach} {t e : TypeId} {n : Nat} {v : Value} {d : DataW H} {ps : List MemPlace}
    (hu : P.underlying t = some (.array n e)) (he : P.underlying e = some (.int .u8)) (hc : P.cellsOf e = 1) (hct : P.cellsOf t = n) (hval : Value.okWide P w r b0 t v) (hd : DataW.Trod enc P w base sp held t v d ps) :
    ∃ f : Nat → Int, v = .agg (rowV n fun i => .int .u8 (f i)) ∧ ∀ i, 0 ≤ f i ∧ f i ≤ 255 := by
  unfold Value.okWide at hval
  rw [hu] at hval
  obtain ⟨cs, rfl, hsz, _⟩ := hval
  obtain ⟨fuel, hf⟩ := hd
  obtain ⟨xs, m, rfl, _, hlen, _, hx⟩ := DataW.trod_array hu hf
  simp only [Value.cells] at hx hlen
  have hget : ∀ i, i < n → ∃ z : Int, cs[i]? = some (.int .u8 z) ∧ 0 ≤ z ∧ z ≤ 255 := fun i hi => by
    have h1 := hx i hi
    rw [hc, Nat.mul_one] at h1
    have hxi : i < xs.length := by omega
    rw [List.getElem?_eq_getElem hxi] at h1
    obtain ⟨z, hz, _, hw⟩ := DataW.trod_int he h1
    refine ⟨z, ?_, bounds_u8 hw⟩
    have hcs : cs.toList[i]? = some (.int .u8 z) := by
      have := congrArg (fun l => l[0]?) hz
      simpa [List.getElem?_take, List.getElem?_drop] using this
    rw [← Array.getElem?_toList]; exact hcs
  refine ⟨fun i => if h : i < n then Classical.choose (hget i h) else 0, ?_, fun i => ?_⟩
  · congr 1
    refine rowV_eq (by omega) fun i hi => ?_
    dsimp only
    rw [dif_pos hi]; exact (Classical.choose_spec (hget i hi)).1
  · dsimp only
    by_cases h : i < n
    · rw [dif_pos h]; exact (Classical.choose_spec (hget i h)).2
    · rw [dif_neg h]; omega
end Go.Proofs.YthpnenblmkdmcaaDoor

/- A sum that is handed in. -/
namespace Go.Proofs.YthpnenblmkdmcaaDoor
open Go.RowKit Go.Deep
/-- its bytes as a list. -/
def listF (f : Nat → Int) : List Int := (List.range 32).map f
theorem listF_getD (f : Nat → Int) (i : Nat) (h : i < 32) : (listF f).getD i 0 = f i := by
  rw [listF, List.getD_eq_getElem?_getD, List.getElem?_map, List.getElem?_range h]; rfl
theorem listF_sum {f : Nat → Int} (hf : ∀ i, 0 ≤ f i ∧ f i ≤ 255) : isSum (listF f) := ⟨by simp [listF], fun i => by
  by_cases h : i < 32
  · rw [listF_getD f i h]; exact hf i
  · rw [List.getD_eq_getElem?_getD, List.getElem?_eq_none (by simp [listF]; omega)]; exact ⟨by simp, by simp⟩⟩
theorem listF_row (f : Nat → Int) : rowV 32 (fun i => .int .u8 (f i)) = rowV 32 (arrV (listF f)) := rowV_congr fun i hi => by rw [arrV, listF_getD f i hi]
def zeroSum : Value := .agg #[.int .u8 0, .int .u8 0, .int .u8 0, .int .u8 0, .int .u8 0, .int .u8 0, .int .u8 0, .int .u8 0, .int .u8 0, .int .u8 0, .int .u8 0, .int .u8 0, .int .u8 0, .int .u8 0, .int .u8 0, .int .u8 0, .int .u8 0, .int .u8 0, .int .u8 0, .int .u8 0, .int .u8 0, .int .u8 0, .int .u8 0, .int .u8 0, .int .u8 0, .int .u8 0, .int .u8 0, .int .u8 0, .int .u8 0, .int .u8 0, .int .u8 0, .int .u8 0]
def zeroSumD {H : Type} : DataW H := .agg [.lit (.int .u8 0), .lit (.int .u8 0), .lit (.int .u8 0), .lit (.int .u8 0), .lit (.int .u8 0), .lit (.int .u8 0), .lit (.int .u8 0), .lit (.int .u8 0), .lit (.int .u8 0), .lit (.int .u8 0), .lit (.int .u8 0), .lit (.int .u8 0), .lit (.int .u8 0), .lit (.int .u8 0), .lit (.int .u8 0), .lit (.int .u8 0), .lit (.int .u8 0), .lit (.int .u8 0), .lit (.int .u8 0), .lit (.int .u8 0), .lit (.int .u8 0), .lit (.int .u8 0), .lit (.int .u8 0), .lit (.int .u8 0), .lit (.int .u8 0), .lit (.int .u8 0), .lit (.int .u8 0), .lit (.int .u8 0), .lit (.int .u8 0), .lit (.int .u8 0), .lit (.int .u8 0), .lit (.int .u8 0)]
end Go.Proofs.YthpnenblmkdmcaaDoor
