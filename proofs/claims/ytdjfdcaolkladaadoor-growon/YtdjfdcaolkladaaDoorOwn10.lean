import Derived.ProofKit
import Derived.OpenShut
import Derived.Test.YtdjfdcaolkladaaDoorRows
import Derived.ChangeSlices
import Derived.Deep.Slices
import Derived.Deep.Strs
import Derived.Test.YtdjfdcaolkladaaDoorCards
import Derived.Deep.DeepHandedRow
import Derived.Lib.LaidTab
import Derived.Test.YtdjfdcaolkladaaDoorOwn1
import Derived.Test.YtdjfdcaolkladaaDoorOwn3
import Derived.Test.YtdjfdcaolkladaaDoorOwn4
import Derived.Test.YtdjfdcaolkladaaDoorOwn9
set_option linter.unusedVariables false
set_option linter.unusedSimpArgs false
/- GrowOn: its walk. -/
namespace Go.Proofs.YtdjfdcaolkladaaDoor
set_option linter.unusedSimpArgs false
set_option linter.unusedVariables false
open Go.RowKit Go.Deep

theorem store_stepG {o : Oper} {a : Act} {w w' : World} {K : Act → World → Prop} {Q : Exit → Act → World → Prop} {b : Nat} {v : Value} {x y : Operand} (ho : o.op = .store 29 x y) (hx : a.eval x = .pointer (some ⟨b, 0, none⟩)) (hy : a.eval y = v)
    (hr : (storeVar 29 ⟨b, 0, none⟩ v).run Tryd.prog w = .ok () w') (h : K (a.put o.dst undef) w') : Oper.wp Tryd.prog o a w K Q := by
  unfold Oper.wp execOp
  simp only [ho, hx, hy, Instr.storeAt, Instr.sureAddr, Sem.run_bind, Sem.run_pure, Result.andThen_ok]
  simp [hr, Oper.upon]
  exact h
theorem regionK {P : Program} {md : Region.Mode} {ops : Array Oper} {Q : Exit → Act → World → Prop} {S : World → Prop} {fuel : Nat} {listed : Array Bool} {a : Act} {w : World} (h : ∀ G : Nat → Array Bool → Act → World → Prop, (∀ f l a w, G f l a w = wpAnyH P md ops Q S f l a w) → G fuel listed a w) : wpAnyH P md ops Q S fuel listed a w :=
  h (wpAnyH P md ops Q S) (fun _ _ _ _ => rfl)
theorem actK {p : Act → Prop} {a : Act} (h : ∀ a0, a0 = a → p a0) : p a := h a rfl
theorem listK {p : Array Bool → Prop} {a : Array Bool} (h : ∀ a0, a0 = a → p a0) : p a := h a rfl
theorem lcong {P : Program} {md : Region.Mode} {ops : Array Oper} {Q : Exit → Act → World → Prop} {S : World → Prop} {fuel : Nat} {l l' : Array Bool} {a : Act} {w : World} (e : l = l') (h : wpAnyH P md ops Q S fuel l a w) : wpAnyH P md ops Q S fuel l' a w := e ▸ h
theorem gPath_le (L : List (List Int)) (m : Int) (h : L.length ≤ 1000) : (gPath L m).length ≤ 1000 := by
  have h1 := gPath_len L m
  have h2 := gI_len m (L.length : Int) (by omega)
  unfold gSteps at h1
  split at h1 <;> omega
set_option maxHeartbeats 8000000 in
set_option maxRecDepth 100000 in
theorem growOn_in (L : List (List Int)) (v : Value) (j m : Nat) (hj : j ≤ m) (hm : m ≤ L.length) (hL : L.length ≤ 150) (w : World) (ht : tabIs w) (h : sumsAt w v L) :
    Calls Tryd.prog 7 #[v, .int .i64 (j : Int), .int .i64 (m : Int)] w fun e w' => e = .returned (.bool true) ∧ Below w.heap.size w w' := by
  have hsl : ∃ a cap, v = .slice a L.length cap := by
    obtain ⟨_, a, cap, e, _⟩ := h; exact ⟨a, cap, e⟩
  obtain ⟨va, vc, rfl⟩ := hsl
  obtain ⟨uj, ruj, suj, _, xj, yj, rfl⟩ := h.upto j (by omega)
  obtain ⟨um, rum, sum, _, xm, ym, rfl⟩ := h.upto m hm
  have RUJ : Hid (∀ wz : World, (Instr.slice 22 (.slice va L.length vc) none (some (.int .i64 j)) none).run Tryd.prog wz = .ok (.slice xj j yj) wz) := (show _ from ruj)
  have RUM : Hid (∀ wz : World, (Instr.slice 22 (.slice va L.length vc) none (some (.int .i64 m)) none).run Tryd.prog wz = .ok (.slice xm m ym) wz) := (show _ from rum)
  have HS : Hid (∀ wz, Below w.heap.size w wz → tabIs wz ∧ sumsAt wz (.slice va L.length vc) L ∧ sumsAt wz (.slice xj j yj) (L.take j) ∧ sumsAt wz (.slice xm m ym) (L.take m)) := (show _ from fun wz hz => ⟨ht.below hz ht.1, h.below hz (Nat.le_refl _), suj.below hz (Nat.le_refl _), sum.below hz (Nat.le_refl _)⟩)
  have ljm : (L.take m).length = m := by rw [List.length_take]; omega
  have ljj : (L.take j).length = j := by rw [List.length_take]; omega
  have ett : (L.take m).take j = L.take j := by rw [List.take_take, Nat.min_eq_left hj]
  have E1 : Hid (extR j m (rootS (L.take j)) (rootS (L.take m)) (gPath (L.take m) j) = true) := (show _ from by
    have := ext_path (L.take m) j (by omega)
    rwa [ett, ljm] at this)
  have E2 : Hid (extR m L.length (rootS (L.take m)) (rootS L) (gPath L m) = true) := (show _ from ext_path L m hm)
  have E3 : Hid (extR j L.length (rootS (L.take j)) (rootS L) (gPath L j) = true) := (show _ from ext_path L j (by omega))
  have SA : Hid (isSum (rootS (L.take j)) ∧ isSum (rootS (L.take m)) ∧ isSum (rootS L)) := (show _ ∧ _ ∧ _ from ⟨rootS_sum suj.1, rootS_sum sum.1, rootS_sum h.1⟩)
  obtain ⟨A, hA⟩ : ∃ A, A = rootS (L.take j) := ⟨_, rfl⟩
  obtain ⟨B, hB⟩ : ∃ B, B = rootS (L.take m) := ⟨_, rfl⟩
  obtain ⟨C, hC⟩ : ∃ C, C = rootS L := ⟨_, rfl⟩
  rw [← hA, ← hB] at E1
  rw [← hB, ← hC] at E2
  rw [← hA, ← hC] at E3
  rw [← hA, ← hB, ← hC] at SA
  have RA : Hid (∀ W, Below w.heap.size w W → Calls Tryd.prog 18 #[.pointer none, .slice xj j yj] W fun e w' => e = .returned (.agg (rowV 32 (arrV A))) ∧ Below W.heap.size W w') := (show _ from fun W hW => by
    rw [hA]; exact root_nil 1000 _ _ W (by omega) (Nat.le_refl _) (HS.out W hW).2.2.1 (HS.out W hW).1)
  have RB : Hid (∀ W, Below w.heap.size w W → Calls Tryd.prog 18 #[.pointer none, .slice xm m ym] W fun e w' => e = .returned (.agg (rowV 32 (arrV B))) ∧ Below W.heap.size W w') := (show _ from fun W hW => by
    rw [hB]; exact root_nil 1000 _ _ W (by omega) (Nat.le_refl _) (HS.out W hW).2.2.2 (HS.out W hW).1)
  have RC : Hid (∀ W, Below w.heap.size w W → Calls Tryd.prog 18 #[.pointer none, .slice va L.length vc] W fun e w' => e = .returned (.agg (rowV 32 (arrV C))) ∧ Below W.heap.size W w') := (show _ from fun W hW => by
    rw [hC]; exact root_nil 1000 _ _ W (by omega) (Nat.le_refl _) (HS.out W hW).2.1 (HS.out W hW).1)
  have q1 : (L.length : Int) ≤ 150 := by omega
  have q2 : (0 : Int) ≤ (j : Int) := by omega
  have q3 : (j : Int) ≤ (m : Int) := by omega
  have q4 : (m : Int) ≤ (L.length : Int) := by omega
  have d1 : ¬ (150 : Int) < (L.length : Int) := by omega
  have d2 : ¬ (j : Int) < 0 := by omega
  have d3 : ¬ m < j := by omega
  have d4 : ¬ L.length < m := by omega
  have HQ : Hid (j ≤ m ∧ m ≤ L.length ∧ L.length ≤ 150 ∧ (L.take m).length = m) := (show _ from ⟨hj, hm, hL, ljm⟩)
  clear ruj rum suj sum ljm ljj ett h ht hA hB hC hj hm hL
  go_enter Tryd.func7, Tryd.ntmps7
  go_upto_region 3 with fail
  go_cut [7, 8, 9] from 32 to 41 (fun p7 p8 p9 wx => ∃ b7 b8 b9, p7 = .pointer (some ⟨b7, 0, none⟩) ∧ p8 = .pointer (some ⟨b8, 0, none⟩) ∧ p9 = .pointer (some ⟨b9, 0, none⟩) ∧ wx.rowIs b7 29 32 (arrV A) ∧ wx.rowIs b8 29 32 (arrV B) ∧ wx.rowIs b9 29 32 (arrV C) ∧ Below w.heap.size w wx)
  case first =>
    have H : st3 w w.drew none none none := ⟨(Below.refl _ _).drew, fun x h => (by cases h), fun x h => (by cases h), fun x h => (by cases h), fun x h => (by cases h), fun x h => (by cases h)⟩
    refine wp_region_noPanic ?_
    refine wp_region_held_drew (S := fun w' => True) (by kernel_rfl) trivial (fun hHeld => ?_)
    generalize w.drew = W at H ⊢
    refine take_op (i := 0) (v := ?va0) rfl (by kernel_rfl) (by kernel_rfl) (by kernel_rfl) (fun _ _ _ h => h) rfl hHeld ?ya0 ?ra0
    case ya0 => (intro wz hz; go_simp; first | done | with_reducible rfl)
    try simp only [Act.put, List.setIfInBounds_toArray, List.set_cons_zero, List.set_cons_succ]
    refine take_op (i := 1) (v := ?va1) rfl (by kernel_rfl) (by kernel_rfl) (by kernel_rfl) (fun _ _ _ h => h) rfl hHeld ?ya1 ?ra1
    case ya1 => (intro wz hz; go_simp; first | done | with_reducible rfl)
    try simp only [Act.put, List.setIfInBounds_toArray, List.set_cons_zero, List.set_cons_succ]
    refine take_op (i := 2) (v := ?va2) rfl (by kernel_rfl) (by kernel_rfl) (by kernel_rfl) (fun _ _ _ h => h) rfl hHeld ?ya2 ?ra2
    case ya2 => (intro wz hz; have hcz := RUJ.out wz; go_simp; first | done | with_reducible rfl)
    try simp only [Act.put, List.setIfInBounds_toArray, List.set_cons_zero, List.set_cons_succ]
    refine take_op (i := 4) (v := ?va4) rfl (by kernel_rfl) (by kernel_rfl) (by kernel_rfl) (fun _ _ _ h => h) rfl hHeld ?ya4 ?ra4
    case ya4 => (intro wz hz; go_simp; first | done | with_reducible rfl)
    try simp only [Act.put, List.setIfInBounds_toArray, List.set_cons_zero, List.set_cons_succ]
    refine take_op (i := 5) (v := ?va5) rfl (by kernel_rfl) (by kernel_rfl) (by kernel_rfl) (fun _ _ _ h => h) rfl hHeld ?ya5 ?ra5
    case ya5 => (intro wz hz; go_simp; first | done | with_reducible rfl)
    try simp only [Act.put, List.setIfInBounds_toArray, List.set_cons_zero, List.set_cons_succ]
    refine take_op (i := 6) (v := ?va6) rfl (by kernel_rfl) (by kernel_rfl) (by kernel_rfl) (fun _ _ _ h => h) rfl hHeld ?ya6 ?ra6
    case ya6 => (intro wz hz; have hcz := RUM.out wz; go_simp; first | done | with_reducible rfl)
    try simp only [Act.put, List.setIfInBounds_toArray, List.set_cons_zero, List.set_cons_succ]
    refine take_op (i := 8) (v := ?va8) rfl (by kernel_rfl) (by kernel_rfl) (by kernel_rfl) (fun _ _ _ h => h) rfl hHeld ?ya8 ?ra8
    case ya8 => (intro wz hz; go_simp; first | done | with_reducible rfl)
    try simp only [Act.put, List.setIfInBounds_toArray, List.set_cons_zero, List.set_cons_succ]
    refine regionK (fun G hG => ?_)
    refine actK (p := fun a => G 9 _ a W) (fun a0 ha0 => ?_)
    refine listK (p := fun l => G 9 l a0 W) (fun l0 hl0 => ?_)
    have HG : Hid _ := hG
    have HA0 : Hid _ := ha0
    have HL0 : Hid _ := hl0
    clear hG ha0 hl0
    have ST3_7_9_10_11_12 : Hid (∀ b1 b2 b3, ∀ W : World, st3 w W (some b1) (some b2) (some b3) → G 3 ((((((l0.setIfInBounds 3 true).setIfInBounds 7 true).setIfInBounds 9 true).setIfInBounds 10 true).setIfInBounds 11 true).setIfInBounds 12 true) ((((((a0.put (some 35) (.agg (rowV 32 (arrV A)))).put (some 39) (.agg (rowV 32 (arrV B)))).put (some 41) (.agg (rowV 32 (arrV C)))).put (some 7) (.pointer (some ⟨b1, 0, none⟩))).put (some 8) (.pointer (some ⟨b2, 0, none⟩))).put (some 9) (.pointer (some ⟨b3, 0, none⟩))) W) := (show ∀ b1 b2 b3, ∀ W : World, st3 w W (some b1) (some b2) (some b3) → G 3 ((((((l0.setIfInBounds 3 true).setIfInBounds 7 true).setIfInBounds 9 true).setIfInBounds 10 true).setIfInBounds 11 true).setIfInBounds 12 true) ((((((a0.put (some 35) (.agg (rowV 32 (arrV A)))).put (some 39) (.agg (rowV 32 (arrV B)))).put (some 41) (.agg (rowV 32 (arrV C)))).put (some 7) (.pointer (some ⟨b1, 0, none⟩))).put (some 8) (.pointer (some ⟨b2, 0, none⟩))).put (some 9) (.pointer (some ⟨b3, 0, none⟩))) W from by
      intro b1 b2 b3 W H
      rw [HA0.out, HL0.out, HG.out]
      try simp only [Act.put, List.setIfInBounds_toArray, List.set_cons_zero, List.set_cons_succ]
      obtain ⟨V1, V2, V3, e1, e2, e3, F⟩ := H.fin A B C
      refine take_one (i := 13) rfl (by kernel_rfl) rfl (fun K hK => ?_)
      unfold Oper.wp execOp
      simp only [Instr.storeAt, Instr.sureAddr, Sem.run_bind, Sem.run_pure, Result.andThen_ok]
      simp [Act.eval, e1, Oper.upon]
      refine hK.out _ _ trivial (fun _ => ?_)
      clear hK K
      try simp only [Act.put, List.setIfInBounds_toArray, List.set_cons_zero, List.set_cons_succ]
      refine take_one (i := 14) rfl (by kernel_rfl) rfl (fun K hK => ?_)
      unfold Oper.wp execOp
      simp only [Instr.storeAt, Instr.sureAddr, Sem.run_bind, Sem.run_pure, Result.andThen_ok]
      simp [Act.eval, e2, Oper.upon]
      refine hK.out _ _ trivial (fun _ => ?_)
      clear hK K
      try simp only [Act.put, List.setIfInBounds_toArray, List.set_cons_zero, List.set_cons_succ]
      refine take_one (i := 15) rfl (by kernel_rfl) rfl (fun K hK => ?_)
      unfold Oper.wp execOp
      simp only [Instr.storeAt, Instr.sureAddr, Sem.run_bind, Sem.run_pure, Result.andThen_ok]
      simp [Act.eval, e3, Oper.upon]
      refine hK.out _ _ trivial (fun _ => ?_)
      clear hK K
      try simp only [Act.put, List.setIfInBounds_toArray, List.set_cons_zero, List.set_cons_succ]
      refine wpAnyH_done (by kernel_rfl) ?_ _
      refine NoPanic.normal ?_
      clear e1 e2 e3 H
      go_wp2_with fail
      go_meet
      case rel => exact ⟨_, _, _, rfl, rfl, rfl, F⟩)
    have ST3_7_10_11_12 : Hid (∀ b1 b2 b3, ∀ W : World, st3 w W (some b1) (some b2) (some b3) → G 4 (((((l0.setIfInBounds 3 true).setIfInBounds 7 true).setIfInBounds 10 true).setIfInBounds 11 true).setIfInBounds 12 true) (((((a0.put (some 35) (.agg (rowV 32 (arrV A)))).put (some 39) (.agg (rowV 32 (arrV B)))).put (some 7) (.pointer (some ⟨b1, 0, none⟩))).put (some 8) (.pointer (some ⟨b2, 0, none⟩))).put (some 9) (.pointer (some ⟨b3, 0, none⟩))) W) := (show ∀ b1 b2 b3, ∀ W : World, st3 w W (some b1) (some b2) (some b3) → G 4 (((((l0.setIfInBounds 3 true).setIfInBounds 7 true).setIfInBounds 10 true).setIfInBounds 11 true).setIfInBounds 12 true) (((((a0.put (some 35) (.agg (rowV 32 (arrV A)))).put (some 39) (.agg (rowV 32 (arrV B)))).put (some 7) (.pointer (some ⟨b1, 0, none⟩))).put (some 8) (.pointer (some ⟨b2, 0, none⟩))).put (some 9) (.pointer (some ⟨b3, 0, none⟩))) W from by
      intro b1 b2 b3 W H
      rw [HA0.out, HL0.out, HG.out]
      try simp only [Act.put, List.setIfInBounds_toArray, List.set_cons_zero, List.set_cons_succ]
      refine take_one (i := 9) rfl (by kernel_rfl) rfl (fun K hK => ?_)
      go_simp
      refine Calls.mono (RC.out _ H.1) ?_
      rintro e W2 ⟨rfl, hb⟩
      have H2 := H.call hb
      refine hK.out _ _ trivial (fun _ => ?_)
      try simp only [Act.put, List.setIfInBounds_toArray, List.set_cons_zero, List.set_cons_succ]
      have T := ST3_7_9_10_11_12.out b1 b2 b3 W2 H2
      rw [HA0.out, HL0.out, HG.out] at T
      try simp only [Act.put, List.setIfInBounds_toArray, List.set_cons_zero, List.set_cons_succ] at T
      exact lcong (by kernel_rfl) T)
    have ST3_7_9_10_11 : Hid (∀ b1 b2, ∀ W : World, st3 w W (some b1) (some b2) none → G 4 (((((l0.setIfInBounds 3 true).setIfInBounds 7 true).setIfInBounds 9 true).setIfInBounds 10 true).setIfInBounds 11 true) (((((a0.put (some 35) (.agg (rowV 32 (arrV A)))).put (some 39) (.agg (rowV 32 (arrV B)))).put (some 41) (.agg (rowV 32 (arrV C)))).put (some 7) (.pointer (some ⟨b1, 0, none⟩))).put (some 8) (.pointer (some ⟨b2, 0, none⟩))) W) := (show ∀ b1 b2, ∀ W : World, st3 w W (some b1) (some b2) none → G 4 (((((l0.setIfInBounds 3 true).setIfInBounds 7 true).setIfInBounds 9 true).setIfInBounds 10 true).setIfInBounds 11 true) (((((a0.put (some 35) (.agg (rowV 32 (arrV A)))).put (some 39) (.agg (rowV 32 (arrV B)))).put (some 41) (.agg (rowV 32 (arrV C)))).put (some 7) (.pointer (some ⟨b1, 0, none⟩))).put (some 8) (.pointer (some ⟨b2, 0, none⟩))) W from by
      intro b1 b2 W H
      rw [HA0.out, HL0.out, HG.out]
      try simp only [Act.put, List.setIfInBounds_toArray, List.set_cons_zero, List.set_cons_succ]
      refine take_one (i := 12) rfl (by kernel_rfl) rfl (fun K hK => ?_)
      obtain ⟨W2, b3, hr, H2⟩ := H.al3
      refine wp_of_run (exec_allocR rfl hr) ?_
      refine hK.out _ _ trivial (fun _ => ?_)
      try simp only [Act.put, List.setIfInBounds_toArray, List.set_cons_zero, List.set_cons_succ]
      have T := ST3_7_9_10_11_12.out b1 b2 b3 W2 H2
      rw [HA0.out, HL0.out, HG.out] at T
      try simp only [Act.put, List.setIfInBounds_toArray, List.set_cons_zero, List.set_cons_succ] at T
      exact lcong (by kernel_rfl) T)
    have ST3_7_9_10_12 : Hid (∀ b1 b3, ∀ W : World, st3 w W (some b1) none (some b3) → G 4 (((((l0.setIfInBounds 3 true).setIfInBounds 7 true).setIfInBounds 9 true).setIfInBounds 10 true).setIfInBounds 12 true) (((((a0.put (some 35) (.agg (rowV 32 (arrV A)))).put (some 39) (.agg (rowV 32 (arrV B)))).put (some 41) (.agg (rowV 32 (arrV C)))).put (some 7) (.pointer (some ⟨b1, 0, none⟩))).put (some 9) (.pointer (some ⟨b3, 0, none⟩))) W) := (show ∀ b1 b3, ∀ W : World, st3 w W (some b1) none (some b3) → G 4 (((((l0.setIfInBounds 3 true).setIfInBounds 7 true).setIfInBounds 9 true).setIfInBounds 10 true).setIfInBounds 12 true) (((((a0.put (some 35) (.agg (rowV 32 (arrV A)))).put (some 39) (.agg (rowV 32 (arrV B)))).put (some 41) (.agg (rowV 32 (arrV C)))).put (some 7) (.pointer (some ⟨b1, 0, none⟩))).put (some 9) (.pointer (some ⟨b3, 0, none⟩))) W from by
      intro b1 b3 W H
      rw [HA0.out, HL0.out, HG.out]
      try simp only [Act.put, List.setIfInBounds_toArray, List.set_cons_zero, List.set_cons_succ]
      refine take_one (i := 11) rfl (by kernel_rfl) rfl (fun K hK => ?_)
      obtain ⟨W2, b2, hr, H2⟩ := H.al2
      refine wp_of_run (exec_allocR rfl hr) ?_
      refine hK.out _ _ trivial (fun _ => ?_)
      try simp only [Act.put, List.setIfInBounds_toArray, List.set_cons_zero, List.set_cons_succ]
      have T := ST3_7_9_10_11_12.out b1 b2 b3 W2 H2
      rw [HA0.out, HL0.out, HG.out] at T
      try simp only [Act.put, List.setIfInBounds_toArray, List.set_cons_zero, List.set_cons_succ] at T
      exact lcong (by kernel_rfl) T)
    have ST3_7_9_11_12 : Hid (∀ b2 b3, ∀ W : World, st3 w W none (some b2) (some b3) → G 4 (((((l0.setIfInBounds 3 true).setIfInBounds 7 true).setIfInBounds 9 true).setIfInBounds 11 true).setIfInBounds 12 true) (((((a0.put (some 35) (.agg (rowV 32 (arrV A)))).put (some 39) (.agg (rowV 32 (arrV B)))).put (some 41) (.agg (rowV 32 (arrV C)))).put (some 8) (.pointer (some ⟨b2, 0, none⟩))).put (some 9) (.pointer (some ⟨b3, 0, none⟩))) W) := (show ∀ b2 b3, ∀ W : World, st3 w W none (some b2) (some b3) → G 4 (((((l0.setIfInBounds 3 true).setIfInBounds 7 true).setIfInBounds 9 true).setIfInBounds 11 true).setIfInBounds 12 true) (((((a0.put (some 35) (.agg (rowV 32 (arrV A)))).put (some 39) (.agg (rowV 32 (arrV B)))).put (some 41) (.agg (rowV 32 (arrV C)))).put (some 8) (.pointer (some ⟨b2, 0, none⟩))).put (some 9) (.pointer (some ⟨b3, 0, none⟩))) W from by
      intro b2 b3 W H
      rw [HA0.out, HL0.out, HG.out]
      try simp only [Act.put, List.setIfInBounds_toArray, List.set_cons_zero, List.set_cons_succ]
      refine take_one (i := 10) rfl (by kernel_rfl) rfl (fun K hK => ?_)
      obtain ⟨W2, b1, hr, H2⟩ := H.al1
      refine wp_of_run (exec_allocR rfl hr) ?_
      refine hK.out _ _ trivial (fun _ => ?_)
      try simp only [Act.put, List.setIfInBounds_toArray, List.set_cons_zero, List.set_cons_succ]
      have T := ST3_7_9_10_11_12.out b1 b2 b3 W2 H2
      rw [HA0.out, HL0.out, HG.out] at T
      try simp only [Act.put, List.setIfInBounds_toArray, List.set_cons_zero, List.set_cons_succ] at T
      exact lcong (by kernel_rfl) T)
    have ST3_10_11_12 : Hid (∀ b1 b2 b3, ∀ W : World, st3 w W (some b1) (some b2) (some b3) → G 5 ((((l0.setIfInBounds 3 true).setIfInBounds 10 true).setIfInBounds 11 true).setIfInBounds 12 true) ((((a0.put (some 35) (.agg (rowV 32 (arrV A)))).put (some 7) (.pointer (some ⟨b1, 0, none⟩))).put (some 8) (.pointer (some ⟨b2, 0, none⟩))).put (some 9) (.pointer (some ⟨b3, 0, none⟩))) W) := (show ∀ b1 b2 b3, ∀ W : World, st3 w W (some b1) (some b2) (some b3) → G 5 ((((l0.setIfInBounds 3 true).setIfInBounds 10 true).setIfInBounds 11 true).setIfInBounds 12 true) ((((a0.put (some 35) (.agg (rowV 32 (arrV A)))).put (some 7) (.pointer (some ⟨b1, 0, none⟩))).put (some 8) (.pointer (some ⟨b2, 0, none⟩))).put (some 9) (.pointer (some ⟨b3, 0, none⟩))) W from by
      intro b1 b2 b3 W H
      rw [HA0.out, HL0.out, HG.out]
      try simp only [Act.put, List.setIfInBounds_toArray, List.set_cons_zero, List.set_cons_succ]
      refine take_one (i := 7) rfl (by kernel_rfl) rfl (fun K hK => ?_)
      go_simp
      refine Calls.mono (RB.out _ H.1) ?_
      rintro e W2 ⟨rfl, hb⟩
      have H2 := H.call hb
      refine hK.out _ _ trivial (fun _ => ?_)
      try simp only [Act.put, List.setIfInBounds_toArray, List.set_cons_zero, List.set_cons_succ]
      have T := ST3_7_10_11_12.out b1 b2 b3 W2 H2
      rw [HA0.out, HL0.out, HG.out] at T
      try simp only [Act.put, List.setIfInBounds_toArray, List.set_cons_zero, List.set_cons_succ] at T
      exact lcong (by kernel_rfl) T)
    have ST3_7_10_11 : Hid (∀ b1 b2, ∀ W : World, st3 w W (some b1) (some b2) none → G 5 ((((l0.setIfInBounds 3 true).setIfInBounds 7 true).setIfInBounds 10 true).setIfInBounds 11 true) ((((a0.put (some 35) (.agg (rowV 32 (arrV A)))).put (some 39) (.agg (rowV 32 (arrV B)))).put (some 7) (.pointer (some ⟨b1, 0, none⟩))).put (some 8) (.pointer (some ⟨b2, 0, none⟩))) W) := (show ∀ b1 b2, ∀ W : World, st3 w W (some b1) (some b2) none → G 5 ((((l0.setIfInBounds 3 true).setIfInBounds 7 true).setIfInBounds 10 true).setIfInBounds 11 true) ((((a0.put (some 35) (.agg (rowV 32 (arrV A)))).put (some 39) (.agg (rowV 32 (arrV B)))).put (some 7) (.pointer (some ⟨b1, 0, none⟩))).put (some 8) (.pointer (some ⟨b2, 0, none⟩))) W from by
      intro b1 b2 W H
      rw [HA0.out, HL0.out, HG.out]
      try simp only [Act.put, List.setIfInBounds_toArray, List.set_cons_zero, List.set_cons_succ]
      refine take_pair (i := 9) (j := 12) rfl rfl (by kernel_rfl) rfl rfl (fun K hK => ?_) (fun K hK => ?_)
      · go_simp
        refine Calls.mono (RC.out _ H.1) ?_
        rintro e W2 ⟨rfl, hb⟩
        have H2 := H.call hb
        refine hK.out _ _ trivial (fun _ => ?_)
        try simp only [Act.put, List.setIfInBounds_toArray, List.set_cons_zero, List.set_cons_succ]
        have T := ST3_7_9_10_11.out b1 b2 W2 H2
        rw [HA0.out, HL0.out, HG.out] at T
        try simp only [Act.put, List.setIfInBounds_toArray, List.set_cons_zero, List.set_cons_succ] at T
        exact lcong (by kernel_rfl) T
      · obtain ⟨W2, b3, hr, H2⟩ := H.al3
        refine wp_of_run (exec_allocR rfl hr) ?_
        refine hK.out _ _ trivial (fun _ => ?_)
        try simp only [Act.put, List.setIfInBounds_toArray, List.set_cons_zero, List.set_cons_succ]
        have T := ST3_7_10_11_12.out b1 b2 b3 W2 H2
        rw [HA0.out, HL0.out, HG.out] at T
        try simp only [Act.put, List.setIfInBounds_toArray, List.set_cons_zero, List.set_cons_succ] at T
        exact lcong (by kernel_rfl) T)
    have ST3_7_10_12 : Hid (∀ b1 b3, ∀ W : World, st3 w W (some b1) none (some b3) → G 5 ((((l0.setIfInBounds 3 true).setIfInBounds 7 true).setIfInBounds 10 true).setIfInBounds 12 true) ((((a0.put (some 35) (.agg (rowV 32 (arrV A)))).put (some 39) (.agg (rowV 32 (arrV B)))).put (some 7) (.pointer (some ⟨b1, 0, none⟩))).put (some 9) (.pointer (some ⟨b3, 0, none⟩))) W) := (show ∀ b1 b3, ∀ W : World, st3 w W (some b1) none (some b3) → G 5 ((((l0.setIfInBounds 3 true).setIfInBounds 7 true).setIfInBounds 10 true).setIfInBounds 12 true) ((((a0.put (some 35) (.agg (rowV 32 (arrV A)))).put (some 39) (.agg (rowV 32 (arrV B)))).put (some 7) (.pointer (some ⟨b1, 0, none⟩))).put (some 9) (.pointer (some ⟨b3, 0, none⟩))) W from by
      intro b1 b3 W H
      rw [HA0.out, HL0.out, HG.out]
      try simp only [Act.put, List.setIfInBounds_toArray, List.set_cons_zero, List.set_cons_succ]
      refine take_pair (i := 9) (j := 11) rfl rfl (by kernel_rfl) rfl rfl (fun K hK => ?_) (fun K hK => ?_)
      · go_simp
        refine Calls.mono (RC.out _ H.1) ?_
        rintro e W2 ⟨rfl, hb⟩
        have H2 := H.call hb
        refine hK.out _ _ trivial (fun _ => ?_)
        try simp only [Act.put, List.setIfInBounds_toArray, List.set_cons_zero, List.set_cons_succ]
        have T := ST3_7_9_10_12.out b1 b3 W2 H2
        rw [HA0.out, HL0.out, HG.out] at T
        try simp only [Act.put, List.setIfInBounds_toArray, List.set_cons_zero, List.set_cons_succ] at T
        exact lcong (by kernel_rfl) T
      · obtain ⟨W2, b2, hr, H2⟩ := H.al2
        refine wp_of_run (exec_allocR rfl hr) ?_
        refine hK.out _ _ trivial (fun _ => ?_)
        try simp only [Act.put, List.setIfInBounds_toArray, List.set_cons_zero, List.set_cons_succ]
        have T := ST3_7_10_11_12.out b1 b2 b3 W2 H2
        rw [HA0.out, HL0.out, HG.out] at T
        try simp only [Act.put, List.setIfInBounds_toArray, List.set_cons_zero, List.set_cons_succ] at T
        exact lcong (by kernel_rfl) T)
    have ST3_7_11_12 : Hid (∀ b2 b3, ∀ W : World, st3 w W none (some b2) (some b3) → G 5 ((((l0.setIfInBounds 3 true).setIfInBounds 7 true).setIfInBounds 11 true).setIfInBounds 12 true) ((((a0.put (some 35) (.agg (rowV 32 (arrV A)))).put (some 39) (.agg (rowV 32 (arrV B)))).put (some 8) (.pointer (some ⟨b2, 0, none⟩))).put (some 9) (.pointer (some ⟨b3, 0, none⟩))) W) := (show ∀ b2 b3, ∀ W : World, st3 w W none (some b2) (some b3) → G 5 ((((l0.setIfInBounds 3 true).setIfInBounds 7 true).setIfInBounds 11 true).setIfInBounds 12 true) ((((a0.put (some 35) (.agg (rowV 32 (arrV A)))).put (some 39) (.agg (rowV 32 (arrV B)))).put (some 8) (.pointer (some ⟨b2, 0, none⟩))).put (some 9) (.pointer (some ⟨b3, 0, none⟩))) W from by
      intro b2 b3 W H
      rw [HA0.out, HL0.out, HG.out]
      try simp only [Act.put, List.setIfInBounds_toArray, List.set_cons_zero, List.set_cons_succ]
      refine take_pair (i := 9) (j := 10) rfl rfl (by kernel_rfl) rfl rfl (fun K hK => ?_) (fun K hK => ?_)
      · go_simp
        refine Calls.mono (RC.out _ H.1) ?_
        rintro e W2 ⟨rfl, hb⟩
        have H2 := H.call hb
        refine hK.out _ _ trivial (fun _ => ?_)
        try simp only [Act.put, List.setIfInBounds_toArray, List.set_cons_zero, List.set_cons_succ]
        have T := ST3_7_9_11_12.out b2 b3 W2 H2
        rw [HA0.out, HL0.out, HG.out] at T
        try simp only [Act.put, List.setIfInBounds_toArray, List.set_cons_zero, List.set_cons_succ] at T
        exact lcong (by kernel_rfl) T
      · obtain ⟨W2, b1, hr, H2⟩ := H.al1
        refine wp_of_run (exec_allocR rfl hr) ?_
        refine hK.out _ _ trivial (fun _ => ?_)
        try simp only [Act.put, List.setIfInBounds_toArray, List.set_cons_zero, List.set_cons_succ]
        have T := ST3_7_10_11_12.out b1 b2 b3 W2 H2
        rw [HA0.out, HL0.out, HG.out] at T
        try simp only [Act.put, List.setIfInBounds_toArray, List.set_cons_zero, List.set_cons_succ] at T
        exact lcong (by kernel_rfl) T)
    have ST3_7_9_10 : Hid (∀ b1, ∀ W : World, st3 w W (some b1) none none → G 5 ((((l0.setIfInBounds 3 true).setIfInBounds 7 true).setIfInBounds 9 true).setIfInBounds 10 true) ((((a0.put (some 35) (.agg (rowV 32 (arrV A)))).put (some 39) (.agg (rowV 32 (arrV B)))).put (some 41) (.agg (rowV 32 (arrV C)))).put (some 7) (.pointer (some ⟨b1, 0, none⟩))) W) := (show ∀ b1, ∀ W : World, st3 w W (some b1) none none → G 5 ((((l0.setIfInBounds 3 true).setIfInBounds 7 true).setIfInBounds 9 true).setIfInBounds 10 true) ((((a0.put (some 35) (.agg (rowV 32 (arrV A)))).put (some 39) (.agg (rowV 32 (arrV B)))).put (some 41) (.agg (rowV 32 (arrV C)))).put (some 7) (.pointer (some ⟨b1, 0, none⟩))) W from by
      intro b1 W H
      rw [HA0.out, HL0.out, HG.out]
      try simp only [Act.put, List.setIfInBounds_toArray, List.set_cons_zero, List.set_cons_succ]
      refine take_pair (i := 11) (j := 12) rfl rfl (by kernel_rfl) rfl rfl (fun K hK => ?_) (fun K hK => ?_)
      · obtain ⟨W2, b2, hr, H2⟩ := H.al2
        refine wp_of_run (exec_allocR rfl hr) ?_
        refine hK.out _ _ trivial (fun _ => ?_)
        try simp only [Act.put, List.setIfInBounds_toArray, List.set_cons_zero, List.set_cons_succ]
        have T := ST3_7_9_10_11.out b1 b2 W2 H2
        rw [HA0.out, HL0.out, HG.out] at T
        try simp only [Act.put, List.setIfInBounds_toArray, List.set_cons_zero, List.set_cons_succ] at T
        exact lcong (by kernel_rfl) T
      · obtain ⟨W2, b3, hr, H2⟩ := H.al3
        refine wp_of_run (exec_allocR rfl hr) ?_
        refine hK.out _ _ trivial (fun _ => ?_)
        try simp only [Act.put, List.setIfInBounds_toArray, List.set_cons_zero, List.set_cons_succ]
        have T := ST3_7_9_10_12.out b1 b3 W2 H2
        rw [HA0.out, HL0.out, HG.out] at T
        try simp only [Act.put, List.setIfInBounds_toArray, List.set_cons_zero, List.set_cons_succ] at T
        exact lcong (by kernel_rfl) T)
    have ST3_7_9_11 : Hid (∀ b2, ∀ W : World, st3 w W none (some b2) none → G 5 ((((l0.setIfInBounds 3 true).setIfInBounds 7 true).setIfInBounds 9 true).setIfInBounds 11 true) ((((a0.put (some 35) (.agg (rowV 32 (arrV A)))).put (some 39) (.agg (rowV 32 (arrV B)))).put (some 41) (.agg (rowV 32 (arrV C)))).put (some 8) (.pointer (some ⟨b2, 0, none⟩))) W) := (show ∀ b2, ∀ W : World, st3 w W none (some b2) none → G 5 ((((l0.setIfInBounds 3 true).setIfInBounds 7 true).setIfInBounds 9 true).setIfInBounds 11 true) ((((a0.put (some 35) (.agg (rowV 32 (arrV A)))).put (some 39) (.agg (rowV 32 (arrV B)))).put (some 41) (.agg (rowV 32 (arrV C)))).put (some 8) (.pointer (some ⟨b2, 0, none⟩))) W from by
      intro b2 W H
      rw [HA0.out, HL0.out, HG.out]
      try simp only [Act.put, List.setIfInBounds_toArray, List.set_cons_zero, List.set_cons_succ]
      refine take_pair (i := 10) (j := 12) rfl rfl (by kernel_rfl) rfl rfl (fun K hK => ?_) (fun K hK => ?_)
      · obtain ⟨W2, b1, hr, H2⟩ := H.al1
        refine wp_of_run (exec_allocR rfl hr) ?_
        refine hK.out _ _ trivial (fun _ => ?_)
        try simp only [Act.put, List.setIfInBounds_toArray, List.set_cons_zero, List.set_cons_succ]
        have T := ST3_7_9_10_11.out b1 b2 W2 H2
        rw [HA0.out, HL0.out, HG.out] at T
        try simp only [Act.put, List.setIfInBounds_toArray, List.set_cons_zero, List.set_cons_succ] at T
        exact lcong (by kernel_rfl) T
      · obtain ⟨W2, b3, hr, H2⟩ := H.al3
        refine wp_of_run (exec_allocR rfl hr) ?_
        refine hK.out _ _ trivial (fun _ => ?_)
        try simp only [Act.put, List.setIfInBounds_toArray, List.set_cons_zero, List.set_cons_succ]
        have T := ST3_7_9_11_12.out b2 b3 W2 H2
        rw [HA0.out, HL0.out, HG.out] at T
        try simp only [Act.put, List.setIfInBounds_toArray, List.set_cons_zero, List.set_cons_succ] at T
        exact lcong (by kernel_rfl) T)
    have ST3_7_9_12 : Hid (∀ b3, ∀ W : World, st3 w W none none (some b3) → G 5 ((((l0.setIfInBounds 3 true).setIfInBounds 7 true).setIfInBounds 9 true).setIfInBounds 12 true) ((((a0.put (some 35) (.agg (rowV 32 (arrV A)))).put (some 39) (.agg (rowV 32 (arrV B)))).put (some 41) (.agg (rowV 32 (arrV C)))).put (some 9) (.pointer (some ⟨b3, 0, none⟩))) W) := (show ∀ b3, ∀ W : World, st3 w W none none (some b3) → G 5 ((((l0.setIfInBounds 3 true).setIfInBounds 7 true).setIfInBounds 9 true).setIfInBounds 12 true) ((((a0.put (some 35) (.agg (rowV 32 (arrV A)))).put (some 39) (.agg (rowV 32 (arrV B)))).put (some 41) (.agg (rowV 32 (arrV C)))).put (some 9) (.pointer (some ⟨b3, 0, none⟩))) W from by
      intro b3 W H
      rw [HA0.out, HL0.out, HG.out]
      try simp only [Act.put, List.setIfInBounds_toArray, List.set_cons_zero, List.set_cons_succ]
      refine take_pair (i := 10) (j := 11) rfl rfl (by kernel_rfl) rfl rfl (fun K hK => ?_) (fun K hK => ?_)
      · obtain ⟨W2, b1, hr, H2⟩ := H.al1
        refine wp_of_run (exec_allocR rfl hr) ?_
        refine hK.out _ _ trivial (fun _ => ?_)
        try simp only [Act.put, List.setIfInBounds_toArray, List.set_cons_zero, List.set_cons_succ]
        have T := ST3_7_9_10_12.out b1 b3 W2 H2
        rw [HA0.out, HL0.out, HG.out] at T
        try simp only [Act.put, List.setIfInBounds_toArray, List.set_cons_zero, List.set_cons_succ] at T
        exact lcong (by kernel_rfl) T
      · obtain ⟨W2, b2, hr, H2⟩ := H.al2
        refine wp_of_run (exec_allocR rfl hr) ?_
        refine hK.out _ _ trivial (fun _ => ?_)
        try simp only [Act.put, List.setIfInBounds_toArray, List.set_cons_zero, List.set_cons_succ]
        have T := ST3_7_9_11_12.out b2 b3 W2 H2
        rw [HA0.out, HL0.out, HG.out] at T
        try simp only [Act.put, List.setIfInBounds_toArray, List.set_cons_zero, List.set_cons_succ] at T
        exact lcong (by kernel_rfl) T)
    have ST10_11_12 : Hid (∀ b1 b2 b3, ∀ W : World, st3 w W (some b1) (some b2) (some b3) → G 6 (((l0.setIfInBounds 10 true).setIfInBounds 11 true).setIfInBounds 12 true) (((a0.put (some 7) (.pointer (some ⟨b1, 0, none⟩))).put (some 8) (.pointer (some ⟨b2, 0, none⟩))).put (some 9) (.pointer (some ⟨b3, 0, none⟩))) W) := (show ∀ b1 b2 b3, ∀ W : World, st3 w W (some b1) (some b2) (some b3) → G 6 (((l0.setIfInBounds 10 true).setIfInBounds 11 true).setIfInBounds 12 true) (((a0.put (some 7) (.pointer (some ⟨b1, 0, none⟩))).put (some 8) (.pointer (some ⟨b2, 0, none⟩))).put (some 9) (.pointer (some ⟨b3, 0, none⟩))) W from by
      intro b1 b2 b3 W H
      rw [HA0.out, HL0.out, HG.out]
      try simp only [Act.put, List.setIfInBounds_toArray, List.set_cons_zero, List.set_cons_succ]
      refine take_one (i := 3) rfl (by kernel_rfl) rfl (fun K hK => ?_)
      go_simp
      refine Calls.mono (RA.out _ H.1) ?_
      rintro e W2 ⟨rfl, hb⟩
      have H2 := H.call hb
      refine hK.out _ _ trivial (fun _ => ?_)
      try simp only [Act.put, List.setIfInBounds_toArray, List.set_cons_zero, List.set_cons_succ]
      have T := ST3_10_11_12.out b1 b2 b3 W2 H2
      rw [HA0.out, HL0.out, HG.out] at T
      try simp only [Act.put, List.setIfInBounds_toArray, List.set_cons_zero, List.set_cons_succ] at T
      exact lcong (by kernel_rfl) T)
    have ST3_10_11 : Hid (∀ b1 b2, ∀ W : World, st3 w W (some b1) (some b2) none → G 6 (((l0.setIfInBounds 3 true).setIfInBounds 10 true).setIfInBounds 11 true) (((a0.put (some 35) (.agg (rowV 32 (arrV A)))).put (some 7) (.pointer (some ⟨b1, 0, none⟩))).put (some 8) (.pointer (some ⟨b2, 0, none⟩))) W) := (show ∀ b1 b2, ∀ W : World, st3 w W (some b1) (some b2) none → G 6 (((l0.setIfInBounds 3 true).setIfInBounds 10 true).setIfInBounds 11 true) (((a0.put (some 35) (.agg (rowV 32 (arrV A)))).put (some 7) (.pointer (some ⟨b1, 0, none⟩))).put (some 8) (.pointer (some ⟨b2, 0, none⟩))) W from by
      intro b1 b2 W H
      rw [HA0.out, HL0.out, HG.out]
      try simp only [Act.put, List.setIfInBounds_toArray, List.set_cons_zero, List.set_cons_succ]
      refine take_pair (i := 7) (j := 12) rfl rfl (by kernel_rfl) rfl rfl (fun K hK => ?_) (fun K hK => ?_)
      · go_simp
        refine Calls.mono (RB.out _ H.1) ?_
        rintro e W2 ⟨rfl, hb⟩
        have H2 := H.call hb
        refine hK.out _ _ trivial (fun _ => ?_)
        try simp only [Act.put, List.setIfInBounds_toArray, List.set_cons_zero, List.set_cons_succ]
        have T := ST3_7_10_11.out b1 b2 W2 H2
        rw [HA0.out, HL0.out, HG.out] at T
        try simp only [Act.put, List.setIfInBounds_toArray, List.set_cons_zero, List.set_cons_succ] at T
        exact lcong (by kernel_rfl) T
      · obtain ⟨W2, b3, hr, H2⟩ := H.al3
        refine wp_of_run (exec_allocR rfl hr) ?_
        refine hK.out _ _ trivial (fun _ => ?_)
        try simp only [Act.put, List.setIfInBounds_toArray, List.set_cons_zero, List.set_cons_succ]
        have T := ST3_10_11_12.out b1 b2 b3 W2 H2
        rw [HA0.out, HL0.out, HG.out] at T
        try simp only [Act.put, List.setIfInBounds_toArray, List.set_cons_zero, List.set_cons_succ] at T
        exact lcong (by kernel_rfl) T)
    have ST3_10_12 : Hid (∀ b1 b3, ∀ W : World, st3 w W (some b1) none (some b3) → G 6 (((l0.setIfInBounds 3 true).setIfInBounds 10 true).setIfInBounds 12 true) (((a0.put (some 35) (.agg (rowV 32 (arrV A)))).put (some 7) (.pointer (some ⟨b1, 0, none⟩))).put (some 9) (.pointer (some ⟨b3, 0, none⟩))) W) := (show ∀ b1 b3, ∀ W : World, st3 w W (some b1) none (some b3) → G 6 (((l0.setIfInBounds 3 true).setIfInBounds 10 true).setIfInBounds 12 true) (((a0.put (some 35) (.agg (rowV 32 (arrV A)))).put (some 7) (.pointer (some ⟨b1, 0, none⟩))).put (some 9) (.pointer (some ⟨b3, 0, none⟩))) W from by
      intro b1 b3 W H
      rw [HA0.out, HL0.out, HG.out]
      try simp only [Act.put, List.setIfInBounds_toArray, List.set_cons_zero, List.set_cons_succ]
      refine take_pair (i := 7) (j := 11) rfl rfl (by kernel_rfl) rfl rfl (fun K hK => ?_) (fun K hK => ?_)
      · go_simp
        refine Calls.mono (RB.out _ H.1) ?_
        rintro e W2 ⟨rfl, hb⟩
        have H2 := H.call hb
        refine hK.out _ _ trivial (fun _ => ?_)
        try simp only [Act.put, List.setIfInBounds_toArray, List.set_cons_zero, List.set_cons_succ]
        have T := ST3_7_10_12.out b1 b3 W2 H2
        rw [HA0.out, HL0.out, HG.out] at T
        try simp only [Act.put, List.setIfInBounds_toArray, List.set_cons_zero, List.set_cons_succ] at T
        exact lcong (by kernel_rfl) T
      · obtain ⟨W2, b2, hr, H2⟩ := H.al2
        refine wp_of_run (exec_allocR rfl hr) ?_
        refine hK.out _ _ trivial (fun _ => ?_)
        try simp only [Act.put, List.setIfInBounds_toArray, List.set_cons_zero, List.set_cons_succ]
        have T := ST3_10_11_12.out b1 b2 b3 W2 H2
        rw [HA0.out, HL0.out, HG.out] at T
        try simp only [Act.put, List.setIfInBounds_toArray, List.set_cons_zero, List.set_cons_succ] at T
        exact lcong (by kernel_rfl) T)
    have ST3_11_12 : Hid (∀ b2 b3, ∀ W : World, st3 w W none (some b2) (some b3) → G 6 (((l0.setIfInBounds 3 true).setIfInBounds 11 true).setIfInBounds 12 true) (((a0.put (some 35) (.agg (rowV 32 (arrV A)))).put (some 8) (.pointer (some ⟨b2, 0, none⟩))).put (some 9) (.pointer (some ⟨b3, 0, none⟩))) W) := (show ∀ b2 b3, ∀ W : World, st3 w W none (some b2) (some b3) → G 6 (((l0.setIfInBounds 3 true).setIfInBounds 11 true).setIfInBounds 12 true) (((a0.put (some 35) (.agg (rowV 32 (arrV A)))).put (some 8) (.pointer (some ⟨b2, 0, none⟩))).put (some 9) (.pointer (some ⟨b3, 0, none⟩))) W from by
      intro b2 b3 W H
      rw [HA0.out, HL0.out, HG.out]
      try simp only [Act.put, List.setIfInBounds_toArray, List.set_cons_zero, List.set_cons_succ]
      refine take_pair (i := 7) (j := 10) rfl rfl (by kernel_rfl) rfl rfl (fun K hK => ?_) (fun K hK => ?_)
      · go_simp
        refine Calls.mono (RB.out _ H.1) ?_
        rintro e W2 ⟨rfl, hb⟩
        have H2 := H.call hb
        refine hK.out _ _ trivial (fun _ => ?_)
        try simp only [Act.put, List.setIfInBounds_toArray, List.set_cons_zero, List.set_cons_succ]
        have T := ST3_7_11_12.out b2 b3 W2 H2
        rw [HA0.out, HL0.out, HG.out] at T
        try simp only [Act.put, List.setIfInBounds_toArray, List.set_cons_zero, List.set_cons_succ] at T
        exact lcong (by kernel_rfl) T
      · obtain ⟨W2, b1, hr, H2⟩ := H.al1
        refine wp_of_run (exec_allocR rfl hr) ?_
        refine hK.out _ _ trivial (fun _ => ?_)
        try simp only [Act.put, List.setIfInBounds_toArray, List.set_cons_zero, List.set_cons_succ]
        have T := ST3_10_11_12.out b1 b2 b3 W2 H2
        rw [HA0.out, HL0.out, HG.out] at T
        try simp only [Act.put, List.setIfInBounds_toArray, List.set_cons_zero, List.set_cons_succ] at T
        exact lcong (by kernel_rfl) T)
    have ST3_7_10 : Hid (∀ b1, ∀ W : World, st3 w W (some b1) none none → G 6 (((l0.setIfInBounds 3 true).setIfInBounds 7 true).setIfInBounds 10 true) (((a0.put (some 35) (.agg (rowV 32 (arrV A)))).put (some 39) (.agg (rowV 32 (arrV B)))).put (some 7) (.pointer (some ⟨b1, 0, none⟩))) W) := (show ∀ b1, ∀ W : World, st3 w W (some b1) none none → G 6 (((l0.setIfInBounds 3 true).setIfInBounds 7 true).setIfInBounds 10 true) (((a0.put (some 35) (.agg (rowV 32 (arrV A)))).put (some 39) (.agg (rowV 32 (arrV B)))).put (some 7) (.pointer (some ⟨b1, 0, none⟩))) W from by
      intro b1 W H
      rw [HA0.out, HL0.out, HG.out]
      try simp only [Act.put, List.setIfInBounds_toArray, List.set_cons_zero, List.set_cons_succ]
      refine take_threeG (i := 9) (j := 11) (k := 12) rfl rfl rfl (by kernel_rfl) rfl rfl rfl (fun K hK => ?_) (fun K hK => ?_) (fun K hK => ?_)
      · go_simp
        refine Calls.mono (RC.out _ H.1) ?_
        rintro e W2 ⟨rfl, hb⟩
        have H2 := H.call hb
        refine hK.out _ _ trivial (fun _ => ?_)
        try simp only [Act.put, List.setIfInBounds_toArray, List.set_cons_zero, List.set_cons_succ]
        have T := ST3_7_9_10.out b1 W2 H2
        rw [HA0.out, HL0.out, HG.out] at T
        try simp only [Act.put, List.setIfInBounds_toArray, List.set_cons_zero, List.set_cons_succ] at T
        exact lcong (by kernel_rfl) T
      · obtain ⟨W2, b2, hr, H2⟩ := H.al2
        refine wp_of_run (exec_allocR rfl hr) ?_
        refine hK.out _ _ trivial (fun _ => ?_)
        try simp only [Act.put, List.setIfInBounds_toArray, List.set_cons_zero, List.set_cons_succ]
        have T := ST3_7_10_11.out b1 b2 W2 H2
        rw [HA0.out, HL0.out, HG.out] at T
        try simp only [Act.put, List.setIfInBounds_toArray, List.set_cons_zero, List.set_cons_succ] at T
        exact lcong (by kernel_rfl) T
      · obtain ⟨W2, b3, hr, H2⟩ := H.al3
        refine wp_of_run (exec_allocR rfl hr) ?_
        refine hK.out _ _ trivial (fun _ => ?_)
        try simp only [Act.put, List.setIfInBounds_toArray, List.set_cons_zero, List.set_cons_succ]
        have T := ST3_7_10_12.out b1 b3 W2 H2
        rw [HA0.out, HL0.out, HG.out] at T
        try simp only [Act.put, List.setIfInBounds_toArray, List.set_cons_zero, List.set_cons_succ] at T
        exact lcong (by kernel_rfl) T)
    have ST3_7_11 : Hid (∀ b2, ∀ W : World, st3 w W none (some b2) none → G 6 (((l0.setIfInBounds 3 true).setIfInBounds 7 true).setIfInBounds 11 true) (((a0.put (some 35) (.agg (rowV 32 (arrV A)))).put (some 39) (.agg (rowV 32 (arrV B)))).put (some 8) (.pointer (some ⟨b2, 0, none⟩))) W) := (show ∀ b2, ∀ W : World, st3 w W none (some b2) none → G 6 (((l0.setIfInBounds 3 true).setIfInBounds 7 true).setIfInBounds 11 true) (((a0.put (some 35) (.agg (rowV 32 (arrV A)))).put (some 39) (.agg (rowV 32 (arrV B)))).put (some 8) (.pointer (some ⟨b2, 0, none⟩))) W from by
      intro b2 W H
      rw [HA0.out, HL0.out, HG.out]
      try simp only [Act.put, List.setIfInBounds_toArray, List.set_cons_zero, List.set_cons_succ]
      refine take_threeG (i := 9) (j := 10) (k := 12) rfl rfl rfl (by kernel_rfl) rfl rfl rfl (fun K hK => ?_) (fun K hK => ?_) (fun K hK => ?_)
      · go_simp
        refine Calls.mono (RC.out _ H.1) ?_
        rintro e W2 ⟨rfl, hb⟩
        have H2 := H.call hb
        refine hK.out _ _ trivial (fun _ => ?_)
        try simp only [Act.put, List.setIfInBounds_toArray, List.set_cons_zero, List.set_cons_succ]
        have T := ST3_7_9_11.out b2 W2 H2
        rw [HA0.out, HL0.out, HG.out] at T
        try simp only [Act.put, List.setIfInBounds_toArray, List.set_cons_zero, List.set_cons_succ] at T
        exact lcong (by kernel_rfl) T
      · obtain ⟨W2, b1, hr, H2⟩ := H.al1
        refine wp_of_run (exec_allocR rfl hr) ?_
        refine hK.out _ _ trivial (fun _ => ?_)
        try simp only [Act.put, List.setIfInBounds_toArray, List.set_cons_zero, List.set_cons_succ]
        have T := ST3_7_10_11.out b1 b2 W2 H2
        rw [HA0.out, HL0.out, HG.out] at T
        try simp only [Act.put, List.setIfInBounds_toArray, List.set_cons_zero, List.set_cons_succ] at T
        exact lcong (by kernel_rfl) T
      · obtain ⟨W2, b3, hr, H2⟩ := H.al3
        refine wp_of_run (exec_allocR rfl hr) ?_
        refine hK.out _ _ trivial (fun _ => ?_)
        try simp only [Act.put, List.setIfInBounds_toArray, List.set_cons_zero, List.set_cons_succ]
        have T := ST3_7_11_12.out b2 b3 W2 H2
        rw [HA0.out, HL0.out, HG.out] at T
        try simp only [Act.put, List.setIfInBounds_toArray, List.set_cons_zero, List.set_cons_succ] at T
        exact lcong (by kernel_rfl) T)
    have ST3_7_12 : Hid (∀ b3, ∀ W : World, st3 w W none none (some b3) → G 6 (((l0.setIfInBounds 3 true).setIfInBounds 7 true).setIfInBounds 12 true) (((a0.put (some 35) (.agg (rowV 32 (arrV A)))).put (some 39) (.agg (rowV 32 (arrV B)))).put (some 9) (.pointer (some ⟨b3, 0, none⟩))) W) := (show ∀ b3, ∀ W : World, st3 w W none none (some b3) → G 6 (((l0.setIfInBounds 3 true).setIfInBounds 7 true).setIfInBounds 12 true) (((a0.put (some 35) (.agg (rowV 32 (arrV A)))).put (some 39) (.agg (rowV 32 (arrV B)))).put (some 9) (.pointer (some ⟨b3, 0, none⟩))) W from by
      intro b3 W H
      rw [HA0.out, HL0.out, HG.out]
      try simp only [Act.put, List.setIfInBounds_toArray, List.set_cons_zero, List.set_cons_succ]
      refine take_threeG (i := 9) (j := 10) (k := 11) rfl rfl rfl (by kernel_rfl) rfl rfl rfl (fun K hK => ?_) (fun K hK => ?_) (fun K hK => ?_)
      · go_simp
        refine Calls.mono (RC.out _ H.1) ?_
        rintro e W2 ⟨rfl, hb⟩
        have H2 := H.call hb
        refine hK.out _ _ trivial (fun _ => ?_)
        try simp only [Act.put, List.setIfInBounds_toArray, List.set_cons_zero, List.set_cons_succ]
        have T := ST3_7_9_12.out b3 W2 H2
        rw [HA0.out, HL0.out, HG.out] at T
        try simp only [Act.put, List.setIfInBounds_toArray, List.set_cons_zero, List.set_cons_succ] at T
        exact lcong (by kernel_rfl) T
      · obtain ⟨W2, b1, hr, H2⟩ := H.al1
        refine wp_of_run (exec_allocR rfl hr) ?_
        refine hK.out _ _ trivial (fun _ => ?_)
        try simp only [Act.put, List.setIfInBounds_toArray, List.set_cons_zero, List.set_cons_succ]
        have T := ST3_7_10_12.out b1 b3 W2 H2
        rw [HA0.out, HL0.out, HG.out] at T
        try simp only [Act.put, List.setIfInBounds_toArray, List.set_cons_zero, List.set_cons_succ] at T
        exact lcong (by kernel_rfl) T
      · obtain ⟨W2, b2, hr, H2⟩ := H.al2
        refine wp_of_run (exec_allocR rfl hr) ?_
        refine hK.out _ _ trivial (fun _ => ?_)
        try simp only [Act.put, List.setIfInBounds_toArray, List.set_cons_zero, List.set_cons_succ]
        have T := ST3_7_11_12.out b2 b3 W2 H2
        rw [HA0.out, HL0.out, HG.out] at T
        try simp only [Act.put, List.setIfInBounds_toArray, List.set_cons_zero, List.set_cons_succ] at T
        exact lcong (by kernel_rfl) T)
    have ST3_7_9 : Hid (∀ W : World, st3 w W none none none → G 6 (((l0.setIfInBounds 3 true).setIfInBounds 7 true).setIfInBounds 9 true) (((a0.put (some 35) (.agg (rowV 32 (arrV A)))).put (some 39) (.agg (rowV 32 (arrV B)))).put (some 41) (.agg (rowV 32 (arrV C)))) W) := (show ∀ W : World, st3 w W none none none → G 6 (((l0.setIfInBounds 3 true).setIfInBounds 7 true).setIfInBounds 9 true) (((a0.put (some 35) (.agg (rowV 32 (arrV A)))).put (some 39) (.agg (rowV 32 (arrV B)))).put (some 41) (.agg (rowV 32 (arrV C)))) W from by
      intro  W H
      rw [HA0.out, HL0.out, HG.out]
      try simp only [Act.put, List.setIfInBounds_toArray, List.set_cons_zero, List.set_cons_succ]
      refine take_threeG (i := 10) (j := 11) (k := 12) rfl rfl rfl (by kernel_rfl) rfl rfl rfl (fun K hK => ?_) (fun K hK => ?_) (fun K hK => ?_)
      · obtain ⟨W2, b1, hr, H2⟩ := H.al1
        refine wp_of_run (exec_allocR rfl hr) ?_
        refine hK.out _ _ trivial (fun _ => ?_)
        try simp only [Act.put, List.setIfInBounds_toArray, List.set_cons_zero, List.set_cons_succ]
        have T := ST3_7_9_10.out b1 W2 H2
        rw [HA0.out, HL0.out, HG.out] at T
        try simp only [Act.put, List.setIfInBounds_toArray, List.set_cons_zero, List.set_cons_succ] at T
        exact lcong (by kernel_rfl) T
      · obtain ⟨W2, b2, hr, H2⟩ := H.al2
        refine wp_of_run (exec_allocR rfl hr) ?_
        refine hK.out _ _ trivial (fun _ => ?_)
        try simp only [Act.put, List.setIfInBounds_toArray, List.set_cons_zero, List.set_cons_succ]
        have T := ST3_7_9_11.out b2 W2 H2
        rw [HA0.out, HL0.out, HG.out] at T
        try simp only [Act.put, List.setIfInBounds_toArray, List.set_cons_zero, List.set_cons_succ] at T
        exact lcong (by kernel_rfl) T
      · obtain ⟨W2, b3, hr, H2⟩ := H.al3
        refine wp_of_run (exec_allocR rfl hr) ?_
        refine hK.out _ _ trivial (fun _ => ?_)
        try simp only [Act.put, List.setIfInBounds_toArray, List.set_cons_zero, List.set_cons_succ]
        have T := ST3_7_9_12.out b3 W2 H2
        rw [HA0.out, HL0.out, HG.out] at T
        try simp only [Act.put, List.setIfInBounds_toArray, List.set_cons_zero, List.set_cons_succ] at T
        exact lcong (by kernel_rfl) T)
    have ST10_11 : Hid (∀ b1 b2, ∀ W : World, st3 w W (some b1) (some b2) none → G 7 ((l0.setIfInBounds 10 true).setIfInBounds 11 true) ((a0.put (some 7) (.pointer (some ⟨b1, 0, none⟩))).put (some 8) (.pointer (some ⟨b2, 0, none⟩))) W) := (show ∀ b1 b2, ∀ W : World, st3 w W (some b1) (some b2) none → G 7 ((l0.setIfInBounds 10 true).setIfInBounds 11 true) ((a0.put (some 7) (.pointer (some ⟨b1, 0, none⟩))).put (some 8) (.pointer (some ⟨b2, 0, none⟩))) W from by
      intro b1 b2 W H
      rw [HA0.out, HL0.out, HG.out]
      try simp only [Act.put, List.setIfInBounds_toArray, List.set_cons_zero, List.set_cons_succ]
      refine take_pair (i := 3) (j := 12) rfl rfl (by kernel_rfl) rfl rfl (fun K hK => ?_) (fun K hK => ?_)
      · go_simp
        refine Calls.mono (RA.out _ H.1) ?_
        rintro e W2 ⟨rfl, hb⟩
        have H2 := H.call hb
        refine hK.out _ _ trivial (fun _ => ?_)
        try simp only [Act.put, List.setIfInBounds_toArray, List.set_cons_zero, List.set_cons_succ]
        have T := ST3_10_11.out b1 b2 W2 H2
        rw [HA0.out, HL0.out, HG.out] at T
        try simp only [Act.put, List.setIfInBounds_toArray, List.set_cons_zero, List.set_cons_succ] at T
        exact lcong (by kernel_rfl) T
      · obtain ⟨W2, b3, hr, H2⟩ := H.al3
        refine wp_of_run (exec_allocR rfl hr) ?_
        refine hK.out _ _ trivial (fun _ => ?_)
        try simp only [Act.put, List.setIfInBounds_toArray, List.set_cons_zero, List.set_cons_succ]
        have T := ST10_11_12.out b1 b2 b3 W2 H2
        rw [HA0.out, HL0.out, HG.out] at T
        try simp only [Act.put, List.setIfInBounds_toArray, List.set_cons_zero, List.set_cons_succ] at T
        exact lcong (by kernel_rfl) T)
    have ST10_12 : Hid (∀ b1 b3, ∀ W : World, st3 w W (some b1) none (some b3) → G 7 ((l0.setIfInBounds 10 true).setIfInBounds 12 true) ((a0.put (some 7) (.pointer (some ⟨b1, 0, none⟩))).put (some 9) (.pointer (some ⟨b3, 0, none⟩))) W) := (show ∀ b1 b3, ∀ W : World, st3 w W (some b1) none (some b3) → G 7 ((l0.setIfInBounds 10 true).setIfInBounds 12 true) ((a0.put (some 7) (.pointer (some ⟨b1, 0, none⟩))).put (some 9) (.pointer (some ⟨b3, 0, none⟩))) W from by
      intro b1 b3 W H
      rw [HA0.out, HL0.out, HG.out]
      try simp only [Act.put, List.setIfInBounds_toArray, List.set_cons_zero, List.set_cons_succ]
      refine take_pair (i := 3) (j := 11) rfl rfl (by kernel_rfl) rfl rfl (fun K hK => ?_) (fun K hK => ?_)
      · go_simp
        refine Calls.mono (RA.out _ H.1) ?_
        rintro e W2 ⟨rfl, hb⟩
        have H2 := H.call hb
        refine hK.out _ _ trivial (fun _ => ?_)
        try simp only [Act.put, List.setIfInBounds_toArray, List.set_cons_zero, List.set_cons_succ]
        have T := ST3_10_12.out b1 b3 W2 H2
        rw [HA0.out, HL0.out, HG.out] at T
        try simp only [Act.put, List.setIfInBounds_toArray, List.set_cons_zero, List.set_cons_succ] at T
        exact lcong (by kernel_rfl) T
      · obtain ⟨W2, b2, hr, H2⟩ := H.al2
        refine wp_of_run (exec_allocR rfl hr) ?_
        refine hK.out _ _ trivial (fun _ => ?_)
        try simp only [Act.put, List.setIfInBounds_toArray, List.set_cons_zero, List.set_cons_succ]
        have T := ST10_11_12.out b1 b2 b3 W2 H2
        rw [HA0.out, HL0.out, HG.out] at T
        try simp only [Act.put, List.setIfInBounds_toArray, List.set_cons_zero, List.set_cons_succ] at T
        exact lcong (by kernel_rfl) T)
    have ST11_12 : Hid (∀ b2 b3, ∀ W : World, st3 w W none (some b2) (some b3) → G 7 ((l0.setIfInBounds 11 true).setIfInBounds 12 true) ((a0.put (some 8) (.pointer (some ⟨b2, 0, none⟩))).put (some 9) (.pointer (some ⟨b3, 0, none⟩))) W) := (show ∀ b2 b3, ∀ W : World, st3 w W none (some b2) (some b3) → G 7 ((l0.setIfInBounds 11 true).setIfInBounds 12 true) ((a0.put (some 8) (.pointer (some ⟨b2, 0, none⟩))).put (some 9) (.pointer (some ⟨b3, 0, none⟩))) W from by
      intro b2 b3 W H
      rw [HA0.out, HL0.out, HG.out]
      try simp only [Act.put, List.setIfInBounds_toArray, List.set_cons_zero, List.set_cons_succ]
      refine take_pair (i := 3) (j := 10) rfl rfl (by kernel_rfl) rfl rfl (fun K hK => ?_) (fun K hK => ?_)
      · go_simp
        refine Calls.mono (RA.out _ H.1) ?_
        rintro e W2 ⟨rfl, hb⟩
        have H2 := H.call hb
        refine hK.out _ _ trivial (fun _ => ?_)
        try simp only [Act.put, List.setIfInBounds_toArray, List.set_cons_zero, List.set_cons_succ]
        have T := ST3_11_12.out b2 b3 W2 H2
        rw [HA0.out, HL0.out, HG.out] at T
        try simp only [Act.put, List.setIfInBounds_toArray, List.set_cons_zero, List.set_cons_succ] at T
        exact lcong (by kernel_rfl) T
      · obtain ⟨W2, b1, hr, H2⟩ := H.al1
        refine wp_of_run (exec_allocR rfl hr) ?_
        refine hK.out _ _ trivial (fun _ => ?_)
        try simp only [Act.put, List.setIfInBounds_toArray, List.set_cons_zero, List.set_cons_succ]
        have T := ST10_11_12.out b1 b2 b3 W2 H2
        rw [HA0.out, HL0.out, HG.out] at T
        try simp only [Act.put, List.setIfInBounds_toArray, List.set_cons_zero, List.set_cons_succ] at T
        exact lcong (by kernel_rfl) T)
    have ST3_10 : Hid (∀ b1, ∀ W : World, st3 w W (some b1) none none → G 7 ((l0.setIfInBounds 3 true).setIfInBounds 10 true) ((a0.put (some 35) (.agg (rowV 32 (arrV A)))).put (some 7) (.pointer (some ⟨b1, 0, none⟩))) W) := (show ∀ b1, ∀ W : World, st3 w W (some b1) none none → G 7 ((l0.setIfInBounds 3 true).setIfInBounds 10 true) ((a0.put (some 35) (.agg (rowV 32 (arrV A)))).put (some 7) (.pointer (some ⟨b1, 0, none⟩))) W from by
      intro b1 W H
      rw [HA0.out, HL0.out, HG.out]
      try simp only [Act.put, List.setIfInBounds_toArray, List.set_cons_zero, List.set_cons_succ]
      refine take_threeG (i := 7) (j := 11) (k := 12) rfl rfl rfl (by kernel_rfl) rfl rfl rfl (fun K hK => ?_) (fun K hK => ?_) (fun K hK => ?_)
      · go_simp
        refine Calls.mono (RB.out _ H.1) ?_
        rintro e W2 ⟨rfl, hb⟩
        have H2 := H.call hb
        refine hK.out _ _ trivial (fun _ => ?_)
        try simp only [Act.put, List.setIfInBounds_toArray, List.set_cons_zero, List.set_cons_succ]
        have T := ST3_7_10.out b1 W2 H2
        rw [HA0.out, HL0.out, HG.out] at T
        try simp only [Act.put, List.setIfInBounds_toArray, List.set_cons_zero, List.set_cons_succ] at T
        exact lcong (by kernel_rfl) T
      · obtain ⟨W2, b2, hr, H2⟩ := H.al2
        refine wp_of_run (exec_allocR rfl hr) ?_
        refine hK.out _ _ trivial (fun _ => ?_)
        try simp only [Act.put, List.setIfInBounds_toArray, List.set_cons_zero, List.set_cons_succ]
        have T := ST3_10_11.out b1 b2 W2 H2
        rw [HA0.out, HL0.out, HG.out] at T
        try simp only [Act.put, List.setIfInBounds_toArray, List.set_cons_zero, List.set_cons_succ] at T
        exact lcong (by kernel_rfl) T
      · obtain ⟨W2, b3, hr, H2⟩ := H.al3
        refine wp_of_run (exec_allocR rfl hr) ?_
        refine hK.out _ _ trivial (fun _ => ?_)
        try simp only [Act.put, List.setIfInBounds_toArray, List.set_cons_zero, List.set_cons_succ]
        have T := ST3_10_12.out b1 b3 W2 H2
        rw [HA0.out, HL0.out, HG.out] at T
        try simp only [Act.put, List.setIfInBounds_toArray, List.set_cons_zero, List.set_cons_succ] at T
        exact lcong (by kernel_rfl) T)
    have ST3_11 : Hid (∀ b2, ∀ W : World, st3 w W none (some b2) none → G 7 ((l0.setIfInBounds 3 true).setIfInBounds 11 true) ((a0.put (some 35) (.agg (rowV 32 (arrV A)))).put (some 8) (.pointer (some ⟨b2, 0, none⟩))) W) := (show ∀ b2, ∀ W : World, st3 w W none (some b2) none → G 7 ((l0.setIfInBounds 3 true).setIfInBounds 11 true) ((a0.put (some 35) (.agg (rowV 32 (arrV A)))).put (some 8) (.pointer (some ⟨b2, 0, none⟩))) W from by
      intro b2 W H
      rw [HA0.out, HL0.out, HG.out]
      try simp only [Act.put, List.setIfInBounds_toArray, List.set_cons_zero, List.set_cons_succ]
      refine take_threeG (i := 7) (j := 10) (k := 12) rfl rfl rfl (by kernel_rfl) rfl rfl rfl (fun K hK => ?_) (fun K hK => ?_) (fun K hK => ?_)
      · go_simp
        refine Calls.mono (RB.out _ H.1) ?_
        rintro e W2 ⟨rfl, hb⟩
        have H2 := H.call hb
        refine hK.out _ _ trivial (fun _ => ?_)
        try simp only [Act.put, List.setIfInBounds_toArray, List.set_cons_zero, List.set_cons_succ]
        have T := ST3_7_11.out b2 W2 H2
        rw [HA0.out, HL0.out, HG.out] at T
        try simp only [Act.put, List.setIfInBounds_toArray, List.set_cons_zero, List.set_cons_succ] at T
        exact lcong (by kernel_rfl) T
      · obtain ⟨W2, b1, hr, H2⟩ := H.al1
        refine wp_of_run (exec_allocR rfl hr) ?_
        refine hK.out _ _ trivial (fun _ => ?_)
        try simp only [Act.put, List.setIfInBounds_toArray, List.set_cons_zero, List.set_cons_succ]
        have T := ST3_10_11.out b1 b2 W2 H2
        rw [HA0.out, HL0.out, HG.out] at T
        try simp only [Act.put, List.setIfInBounds_toArray, List.set_cons_zero, List.set_cons_succ] at T
        exact lcong (by kernel_rfl) T
      · obtain ⟨W2, b3, hr, H2⟩ := H.al3
        refine wp_of_run (exec_allocR rfl hr) ?_
        refine hK.out _ _ trivial (fun _ => ?_)
        try simp only [Act.put, List.setIfInBounds_toArray, List.set_cons_zero, List.set_cons_succ]
        have T := ST3_11_12.out b2 b3 W2 H2
        rw [HA0.out, HL0.out, HG.out] at T
        try simp only [Act.put, List.setIfInBounds_toArray, List.set_cons_zero, List.set_cons_succ] at T
        exact lcong (by kernel_rfl) T)
    have ST3_12 : Hid (∀ b3, ∀ W : World, st3 w W none none (some b3) → G 7 ((l0.setIfInBounds 3 true).setIfInBounds 12 true) ((a0.put (some 35) (.agg (rowV 32 (arrV A)))).put (some 9) (.pointer (some ⟨b3, 0, none⟩))) W) := (show ∀ b3, ∀ W : World, st3 w W none none (some b3) → G 7 ((l0.setIfInBounds 3 true).setIfInBounds 12 true) ((a0.put (some 35) (.agg (rowV 32 (arrV A)))).put (some 9) (.pointer (some ⟨b3, 0, none⟩))) W from by
      intro b3 W H
      rw [HA0.out, HL0.out, HG.out]
      try simp only [Act.put, List.setIfInBounds_toArray, List.set_cons_zero, List.set_cons_succ]
      refine take_threeG (i := 7) (j := 10) (k := 11) rfl rfl rfl (by kernel_rfl) rfl rfl rfl (fun K hK => ?_) (fun K hK => ?_) (fun K hK => ?_)
      · go_simp
        refine Calls.mono (RB.out _ H.1) ?_
        rintro e W2 ⟨rfl, hb⟩
        have H2 := H.call hb
        refine hK.out _ _ trivial (fun _ => ?_)
        try simp only [Act.put, List.setIfInBounds_toArray, List.set_cons_zero, List.set_cons_succ]
        have T := ST3_7_12.out b3 W2 H2
        rw [HA0.out, HL0.out, HG.out] at T
        try simp only [Act.put, List.setIfInBounds_toArray, List.set_cons_zero, List.set_cons_succ] at T
        exact lcong (by kernel_rfl) T
      · obtain ⟨W2, b1, hr, H2⟩ := H.al1
        refine wp_of_run (exec_allocR rfl hr) ?_
        refine hK.out _ _ trivial (fun _ => ?_)
        try simp only [Act.put, List.setIfInBounds_toArray, List.set_cons_zero, List.set_cons_succ]
        have T := ST3_10_12.out b1 b3 W2 H2
        rw [HA0.out, HL0.out, HG.out] at T
        try simp only [Act.put, List.setIfInBounds_toArray, List.set_cons_zero, List.set_cons_succ] at T
        exact lcong (by kernel_rfl) T
      · obtain ⟨W2, b2, hr, H2⟩ := H.al2
        refine wp_of_run (exec_allocR rfl hr) ?_
        refine hK.out _ _ trivial (fun _ => ?_)
        try simp only [Act.put, List.setIfInBounds_toArray, List.set_cons_zero, List.set_cons_succ]
        have T := ST3_11_12.out b2 b3 W2 H2
        rw [HA0.out, HL0.out, HG.out] at T
        try simp only [Act.put, List.setIfInBounds_toArray, List.set_cons_zero, List.set_cons_succ] at T
        exact lcong (by kernel_rfl) T)
    have ST3_7 : Hid (∀ W : World, st3 w W none none none → G 7 ((l0.setIfInBounds 3 true).setIfInBounds 7 true) ((a0.put (some 35) (.agg (rowV 32 (arrV A)))).put (some 39) (.agg (rowV 32 (arrV B)))) W) := (show ∀ W : World, st3 w W none none none → G 7 ((l0.setIfInBounds 3 true).setIfInBounds 7 true) ((a0.put (some 35) (.agg (rowV 32 (arrV A)))).put (some 39) (.agg (rowV 32 (arrV B)))) W from by
      intro  W H
      rw [HA0.out, HL0.out, HG.out]
      try simp only [Act.put, List.setIfInBounds_toArray, List.set_cons_zero, List.set_cons_succ]
      refine take_fourG (i := 9) (j := 10) (k := 11) (m := 12) rfl rfl rfl rfl (by kernel_rfl) rfl rfl rfl rfl (fun K hK => ?_) (fun K hK => ?_) (fun K hK => ?_) (fun K hK => ?_)
      · go_simp
        refine Calls.mono (RC.out _ H.1) ?_
        rintro e W2 ⟨rfl, hb⟩
        have H2 := H.call hb
        refine hK.out _ _ trivial (fun _ => ?_)
        try simp only [Act.put, List.setIfInBounds_toArray, List.set_cons_zero, List.set_cons_succ]
        have T := ST3_7_9.out  W2 H2
        rw [HA0.out, HL0.out, HG.out] at T
        try simp only [Act.put, List.setIfInBounds_toArray, List.set_cons_zero, List.set_cons_succ] at T
        exact lcong (by kernel_rfl) T
      · obtain ⟨W2, b1, hr, H2⟩ := H.al1
        refine wp_of_run (exec_allocR rfl hr) ?_
        refine hK.out _ _ trivial (fun _ => ?_)
        try simp only [Act.put, List.setIfInBounds_toArray, List.set_cons_zero, List.set_cons_succ]
        have T := ST3_7_10.out b1 W2 H2
        rw [HA0.out, HL0.out, HG.out] at T
        try simp only [Act.put, List.setIfInBounds_toArray, List.set_cons_zero, List.set_cons_succ] at T
        exact lcong (by kernel_rfl) T
      · obtain ⟨W2, b2, hr, H2⟩ := H.al2
        refine wp_of_run (exec_allocR rfl hr) ?_
        refine hK.out _ _ trivial (fun _ => ?_)
        try simp only [Act.put, List.setIfInBounds_toArray, List.set_cons_zero, List.set_cons_succ]
        have T := ST3_7_11.out b2 W2 H2
        rw [HA0.out, HL0.out, HG.out] at T
        try simp only [Act.put, List.setIfInBounds_toArray, List.set_cons_zero, List.set_cons_succ] at T
        exact lcong (by kernel_rfl) T
      · obtain ⟨W2, b3, hr, H2⟩ := H.al3
        refine wp_of_run (exec_allocR rfl hr) ?_
        refine hK.out _ _ trivial (fun _ => ?_)
        try simp only [Act.put, List.setIfInBounds_toArray, List.set_cons_zero, List.set_cons_succ]
        have T := ST3_7_12.out b3 W2 H2
        rw [HA0.out, HL0.out, HG.out] at T
        try simp only [Act.put, List.setIfInBounds_toArray, List.set_cons_zero, List.set_cons_succ] at T
        exact lcong (by kernel_rfl) T)
    have ST10 : Hid (∀ b1, ∀ W : World, st3 w W (some b1) none none → G 8 (l0.setIfInBounds 10 true) (a0.put (some 7) (.pointer (some ⟨b1, 0, none⟩))) W) := (show ∀ b1, ∀ W : World, st3 w W (some b1) none none → G 8 (l0.setIfInBounds 10 true) (a0.put (some 7) (.pointer (some ⟨b1, 0, none⟩))) W from by
      intro b1 W H
      rw [HA0.out, HL0.out, HG.out]
      try simp only [Act.put, List.setIfInBounds_toArray, List.set_cons_zero, List.set_cons_succ]
      refine take_threeG (i := 3) (j := 11) (k := 12) rfl rfl rfl (by kernel_rfl) rfl rfl rfl (fun K hK => ?_) (fun K hK => ?_) (fun K hK => ?_)
      · go_simp
        refine Calls.mono (RA.out _ H.1) ?_
        rintro e W2 ⟨rfl, hb⟩
        have H2 := H.call hb
        refine hK.out _ _ trivial (fun _ => ?_)
        try simp only [Act.put, List.setIfInBounds_toArray, List.set_cons_zero, List.set_cons_succ]
        have T := ST3_10.out b1 W2 H2
        rw [HA0.out, HL0.out, HG.out] at T
        try simp only [Act.put, List.setIfInBounds_toArray, List.set_cons_zero, List.set_cons_succ] at T
        exact lcong (by kernel_rfl) T
      · obtain ⟨W2, b2, hr, H2⟩ := H.al2
        refine wp_of_run (exec_allocR rfl hr) ?_
        refine hK.out _ _ trivial (fun _ => ?_)
        try simp only [Act.put, List.setIfInBounds_toArray, List.set_cons_zero, List.set_cons_succ]
        have T := ST10_11.out b1 b2 W2 H2
        rw [HA0.out, HL0.out, HG.out] at T
        try simp only [Act.put, List.setIfInBounds_toArray, List.set_cons_zero, List.set_cons_succ] at T
        exact lcong (by kernel_rfl) T
      · obtain ⟨W2, b3, hr, H2⟩ := H.al3
        refine wp_of_run (exec_allocR rfl hr) ?_
        refine hK.out _ _ trivial (fun _ => ?_)
        try simp only [Act.put, List.setIfInBounds_toArray, List.set_cons_zero, List.set_cons_succ]
        have T := ST10_12.out b1 b3 W2 H2
        rw [HA0.out, HL0.out, HG.out] at T
        try simp only [Act.put, List.setIfInBounds_toArray, List.set_cons_zero, List.set_cons_succ] at T
        exact lcong (by kernel_rfl) T)
    have ST11 : Hid (∀ b2, ∀ W : World, st3 w W none (some b2) none → G 8 (l0.setIfInBounds 11 true) (a0.put (some 8) (.pointer (some ⟨b2, 0, none⟩))) W) := (show ∀ b2, ∀ W : World, st3 w W none (some b2) none → G 8 (l0.setIfInBounds 11 true) (a0.put (some 8) (.pointer (some ⟨b2, 0, none⟩))) W from by
      intro b2 W H
      rw [HA0.out, HL0.out, HG.out]
      try simp only [Act.put, List.setIfInBounds_toArray, List.set_cons_zero, List.set_cons_succ]
      refine take_threeG (i := 3) (j := 10) (k := 12) rfl rfl rfl (by kernel_rfl) rfl rfl rfl (fun K hK => ?_) (fun K hK => ?_) (fun K hK => ?_)
      · go_simp
        refine Calls.mono (RA.out _ H.1) ?_
        rintro e W2 ⟨rfl, hb⟩
        have H2 := H.call hb
        refine hK.out _ _ trivial (fun _ => ?_)
        try simp only [Act.put, List.setIfInBounds_toArray, List.set_cons_zero, List.set_cons_succ]
        have T := ST3_11.out b2 W2 H2
        rw [HA0.out, HL0.out, HG.out] at T
        try simp only [Act.put, List.setIfInBounds_toArray, List.set_cons_zero, List.set_cons_succ] at T
        exact lcong (by kernel_rfl) T
      · obtain ⟨W2, b1, hr, H2⟩ := H.al1
        refine wp_of_run (exec_allocR rfl hr) ?_
        refine hK.out _ _ trivial (fun _ => ?_)
        try simp only [Act.put, List.setIfInBounds_toArray, List.set_cons_zero, List.set_cons_succ]
        have T := ST10_11.out b1 b2 W2 H2
        rw [HA0.out, HL0.out, HG.out] at T
        try simp only [Act.put, List.setIfInBounds_toArray, List.set_cons_zero, List.set_cons_succ] at T
        exact lcong (by kernel_rfl) T
      · obtain ⟨W2, b3, hr, H2⟩ := H.al3
        refine wp_of_run (exec_allocR rfl hr) ?_
        refine hK.out _ _ trivial (fun _ => ?_)
        try simp only [Act.put, List.setIfInBounds_toArray, List.set_cons_zero, List.set_cons_succ]
        have T := ST11_12.out b2 b3 W2 H2
        rw [HA0.out, HL0.out, HG.out] at T
        try simp only [Act.put, List.setIfInBounds_toArray, List.set_cons_zero, List.set_cons_succ] at T
        exact lcong (by kernel_rfl) T)
    have ST12 : Hid (∀ b3, ∀ W : World, st3 w W none none (some b3) → G 8 (l0.setIfInBounds 12 true) (a0.put (some 9) (.pointer (some ⟨b3, 0, none⟩))) W) := (show ∀ b3, ∀ W : World, st3 w W none none (some b3) → G 8 (l0.setIfInBounds 12 true) (a0.put (some 9) (.pointer (some ⟨b3, 0, none⟩))) W from by
      intro b3 W H
      rw [HA0.out, HL0.out, HG.out]
      try simp only [Act.put, List.setIfInBounds_toArray, List.set_cons_zero, List.set_cons_succ]
      refine take_threeG (i := 3) (j := 10) (k := 11) rfl rfl rfl (by kernel_rfl) rfl rfl rfl (fun K hK => ?_) (fun K hK => ?_) (fun K hK => ?_)
      · go_simp
        refine Calls.mono (RA.out _ H.1) ?_
        rintro e W2 ⟨rfl, hb⟩
        have H2 := H.call hb
        refine hK.out _ _ trivial (fun _ => ?_)
        try simp only [Act.put, List.setIfInBounds_toArray, List.set_cons_zero, List.set_cons_succ]
        have T := ST3_12.out b3 W2 H2
        rw [HA0.out, HL0.out, HG.out] at T
        try simp only [Act.put, List.setIfInBounds_toArray, List.set_cons_zero, List.set_cons_succ] at T
        exact lcong (by kernel_rfl) T
      · obtain ⟨W2, b1, hr, H2⟩ := H.al1
        refine wp_of_run (exec_allocR rfl hr) ?_
        refine hK.out _ _ trivial (fun _ => ?_)
        try simp only [Act.put, List.setIfInBounds_toArray, List.set_cons_zero, List.set_cons_succ]
        have T := ST10_12.out b1 b3 W2 H2
        rw [HA0.out, HL0.out, HG.out] at T
        try simp only [Act.put, List.setIfInBounds_toArray, List.set_cons_zero, List.set_cons_succ] at T
        exact lcong (by kernel_rfl) T
      · obtain ⟨W2, b2, hr, H2⟩ := H.al2
        refine wp_of_run (exec_allocR rfl hr) ?_
        refine hK.out _ _ trivial (fun _ => ?_)
        try simp only [Act.put, List.setIfInBounds_toArray, List.set_cons_zero, List.set_cons_succ]
        have T := ST11_12.out b2 b3 W2 H2
        rw [HA0.out, HL0.out, HG.out] at T
        try simp only [Act.put, List.setIfInBounds_toArray, List.set_cons_zero, List.set_cons_succ] at T
        exact lcong (by kernel_rfl) T)
    have ST3 : Hid (∀ W : World, st3 w W none none none → G 8 (l0.setIfInBounds 3 true) (a0.put (some 35) (.agg (rowV 32 (arrV A)))) W) := (show ∀ W : World, st3 w W none none none → G 8 (l0.setIfInBounds 3 true) (a0.put (some 35) (.agg (rowV 32 (arrV A)))) W from by
      intro  W H
      rw [HA0.out, HL0.out, HG.out]
      try simp only [Act.put, List.setIfInBounds_toArray, List.set_cons_zero, List.set_cons_succ]
      refine take_fourG (i := 7) (j := 10) (k := 11) (m := 12) rfl rfl rfl rfl (by kernel_rfl) rfl rfl rfl rfl (fun K hK => ?_) (fun K hK => ?_) (fun K hK => ?_) (fun K hK => ?_)
      · go_simp
        refine Calls.mono (RB.out _ H.1) ?_
        rintro e W2 ⟨rfl, hb⟩
        have H2 := H.call hb
        refine hK.out _ _ trivial (fun _ => ?_)
        try simp only [Act.put, List.setIfInBounds_toArray, List.set_cons_zero, List.set_cons_succ]
        have T := ST3_7.out  W2 H2
        rw [HA0.out, HL0.out, HG.out] at T
        try simp only [Act.put, List.setIfInBounds_toArray, List.set_cons_zero, List.set_cons_succ] at T
        exact lcong (by kernel_rfl) T
      · obtain ⟨W2, b1, hr, H2⟩ := H.al1
        refine wp_of_run (exec_allocR rfl hr) ?_
        refine hK.out _ _ trivial (fun _ => ?_)
        try simp only [Act.put, List.setIfInBounds_toArray, List.set_cons_zero, List.set_cons_succ]
        have T := ST3_10.out b1 W2 H2
        rw [HA0.out, HL0.out, HG.out] at T
        try simp only [Act.put, List.setIfInBounds_toArray, List.set_cons_zero, List.set_cons_succ] at T
        exact lcong (by kernel_rfl) T
      · obtain ⟨W2, b2, hr, H2⟩ := H.al2
        refine wp_of_run (exec_allocR rfl hr) ?_
        refine hK.out _ _ trivial (fun _ => ?_)
        try simp only [Act.put, List.setIfInBounds_toArray, List.set_cons_zero, List.set_cons_succ]
        have T := ST3_11.out b2 W2 H2
        rw [HA0.out, HL0.out, HG.out] at T
        try simp only [Act.put, List.setIfInBounds_toArray, List.set_cons_zero, List.set_cons_succ] at T
        exact lcong (by kernel_rfl) T
      · obtain ⟨W2, b3, hr, H2⟩ := H.al3
        refine wp_of_run (exec_allocR rfl hr) ?_
        refine hK.out _ _ trivial (fun _ => ?_)
        try simp only [Act.put, List.setIfInBounds_toArray, List.set_cons_zero, List.set_cons_succ]
        have T := ST3_12.out b3 W2 H2
        rw [HA0.out, HL0.out, HG.out] at T
        try simp only [Act.put, List.setIfInBounds_toArray, List.set_cons_zero, List.set_cons_succ] at T
        exact lcong (by kernel_rfl) T)
    have ST : Hid (∀ W : World, st3 w W none none none → G 9 l0 a0 W) := (show ∀ W : World, st3 w W none none none → G 9 l0 a0 W from by
      intro  W H
      rw [HA0.out, HL0.out, HG.out]
      try simp only [Act.put, List.setIfInBounds_toArray, List.set_cons_zero, List.set_cons_succ]
      refine take_fourG (i := 3) (j := 10) (k := 11) (m := 12) rfl rfl rfl rfl (by kernel_rfl) rfl rfl rfl rfl (fun K hK => ?_) (fun K hK => ?_) (fun K hK => ?_) (fun K hK => ?_)
      · go_simp
        refine Calls.mono (RA.out _ H.1) ?_
        rintro e W2 ⟨rfl, hb⟩
        have H2 := H.call hb
        refine hK.out _ _ trivial (fun _ => ?_)
        try simp only [Act.put, List.setIfInBounds_toArray, List.set_cons_zero, List.set_cons_succ]
        have T := ST3.out  W2 H2
        rw [HA0.out, HL0.out, HG.out] at T
        try simp only [Act.put, List.setIfInBounds_toArray, List.set_cons_zero, List.set_cons_succ] at T
        exact lcong (by kernel_rfl) T
      · obtain ⟨W2, b1, hr, H2⟩ := H.al1
        refine wp_of_run (exec_allocR rfl hr) ?_
        refine hK.out _ _ trivial (fun _ => ?_)
        try simp only [Act.put, List.setIfInBounds_toArray, List.set_cons_zero, List.set_cons_succ]
        have T := ST10.out b1 W2 H2
        rw [HA0.out, HL0.out, HG.out] at T
        try simp only [Act.put, List.setIfInBounds_toArray, List.set_cons_zero, List.set_cons_succ] at T
        exact lcong (by kernel_rfl) T
      · obtain ⟨W2, b2, hr, H2⟩ := H.al2
        refine wp_of_run (exec_allocR rfl hr) ?_
        refine hK.out _ _ trivial (fun _ => ?_)
        try simp only [Act.put, List.setIfInBounds_toArray, List.set_cons_zero, List.set_cons_succ]
        have T := ST11.out b2 W2 H2
        rw [HA0.out, HL0.out, HG.out] at T
        try simp only [Act.put, List.setIfInBounds_toArray, List.set_cons_zero, List.set_cons_succ] at T
        exact lcong (by kernel_rfl) T
      · obtain ⟨W2, b3, hr, H2⟩ := H.al3
        refine wp_of_run (exec_allocR rfl hr) ?_
        refine hK.out _ _ trivial (fun _ => ?_)
        try simp only [Act.put, List.setIfInBounds_toArray, List.set_cons_zero, List.set_cons_succ]
        have T := ST12.out b3 W2 H2
        rw [HA0.out, HL0.out, HG.out] at T
        try simp only [Act.put, List.setIfInBounds_toArray, List.set_cons_zero, List.set_cons_succ] at T
        exact lcong (by kernel_rfl) T)
    exact ST.out W H
  case rest =>
    obtain ⟨b7, b8, b9, rfl, rfl, rfl, r7, r8, r9, hB⟩ := hcut
    rename World => w6
    have L7 : Hid (∀ wz, Below w6.heap.size w6 wz → ∀ j, j < 32 → wz.cell? ⟨b7, 0 + j, none⟩ = some (arrV A j)) := (show _ from fun wz hz j hj => by rw [Nat.zero_add]; exact (hz.row r7 (gRow_lt r7)).cell hj)
    have L8 : Hid (∀ wz, Below w6.heap.size w6 wz → ∀ j, j < 32 → wz.cell? ⟨b8, 0 + j, none⟩ = some (arrV B j)) := (show _ from fun wz hz j hj => by rw [Nat.zero_add]; exact (hz.row r8 (gRow_lt r8)).cell hj)
    have L9 : Hid (∀ wz, Below w6.heap.size w6 wz → ∀ j, j < 32 → wz.cell? ⟨b9, 0 + j, none⟩ = some (arrV C j)) := (show _ from fun wz hz j hj => by rw [Nat.zero_add]; exact (hz.row r9 (gRow_lt r9)).cell hj)
    have HB : Hid (Below w.heap.size w w6) := (show Below w.heap.size w w6 from hB)
    have HS6 : Hid (∀ wz, Below w6.heap.size w6 wz → tabIs wz ∧ sumsAt wz (.slice va L.length vc) L ∧ sumsAt wz (.slice xj j yj) (L.take j) ∧ sumsAt wz (.slice xm m ym) (L.take m)) := (show _ from fun wz hz => HS.out wz (HB.out.trans (hz.mono HB.out.size)))
    have Bp : Hid (Below w6.heap.size w6 w6) := (show _ from Below.refl _ _)
    clear r7 r8 r9 hB RA RB RC
    go_upto_region 4 with fail
    refine wp_region_noPanic ?_
    refine wp_region_held_drew (S := fun w' => Below w6.heap.size w6 w') (by kernel_rfl) (Bp.out.drew) (fun hHeld => ?_)
    refine take_op (i := 0) (v := ?vp0) rfl (by kernel_rfl) (by kernel_rfl) (by kernel_rfl) (fun _ _ _ h => h) rfl hHeld ?yp0 ?rp0
    case yp0 => (intro wz hz; go_simp; first | done | with_reducible rfl)
    try simp only [Act.put, List.setIfInBounds_toArray, List.set_cons_zero, List.set_cons_succ]
    refine take_op (i := 1) (v := ?vp1) rfl (by kernel_rfl) (by kernel_rfl) (by kernel_rfl) (fun _ _ _ h => h) rfl hHeld ?yp1 ?rp1
    case yp1 => (intro wz hz; go_simp; first | done | with_reducible rfl)
    try simp only [Act.put, List.setIfInBounds_toArray, List.set_cons_zero, List.set_cons_succ]
    refine take_load (i := 2) rfl (by kernel_rfl) (by kernel_rfl) (by kernel_rfl) 29 _ rfl b7 0 32 (arrV A) rfl _ Tryd.underlying29 rfl (by kernel_rfl) (fun _ _ _ h => h) rfl hHeld (fun wz hz => L7.out wz hz) ?_
    try simp only [Act.put, List.setIfInBounds_toArray, List.set_cons_zero, List.set_cons_succ]
    refine take_load (i := 3) rfl (by kernel_rfl) (by kernel_rfl) (by kernel_rfl) 29 _ rfl b8 0 32 (arrV B) rfl _ Tryd.underlying29 rfl (by kernel_rfl) (fun _ _ _ h => h) rfl hHeld (fun wz hz => L8.out wz hz) ?_
    try simp only [Act.put, List.setIfInBounds_toArray, List.set_cons_zero, List.set_cons_succ]
    refine take_op (i := 4) (v := ?vp4) rfl (by kernel_rfl) (by kernel_rfl) (by kernel_rfl) (fun _ _ _ h => h) rfl hHeld ?yp4 ?rp4
    case yp4 => (intro wz hz; go_simp; first | done | with_reducible rfl)
    try simp only [Act.put, List.setIfInBounds_toArray, List.set_cons_zero, List.set_cons_succ]
    refine take_op (i := 5) (v := ?vp5) rfl (by kernel_rfl) (by kernel_rfl) (by kernel_rfl) (fun _ _ _ h => h) rfl hHeld ?yp5 ?rp5
    case yp5 => (intro wz hz; go_simp; first | done | with_reducible rfl)
    try simp only [Act.put, List.setIfInBounds_toArray, List.set_cons_zero, List.set_cons_succ]
    refine take_op (i := 6) (v := ?vp6) rfl (by kernel_rfl) (by kernel_rfl) (by kernel_rfl) (fun _ _ _ h => h) rfl hHeld ?yp6 ?rp6
    case yp6 => (intro wz hz; have hcz := RUM.out wz; go_simp; first | done | with_reducible rfl)
    try simp only [Act.put, List.setIfInBounds_toArray, List.set_cons_zero, List.set_cons_succ]
    refine take_op (i := 7) (v := ?vp7) rfl (by kernel_rfl) (by kernel_rfl) (by kernel_rfl) (fun _ _ _ h => h) rfl hHeld ?yp7 ?rp7
    case yp7 => (intro wz hz; go_simp; first | done | with_reducible rfl)
    try simp only [Act.put, List.setIfInBounds_toArray, List.set_cons_zero, List.set_cons_succ]
    have XBp := between_nil (L.take m) (.slice xm m ym) (j : Int) w6.drew (by have := HQ.out; omega) (HS6.out _ hHeld).2.2.2 (by have := HQ.out; omega) (HS6.out _ hHeld).1
    refine take_one (i := 8) rfl (by kernel_rfl) rfl (fun K hK => ?_)
    go_simp
    refine Calls.mono XBp ?_
    rintro e yp ⟨pv, rfl, np, bp⟩
    have hbp : Below w6.heap.size w6 yp := hHeld.trans (bp.mono hHeld.size)
    obtain ⟨pa, pc, rfl, _⟩ := ownsRow_slice np.2
    refine hK.out _ _ hbp (fun hHeld => ?_)
    clear hK K XBp
    try simp only [Act.put, List.setIfInBounds_toArray, List.set_cons_zero, List.set_cons_succ]
    have XEp := (by have h := ext_nil j m A B (gPath (L.take m) j) _ yp (by have := HQ.out; omega) (by have := HQ.out; omega) SA.out.1 SA.out.2.1 np.is (gPath_le _ _ (by have := HQ.out; omega)) (HS6.out _ hHeld).1; rw [E1.out] at h; exact h : Calls Tryd.prog 15 #[.pointer none, .int .i64 (j : Int), .int .i64 (m : Int), .agg (rowV 32 (arrV A)), .agg (rowV 32 (arrV B)), .slice pa (gPath (L.take m) j).length pc] yp fun e w' => e = .returned (.int .i64 0) ∧ Below (yp).heap.size yp w')
    refine take_one (i := 9) rfl (by kernel_rfl) rfl (fun K hK => ?_)
    go_simp
    refine Calls.mono XEp ?_
    rintro e zp ⟨rfl, be⟩
    have hcp : Below w6.heap.size w6 zp := hHeld.trans (be.mono hHeld.size)
    refine hK.out _ _ hcp (fun hHeld => ?_)
    clear hK K XEp np bp be hbp
    try simp only [Act.put, List.setIfInBounds_toArray, List.set_cons_zero, List.set_cons_succ]
    refine take_op (i := 10) (v := ?vp10) rfl (by kernel_rfl) (by kernel_rfl) (by kernel_rfl) (fun _ _ _ h => h) rfl hHeld ?yp10 ?rp10
    case yp10 => (intro wz hz; go_simp; first | done | with_reducible rfl)
    try simp only [Act.put, List.setIfInBounds_toArray, List.set_cons_zero, List.set_cons_succ]
    refine wpAnyH_done (by kernel_rfl) ?_ _
    refine NoPanic.normal ?_
    have Bp2 : Hid (Below w6.heap.size w6 zp) := (show Below w6.heap.size w6 zp from hHeld)
    clear hHeld hcp
    go_upto_region 5 with fail
    refine wp_region_noPanic ?_
    refine wp_region_held_drew (S := fun w' => Below w6.heap.size w6 w') (by kernel_rfl) (Bp2.out.drew) (fun hHeld => ?_)
    refine take_op (i := 0) (v := ?vq0) rfl (by kernel_rfl) (by kernel_rfl) (by kernel_rfl) (fun _ _ _ h => h) rfl hHeld ?yq0 ?rq0
    case yq0 => (intro wz hz; go_simp; first | done | with_reducible rfl)
    try simp only [Act.put, List.setIfInBounds_toArray, List.set_cons_zero, List.set_cons_succ]
    refine take_op (i := 1) (v := ?vq1) rfl (by kernel_rfl) (by kernel_rfl) (by kernel_rfl) (fun _ _ _ h => h) rfl hHeld ?yq1 ?rq1
    case yq1 => (intro wz hz; go_simp; first | done | with_reducible rfl)
    try simp only [Act.put, List.setIfInBounds_toArray, List.set_cons_zero, List.set_cons_succ]
    refine take_op (i := 2) (v := ?vq2) rfl (by kernel_rfl) (by kernel_rfl) (by kernel_rfl) (fun _ _ _ h => h) rfl hHeld ?yq2 ?rq2
    case yq2 => (intro wz hz; go_simp; first | done | with_reducible rfl)
    try simp only [Act.put, List.setIfInBounds_toArray, List.set_cons_zero, List.set_cons_succ]
    refine take_load (i := 3) rfl (by kernel_rfl) (by kernel_rfl) (by kernel_rfl) 29 _ rfl b8 0 32 (arrV B) rfl _ Tryd.underlying29 rfl (by kernel_rfl) (fun _ _ _ h => h) rfl hHeld (fun wz hz => L8.out wz hz) ?_
    try simp only [Act.put, List.setIfInBounds_toArray, List.set_cons_zero, List.set_cons_succ]
    refine take_load (i := 4) rfl (by kernel_rfl) (by kernel_rfl) (by kernel_rfl) 29 _ rfl b9 0 32 (arrV C) rfl _ Tryd.underlying29 rfl (by kernel_rfl) (fun _ _ _ h => h) rfl hHeld (fun wz hz => L9.out wz hz) ?_
    try simp only [Act.put, List.setIfInBounds_toArray, List.set_cons_zero, List.set_cons_succ]
    refine take_op (i := 5) (v := ?vq5) rfl (by kernel_rfl) (by kernel_rfl) (by kernel_rfl) (fun _ _ _ h => h) rfl hHeld ?yq5 ?rq5
    case yq5 => (intro wz hz; go_simp; first | done | with_reducible rfl)
    try simp only [Act.put, List.setIfInBounds_toArray, List.set_cons_zero, List.set_cons_succ]
    refine take_op (i := 6) (v := ?vq6) rfl (by kernel_rfl) (by kernel_rfl) (by kernel_rfl) (fun _ _ _ h => h) rfl hHeld ?yq6 ?rq6
    case yq6 => (intro wz hz; go_simp; first | done | with_reducible rfl)
    try simp only [Act.put, List.setIfInBounds_toArray, List.set_cons_zero, List.set_cons_succ]
    have XBq := between_nil L (.slice va L.length vc) (m : Int) zp.drew (by have := HQ.out; omega) (HS6.out _ hHeld).2.1 (by have := HQ.out; omega) (HS6.out _ hHeld).1
    refine take_one (i := 7) rfl (by kernel_rfl) rfl (fun K hK => ?_)
    go_simp
    refine Calls.mono XBq ?_
    rintro e yq ⟨pv, rfl, np, bp⟩
    have hbq : Below w6.heap.size w6 yq := hHeld.trans (bp.mono hHeld.size)
    obtain ⟨pa, pc, rfl, _⟩ := ownsRow_slice np.2
    refine hK.out _ _ hbq (fun hHeld => ?_)
    clear hK K XBq
    try simp only [Act.put, List.setIfInBounds_toArray, List.set_cons_zero, List.set_cons_succ]
    have XEq := (by have h := ext_nil m L.length B C (gPath L m) _ yq (by have := HQ.out; omega) (by have := HQ.out; omega) SA.out.2.1 SA.out.2.2 np.is (gPath_le _ _ (by have := HQ.out; omega)) (HS6.out _ hHeld).1; rw [E2.out] at h; exact h : Calls Tryd.prog 15 #[.pointer none, .int .i64 (m : Int), .int .i64 (L.length : Int), .agg (rowV 32 (arrV B)), .agg (rowV 32 (arrV C)), .slice pa (gPath L m).length pc] yq fun e w' => e = .returned (.int .i64 0) ∧ Below (yq).heap.size yq w')
    refine take_one (i := 8) rfl (by kernel_rfl) rfl (fun K hK => ?_)
    go_simp
    refine Calls.mono XEq ?_
    rintro e zq ⟨rfl, be⟩
    have hcq : Below w6.heap.size w6 zq := hHeld.trans (be.mono hHeld.size)
    refine hK.out _ _ hcq (fun hHeld => ?_)
    clear hK K XEq np bp be hbq
    try simp only [Act.put, List.setIfInBounds_toArray, List.set_cons_zero, List.set_cons_succ]
    refine take_op (i := 9) (v := ?vq9) rfl (by kernel_rfl) (by kernel_rfl) (by kernel_rfl) (fun _ _ _ h => h) rfl hHeld ?yq9 ?rq9
    case yq9 => (intro wz hz; go_simp; first | done | with_reducible rfl)
    try simp only [Act.put, List.setIfInBounds_toArray, List.set_cons_zero, List.set_cons_succ]
    refine wpAnyH_done (by kernel_rfl) ?_ _
    refine NoPanic.normal ?_
    have Bq2 : Hid (Below w6.heap.size w6 zq) := (show Below w6.heap.size w6 zq from hHeld)
    clear hHeld hcq
    go_upto_region 6 with fail
    refine wp_region_noPanic ?_
    refine wp_region_held_drew (S := fun w' => Below w6.heap.size w6 w') (by kernel_rfl) (Bq2.out.drew) (fun hHeld => ?_)
    refine take_op (i := 0) (v := ?vs0) rfl (by kernel_rfl) (by kernel_rfl) (by kernel_rfl) (fun _ _ _ h => h) rfl hHeld ?ys0 ?rs0
    case ys0 => (intro wz hz; go_simp; first | done | with_reducible rfl)
    try simp only [Act.put, List.setIfInBounds_toArray, List.set_cons_zero, List.set_cons_succ]
    refine take_op (i := 1) (v := ?vs1) rfl (by kernel_rfl) (by kernel_rfl) (by kernel_rfl) (fun _ _ _ h => h) rfl hHeld ?ys1 ?rs1
    case ys1 => (intro wz hz; go_simp; first | done | with_reducible rfl)
    try simp only [Act.put, List.setIfInBounds_toArray, List.set_cons_zero, List.set_cons_succ]
    refine take_op (i := 2) (v := ?vs2) rfl (by kernel_rfl) (by kernel_rfl) (by kernel_rfl) (fun _ _ _ h => h) rfl hHeld ?ys2 ?rs2
    case ys2 => (intro wz hz; go_simp; first | done | with_reducible rfl)
    try simp only [Act.put, List.setIfInBounds_toArray, List.set_cons_zero, List.set_cons_succ]
    refine take_load (i := 3) rfl (by kernel_rfl) (by kernel_rfl) (by kernel_rfl) 29 _ rfl b7 0 32 (arrV A) rfl _ Tryd.underlying29 rfl (by kernel_rfl) (fun _ _ _ h => h) rfl hHeld (fun wz hz => L7.out wz hz) ?_
    try simp only [Act.put, List.setIfInBounds_toArray, List.set_cons_zero, List.set_cons_succ]
    refine take_load (i := 4) rfl (by kernel_rfl) (by kernel_rfl) (by kernel_rfl) 29 _ rfl b9 0 32 (arrV C) rfl _ Tryd.underlying29 rfl (by kernel_rfl) (fun _ _ _ h => h) rfl hHeld (fun wz hz => L9.out wz hz) ?_
    try simp only [Act.put, List.setIfInBounds_toArray, List.set_cons_zero, List.set_cons_succ]
    refine take_op (i := 5) (v := ?vs5) rfl (by kernel_rfl) (by kernel_rfl) (by kernel_rfl) (fun _ _ _ h => h) rfl hHeld ?ys5 ?rs5
    case ys5 => (intro wz hz; go_simp; first | done | with_reducible rfl)
    try simp only [Act.put, List.setIfInBounds_toArray, List.set_cons_zero, List.set_cons_succ]
    refine take_op (i := 6) (v := ?vs6) rfl (by kernel_rfl) (by kernel_rfl) (by kernel_rfl) (fun _ _ _ h => h) rfl hHeld ?ys6 ?rs6
    case ys6 => (intro wz hz; go_simp; first | done | with_reducible rfl)
    try simp only [Act.put, List.setIfInBounds_toArray, List.set_cons_zero, List.set_cons_succ]
    have XBs := between_nil L (.slice va L.length vc) (j : Int) zq.drew (by have := HQ.out; omega) (HS6.out _ hHeld).2.1 (by have := HQ.out; omega) (HS6.out _ hHeld).1
    refine take_one (i := 7) rfl (by kernel_rfl) rfl (fun K hK => ?_)
    go_simp
    refine Calls.mono XBs ?_
    rintro e ys ⟨pv, rfl, np, bp⟩
    have hbs : Below w6.heap.size w6 ys := hHeld.trans (bp.mono hHeld.size)
    obtain ⟨pa, pc, rfl, _⟩ := ownsRow_slice np.2
    refine hK.out _ _ hbs (fun hHeld => ?_)
    clear hK K XBs
    try simp only [Act.put, List.setIfInBounds_toArray, List.set_cons_zero, List.set_cons_succ]
    have XEs := (by have h := ext_nil j L.length A C (gPath L j) _ ys (by have := HQ.out; omega) (by have := HQ.out; omega) SA.out.1 SA.out.2.2 np.is (gPath_le _ _ (by have := HQ.out; omega)) (HS6.out _ hHeld).1; rw [E3.out] at h; exact h : Calls Tryd.prog 15 #[.pointer none, .int .i64 (j : Int), .int .i64 (L.length : Int), .agg (rowV 32 (arrV A)), .agg (rowV 32 (arrV C)), .slice pa (gPath L j).length pc] ys fun e w' => e = .returned (.int .i64 0) ∧ Below (ys).heap.size ys w')
    refine take_one (i := 8) rfl (by kernel_rfl) rfl (fun K hK => ?_)
    go_simp
    refine Calls.mono XEs ?_
    rintro e zs ⟨rfl, be⟩
    have hcs : Below w6.heap.size w6 zs := hHeld.trans (be.mono hHeld.size)
    refine hK.out _ _ hcs (fun hHeld => ?_)
    clear hK K XEs np bp be hbs
    try simp only [Act.put, List.setIfInBounds_toArray, List.set_cons_zero, List.set_cons_succ]
    refine take_op (i := 9) (v := ?vs9) rfl (by kernel_rfl) (by kernel_rfl) (by kernel_rfl) (fun _ _ _ h => h) rfl hHeld ?ys9 ?rs9
    case ys9 => (intro wz hz; go_simp; first | done | with_reducible rfl)
    try simp only [Act.put, List.setIfInBounds_toArray, List.set_cons_zero, List.set_cons_succ]
    refine wpAnyH_done (by kernel_rfl) ?_ _
    refine NoPanic.normal ?_
    have Bs2 : Hid (Below w6.heap.size w6 zs) := (show Below w6.heap.size w6 zs from hHeld)
    clear hHeld hcs
    have XA := gawake_any zs (HS6.out zs Bs2.out).1
    go_wp2_with fail
    refine XA.mono ?_
    rintro e w8 ⟨rfl, b8'⟩
    have BF : Hid (Below w.heap.size w w8) := (show Below w.heap.size w w8 from HB.out.trans ((Bs2.out.trans (b8'.mono Bs2.out.size)).mono HB.out.size))
    clear XA b8'
    go_wp2
    go_ret
    exact ⟨rfl, BF.out⟩
theorem growOn_any (L : List (List Int)) (v : Value) (j m : Int) (hj : -9223372036854775808 ≤ j ∧ j ≤ 9223372036854775807) (hm : -9223372036854775808 ≤ m ∧ m ≤ 9223372036854775807) (w : World) (ht : tabIs w) (h : sumsAt w v L) :
    Calls Tryd.prog 7 #[v, .int .i64 j, .int .i64 m] w fun e w' => e = .returned (.bool true) ∧ Below w.heap.size w w' := by
  by_cases hok : L.length ≤ 150 ∧ 0 ≤ j ∧ j ≤ m ∧ m ≤ L.length
  · obtain ⟨h1, h2, h3, h4⟩ := hok
    obtain ⟨a, rfl⟩ : ∃ a : Nat, j = (a : Int) := ⟨j.toNat, by omega⟩
    obtain ⟨b, rfl⟩ : ∃ b : Nat, m = (b : Int) := ⟨m.toNat, by omega⟩
    exact growOn_in L v a b (by omega) (by omega) h1 w ht h
  have hsl : ∃ a cap, v = .slice a L.length cap ∧ L.length ≤ cap ∧ cap ≤ maxLen := by
    obtain ⟨_, a, cap, e, h3, h4, _⟩ := h; exact ⟨a, cap, e, h3, h4⟩
  obtain ⟨va, vc, rfl, h3, h4⟩ := hsl
  have X := gawake_any w ht
  have q0 : (L.length : Int) ≤ 9223372036854775807 := by unfold maxLen at h4; omega
  clear h ht h3 h4
  by_cases c1 : L.length > 150
  · have c1' : (L.length : Int) > 150 := by omega
    go_enter Tryd.func7, Tryd.ntmps7
    go_wp2_with fail
    refine X.mono ?_
    rintro e w1 ⟨rfl, b1⟩
    have B1 : Hid (Below w.heap.size w w1) := (show Below w.heap.size w w1 from b1)
    clear X b1
    go_wp2
    go_ret
    exact ⟨rfl, B1.out⟩
  have c1' : ¬ (L.length : Int) > 150 := by omega
  by_cases c2 : j < 0
  · go_enter Tryd.func7, Tryd.ntmps7
    go_wp2_with fail
    refine X.mono ?_
    rintro e w1 ⟨rfl, b1⟩
    have B1 : Hid (Below w.heap.size w w1) := (show Below w.heap.size w w1 from b1)
    clear X b1
    go_wp2
    go_ret
    exact ⟨rfl, B1.out⟩
  by_cases c3 : j > m
  · go_enter Tryd.func7, Tryd.ntmps7
    go_wp2_with fail
    refine X.mono ?_
    rintro e w1 ⟨rfl, b1⟩
    have B1 : Hid (Below w.heap.size w w1) := (show Below w.heap.size w w1 from b1)
    clear X b1
    go_wp2
    go_ret
    exact ⟨rfl, B1.out⟩
  · have c4 : m > (L.length : Int) := by omega
    go_enter Tryd.func7, Tryd.ntmps7
    go_wp2_with fail
    refine X.mono ?_
    rintro e w1 ⟨rfl, b1⟩
    have B1 : Hid (Below w.heap.size w w1) := (show Below w.heap.size w w1 from b1)
    clear X b1
    go_wp2
    go_ret
    exact ⟨rfl, B1.out⟩
end Go.Proofs.YtdjfdcaolkladaaDoor

/- The frame of a law's row: what was read reads behind the call as it did, where nothing old has turned. -/
namespace Go.Proofs.YtdjfdcaolkladaaDoor
open Go.RowKit Go.Deep Go.ChangeShapes Go.WideShapes Go.ChangeAt

theorem below_trodAll {H : Type} {enc : TypeId × Value → H} {P : Program} (hl : laidOutB P = true) {W W' : World} (hb : Below W.heap.size W W') :
    ∀ {ts : List TypeId} {vs : List Value} {ds : List (DataW H)} {ps : List MemPlace}, (∀ t ∈ ts, P.readableRec t = true ∧ t < P.types.size) → DataW.TrodAll enc P W 0 (fun _ => true) true ts vs ds ps → (∀ x ∈ ps, x.block < W.heap.size) →
      DataW.TrodAll enc P W' 0 (fun b => decide (b < W.heap.size)) true ts vs ds ps
  | [], [], [], _, _, h, _ => h
  | t :: ts, v :: vs, d :: ds, ps, hts, h, hlt => by
    obtain ⟨p, q, h1, h2, e⟩ := h
    subst e
    exact ⟨p, q, Below.trod hl (hts t List.mem_cons_self).1 (hts t List.mem_cons_self).2 h1 hb (fun x hx => hlt x (List.mem_append_left _ hx)), below_trodAll hl hb (fun u hu => hts u (List.mem_cons_of_mem _ hu)) h2 (fun x hx => hlt x (List.mem_append_right _ hx)), rfl⟩

/-- WHAT A LAW's ROW ASKS BEHIND THE CALL, where the answer is true and nothing old has turned. -/
theorem law_post {H : Type} {enc : TypeId × Value → H} {P : Program} {spec : ChangeSpec} {f : Func} {W W' : World} {args : Array Value} {ds gs : List (DataW H)} {before : List MemPlace} {tb : TypeId}
    (hl : laidOutB P = true) (hts : ∀ t ∈ f.params.toList, P.readableRec t = true ∧ t < P.types.size) (hvars : spec.vars = []) (hres : f.resultTypes = #[tb]) (hbool : P.underlying tb = some .bool)
    (hspec : spec.fn H (ds ++ gs) = { results := [.lit (.bool true)], args := ds })
    (hW : DataW.Whole enc P f.params.toList spec.vars false W args.toList ds gs before) (hb : Below W.heap.size W W') : spec.post enc P f false true false false W args (.bool true) W' := by
  have hW' := hW
  have hlt := hW.lt
  obtain ⟨p, q, hA, hV, rfl, hfz, hnd⟩ := hW
  rw [hvars] at hV
  obtain ⟨rfl, rfl⟩ := trodVars_none hV
  refine ⟨ds, [], p ++ [], [], p, [], hW', ?_, ?_, ?_, ?_, fun h => by cases h⟩
  · rw [hspec, hres]
    exact trodAll_cons_mk (shut_bool hbool _) trodAll_mk0
  · rw [hspec]
    exact below_trodAll hl hb hts hA (fun x hx => hlt x (List.mem_append_left _ hx))
  · rw [hspec, hvars]; exact hV
  · exact hb.frame _

/-- AN ARRAY OF BYTES, opened. -/
theorem open_bytes {H : Type} {enc : TypeId × Value → H} {P : Program} {w : World} {base b0 : Nat} {sp : Nat → Bool} {held : Bool} {r : Reach} {t e : TypeId} {n : Nat} {v : Value} {d : DataW H} {ps : List MemPlace}
    (hu : P.underlying t = some (.array n e)) (he : P.underlying e = some (.int .u8)) (hc : P.cellsOf e = 1) (hct : P.cellsOf t = n) (hval : Value.okWide P w r b0 t v) (hd : DataW.Trod enc P w base sp held t v d ps) :
    ∃ f : Nat → Int, v = .agg (rowV n fun i => .int .u8 (f i)) ∧ ∀ i, 0 ≤ f i ∧ f i ≤ 255 := by
  unfold Value.okWide at hval
  rw [hu] at hval
  obtain ⟨cs, rfl, hsz, _⟩ := hval
  obtain ⟨fuel, hf⟩ := hd
  obtain ⟨xs, m, rfl, _, hlen, _, hx⟩ := DataW.trod_array hu hf
  simp only [Value.cells] at hx hlen
  have hget : ∀ i, i < n → ∃ z : Int, cs[i]? = some (.int .u8 z) ∧ 0 ≤ z ∧ z ≤ 255 := fun i hi => by
    have h1 := hx i hi
    rw [hc, Nat.mul_one] at h1
    have hxi : i < xs.length := by omega
    rw [List.getElem?_eq_getElem hxi] at h1
    obtain ⟨z, hz, _, hw⟩ := DataW.trod_int he h1
    refine ⟨z, ?_, bounds_u8 hw⟩
    have hcs : cs.toList[i]? = some (.int .u8 z) := by
      have := congrArg (fun l => l[0]?) hz
      simpa [List.getElem?_take, List.getElem?_drop] using this
    rw [← Array.getElem?_toList]; exact hcs
  refine ⟨fun i => if h : i < n then Classical.choose (hget i h) else 0, ?_, fun i => ?_⟩
  · congr 1
    refine rowV_eq (by omega) fun i hi => ?_
    dsimp only
    rw [dif_pos hi]; exact (Classical.choose_spec (hget i hi)).1
  · dsimp only
    by_cases h : i < n
    · rw [dif_pos h]; exact (Classical.choose_spec (hget i h)).2
    · rw [dif_neg h]; omega
end Go.Proofs.YtdjfdcaolkladaaDoor

/- The frame of a law's row, where no package variable is laid. -/
namespace Go.Proofs.YtdjfdcaolkladaaDoor
open Go.RowKit Go.Deep Go.ChangeShapes Go.WideShapes Go.ChangeAt
theorem own : ownKnob Tryd.prog.godebug = none := by kernel_rfl
theorem laidOut : laidOutB Tryd.prog = true := by kernel_rfl
theorem bounds_u64 {a : Int} (h : (Lit.int .u64 a).wf = true) : 0 ≤ a ∧ a < 18446744073709551616 := by
  have h' : 0 ≤ a ∧ a ≤ 18446744073709551615 := by simpa [Lit.wf, IntKind.min, IntKind.max, IntKind.signed, IntKind.bits] using h
  omega
end Go.Proofs.YtdjfdcaolkladaaDoor

/- Slices that came in, opened. -/
namespace Go.Proofs.YtdjfdcaolkladaaDoor
open Go.RowKit Go.Deep Go.ChangeShapes Go.WideShapes

theorem bounds_i64 {a : Int} (h : (Lit.int .i64 a).wf = true) : -9223372036854775808 ≤ a ∧ a ≤ 9223372036854775807 := by
  simpa [Lit.wf, IntKind.min, IntKind.max, IntKind.signed, IntKind.bits] using h
/-- A SLICE, opened at every index. -/
theorem open_any {H : Type} {enc : TypeId × Value → H} {P : Program} {w : World} {base b0 : Nat} {sp : Nat → Bool} {held : Bool} {r : Reach} {t e : TypeId} {v : Value} {d : DataW H} {ps : List MemPlace} (c : Nat)
    (hu : P.underlying t = some (.slice e)) (hc : P.cellsOf e = c) (hval : Value.okWide P w r b0 t v) (hd : DataW.Trod enc P w base sp held t v d ps) :
    (v = .slice none 0 0) ∨ ∃ pb po len cap : Nat, v = .slice (some ⟨pb, po, none⟩) len cap ∧ len ≤ cap ∧ cap ≤ maxLen ∧ pb < w.heap.size ∧
      ∀ i, i < len → ∃ (cs' : List Value) (n : Nat) (D : DataW H × List MemPlace), cs'.length = c ∧ (∀ j, j < c → w.cell? ⟨pb, po + i * c + j, none⟩ = cs'[j]?) ∧ DataW.trod enc P w base sp held n e cs' = some D := by
  obtain ⟨a, len, cap, rfl⟩ := okWide_slice hu hval
  obtain ⟨fuel, hf⟩ := hd
  rcases open_slice hu hf with ⟨h0, _⟩ | ⟨a', len', cap', m, n, D, Pl, h0, _, h1, h2, h3, _, h4⟩
  · left; simpa [Value.cells] using h0
  · right
    have h0' : a = some a' ∧ len = len' ∧ cap = cap' := by simpa [Value.cells] using h0
    obtain ⟨rfl, rfl, rfl⟩ := h0'
    have hlm : len ≤ m := by rw [h3]; split <;> omega
    simp only [Value.okWide, hu, Cell.okWide, Cell.ok] at hval
    obtain ⟨_, _, _, hsp, row, cells, hsh, _⟩ := hval
    obtain ⟨pb, po, spot⟩ := a'
    obtain rfl : spot = none := hsp
    refine ⟨pb, po, len, cap, rfl, h1, h2, ?_, fun i hi => ?_⟩
    · unfold World.shape? at hsh
      cases hq : w.heap[pb]? with
      | none => rw [hq] at hsh; cases hsh
      | some o => exact (Array.getElem?_eq_some_iff.1 hq).1
    · obtain ⟨cs', g1, g2⟩ := h4 i (by omega)
      rw [hc] at g1
      obtain ⟨_, hlen, hcell⟩ := World.cells?_some g1
      refine ⟨cs', n, _, hlen, fun j hj => ?_, g2⟩
      have e0 := hcell j (by omega)
      rw [add_add, Addr.add_mid] at e0
      rw [Nat.add_assoc]; exact e0
theorem open_bytes_slice {H : Type} {enc : TypeId × Value → H} {P : Program} {w : World} {base b0 : Nat} {sp : Nat → Bool} {held : Bool} {r : Reach} {t e : TypeId} {v : Value} {d : DataW H} {ps : List MemPlace}
    (hu : P.underlying t = some (.slice e)) (he : P.underlying e = some (.int .u8)) (hc : P.cellsOf e = 1) (hval : Value.okWide P w r b0 t v) (hd : DataW.Trod enc P w base sp held t v d ps) : ∃ l, isBytes w v l := by
  rcases open_any 1 hu hc hval hd with rfl | ⟨pb, po, len, cap, rfl, h1, h2, h3, h4⟩
  · exact ⟨[], Or.inl ⟨rfl, rfl⟩⟩
  · have each : ∀ i, i < len → ∃ z : Int, w.cell? ⟨pb, po + i, none⟩ = some (.int .u8 z) ∧ 0 ≤ z ∧ z ≤ 255 := fun i hi => by
      obtain ⟨cs', n, D, g1, g2, g3⟩ := h4 i hi
      obtain ⟨z, rfl, _, hw⟩ := DataW.trod_int he g3
      have := g2 0 (by omega)
      rw [Nat.mul_one, Nat.add_zero] at this
      exact ⟨z, this, bounds_u8 hw⟩
    obtain ⟨f, hf⟩ := choose_lt each
    have hg : ∀ i, i < len → ((List.range len).map f).getD i 0 = f i := fun i hi => by
      rw [List.getD_eq_getElem?_getD, List.getElem?_map, List.getElem?_range hi]; rfl
    refine ⟨(List.range len).map f, Or.inr ⟨pb, po, cap, by simp, by simpa using h1, h2, h3, fun i hi => ?_, fun i => ?_⟩⟩
    · have hi' : i < len := by simpa using hi
      rw [hg i hi']; exact (hf i hi').1
    · by_cases hi : i < len
      · rw [hg i hi]; exact (hf i hi).2
      · rw [List.getD_eq_getElem?_getD, List.getElem?_eq_none (by simp; omega)]; exact ⟨by simp, by simp⟩
end Go.Proofs.YtdjfdcaolkladaaDoor

/- A sum that is handed in. -/
namespace Go.Proofs.YtdjfdcaolkladaaDoor
open Go.RowKit Go.Deep
/-- its bytes as a list. -/
def listF (f : Nat → Int) : List Int := (List.range 32).map f
theorem listF_getD (f : Nat → Int) (i : Nat) (h : i < 32) : (listF f).getD i 0 = f i := by
  rw [listF, List.getD_eq_getElem?_getD, List.getElem?_map, List.getElem?_range h]; rfl
theorem listF_sum {f : Nat → Int} (hf : ∀ i, 0 ≤ f i ∧ f i ≤ 255) : isSum (listF f) := ⟨by simp [listF], fun i => by
  by_cases h : i < 32
  · rw [listF_getD f i h]; exact hf i
  · rw [List.getD_eq_getElem?_getD, List.getElem?_eq_none (by simp [listF]; omega)]; exact ⟨by simp, by simp⟩⟩
theorem listF_row (f : Nat → Int) : rowV 32 (fun i => .int .u8 (f i)) = rowV 32 (arrV (listF f)) := rowV_congr fun i hi => by rw [arrV, listF_getD f i hi]
def zeroSum : Value := .agg #[.int .u8 0, .int .u8 0, .int .u8 0, .int .u8 0, .int .u8 0, .int .u8 0, .int .u8 0, .int .u8 0, .int .u8 0, .int .u8 0, .int .u8 0, .int .u8 0, .int .u8 0, .int .u8 0, .int .u8 0, .int .u8 0, .int .u8 0, .int .u8 0, .int .u8 0, .int .u8 0, .int .u8 0, .int .u8 0, .int .u8 0, .int .u8 0, .int .u8 0, .int .u8 0, .int .u8 0, .int .u8 0, .int .u8 0, .int .u8 0, .int .u8 0, .int .u8 0]
def zeroSumD {H : Type} : DataW H := .agg [.lit (.int .u8 0), .lit (.int .u8 0), .lit (.int .u8 0), .lit (.int .u8 0), .lit (.int .u8 0), .lit (.int .u8 0), .lit (.int .u8 0), .lit (.int .u8 0), .lit (.int .u8 0), .lit (.int .u8 0), .lit (.int .u8 0), .lit (.int .u8 0), .lit (.int .u8 0), .lit (.int .u8 0), .lit (.int .u8 0), .lit (.int .u8 0), .lit (.int .u8 0), .lit (.int .u8 0), .lit (.int .u8 0), .lit (.int .u8 0), .lit (.int .u8 0), .lit (.int .u8 0), .lit (.int .u8 0), .lit (.int .u8 0), .lit (.int .u8 0), .lit (.int .u8 0), .lit (.int .u8 0), .lit (.int .u8 0), .lit (.int .u8 0), .lit (.int .u8 0), .lit (.int .u8 0), .lit (.int .u8 0)]
end Go.Proofs.YtdjfdcaolkladaaDoor

/- Rows of sums that came in, opened. -/
namespace Go.Proofs.YtdjfdcaolkladaaDoor
set_option maxRecDepth 100000
open Go.RowKit Go.Deep Go.ChangeShapes Go.WideShapes

theorem sum_cells {H : Type} {enc : TypeId × Value → H} {w : World} {base : Nat} {held : Bool} {n : Nat} {cs' : List Value} {D : DataW H × List MemPlace} (g1 : cs'.length = 32)
    (g3 : DataW.trod enc Tryd.prog w base (fun _ => true) held n 29 cs' = some D) : ∃ q : List Int, isSum q ∧ ∀ j, j < 32 → cs'[j]? = some (arrV q j) := by
  have c8 : Tryd.prog.cellsOf 5 = 1 := by kernel_rfl
  obtain ⟨xs, m', rfl, _, hlen, _, hx⟩ := DataW.trod_array Tryd.underlying29 g3
  have hsum : ∀ j, j < 32 → ∃ z : Int, cs'[j]? = some (.int .u8 z) ∧ 0 ≤ z ∧ z ≤ 255 := fun j hj => by
    have h5 := hx j hj
    rw [c8, Nat.mul_one] at h5
    have hxj : j < xs.length := by omega
    rw [List.getElem?_eq_getElem hxj] at h5
    obtain ⟨z, hz, _, hw⟩ := DataW.trod_int Tryd.underlying5 h5
    refine ⟨z, ?_, bounds_u8 hw⟩
    have := congrArg (fun l => l[0]?) hz
    simp only [List.getElem?_take, List.getElem?_drop, List.getElem?_cons_zero] at this
    simpa using this
  obtain ⟨f, hf⟩ := choose_lt hsum
  refine ⟨(List.range 32).map f, ⟨by simp, fun j => ?_⟩, fun j hj => ?_⟩
  · by_cases hj : j < 32
    · have : ((List.range 32).map f).getD j 0 = f j := by
        rw [List.getD_eq_getElem?_getD, List.getElem?_map, List.getElem?_range hj]; rfl
      rw [this]; exact (hf j hj).2
    · rw [List.getD_eq_getElem?_getD, List.getElem?_eq_none (by simp; omega)]; exact ⟨by simp, by simp⟩
  · have : ((List.range 32).map f).getD j 0 = f j := by
      rw [List.getD_eq_getElem?_getD, List.getElem?_map, List.getElem?_range hj]; rfl
    rw [arrV, this]; exact (hf j hj).1
theorem open_sums {H : Type} {enc : TypeId × Value → H} {w : World} {base b0 : Nat} {held : Bool} {r : Reach} {v : Value} {d : DataW H} {ps : List MemPlace}
    (hval : Value.okWide Tryd.prog w r b0 22 v) (hd : DataW.Trod enc Tryd.prog w base (fun _ => true) held 22 v d ps) : ∃ L, sumsAt w v L := by
  rcases open_any 32 Tryd.underlying22 (by kernel_rfl) hval hd with rfl | ⟨pb, po, len, cap, rfl, h1, h2, h3, h4⟩
  · exact ⟨[], sumsAt.nil w⟩
  · have each : ∀ i, i < len → ∃ q : List Int, isSum q ∧ ∀ j, j < 32 → w.cell? ⟨pb, po + i * 32 + j, none⟩ = some (arrV q j) := fun i hi => by
      obtain ⟨cs', n, D, g1, g2, g3⟩ := h4 i hi
      obtain ⟨q, e1, e2⟩ := sum_cells (by omega) g3
      exact ⟨q, e1, fun j hj => by rw [g2 j hj]; exact e2 j hj⟩
    obtain ⟨f, hf⟩ := choose_lt each
    have hl : ((List.range len).map f).length = len := by simp
    refine ⟨(List.range len).map f, fun x hx => ?_, _, cap, by rw [hl], by rw [hl]; exact h1, h2, fun h0 => ⟨pb, po, rfl, h3, fun i hi j hj => ?_⟩⟩
    · obtain ⟨i, hi, rfl⟩ := List.mem_map.1 hx
      exact (hf i (List.mem_range.1 hi)).1
    · have e : ((List.range len).map f)[i] = f i := by simp
      rw [e]; exact (hf i (by omega)).2 j hj
end Go.Proofs.YtdjfdcaolkladaaDoor

/- The table of the rounds' constants, as the row lists it; a world that holds it, for the witness. -/
namespace Go.Proofs.YtdjfdcaolkladaaDoor
set_option maxRecDepth 100000
open Go.RowKit Go.Deep Go.ChangeShapes Go.WideShapes Go.ChangeAt

/-- the table's name. -/
def tabName : String := Rows.growPathsRow.named.getD 0 ""
theorem gTab : Tryd.prog.globalNamed tabName = some 0 := by kernel_rfl
theorem gTabType : (Tryd.prog.globals[0]?).map (·.type) = some 124 := by kernel_rfl
theorem cellsTab : Tryd.prog.cellsOf 124 = 64 := by kernel_rfl
theorem cellsWord : Tryd.prog.cellsOf 91 = 1 := by kernel_rfl
/-- what the row's list gives. -/
theorem laid_tab {W : World} (h : laidMetH Tryd.prog Rows.growPathsRow.laid W) : tabIs W := by
  have ht : Lib.TabIs Tryd.prog W tabName .u32 kList := Lib.tabIs_of_head (rest := []) gTab gTabType Tryd.underlying124 Tryd.underlying91 cellsWord cellsTab h
  refine ⟨?_, fun i hi => ht.cell gTab i (by simpa [kList] using hi)⟩
  have h0 := ht.cell gTab 0 (by decide)
  exact block_lt_of_cell h0
/-- the table's block, laid. -/
def kObj : Obj → Obj
  | .cells _ t frozen => .cells #[.int .u32 1116352408, .int .u32 1899447441, .int .u32 3049323471, .int .u32 3921009573, .int .u32 961987163, .int .u32 1508970993, .int .u32 2453635748, .int .u32 2870763221, .int .u32 3624381080, .int .u32 310598401, .int .u32 607225278, .int .u32 1426881987, .int .u32 1925078388, .int .u32 2162078206, .int .u32 2614888103, .int .u32 3248222580, .int .u32 3835390401, .int .u32 4022224774, .int .u32 264347078, .int .u32 604807628, .int .u32 770255983, .int .u32 1249150122, .int .u32 1555081692, .int .u32 1996064986, .int .u32 2554220882, .int .u32 2821834349, .int .u32 2952996808, .int .u32 3210313671, .int .u32 3336571891, .int .u32 3584528711, .int .u32 113926993, .int .u32 338241895, .int .u32 666307205, .int .u32 773529912, .int .u32 1294757372, .int .u32 1396182291, .int .u32 1695183700, .int .u32 1986661051, .int .u32 2177026350, .int .u32 2456956037, .int .u32 2730485921, .int .u32 2820302411, .int .u32 3259730800, .int .u32 3345764771, .int .u32 3516065817, .int .u32 3600352804, .int .u32 4094571909, .int .u32 275423344, .int .u32 430227734, .int .u32 506948616, .int .u32 659060556, .int .u32 883997877, .int .u32 958139571, .int .u32 1322822218, .int .u32 1537002063, .int .u32 1747873779, .int .u32 1955562222, .int .u32 2024104815, .int .u32 2227730452, .int .u32 2361852424, .int .u32 2428436474, .int .u32 2756734187, .int .u32 3204031479, .int .u32 3329325298] t frozen
  | o => o
end Go.Proofs.YtdjfdcaolkladaaDoor
