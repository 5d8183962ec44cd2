import Derived.Test.YthpnenblmkdmcaaDoorRows
import Derived.ChangeSlices
import Derived.Deep.Slices
import Derived.Deep.Strs
import Derived.Test.YthpnenblmkdmcaaDoorCards
import Derived.Deep.DeepHandedRow
import Derived.Lib.LaidTab
import Derived.Test.YthpnenblmkdmcaaDoorOwn1
import Derived.Test.YthpnenblmkdmcaaDoorOwn3
import Derived.Test.YthpnenblmkdmcaaDoorOwn4
import Derived.Test.YthpnenblmkdmcaaDoorOwn10
set_option linter.unusedVariables false
set_option linter.unusedSimpArgs false
/- GrowBinds: its walk. -/
namespace Go.Proofs.YthpnenblmkdmcaaDoor
set_option linter.unusedSimpArgs false
set_option linter.unusedVariables false
open Go.RowKit Go.Deep

theorem build_bookG (w : World) : (Instr.build 33 #[]).run Tryd.prog w = .ok (.agg #[.pointer none]) w := by kernel_rfl
theorem wpList_convG {P : Program} {ops : Array Oper} {rest : List Oper} {op : Oper} {a : Act} {w w' : World} {Q : Exit → Act → World → Prop} {v r : Value} (s t : TypeId) (x : Operand) (ho : op.op = .convert s t x) (hw : Region.wanted op (yielded ops a.tmps) = true) (hx : a.eval x = v)
    (hr : (convert s t v).run P w = .ok r w') (h : wpList P ops Q rest (a.put op.dst r) w') : wpList P ops Q (op :: rest) a w := by
  unfold wpList; rw [if_pos hw]; exact Or.inl (wp_of_run (exec_convert s t x ho hx hr) h)
/-- what the three books' notes come to. -/
theorem three_books (L : List (List Int)) (m : Nat) (hm : m ≤ L.length) (old : List Int) (path : List (List Int)) (hL : ∀ x ∈ L, isSum x) (ho : isSum old) (hp : ∀ x ∈ path, isSum x) (NB : List Nt) (he : extR m L.length old (rootS L) path = true) (hne : old ≠ rootS (L.take m)) :
    ∃ s t, clashGo [] (rootN [] L ++ (NB ++ extN [] m L.length old path)) = some (s, t) ∧ s ≠ t := by
  cases e : clashGo [] (rootN [] L ++ (NB ++ extN [] m L.length old path)) with
  | some p => exact ⟨p.1, p.2, rfl, (clashGo_some _ [] p.1 p.2 e).1⟩
  | none =>
    refine absurd (bind_ext L m hm old path hL ho hp [] (fun x y hx hy e2 => ?_) he) hne
    exact clashGo_none _ [] (fun x y hx => by simp at hx) e x y (Or.inr (List.mem_append_left _ hx)) (Or.inr (List.mem_append_right _ (List.mem_append_right _ hy))) e2
theorem extR_no {m n : Int} {old fresh : List Int} {path : List (List Int)} (h : extR m n old fresh path = true) : extNo m n path.length = false := by
  cases e : extNo m n path.length with
  | false => rfl
  | true => unfold extR at h; rw [if_pos e] at h; cases h
def threeB (A B C : List Nt) (i : Nat) : List Nt := if i = 0 then A else if i = 1 then B else C
theorem joinF_threeB (A B C : List Nt) : joinF (threeB A B C) 0 3 = A ++ (B ++ C) := by simp [joinF, threeB]
set_option maxHeartbeats 8000000 in
set_option maxRecDepth 100000 in
theorem growBinds_in (L : List (List Int)) (v : Value) (m : Nat) (hm : m ≤ L.length) (hL : L.length ≤ 150) (old : List Int) (ho : isSum old) (path : List (List Int)) (pv : Value) (hpl : path.length ≤ 60) (w : World) (ht : tabIs w) (h : sumsAt w v L) (hp : sumsAt w pv path) :
    Calls Tryd.prog 6 #[v, .int .i64 (m : Int), .agg (rowV 32 (arrV old)), pv] w fun e w' => e = .returned (.bool true) ∧ Below w.heap.size w w' := by
  have t0 := ht.1
  obtain ⟨w1, hw1⟩ : ∃ w1, w1 = w.alloc (.cells (rowV 32 (arrV old)) 29) := ⟨_, rfl⟩
  have b1 : Below w.heap.size w w1 := by rw [hw1]; exact (Below.refl _ _).alloc (Nat.le_refl _) _
  have z1 : w1.heap.size = w.heap.size + 1 := by rw [hw1]; simp
  have r1 : w1.rowIs w.heap.size 29 32 (arrV old) := by rw [hw1]; exact rowIs_box _ _ _ _
  have vb : ∀ (M : List (List Int)) (x : Value), sumsAt w x M → 0 < M.length → ∀ j, x.ownBlock = some j → j < w.heap.size := fun M x hx h0 j hj => by
    obtain ⟨_, a, cap, rfl, _, _, h5⟩ := hx
    obtain ⟨g, o, rfl, hg, _⟩ := h5 h0
    have : g = j := by simpa [Value.ownBlock] using hj
    omega
  obtain ⟨w2, hw2⟩ : ∃ w2, w2 = ((w1.alloc (.cells #[.pointer none] 33)).alloc (.cells #[.pointer none] 33)).alloc (.cells #[.pointer none] 33) := ⟨_, rfl⟩
  have z2 : w2.heap.size = w1.heap.size + 3 := by rw [hw2]; simp
  have b2 : Below w1.heap.size w1 w2 := by rw [hw2]; exact (((Below.refl _ _).alloc (Nat.le_refl _) _).alloc (by simp) _).alloc (by first | (simp; done) | (simp; omega)) _
  have ka2 : bookAt w2 (fun j => j = w1.heap.size) w1.heap.size [] 0 := bookAt.new w1 w2 w1.heap.size (by
    rw [hw2]
    exact (((Below.refl (w1.alloc (.cells #[.pointer none] 33)).heap.size _).alloc (Nat.le_refl _) _).alloc (by simp) _).row (rowIs_one w1 (.pointer none) 33) (by simp))
  have kb2 : bookAt w2 (fun j => j = w1.heap.size + 1) (w1.heap.size + 1) [] 0 := bookAt.new w1 w2 (w1.heap.size + 1) (by
    rw [hw2]
    have r := rowIs_one (w1.alloc (.cells #[.pointer none] 33)) (.pointer none) 33
    rw [World.size_alloc] at r
    exact ((Below.refl ((w1.alloc (.cells #[.pointer none] 33)).alloc (.cells #[.pointer none] 33)).heap.size _).alloc (Nat.le_refl _) _).row r (by simp))
  have kc2 : bookAt w2 (fun j => j = w1.heap.size + 2) (w1.heap.size + 2) [] 0 := bookAt.new w1 w2 (w1.heap.size + 2) (by
    rw [hw2]
    have r := rowIs_one ((w1.alloc (.cells #[.pointer none] 33)).alloc (.cells #[.pointer none] 33)) (.pointer none) 33
    rw [World.size_alloc, World.size_alloc] at r
    exact r)
  have S2 : Hid (bkS w1 w1.heap.size w1.heap.size (w1.heap.size + 1) (w1.heap.size + 2) [] 0 [] 0 w2.drew none none) := (show bkS w1 w1.heap.size w1.heap.size (w1.heap.size + 1) (w1.heap.size + 2) [] 0 [] 0 w2.drew none none from
    ⟨b2.drew, by show w1.heap.size ≤ w2.heap.size; omega, ⟨_, _, ka2.below ((Below.refl w2.heap.size w2).drew) (Nat.le_refl _), kb2.below ((Below.refl w2.heap.size w2).drew) (Nat.le_refl _), fun j hj => ⟨by omega, by omega, by omega, by simp, by simp⟩, fun j hj => ⟨by omega, by omega, by simp, by simp⟩⟩, kc2.below ((Below.refl w2.heap.size w2).drew) (Nat.le_refl _), fun b e => (by cases e), fun b e => (by cases e), fun b e => (by cases e)⟩)
  obtain ⟨um, rum, sm, om, xm, ym, rfl⟩ := h.upto m hm
  have RUM : Hid (∀ wz : World, (Instr.slice 22 v none (some (.int .i64 m)) none).run Tryd.prog wz = .ok (.slice xm m ym) wz) := (show _ from rum)
  have HS : Hid (∀ wz, Below w1.heap.size w1 wz → tabIs wz ∧ sumsAt wz v L ∧ sumsAt wz (.slice xm m ym) (L.take m) ∧ sumsAt wz pv path ∧ wz.rowIs w.heap.size 29 32 (arrV old) ∧ Below w.heap.size w wz) := (show _ from fun wz hz => by
    have hz' : Below w.heap.size w wz := b1.trans (hz.mono (by omega))
    exact ⟨ht.below hz' t0, h.below hz' (Nat.le_refl _), sm.below hz' (Nat.le_refl _), hp.below hz' (Nat.le_refl _), hz.row r1 (by omega), hz'⟩)
  have HVB : Hid ((0 < L.length → ∀ j, v.ownBlock = some j → j < w.heap.size) ∧ (0 < (L.take m).length → ∀ j, Value.ownBlock (.slice xm m ym) = some j → j < w.heap.size) ∧ (0 < path.length → ∀ j, pv.ownBlock = some j → j < w.heap.size)) := (show _ from ⟨vb L v h, vb _ _ sm, vb path pv hp⟩)
  have hv : ∃ va vc, v = .slice va L.length vc := by obtain ⟨_, a, cap, e, _⟩ := h; exact ⟨a, cap, e⟩
  have hpv : ∃ pa pc, pv = .slice pa path.length pc := by obtain ⟨_, a, cap, e, _⟩ := hp; exact ⟨a, cap, e⟩
  obtain ⟨va, vc, rfl⟩ := hv
  obtain ⟨pa, pc, rfl⟩ := hpv
  have ltl : (L.take m).length = m := by rw [List.length_take]; omega
  have SA : Hid (isSum old ∧ isSum (rootS L) ∧ isSum (rootS (L.take m)) ∧ (∀ x ∈ L, isSum x) ∧ (∀ x ∈ L.take m, isSum x) ∧ (∀ x ∈ path, isSum x)) := (show _ from ⟨ho, rootS_sum h.1, rootS_sum sm.1, h.1, sm.1, hp.1⟩)
  have HQ : Hid (m ≤ L.length ∧ L.length ≤ 150 ∧ (L.take m).length = m ∧ path.length ≤ 60 ∧ 0 < w.heap.size ∧ w1.heap.size = w.heap.size + 1) := (show _ from ⟨hm, hL, ltl, hpl, t0, z1⟩)
  have TB : Hid (extR m L.length old (rootS L) path = true → old ≠ rootS (L.take m) → ∃ s t, clashGo [] (rootN [] L ++ (rootN [] (L.take m) ++ extN [] m L.length old path)) = some (s, t) ∧ s ≠ t) := (show _ from fun he hne => three_books L m hm old path h.1 ho hp.1 _ he hne)
  obtain ⟨R, hR⟩ : ∃ R, R = rootS L := ⟨_, rfl⟩
  obtain ⟨Wn, hWn⟩ : ∃ Wn, Wn = rootS (L.take m) := ⟨_, rfl⟩
  have SZ : Hid ((rootN [] L).length ≤ 151 ∧ (rootN [] (L.take m)).length ≤ 151 ∧ (∀ x ∈ rootN [] L, x.2.size ≤ 1000000000) ∧ (∀ x ∈ rootN [] (L.take m), x.2.size ≤ 1000000000)) := (show _ from ⟨by have := rootN_len L; omega, by have := rootN_len (L.take m); omega, rootN_size h.1, rootN_size sm.1⟩)
  have RA : Hid (∀ W x y, bkS w1 w1.heap.size w1.heap.size (w1.heap.size + 1) (w1.heap.size + 2) [] 0 [] 0 W x y → Calls Tryd.prog 18 #[.pointer (some ⟨w1.heap.size, 0, none⟩), .slice va L.length vc] W fun e w' => e = .returned (.agg (rowV 32 (arrV R))) ∧ bkS w1 w1.heap.size w1.heap.size (w1.heap.size + 1) (w1.heap.size + 2) (rootN [] L) (0 + callsR L.length) [] 0 w' x y) := (show _ from fun W x y H => by
    obtain ⟨G, hG, hGB, K⟩ := H.callA
    have hs := HS.out W H.1
    refine (root_book 1000 G w1.heap.size [] 0 L _ W (by have := HQ.out; omega) (Nat.le_refl _) hG hs.2.1 (fun h0 j hj e => by have := HVB.out.1 h0 j hj; have := hGB j e; have := HQ.out; omega) hs.1 (fun e => by have := hGB 0 e; have := HQ.out; omega) (by have := HQ.out; simp; omega) ⟨by omega, by have := HQ.out; omega⟩).mono ?_
    rintro e w' ⟨rfl, k, f⟩
    exact ⟨by rw [hR]; rfl, K w' _ _ k f⟩)
  have RB : Hid (∀ W x y, bkS w1 w1.heap.size w1.heap.size (w1.heap.size + 1) (w1.heap.size + 2) (rootN [] L) (0 + callsR L.length) [] 0 W x y → Calls Tryd.prog 18 #[.pointer (some ⟨w1.heap.size + 1, 0, none⟩), .slice xm m ym] W fun e w' => e = .returned (.agg (rowV 32 (arrV Wn))) ∧ bkS w1 w1.heap.size w1.heap.size (w1.heap.size + 1) (w1.heap.size + 2) (rootN [] L) (0 + callsR L.length) (rootN [] (L.take m)) (0 + callsR (L.take m).length) w' x y) := (show _ from fun W x y H => by
    obtain ⟨G, hG, hGB, K⟩ := H.callB
    have hs := HS.out W H.1
    refine (root_book 1000 G (w1.heap.size + 1) [] 0 (L.take m) _ W (by have := HQ.out; omega) (Nat.le_refl _) hG hs.2.2.1 (fun h0 j hj e => by have := HVB.out.2.1 h0 j hj; have := hGB j e; have := HQ.out; omega) hs.1 (fun e => by have := hGB 0 e; have := HQ.out; omega) (by have := HQ.out; simp; omega) ⟨by omega, by have := HQ.out; omega⟩).mono ?_
    rintro e w' ⟨rfl, k, f⟩
    exact ⟨by rw [hWn]; rfl, K w' _ _ k f⟩)
  rw [← hR, ← hWn] at SA TB
  generalize rootN [] L = NA at RA RB SZ TB
  generalize rootN [] (L.take m) = NB at RB SZ TB
  generalize (0 : Int) + callsR L.length = CA at RA RB
  generalize (0 : Int) + callsR (L.take m).length = CB at RB
  have q1 : (L.length : Int) ≤ 150 := by omega
  have q2 : (0 : Int) ≤ (m : Int) := by omega
  have q4 : (m : Int) ≤ (L.length : Int) := by omega
  have q5 : (path.length : Int) ≤ 60 := by omega
  have d1 : ¬ (150 : Int) < (L.length : Int) := by omega
  have d2 : ¬ (60 : Int) < (path.length : Int) := by omega
  have d3 : ¬ (m : Int) < 0 := by omega
  have d4 : ¬ L.length < m := by omega
  have hz32 := zero_s32
  have bb := build_bookG
  clear vb ht h hp b1 r1 z1 z2 b2 ka2 kb2 kc2 rum sm om ltl t0 hR hWn hm hL hpl ho
  go_enter Tryd.func6, Tryd.ntmps6
  go_upto_region 1 with fail
  rw [← hw1]
  clear hw1
  go_upto_region 4 with fail
  try simp only [Nat.add_assoc, Nat.reduceAdd]
  rw [← hw2]
  clear hw2 bb
  go_cut [12, 13] from 42 to 49 (fun p12 p13 wx => ∃ b12 b13, p12 = .pointer (some ⟨b12, 0, none⟩) ∧ p13 = .pointer (some ⟨b13, 0, none⟩) ∧ bkF w1 w1.heap.size w1.heap.size (w1.heap.size + 1) (w1.heap.size + 2) NA CA NB CB wx b12 b13 R Wn)
  case first =>
    have H := S2.out
    refine wp_region_noPanic ?_
    refine wp_region_held_drew (S := fun w' => True) (by kernel_rfl) trivial (fun hHeld => ?_)
    generalize w2.drew = W at H ⊢
    refine take_op (i := 0) (v := ?va0) rfl (by kernel_rfl) (by kernel_rfl) (by kernel_rfl) (fun _ _ _ h => h) rfl hHeld ?ya0 ?ra0
    case ya0 => (intro wz hz; go_simp; first | done | with_reducible rfl)
    try simp only [Act.put, List.setIfInBounds_toArray, List.set_cons_zero, List.set_cons_succ]
    refine take_op (i := 1) (v := ?va1) rfl (by kernel_rfl) (by kernel_rfl) (by kernel_rfl) (fun _ _ _ h => h) rfl hHeld ?ya1 ?ra1
    case ya1 => (intro wz hz; go_simp; first | done | with_reducible rfl)
    try simp only [Act.put, List.setIfInBounds_toArray, List.set_cons_zero, List.set_cons_succ]
    refine take_op (i := 3) (v := ?va3) rfl (by kernel_rfl) (by kernel_rfl) (by kernel_rfl) (fun _ _ _ h => h) rfl hHeld ?ya3 ?ra3
    case ya3 => (intro wz hz; go_simp; first | done | with_reducible rfl)
    try simp only [Act.put, List.setIfInBounds_toArray, List.set_cons_zero, List.set_cons_succ]
    refine take_op (i := 4) (v := ?va4) rfl (by kernel_rfl) (by kernel_rfl) (by kernel_rfl) (fun _ _ _ h => h) rfl hHeld ?ya4 ?ra4
    case ya4 => (intro wz hz; go_simp; first | done | with_reducible rfl)
    try simp only [Act.put, List.setIfInBounds_toArray, List.set_cons_zero, List.set_cons_succ]
    refine take_op (i := 5) (v := ?va5) rfl (by kernel_rfl) (by kernel_rfl) (by kernel_rfl) (fun _ _ _ h => h) rfl hHeld ?ya5 ?ra5
    case ya5 => (intro wz hz; go_simp; first | done | with_reducible rfl)
    try simp only [Act.put, List.setIfInBounds_toArray, List.set_cons_zero, List.set_cons_succ]
    refine take_op (i := 6) (v := ?va6) rfl (by kernel_rfl) (by kernel_rfl) (by kernel_rfl) (fun _ _ _ h => h) rfl hHeld ?ya6 ?ra6
    case ya6 => (intro wz hz; have hcz := RUM.out wz; go_simp; first | done | with_reducible rfl)
    try simp only [Act.put, List.setIfInBounds_toArray, List.set_cons_zero, List.set_cons_succ]
    refine regionK (fun G hG => ?_)
    refine actK (p := fun a => G 6 _ a W) (fun a0 ha0 => ?_)
    refine listK (p := fun l => G 6 l a0 W) (fun l0 hl0 => ?_)
    have HG : Hid _ := hG
    have HA0 : Hid _ := ha0
    have HL0 : Hid _ := hl0
    clear hG ha0 hl0
    have ST2_7_8_9 : Hid (∀ b1 b2, ∀ W : World, bkS w1 w1.heap.size w1.heap.size (w1.heap.size + 1) (w1.heap.size + 2) NA CA NB CB W (some b1) (some b2) → G 2 ((((l0.setIfInBounds 2 true).setIfInBounds 7 true).setIfInBounds 8 true).setIfInBounds 9 true) ((((a0.put (some 44) (.agg (rowV 32 (arrV R)))).put (some 49) (.agg (rowV 32 (arrV Wn)))).put (some 12) (.pointer (some ⟨b1, 0, none⟩))).put (some 13) (.pointer (some ⟨b2, 0, none⟩))) W) := (show ∀ b1 b2, ∀ W : World, bkS w1 w1.heap.size w1.heap.size (w1.heap.size + 1) (w1.heap.size + 2) NA CA NB CB W (some b1) (some b2) → G 2 ((((l0.setIfInBounds 2 true).setIfInBounds 7 true).setIfInBounds 8 true).setIfInBounds 9 true) ((((a0.put (some 44) (.agg (rowV 32 (arrV R)))).put (some 49) (.agg (rowV 32 (arrV Wn)))).put (some 12) (.pointer (some ⟨b1, 0, none⟩))).put (some 13) (.pointer (some ⟨b2, 0, none⟩))) W from by
      intro b1 b2 W H
      rw [HA0.out, HL0.out, HG.out]
      try simp only [Act.put, List.setIfInBounds_toArray, List.set_cons_zero, List.set_cons_succ]
      obtain ⟨V1, V2, e1, e2, F⟩ := H.fin R Wn
      refine take_one (i := 10) rfl (by kernel_rfl) rfl (fun K hK => ?_)
      unfold Oper.wp execOp
      simp only [Instr.storeAt, Instr.sureAddr, Sem.run_bind, Sem.run_pure, Result.andThen_ok]
      simp [Act.eval, e1, Oper.upon]
      refine hK.out _ _ trivial (fun _ => ?_)
      clear hK K
      try simp only [Act.put, List.setIfInBounds_toArray, List.set_cons_zero, List.set_cons_succ]
      refine take_one (i := 11) rfl (by kernel_rfl) rfl (fun K hK => ?_)
      unfold Oper.wp execOp
      simp only [Instr.storeAt, Instr.sureAddr, Sem.run_bind, Sem.run_pure, Result.andThen_ok]
      simp [Act.eval, e2, Oper.upon]
      refine hK.out _ _ trivial (fun _ => ?_)
      clear hK K
      try simp only [Act.put, List.setIfInBounds_toArray, List.set_cons_zero, List.set_cons_succ]
      refine wpAnyH_done (by kernel_rfl) ?_ _
      refine NoPanic.normal ?_
      clear e1 e2 H
      go_wp2_with fail
      go_meet
      case rel => exact ⟨_, _, rfl, rfl, F⟩)
    have ST2_8_9 : Hid (∀ b1 b2, ∀ W : World, bkS w1 w1.heap.size w1.heap.size (w1.heap.size + 1) (w1.heap.size + 2) NA CA [] 0 W (some b1) (some b2) → G 3 (((l0.setIfInBounds 2 true).setIfInBounds 8 true).setIfInBounds 9 true) (((a0.put (some 44) (.agg (rowV 32 (arrV R)))).put (some 12) (.pointer (some ⟨b1, 0, none⟩))).put (some 13) (.pointer (some ⟨b2, 0, none⟩))) W) := (show ∀ b1 b2, ∀ W : World, bkS w1 w1.heap.size w1.heap.size (w1.heap.size + 1) (w1.heap.size + 2) NA CA [] 0 W (some b1) (some b2) → G 3 (((l0.setIfInBounds 2 true).setIfInBounds 8 true).setIfInBounds 9 true) (((a0.put (some 44) (.agg (rowV 32 (arrV R)))).put (some 12) (.pointer (some ⟨b1, 0, none⟩))).put (some 13) (.pointer (some ⟨b2, 0, none⟩))) W from by
      intro b1 b2 W H
      rw [HA0.out, HL0.out, HG.out]
      try simp only [Act.put, List.setIfInBounds_toArray, List.set_cons_zero, List.set_cons_succ]
      refine take_one (i := 7) rfl (by kernel_rfl) rfl (fun K hK => ?_)
      go_simp
      refine Calls.mono (RB.out _ _ _ H) ?_
      rintro e W2 ⟨rfl, H2⟩
      refine hK.out _ _ trivial (fun _ => ?_)
      try simp only [Act.put, List.setIfInBounds_toArray, List.set_cons_zero, List.set_cons_succ]
      have T := ST2_7_8_9.out b1 b2 W2 H2
      rw [HA0.out, HL0.out, HG.out] at T
      try simp only [Act.put, List.setIfInBounds_toArray, List.set_cons_zero, List.set_cons_succ] at T
      exact lcong (by kernel_rfl) T)
    have ST2_7_8 : Hid (∀ b1, ∀ W : World, bkS w1 w1.heap.size w1.heap.size (w1.heap.size + 1) (w1.heap.size + 2) NA CA NB CB W (some b1) none → G 3 (((l0.setIfInBounds 2 true).setIfInBounds 7 true).setIfInBounds 8 true) (((a0.put (some 44) (.agg (rowV 32 (arrV R)))).put (some 49) (.agg (rowV 32 (arrV Wn)))).put (some 12) (.pointer (some ⟨b1, 0, none⟩))) W) := (show ∀ b1, ∀ W : World, bkS w1 w1.heap.size w1.heap.size (w1.heap.size + 1) (w1.heap.size + 2) NA CA NB CB W (some b1) none → G 3 (((l0.setIfInBounds 2 true).setIfInBounds 7 true).setIfInBounds 8 true) (((a0.put (some 44) (.agg (rowV 32 (arrV R)))).put (some 49) (.agg (rowV 32 (arrV Wn)))).put (some 12) (.pointer (some ⟨b1, 0, none⟩))) W from by
      intro b1 W H
      rw [HA0.out, HL0.out, HG.out]
      try simp only [Act.put, List.setIfInBounds_toArray, List.set_cons_zero, List.set_cons_succ]
      refine take_one (i := 9) rfl (by kernel_rfl) rfl (fun K hK => ?_)
      obtain ⟨W2, b2, hr, H2⟩ := H.al2
      refine wp_of_run (exec_allocR rfl hr) ?_
      refine hK.out _ _ trivial (fun _ => ?_)
      try simp only [Act.put, List.setIfInBounds_toArray, List.set_cons_zero, List.set_cons_succ]
      have T := ST2_7_8_9.out b1 b2 W2 H2
      rw [HA0.out, HL0.out, HG.out] at T
      try simp only [Act.put, List.setIfInBounds_toArray, List.set_cons_zero, List.set_cons_succ] at T
      exact lcong (by kernel_rfl) T)
    have ST2_7_9 : Hid (∀ b2, ∀ W : World, bkS w1 w1.heap.size w1.heap.size (w1.heap.size + 1) (w1.heap.size + 2) NA CA NB CB W none (some b2) → G 3 (((l0.setIfInBounds 2 true).setIfInBounds 7 true).setIfInBounds 9 true) (((a0.put (some 44) (.agg (rowV 32 (arrV R)))).put (some 49) (.agg (rowV 32 (arrV Wn)))).put (some 13) (.pointer (some ⟨b2, 0, none⟩))) W) := (show ∀ b2, ∀ W : World, bkS w1 w1.heap.size w1.heap.size (w1.heap.size + 1) (w1.heap.size + 2) NA CA NB CB W none (some b2) → G 3 (((l0.setIfInBounds 2 true).setIfInBounds 7 true).setIfInBounds 9 true) (((a0.put (some 44) (.agg (rowV 32 (arrV R)))).put (some 49) (.agg (rowV 32 (arrV Wn)))).put (some 13) (.pointer (some ⟨b2, 0, none⟩))) W from by
      intro b2 W H
      rw [HA0.out, HL0.out, HG.out]
      try simp only [Act.put, List.setIfInBounds_toArray, List.set_cons_zero, List.set_cons_succ]
      refine take_one (i := 8) rfl (by kernel_rfl) rfl (fun K hK => ?_)
      obtain ⟨W2, b1, hr, H2⟩ := H.al1
      refine wp_of_run (exec_allocR rfl hr) ?_
      refine hK.out _ _ trivial (fun _ => ?_)
      try simp only [Act.put, List.setIfInBounds_toArray, List.set_cons_zero, List.set_cons_succ]
      have T := ST2_7_8_9.out b1 b2 W2 H2
      rw [HA0.out, HL0.out, HG.out] at T
      try simp only [Act.put, List.setIfInBounds_toArray, List.set_cons_zero, List.set_cons_succ] at T
      exact lcong (by kernel_rfl) T)
    have ST8_9 : Hid (∀ b1 b2, ∀ W : World, bkS w1 w1.heap.size w1.heap.size (w1.heap.size + 1) (w1.heap.size + 2) [] 0 [] 0 W (some b1) (some b2) → G 4 ((l0.setIfInBounds 8 true).setIfInBounds 9 true) ((a0.put (some 12) (.pointer (some ⟨b1, 0, none⟩))).put (some 13) (.pointer (some ⟨b2, 0, none⟩))) W) := (show ∀ b1 b2, ∀ W : World, bkS w1 w1.heap.size w1.heap.size (w1.heap.size + 1) (w1.heap.size + 2) [] 0 [] 0 W (some b1) (some b2) → G 4 ((l0.setIfInBounds 8 true).setIfInBounds 9 true) ((a0.put (some 12) (.pointer (some ⟨b1, 0, none⟩))).put (some 13) (.pointer (some ⟨b2, 0, none⟩))) W from by
      intro b1 b2 W H
      rw [HA0.out, HL0.out, HG.out]
      try simp only [Act.put, List.setIfInBounds_toArray, List.set_cons_zero, List.set_cons_succ]
      refine take_one (i := 2) rfl (by kernel_rfl) rfl (fun K hK => ?_)
      go_simp
      refine Calls.mono (RA.out _ _ _ H) ?_
      rintro e W2 ⟨rfl, H2⟩
      refine hK.out _ _ trivial (fun _ => ?_)
      try simp only [Act.put, List.setIfInBounds_toArray, List.set_cons_zero, List.set_cons_succ]
      have T := ST2_8_9.out b1 b2 W2 H2
      rw [HA0.out, HL0.out, HG.out] at T
      try simp only [Act.put, List.setIfInBounds_toArray, List.set_cons_zero, List.set_cons_succ] at T
      exact lcong (by kernel_rfl) T)
    have ST2_8 : Hid (∀ b1, ∀ W : World, bkS w1 w1.heap.size w1.heap.size (w1.heap.size + 1) (w1.heap.size + 2) NA CA [] 0 W (some b1) none → G 4 ((l0.setIfInBounds 2 true).setIfInBounds 8 true) ((a0.put (some 44) (.agg (rowV 32 (arrV R)))).put (some 12) (.pointer (some ⟨b1, 0, none⟩))) W) := (show ∀ b1, ∀ W : World, bkS w1 w1.heap.size w1.heap.size (w1.heap.size + 1) (w1.heap.size + 2) NA CA [] 0 W (some b1) none → G 4 ((l0.setIfInBounds 2 true).setIfInBounds 8 true) ((a0.put (some 44) (.agg (rowV 32 (arrV R)))).put (some 12) (.pointer (some ⟨b1, 0, none⟩))) W from by
      intro b1 W H
      rw [HA0.out, HL0.out, HG.out]
      try simp only [Act.put, List.setIfInBounds_toArray, List.set_cons_zero, List.set_cons_succ]
      refine take_pair (i := 7) (j := 9) rfl rfl (by kernel_rfl) rfl rfl (fun K hK => ?_) (fun K hK => ?_)
      · go_simp
        refine Calls.mono (RB.out _ _ _ H) ?_
        rintro e W2 ⟨rfl, H2⟩
        refine hK.out _ _ trivial (fun _ => ?_)
        try simp only [Act.put, List.setIfInBounds_toArray, List.set_cons_zero, List.set_cons_succ]
        have T := ST2_7_8.out b1 W2 H2
        rw [HA0.out, HL0.out, HG.out] at T
        try simp only [Act.put, List.setIfInBounds_toArray, List.set_cons_zero, List.set_cons_succ] at T
        exact lcong (by kernel_rfl) T
      · obtain ⟨W2, b2, hr, H2⟩ := H.al2
        refine wp_of_run (exec_allocR rfl hr) ?_
        refine hK.out _ _ trivial (fun _ => ?_)
        try simp only [Act.put, List.setIfInBounds_toArray, List.set_cons_zero, List.set_cons_succ]
        have T := ST2_8_9.out b1 b2 W2 H2
        rw [HA0.out, HL0.out, HG.out] at T
        try simp only [Act.put, List.setIfInBounds_toArray, List.set_cons_zero, List.set_cons_succ] at T
        exact lcong (by kernel_rfl) T)
    have ST2_9 : Hid (∀ b2, ∀ W : World, bkS w1 w1.heap.size w1.heap.size (w1.heap.size + 1) (w1.heap.size + 2) NA CA [] 0 W none (some b2) → G 4 ((l0.setIfInBounds 2 true).setIfInBounds 9 true) ((a0.put (some 44) (.agg (rowV 32 (arrV R)))).put (some 13) (.pointer (some ⟨b2, 0, none⟩))) W) := (show ∀ b2, ∀ W : World, bkS w1 w1.heap.size w1.heap.size (w1.heap.size + 1) (w1.heap.size + 2) NA CA [] 0 W none (some b2) → G 4 ((l0.setIfInBounds 2 true).setIfInBounds 9 true) ((a0.put (some 44) (.agg (rowV 32 (arrV R)))).put (some 13) (.pointer (some ⟨b2, 0, none⟩))) W from by
      intro b2 W H
      rw [HA0.out, HL0.out, HG.out]
      try simp only [Act.put, List.setIfInBounds_toArray, List.set_cons_zero, List.set_cons_succ]
      refine take_pair (i := 7) (j := 8) rfl rfl (by kernel_rfl) rfl rfl (fun K hK => ?_) (fun K hK => ?_)
      · go_simp
        refine Calls.mono (RB.out _ _ _ H) ?_
        rintro e W2 ⟨rfl, H2⟩
        refine hK.out _ _ trivial (fun _ => ?_)
        try simp only [Act.put, List.setIfInBounds_toArray, List.set_cons_zero, List.set_cons_succ]
        have T := ST2_7_9.out b2 W2 H2
        rw [HA0.out, HL0.out, HG.out] at T
        try simp only [Act.put, List.setIfInBounds_toArray, List.set_cons_zero, List.set_cons_succ] at T
        exact lcong (by kernel_rfl) T
      · obtain ⟨W2, b1, hr, H2⟩ := H.al1
        refine wp_of_run (exec_allocR rfl hr) ?_
        refine hK.out _ _ trivial (fun _ => ?_)
        try simp only [Act.put, List.setIfInBounds_toArray, List.set_cons_zero, List.set_cons_succ]
        have T := ST2_8_9.out b1 b2 W2 H2
        rw [HA0.out, HL0.out, HG.out] at T
        try simp only [Act.put, List.setIfInBounds_toArray, List.set_cons_zero, List.set_cons_succ] at T
        exact lcong (by kernel_rfl) T)
    have ST2_7 : Hid (∀ W : World, bkS w1 w1.heap.size w1.heap.size (w1.heap.size + 1) (w1.heap.size + 2) NA CA NB CB W none none → G 4 ((l0.setIfInBounds 2 true).setIfInBounds 7 true) ((a0.put (some 44) (.agg (rowV 32 (arrV R)))).put (some 49) (.agg (rowV 32 (arrV Wn)))) W) := (show ∀ W : World, bkS w1 w1.heap.size w1.heap.size (w1.heap.size + 1) (w1.heap.size + 2) NA CA NB CB W none none → G 4 ((l0.setIfInBounds 2 true).setIfInBounds 7 true) ((a0.put (some 44) (.agg (rowV 32 (arrV R)))).put (some 49) (.agg (rowV 32 (arrV Wn)))) W from by
      intro  W H
      rw [HA0.out, HL0.out, HG.out]
      try simp only [Act.put, List.setIfInBounds_toArray, List.set_cons_zero, List.set_cons_succ]
      refine take_pair (i := 8) (j := 9) rfl rfl (by kernel_rfl) rfl rfl (fun K hK => ?_) (fun K hK => ?_)
      · obtain ⟨W2, b1, hr, H2⟩ := H.al1
        refine wp_of_run (exec_allocR rfl hr) ?_
        refine hK.out _ _ trivial (fun _ => ?_)
        try simp only [Act.put, List.setIfInBounds_toArray, List.set_cons_zero, List.set_cons_succ]
        have T := ST2_7_8.out b1 W2 H2
        rw [HA0.out, HL0.out, HG.out] at T
        try simp only [Act.put, List.setIfInBounds_toArray, List.set_cons_zero, List.set_cons_succ] at T
        exact lcong (by kernel_rfl) T
      · obtain ⟨W2, b2, hr, H2⟩ := H.al2
        refine wp_of_run (exec_allocR rfl hr) ?_
        refine hK.out _ _ trivial (fun _ => ?_)
        try simp only [Act.put, List.setIfInBounds_toArray, List.set_cons_zero, List.set_cons_succ]
        have T := ST2_7_9.out b2 W2 H2
        rw [HA0.out, HL0.out, HG.out] at T
        try simp only [Act.put, List.setIfInBounds_toArray, List.set_cons_zero, List.set_cons_succ] at T
        exact lcong (by kernel_rfl) T)
    have ST8 : Hid (∀ b1, ∀ W : World, bkS w1 w1.heap.size w1.heap.size (w1.heap.size + 1) (w1.heap.size + 2) [] 0 [] 0 W (some b1) none → G 5 (l0.setIfInBounds 8 true) (a0.put (some 12) (.pointer (some ⟨b1, 0, none⟩))) W) := (show ∀ b1, ∀ W : World, bkS w1 w1.heap.size w1.heap.size (w1.heap.size + 1) (w1.heap.size + 2) [] 0 [] 0 W (some b1) none → G 5 (l0.setIfInBounds 8 true) (a0.put (some 12) (.pointer (some ⟨b1, 0, none⟩))) W from by
      intro b1 W H
      rw [HA0.out, HL0.out, HG.out]
      try simp only [Act.put, List.setIfInBounds_toArray, List.set_cons_zero, List.set_cons_succ]
      refine take_pair (i := 2) (j := 9) rfl rfl (by kernel_rfl) rfl rfl (fun K hK => ?_) (fun K hK => ?_)
      · go_simp
        refine Calls.mono (RA.out _ _ _ H) ?_
        rintro e W2 ⟨rfl, H2⟩
        refine hK.out _ _ trivial (fun _ => ?_)
        try simp only [Act.put, List.setIfInBounds_toArray, List.set_cons_zero, List.set_cons_succ]
        have T := ST2_8.out b1 W2 H2
        rw [HA0.out, HL0.out, HG.out] at T
        try simp only [Act.put, List.setIfInBounds_toArray, List.set_cons_zero, List.set_cons_succ] at T
        exact lcong (by kernel_rfl) T
      · obtain ⟨W2, b2, hr, H2⟩ := H.al2
        refine wp_of_run (exec_allocR rfl hr) ?_
        refine hK.out _ _ trivial (fun _ => ?_)
        try simp only [Act.put, List.setIfInBounds_toArray, List.set_cons_zero, List.set_cons_succ]
        have T := ST8_9.out b1 b2 W2 H2
        rw [HA0.out, HL0.out, HG.out] at T
        try simp only [Act.put, List.setIfInBounds_toArray, List.set_cons_zero, List.set_cons_succ] at T
        exact lcong (by kernel_rfl) T)
    have ST9 : Hid (∀ b2, ∀ W : World, bkS w1 w1.heap.size w1.heap.size (w1.heap.size + 1) (w1.heap.size + 2) [] 0 [] 0 W none (some b2) → G 5 (l0.setIfInBounds 9 true) (a0.put (some 13) (.pointer (some ⟨b2, 0, none⟩))) W) := (show ∀ b2, ∀ W : World, bkS w1 w1.heap.size w1.heap.size (w1.heap.size + 1) (w1.heap.size + 2) [] 0 [] 0 W none (some b2) → G 5 (l0.setIfInBounds 9 true) (a0.put (some 13) (.pointer (some ⟨b2, 0, none⟩))) W from by
      intro b2 W H
      rw [HA0.out, HL0.out, HG.out]
      try simp only [Act.put, List.setIfInBounds_toArray, List.set_cons_zero, List.set_cons_succ]
      refine take_pair (i := 2) (j := 8) rfl rfl (by kernel_rfl) rfl rfl (fun K hK => ?_) (fun K hK => ?_)
      · go_simp
        refine Calls.mono (RA.out _ _ _ H) ?_
        rintro e W2 ⟨rfl, H2⟩
        refine hK.out _ _ trivial (fun _ => ?_)
        try simp only [Act.put, List.setIfInBounds_toArray, List.set_cons_zero, List.set_cons_succ]
        have T := ST2_9.out b2 W2 H2
        rw [HA0.out, HL0.out, HG.out] at T
        try simp only [Act.put, List.setIfInBounds_toArray, List.set_cons_zero, List.set_cons_succ] at T
        exact lcong (by kernel_rfl) T
      · obtain ⟨W2, b1, hr, H2⟩ := H.al1
        refine wp_of_run (exec_allocR rfl hr) ?_
        refine hK.out _ _ trivial (fun _ => ?_)
        try simp only [Act.put, List.setIfInBounds_toArray, List.set_cons_zero, List.set_cons_succ]
        have T := ST8_9.out b1 b2 W2 H2
        rw [HA0.out, HL0.out, HG.out] at T
        try simp only [Act.put, List.setIfInBounds_toArray, List.set_cons_zero, List.set_cons_succ] at T
        exact lcong (by kernel_rfl) T)
    have ST2 : Hid (∀ W : World, bkS w1 w1.heap.size w1.heap.size (w1.heap.size + 1) (w1.heap.size + 2) NA CA [] 0 W none none → G 5 (l0.setIfInBounds 2 true) (a0.put (some 44) (.agg (rowV 32 (arrV R)))) W) := (show ∀ W : World, bkS w1 w1.heap.size w1.heap.size (w1.heap.size + 1) (w1.heap.size + 2) NA CA [] 0 W none none → G 5 (l0.setIfInBounds 2 true) (a0.put (some 44) (.agg (rowV 32 (arrV R)))) W from by
      intro  W H
      rw [HA0.out, HL0.out, HG.out]
      try simp only [Act.put, List.setIfInBounds_toArray, List.set_cons_zero, List.set_cons_succ]
      refine take_threeG (i := 7) (j := 8) (k := 9) rfl rfl rfl (by kernel_rfl) rfl rfl rfl (fun K hK => ?_) (fun K hK => ?_) (fun K hK => ?_)
      · go_simp
        refine Calls.mono (RB.out _ _ _ H) ?_
        rintro e W2 ⟨rfl, H2⟩
        refine hK.out _ _ trivial (fun _ => ?_)
        try simp only [Act.put, List.setIfInBounds_toArray, List.set_cons_zero, List.set_cons_succ]
        have T := ST2_7.out  W2 H2
        rw [HA0.out, HL0.out, HG.out] at T
        try simp only [Act.put, List.setIfInBounds_toArray, List.set_cons_zero, List.set_cons_succ] at T
        exact lcong (by kernel_rfl) T
      · obtain ⟨W2, b1, hr, H2⟩ := H.al1
        refine wp_of_run (exec_allocR rfl hr) ?_
        refine hK.out _ _ trivial (fun _ => ?_)
        try simp only [Act.put, List.setIfInBounds_toArray, List.set_cons_zero, List.set_cons_succ]
        have T := ST2_8.out b1 W2 H2
        rw [HA0.out, HL0.out, HG.out] at T
        try simp only [Act.put, List.setIfInBounds_toArray, List.set_cons_zero, List.set_cons_succ] at T
        exact lcong (by kernel_rfl) T
      · obtain ⟨W2, b2, hr, H2⟩ := H.al2
        refine wp_of_run (exec_allocR rfl hr) ?_
        refine hK.out _ _ trivial (fun _ => ?_)
        try simp only [Act.put, List.setIfInBounds_toArray, List.set_cons_zero, List.set_cons_succ]
        have T := ST2_9.out b2 W2 H2
        rw [HA0.out, HL0.out, HG.out] at T
        try simp only [Act.put, List.setIfInBounds_toArray, List.set_cons_zero, List.set_cons_succ] at T
        exact lcong (by kernel_rfl) T)
    have ST : Hid (∀ W : World, bkS w1 w1.heap.size w1.heap.size (w1.heap.size + 1) (w1.heap.size + 2) [] 0 [] 0 W none none → G 6 l0 a0 W) := (show ∀ W : World, bkS w1 w1.heap.size w1.heap.size (w1.heap.size + 1) (w1.heap.size + 2) [] 0 [] 0 W none none → G 6 l0 a0 W from by
      intro  W H
      rw [HA0.out, HL0.out, HG.out]
      try simp only [Act.put, List.setIfInBounds_toArray, List.set_cons_zero, List.set_cons_succ]
      refine take_threeG (i := 2) (j := 8) (k := 9) rfl rfl rfl (by kernel_rfl) rfl rfl rfl (fun K hK => ?_) (fun K hK => ?_) (fun K hK => ?_)
      · go_simp
        refine Calls.mono (RA.out _ _ _ H) ?_
        rintro e W2 ⟨rfl, H2⟩
        refine hK.out _ _ trivial (fun _ => ?_)
        try simp only [Act.put, List.setIfInBounds_toArray, List.set_cons_zero, List.set_cons_succ]
        have T := ST2.out  W2 H2
        rw [HA0.out, HL0.out, HG.out] at T
        try simp only [Act.put, List.setIfInBounds_toArray, List.set_cons_zero, List.set_cons_succ] at T
        exact lcong (by kernel_rfl) T
      · obtain ⟨W2, b1, hr, H2⟩ := H.al1
        refine wp_of_run (exec_allocR rfl hr) ?_
        refine hK.out _ _ trivial (fun _ => ?_)
        try simp only [Act.put, List.setIfInBounds_toArray, List.set_cons_zero, List.set_cons_succ]
        have T := ST8.out b1 W2 H2
        rw [HA0.out, HL0.out, HG.out] at T
        try simp only [Act.put, List.setIfInBounds_toArray, List.set_cons_zero, List.set_cons_succ] at T
        exact lcong (by kernel_rfl) T
      · obtain ⟨W2, b2, hr, H2⟩ := H.al2
        refine wp_of_run (exec_allocR rfl hr) ?_
        refine hK.out _ _ trivial (fun _ => ?_)
        try simp only [Act.put, List.setIfInBounds_toArray, List.set_cons_zero, List.set_cons_succ]
        have T := ST9.out b2 W2 H2
        rw [HA0.out, HL0.out, HG.out] at T
        try simp only [Act.put, List.setIfInBounds_toArray, List.set_cons_zero, List.set_cons_succ] at T
        exact lcong (by kernel_rfl) T)
    exact ST.out W H
  case rest =>
    obtain ⟨b12, b13, rfl, rfl, b3, B3, ⟨G, H, ka3, kb3, nGc, nHc⟩, kc3, r12, r13, n12, n13⟩ := hcut
    rename World => w3
    obtain ⟨t3, s3, _, p3, r6, bw3⟩ := HS.out w3 b3
    have XE := extends_k (fun j => j = w1.heap.size + 2) (.pointer (some ⟨w1.heap.size + 2, 0, none⟩)) [] 0 (m : Int) (L.length : Int) old R path (.slice pa path.length pc) w3 (by omega) (by omega) (Or.inr ⟨_, rfl, kc3⟩) SA.out.1 SA.out.2.1 p3 (by have := HQ.out; omega) (fun h0 j hj e => by have := HVB.out.2.2 h0 j hj; have := HQ.out; omega) t3 (fun e => by have := HQ.out; omega) (by simp) (by omega)
    have l6 : ∀ j, j < 32 → w3.cell? ⟨w.heap.size, 0 + j, none⟩ = some (arrV old j) := fun j hj => by rw [Nat.zero_add]; exact r6.cell hj
    have l12 : ∀ j, j < 32 → w3.cell? ⟨b12, 0 + j, none⟩ = some (arrV R j) := fun j hj => by rw [Nat.zero_add]; exact r12.cell hj
    have ST4 : Hid (∀ w4, Fr (fun j => j = w1.heap.size + 2) w3 w4 → (∃ G, bookAt w4 G w1.heap.size NA CA) ∧ (∃ G, bookAt w4 G (w1.heap.size + 1) NB CB) ∧ Below w1.heap.size w1 w4 ∧ w4.rowIs w.heap.size 29 32 (arrV old) ∧ w4.rowIs b13 29 32 (arrV Wn)) := (show _ from fun w4 f4 => by
      have hb4 : Below w1.heap.size w1 w4 := b3.trans (f4.below (fun j hj => by omega) B3)
      exact ⟨⟨G, ka3.far (fun j hj hl => f4.block j hl (fun e => nGc (e ▸ hj))) f4.size⟩, ⟨H, kb3.far (fun j hj hl => f4.block j hl (fun e => nHc (e ▸ hj))) f4.size⟩, hb4, (HS.out w4 hb4).2.2.2.2.1, World.rowIs.of_block r13 (f4.block b13 (gRow_lt r13) n13)⟩)
    clear RA RB S2 b3 B3 ka3 kb3 nGc nHc kc3 r12 r13 n12 n13 t3 s3 p3 r6 bw3
    cases hE : extR (m : Int) (L.length : Int) old R path with
    | false =>
      have XF : Calls Tryd.prog 15 #[.pointer (some ⟨w1.heap.size + 2, 0, none⟩), .int .i64 (m : Int), .int .i64 (L.length : Int), .agg (rowV 32 (arrV old)), .agg (rowV 32 (arrV R)), .slice pa path.length pc] w3 fun e w' => e = .returned (.int .i64 10) ∧ Fr (fun j => j = w1.heap.size + 2) w3 w' := XE.mono fun e w' ⟨Fi, e1, _, _, f⟩ => ⟨by rw [e1, hE]; rfl, f⟩
      clear XE hE TB
      go_wp2_with (first | (refine wpList_load_w 29 (.tmp 6) rfl rfl w.heap.size 0 32 (arrV old) rfl _ Tryd.underlying29 rfl hi32' l6 ?_) | (refine wpList_load_w 29 (.tmp 12) rfl rfl b12 0 32 (arrV R) rfl _ Tryd.underlying29 rfl hi32' l12 ?_))
      refine XF.mono ?_
      rintro e w4 ⟨rfl, f4⟩
      obtain ⟨_, _, b4, _, _⟩ := ST4.out w4 f4
      have B4 : Hid (Below w.heap.size w w4) := (show Below w.heap.size w w4 from (HS.out w4 b4).2.2.2.2.2)
      have XA := gawake_any w4 (HS.out w4 b4).1
      clear XF f4 b4 ST4 l6 l12
      go_wp2_with fail
      refine XA.mono ?_
      rintro e x1 ⟨rfl, g1⟩
      have G1 : Hid (Below w.heap.size w x1) := (show Below w.heap.size w x1 from (show Below w.heap.size w w4 from B4.out).trans (g1.mono (show w.heap.size ≤ w4.heap.size from Below.size B4.out)))
      clear XA g1
      go_wp2
      go_ret
      exact ⟨rfl, G1.out⟩
    | true =>
      have XF : Calls Tryd.prog 15 #[.pointer (some ⟨w1.heap.size + 2, 0, none⟩), .int .i64 (m : Int), .int .i64 (L.length : Int), .agg (rowV 32 (arrV old)), .agg (rowV 32 (arrV R)), .slice pa path.length pc] w3 fun e w' => e = .returned (.int .i64 0) ∧ (∃ F, bookAt w' F (w1.heap.size + 2) (extN [] (m : Int) (L.length : Int) old path) (0 + extC (m : Int) (L.length : Int) path)) ∧ Fr (fun j => j = w1.heap.size + 2) w3 w' := XE.mono fun e w' ⟨Fi, e1, hk, _, f⟩ => ⟨by rw [e1, hE]; rfl, by
        rcases hk with ⟨e, _⟩ | ⟨k, e, hk⟩
        · cases e
        · have : k = w1.heap.size + 2 := by
            injection e with e; injection e with e; injection e with e; exact e.symm
          exact ⟨Fi, this ▸ hk⟩, f⟩
      have ENL := extN_len (m : Int) (L.length : Int) old path
      have ENS := extN_size (m : Int) (L.length : Int) old path (extR_no hE) SA.out.1 SA.out.2.2.2.2.2
      have TB2 := TB.out hE
      generalize extN [] (m : Int) (L.length : Int) old path = NC at XF ENL ENS TB2
      generalize (0 : Int) + extC (m : Int) (L.length : Int) path = CC at XF
      have HEN : Hid (NC.length ≤ 2 * path.length + 1 ∧ (∀ x ∈ NC, x.2.size ≤ 1000000000)) := (show _ from ⟨ENL, ENS⟩)
      have HTB : Hid (old ≠ Wn → ∃ s t, clashGo [] (NA ++ (NB ++ NC)) = some (s, t) ∧ s ≠ t) := (show _ from TB2)
      clear XE hE TB ENL ENS TB2
      go_wp2_with (first | (refine wpList_load_w 29 (.tmp 6) rfl rfl w.heap.size 0 32 (arrV old) rfl _ Tryd.underlying29 rfl hi32' l6 ?_) | (refine wpList_load_w 29 (.tmp 12) rfl rfl b12 0 32 (arrV R) rfl _ Tryd.underlying29 rfl hi32' l12 ?_))
      refine XF.mono ?_
      rintro e w4 ⟨rfl, ⟨FC, kc4⟩, f4⟩
      obtain ⟨⟨G, ka4⟩, ⟨H, kb4⟩, b4, r6, r13⟩ := ST4.out w4 f4
      have B4 : Hid (Below w.heap.size w w4) := (show Below w.heap.size w w4 from (HS.out w4 b4).2.2.2.2.2)
      have XA := gawake_any w4 (HS.out w4 b4).1
      have m6 : ∀ j, j < 32 → w4.cell? ⟨w.heap.size, 0 + j, none⟩ = some (arrV old j) := fun j hj => by rw [Nat.zero_add]; exact r6.cell hj
      have m13 : ∀ j, j < 32 → w4.cell? ⟨b13, 0 + j, none⟩ = some (arrV Wn j) := fun j hj => by rw [Nat.zero_add]; exact r13.cell hj
      have heq : ∀ wz : World, (Op.equalIn 10000 29 (.agg (rowV 32 (arrV old))) (.agg (rowV 32 (arrV Wn)))).run Tryd.prog wz = .ok (decide (old = Wn)) wz := fun wz => run_eq_sums wz 9998 SA.out.1 SA.out.2.2.1
      have KK : Hid (bookAt w4 G w1.heap.size NA CA ∧ bookAt w4 H (w1.heap.size + 1) NB CB ∧ bookAt w4 FC (w1.heap.size + 2) NC CC ∧ Below w1.heap.size w1 w4) := (show _ from ⟨ka4, kb4, kc4, b4⟩)
      clear XF f4 b4 ST4 l6 l12 ka4 kb4 kc4 r6 r13
      by_cases hOW : old = Wn
      · subst hOW
        rw [decide_eq_true rfl] at heq
        clear KK HTB
        go_wp2_with (first | (refine wpList_load_w 29 (.tmp 6) rfl rfl w.heap.size 0 32 (arrV old) rfl _ Tryd.underlying29 rfl hi32' m6 ?_) | (refine wpList_load_w 29 (.tmp 13) rfl rfl b13 0 32 (arrV old) rfl _ Tryd.underlying29 rfl hi32' m13 ?_))
        refine XA.mono ?_
        rintro e x1 ⟨rfl, g1⟩
        have G1 : Hid (Below w.heap.size w x1) := (show Below w.heap.size w x1 from (show Below w.heap.size w w4 from B4.out).trans (g1.mono (show w.heap.size ≤ w4.heap.size from Below.size B4.out)))
        clear XA g1
        go_wp2
        go_ret
        exact ⟨rfl, G1.out⟩
      · rw [decide_eq_false hOW] at heq
        obtain ⟨sa, ta, hcl, hst⟩ := HTB.out hOW
        obtain ⟨w5, hw5⟩ : ∃ w5, w5 = w4.alloc (.cells #[.pointer (some ⟨w1.heap.size, 0, none⟩), .pointer (some ⟨w1.heap.size + 1, 0, none⟩), .pointer (some ⟨w1.heap.size + 2, 0, none⟩)] 30) := ⟨_, rfl⟩
        have b5 : Below w4.heap.size w4 w5 := by rw [hw5]; exact (Below.refl _ _).alloc (Nat.le_refl _) _
        have r5 : w5.rowIs w4.heap.size 30 3 (fun i => .pointer (some ⟨w1.heap.size + i, 0, none⟩)) := by
          rw [hw5]
          refine rowIs_new w4 _ _ 3 _ rfl (fun i hi => ?_)
          match i, hi with
          | 0, _ => rfl
          | 1, _ => rfl
          | 2, _ => rfl
        have hbk : isBooks w5 (.slice (some ⟨w4.heap.size, 0, none⟩) 3 3) 3 (threeB NA NB NC) := by
          refine Or.inr ⟨w4.heap.size, 0, 3, fun i => .pointer (some ⟨w1.heap.size + i, 0, none⟩), rfl, r5.lt, by unfold maxLen; omega, fun i hi => ⟨by rw [Nat.zero_add]; exact r5.cell hi, Or.inr ?_⟩⟩
          match i, hi with
          | 0, _ => exact ⟨_, G, CA, rfl, KK.out.1.below b5 (Nat.le_refl _)⟩
          | 1, _ => exact ⟨_, H, CB, rfl, KK.out.2.1.below b5 (Nat.le_refl _)⟩
          | 2, _ => exact ⟨_, FC, CC, rfl, KK.out.2.2.1.below b5 (Nat.le_refl _)⟩
        have XC := clash_any 3 _ _ w5 hbk (by rw [joinF_threeB, List.length_append, List.length_append]; have := SZ.out; have := HEN.out; have := HQ.out; omega) (fun i hi x hx => by
          match i, hi with
          | 0, _ => exact SZ.out.2.2.1 x hx
          | 1, _ => exact SZ.out.2.2.2 x hx
          | 2, _ => exact HEN.out.2 x hx)
        rw [joinF_threeB, hcl] at XC
        have HST : Hid (sa ≠ ta) := (show sa ≠ ta from hst)
        have B5 : Hid (Below w4.heap.size w4 w5) := (show Below w4.heap.size w4 w5 from b5)
        clear XA hbk r5 b5 hcl hst HTB hOW
        go_wp2_with (first | (refine wpList_load_w 29 (.tmp 6) rfl rfl w.heap.size 0 32 (arrV old) rfl _ Tryd.underlying29 rfl hi32' m6 ?_) | (refine wpList_load_w 29 (.tmp 13) rfl rfl b13 0 32 (arrV Wn) rfl _ Tryd.underlying29 rfl hi32' m13 ?_))
        rw [← hw5]
        clear hw5 m6 m13 heq
        refine XC.mono ?_
        rintro e w6 ⟨xa, xb, fb, rfl, hans, b6⟩
        have b16 : Below w1.heap.size w1 w6 := KK.out.2.2.2.trans (((B5.out).trans (b6.mono B5.out.size)).mono KK.out.2.2.2.size)
        have B6 : Hid (Below w.heap.size w w6) := (show Below w.heap.size w w6 from (HS.out w6 b16).2.2.2.2.2)
        have XA := gawake_any w6 (HS.out w6 b16).1
        clear XC b6 b16
        obtain ⟨i1, i2, _, _, rfl⟩ := hans
        have c1 := convA w6 xa (sBytes sa) (Or.inl i1)
        have c2 := convA w6 xb (sBytes ta) (Or.inl i2)
        rw [strOf_sBytes] at c1 c2
        obtain ⟨ya, ca, rfl, _⟩ := anyBytes.slice (w := w6) (v := xa) (l := sBytes sa) (Or.inl i1)
        obtain ⟨yb, cb, rfl, _⟩ := anyBytes.slice (w := w6) (v := xb) (l := sBytes ta) (Or.inl i2)
        have hsn : (sa.toList == ta.toList) = false := by
          rw [str_beq]; exact decide_eq_false HST.out
        clear i1 i2
        go_wp2_with (first | (refine wpList_convG 40 9 (.tmp 76) rfl rfl rfl c1 ?_) | (refine wpList_convG 40 9 (.tmp 78) rfl rfl rfl c2 ?_))
        refine XA.mono ?_
        rintro e x1 ⟨rfl, g1⟩
        have G1 : Hid (Below w.heap.size w x1) := (show Below w.heap.size w x1 from (show Below w.heap.size w w6 from B6.out).trans (g1.mono (show w.heap.size ≤ w6.heap.size from Below.size B6.out)))
        clear XA g1
        go_wp2
        go_ret
        exact ⟨rfl, G1.out⟩
theorem growBinds_any (L : List (List Int)) (v : Value) (m : Int) (hmb : -9223372036854775808 ≤ m ∧ m ≤ 9223372036854775807) (f : Nat → Int) (hf : ∀ i, 0 ≤ f i ∧ f i ≤ 255) (path : List (List Int)) (pv : Value) (w : World) (ht : tabIs w) (h : sumsAt w v L) (hp : sumsAt w pv path) :
    Calls Tryd.prog 6 #[v, .int .i64 m, .agg (rowV 32 fun i => .int .u8 (f i)), pv] w fun e w' => e = .returned (.bool true) ∧ Below w.heap.size w w' := by
  rw [listF_row]
  have hold : isSum (listF f) := listF_sum hf
  generalize listF f = old at hold
  by_cases hok : L.length ≤ 150 ∧ path.length ≤ 60 ∧ 0 ≤ m ∧ m ≤ L.length
  · obtain ⟨h1, h2, h3, h4⟩ := hok
    obtain ⟨a, rfl⟩ : ∃ a : Nat, m = (a : Int) := ⟨m.toNat, by omega⟩
    exact growBinds_in L v a (by omega) h1 old hold path pv h2 w ht h hp
  have big : ∀ (M : List (List Int)) (x : Value), sumsAt w x M → ∃ a cap, x = .slice a M.length cap ∧ (M.length : Int) ≤ 9223372036854775807 := fun M x hx => by
    obtain ⟨_, a, cap, e, h3, h4, _⟩ := hx
    unfold maxLen at h4
    exact ⟨a, cap, e, by omega⟩
  obtain ⟨va, vc, rfl, q1⟩ := big L v h
  obtain ⟨pa, pc, rfl, q2⟩ := big path pv hp
  have p1 : (0 : Int) ≤ (L.length : Int) := by omega
  have p2 : (0 : Int) ≤ (path.length : Int) := by omega
  obtain ⟨w1, hw1⟩ : ∃ w1, w1 = w.alloc (.cells (rowV 32 (arrV old)) 29) := ⟨_, rfl⟩
  have b1 : Below w.heap.size w w1 := by rw [hw1]; exact (Below.refl _ _).alloc (Nat.le_refl _) _
  have XA := gawake_any w1 (ht.below b1 ht.1)
  have B1 : Hid (Below w.heap.size w w1) := (show Below w.heap.size w w1 from b1)
  clear h hp big ht b1
  by_cases c1 : L.length > 150
  · have c1' : (L.length : Int) > 150 := by omega
    go_enter Tryd.func6, Tryd.ntmps6
    go_upto_region 1 with fail
    rw [← hw1]
    clear hw1
    go_wp2_with fail
    refine XA.mono ?_
    rintro e x1 ⟨rfl, g1⟩
    have G1 : Hid (Below w.heap.size w x1) := (show Below w.heap.size w x1 from (show Below w.heap.size w w1 from B1.out).trans (g1.mono (show w.heap.size ≤ w1.heap.size from Below.size B1.out)))
    clear XA g1
    go_wp2
    go_ret
    exact ⟨rfl, G1.out⟩
  have c1' : ¬ (L.length : Int) > 150 := by omega
  by_cases c2 : path.length > 60
  · have c2' : (path.length : Int) > 60 := by omega
    go_enter Tryd.func6, Tryd.ntmps6
    go_upto_region 1 with fail
    rw [← hw1]
    clear hw1
    go_wp2_with fail
    refine XA.mono ?_
    rintro e x1 ⟨rfl, g1⟩
    have G1 : Hid (Below w.heap.size w x1) := (show Below w.heap.size w x1 from (show Below w.heap.size w w1 from B1.out).trans (g1.mono (show w.heap.size ≤ w1.heap.size from Below.size B1.out)))
    clear XA g1
    go_wp2
    go_ret
    exact ⟨rfl, G1.out⟩
  have c2' : ¬ (path.length : Int) > 60 := by omega
  by_cases c3 : m < 0
  · go_enter Tryd.func6, Tryd.ntmps6
    go_upto_region 1 with fail
    rw [← hw1]
    clear hw1
    go_wp2_with fail
    refine XA.mono ?_
    rintro e x1 ⟨rfl, g1⟩
    have G1 : Hid (Below w.heap.size w x1) := (show Below w.heap.size w x1 from (show Below w.heap.size w w1 from B1.out).trans (g1.mono (show w.heap.size ≤ w1.heap.size from Below.size B1.out)))
    clear XA g1
    go_wp2
    go_ret
    exact ⟨rfl, G1.out⟩
  · have c4 : m > (L.length : Int) := by omega
    go_enter Tryd.func6, Tryd.ntmps6
    go_upto_region 1 with fail
    rw [← hw1]
    clear hw1
    go_wp2_with fail
    refine XA.mono ?_
    rintro e x1 ⟨rfl, g1⟩
    have G1 : Hid (Below w.heap.size w x1) := (show Below w.heap.size w x1 from (show Below w.heap.size w w1 from B1.out).trans (g1.mono (show w.heap.size ≤ w1.heap.size from Below.size B1.out)))
    clear XA g1
    go_wp2
    go_ret
    exact ⟨rfl, G1.out⟩
end Go.Proofs.YthpnenblmkdmcaaDoor

/- The frame of a law's row, where no package variable is laid. -/
namespace Go.Proofs.YthpnenblmkdmcaaDoor
open Go.RowKit Go.Deep Go.ChangeShapes Go.WideShapes Go.ChangeAt
theorem own : ownKnob Tryd.prog.godebug = none := by kernel_rfl
theorem laidOut : laidOutB Tryd.prog = true := by kernel_rfl
theorem bounds_u64 {a : Int} (h : (Lit.int .u64 a).wf = true) : 0 ≤ a ∧ a < 18446744073709551616 := by
  have h' : 0 ≤ a ∧ a ≤ 18446744073709551615 := by simpa [Lit.wf, IntKind.min, IntKind.max, IntKind.signed, IntKind.bits] using h
  omega
end Go.Proofs.YthpnenblmkdmcaaDoor

/- Slices that came in, opened. -/
namespace Go.Proofs.YthpnenblmkdmcaaDoor
open Go.RowKit Go.Deep Go.ChangeShapes Go.WideShapes

theorem bounds_i64 {a : Int} (h : (Lit.int .i64 a).wf = true) : -9223372036854775808 ≤ a ∧ a ≤ 9223372036854775807 := by
  simpa [Lit.wf, IntKind.min, IntKind.max, IntKind.signed, IntKind.bits] using h
/-- A SLICE, opened at every index. -/
theorem open_any {H : Type} {enc : TypeId × Value → H} {P : Program} {w : World} {base b0 : Nat} {sp : Nat → Bool} {held : Bool} {r : Reach} {t e : TypeId} {v : Value} {d : DataW H} {ps : List MemPlace} (c : Nat)
    (hu : P.underlying t = some (.slice e)) (hc : P.cellsOf e = c) (hval : Value.okWide P w r b0 t v) (hd : DataW.Trod enc P w base sp held t v d ps) :
    (v = .slice none 0 0) ∨ ∃ pb po len cap : Nat, v = .slice (some ⟨pb, po, none⟩) len cap ∧ len ≤ cap ∧ cap ≤ maxLen ∧ pb < w.heap.size ∧
      ∀ i, i < len → ∃ (cs' : List Value) (n : Nat) (D : DataW H × List MemPlace), cs'.length = c ∧ (∀ j, j < c → w.cell? ⟨pb, po + i * c + j, none⟩ = cs'[j]?) ∧ DataW.trod enc P w base sp held n e cs' = some D := by
  obtain ⟨a, len, cap, rfl⟩ := okWide_slice hu hval
  obtain ⟨fuel, hf⟩ := hd
  rcases open_slice hu hf with ⟨h0, _⟩ | ⟨a', len', cap', m, n, D, Pl, h0, _, h1, h2, h3, _, h4⟩
  · left; simpa [Value.cells] using h0
  · right
    have h0' : a = some a' ∧ len = len' ∧ cap = cap' := by simpa [Value.cells] using h0
    obtain ⟨rfl, rfl, rfl⟩ := h0'
    have hlm : len ≤ m := by rw [h3]; split <;> omega
    simp only [Value.okWide, hu, Cell.okWide, Cell.ok] at hval
    obtain ⟨_, _, _, hsp, row, cells, hsh, _⟩ := hval
    obtain ⟨pb, po, spot⟩ := a'
    obtain rfl : spot = none := hsp
    refine ⟨pb, po, len, cap, rfl, h1, h2, ?_, fun i hi => ?_⟩
    · unfold World.shape? at hsh
      cases hq : w.heap[pb]? with
      | none => rw [hq] at hsh; cases hsh
      | some o => exact (Array.getElem?_eq_some_iff.1 hq).1
    · obtain ⟨cs', g1, g2⟩ := h4 i (by omega)
      rw [hc] at g1
      obtain ⟨_, hlen, hcell⟩ := World.cells?_some g1
      refine ⟨cs', n, _, hlen, fun j hj => ?_, g2⟩
      have e0 := hcell j (by omega)
      rw [add_add, Addr.add_mid] at e0
      rw [Nat.add_assoc]; exact e0
theorem open_bytes_slice {H : Type} {enc : TypeId × Value → H} {P : Program} {w : World} {base b0 : Nat} {sp : Nat → Bool} {held : Bool} {r : Reach} {t e : TypeId} {v : Value} {d : DataW H} {ps : List MemPlace}
    (hu : P.underlying t = some (.slice e)) (he : P.underlying e = some (.int .u8)) (hc : P.cellsOf e = 1) (hval : Value.okWide P w r b0 t v) (hd : DataW.Trod enc P w base sp held t v d ps) : ∃ l, isBytes w v l := by
  rcases open_any 1 hu hc hval hd with rfl | ⟨pb, po, len, cap, rfl, h1, h2, h3, h4⟩
  · exact ⟨[], Or.inl ⟨rfl, rfl⟩⟩
  · have each : ∀ i, i < len → ∃ z : Int, w.cell? ⟨pb, po + i, none⟩ = some (.int .u8 z) ∧ 0 ≤ z ∧ z ≤ 255 := fun i hi => by
      obtain ⟨cs', n, D, g1, g2, g3⟩ := h4 i hi
      obtain ⟨z, rfl, _, hw⟩ := DataW.trod_int he g3
      have := g2 0 (by omega)
      rw [Nat.mul_one, Nat.add_zero] at this
      exact ⟨z, this, bounds_u8 hw⟩
    obtain ⟨f, hf⟩ := choose_lt each
    have hg : ∀ i, i < len → ((List.range len).map f).getD i 0 = f i := fun i hi => by
      rw [List.getD_eq_getElem?_getD, List.getElem?_map, List.getElem?_range hi]; rfl
    refine ⟨(List.range len).map f, Or.inr ⟨pb, po, cap, by simp, by simpa using h1, h2, h3, fun i hi => ?_, fun i => ?_⟩⟩
    · have hi' : i < len := by simpa using hi
      rw [hg i hi']; exact (hf i hi').1
    · by_cases hi : i < len
      · rw [hg i hi]; exact (hf i hi).2
      · rw [List.getD_eq_getElem?_getD, List.getElem?_eq_none (by simp; omega)]; exact ⟨by simp, by simp⟩
end Go.Proofs.YthpnenblmkdmcaaDoor

/- Rows of sums that came in, opened. -/
namespace Go.Proofs.YthpnenblmkdmcaaDoor
set_option maxRecDepth 100000
open Go.RowKit Go.Deep Go.ChangeShapes Go.WideShapes

theorem sum_cells {H : Type} {enc : TypeId × Value → H} {w : World} {base : Nat} {held : Bool} {n : Nat} {cs' : List Value} {D : DataW H × List MemPlace} (g1 : cs'.length = 32)
    (g3 : DataW.trod enc Tryd.prog w base (fun _ => true) held n 29 cs' = some D) : ∃ q : List Int, isSum q ∧ ∀ j, j < 32 → cs'[j]? = some (arrV q j) := by
  have c8 : Tryd.prog.cellsOf 5 = 1 := by kernel_rfl
  obtain ⟨xs, m', rfl, _, hlen, _, hx⟩ := DataW.trod_array Tryd.underlying29 g3
  have hsum : ∀ j, j < 32 → ∃ z : Int, cs'[j]? = some (.int .u8 z) ∧ 0 ≤ z ∧ z ≤ 255 := fun j hj => by
    have h5 := hx j hj
    rw [c8, Nat.mul_one] at h5
    have hxj : j < xs.length := by omega
    rw [List.getElem?_eq_getElem hxj] at h5
    obtain ⟨z, hz, _, hw⟩ := DataW.trod_int Tryd.underlying5 h5
    refine ⟨z, ?_, bounds_u8 hw⟩
    have := congrArg (fun l => l[0]?) hz
    simp only [List.getElem?_take, List.getElem?_drop, List.getElem?_cons_zero] at this
    simpa using this
  obtain ⟨f, hf⟩ := choose_lt hsum
  refine ⟨(List.range 32).map f, ⟨by simp, fun j => ?_⟩, fun j hj => ?_⟩
  · by_cases hj : j < 32
    · have : ((List.range 32).map f).getD j 0 = f j := by
        rw [List.getD_eq_getElem?_getD, List.getElem?_map, List.getElem?_range hj]; rfl
      rw [this]; exact (hf j hj).2
    · rw [List.getD_eq_getElem?_getD, List.getElem?_eq_none (by simp; omega)]; exact ⟨by simp, by simp⟩
  · have : ((List.range 32).map f).getD j 0 = f j := by
      rw [List.getD_eq_getElem?_getD, List.getElem?_map, List.getElem?_range hj]; rfl
    rw [arrV, this]; exact (hf j hj).1
theorem open_sums {H : Type} {enc : TypeId × Value → H} {w : World} {base b0 : Nat} {held : Bool} {r : Reach} {v : Value} {d : DataW H} {ps : List MemPlace}
    (hval : Value.okWide Tryd.prog w r b0 22 v) (hd : DataW.Trod enc Tryd.prog w base (fun _ => true) held 22 v d ps) : ∃ L, sumsAt w v L := by
  rcases open_any 32 Tryd.underlying22 (by kernel_rfl) hval hd with rfl | ⟨pb, po, len, cap, rfl, h1, h2, h3, h4⟩
  · exact ⟨[], sumsAt.nil w⟩
  · have each : ∀ i, i < len → ∃ q : List Int, isSum q ∧ ∀ j, j < 32 → w.cell? ⟨pb, po + i * 32 + j, none⟩ = some (arrV q j) := fun i hi => by
      obtain ⟨cs', n, D, g1, g2, g3⟩ := h4 i hi
      obtain ⟨q, e1, e2⟩ := sum_cells (by omega) g3
      exact ⟨q, e1, fun j hj => by rw [g2 j hj]; exact e2 j hj⟩
    obtain ⟨f, hf⟩ := choose_lt each
    have hl : ((List.range len).map f).length = len := by simp
    refine ⟨(List.range len).map f, fun x hx => ?_, _, cap, by rw [hl], by rw [hl]; exact h1, h2, fun h0 => ⟨pb, po, rfl, h3, fun i hi j hj => ?_⟩⟩
    · obtain ⟨i, hi, rfl⟩ := List.mem_map.1 hx
      exact (hf i (List.mem_range.1 hi)).1
    · have e : ((List.range len).map f)[i] = f i := by simp
      rw [e]; exact (hf i (by omega)).2 j hj
end Go.Proofs.YthpnenblmkdmcaaDoor

/- The table of the rounds' constants, as the row lists it; a world that holds it, for the witness. -/
namespace Go.Proofs.YthpnenblmkdmcaaDoor
set_option maxRecDepth 100000
open Go.RowKit Go.Deep Go.ChangeShapes Go.WideShapes Go.ChangeAt

/-- the table's name. -/
def tabName : String := Rows.growPathsRow.named.getD 0 ""
theorem gTab : Tryd.prog.globalNamed tabName = some 0 := by kernel_rfl
theorem gTabType : (Tryd.prog.globals[0]?).map (·.type) = some 124 := by kernel_rfl
theorem cellsTab : Tryd.prog.cellsOf 124 = 64 := by kernel_rfl
theorem cellsWord : Tryd.prog.cellsOf 91 = 1 := by kernel_rfl
/-- what the row's list gives. -/
theorem laid_tab {W : World} (h : laidMetH Tryd.prog Rows.growPathsRow.laid W) : tabIs W := by
  have ht : Lib.TabIs Tryd.prog W tabName .u32 kList := Lib.tabIs_of_head (rest := []) gTab gTabType Tryd.underlying124 Tryd.underlying91 cellsWord cellsTab h
  refine ⟨?_, fun i hi => ht.cell gTab i (by simpa [kList] using hi)⟩
  have h0 := ht.cell gTab 0 (by decide)
  exact block_lt_of_cell h0
/-- the table's block, laid. -/
def kObj : Obj → Obj
  | .cells _ t frozen => .cells #[.int .u32 1116352408, .int .u32 1899447441, .int .u32 3049323471, .int .u32 3921009573, .int .u32 961987163, .int .u32 1508970993, .int .u32 2453635748, .int .u32 2870763221, .int .u32 3624381080, .int .u32 310598401, .int .u32 607225278, .int .u32 1426881987, .int .u32 1925078388, .int .u32 2162078206, .int .u32 2614888103, .int .u32 3248222580, .int .u32 3835390401, .int .u32 4022224774, .int .u32 264347078, .int .u32 604807628, .int .u32 770255983, .int .u32 1249150122, .int .u32 1555081692, .int .u32 1996064986, .int .u32 2554220882, .int .u32 2821834349, .int .u32 2952996808, .int .u32 3210313671, .int .u32 3336571891, .int .u32 3584528711, .int .u32 113926993, .int .u32 338241895, .int .u32 666307205, .int .u32 773529912, .int .u32 1294757372, .int .u32 1396182291, .int .u32 1695183700, .int .u32 1986661051, .int .u32 2177026350, .int .u32 2456956037, .int .u32 2730485921, .int .u32 2820302411, .int .u32 3259730800, .int .u32 3345764771, .int .u32 3516065817, .int .u32 3600352804, .int .u32 4094571909, .int .u32 275423344, .int .u32 430227734, .int .u32 506948616, .int .u32 659060556, .int .u32 883997877, .int .u32 958139571, .int .u32 1322822218, .int .u32 1537002063, .int .u32 1747873779, .int .u32 1955562222, .int .u32 2024104815, .int .u32 2227730452, .int .u32 2361852424, .int .u32 2428436474, .int .u32 2756734187, .int .u32 3204031479, .int .u32 3329325298] t frozen
  | o => o
end Go.Proofs.YthpnenblmkdmcaaDoor
