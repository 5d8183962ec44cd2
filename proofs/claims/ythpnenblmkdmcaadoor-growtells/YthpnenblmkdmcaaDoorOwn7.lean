import Derived.Test.YthpnenblmkdmcaaDoorOwn6
set_option linter.unusedVariables false
set_option linter.unusedSimpArgs false
/- grow.tell: its walk. -/
namespace Go.Proofs.YthpnenblmkdmcaaDoor
set_option linter.unusedSimpArgs false
set_option linter.unusedVariables false
open Go.RowKit Go.Deep Go.Shelf
attribute [local go_sem] Oper.semAt_some

set_option maxRecDepth 100000 in
set_option maxHeartbeats 4000000 in
theorem tell_k (F : Nat → Prop) (kv : Value) (N : List Nt) (c : Int) (Y : List (Nat × Bool)) (B : Nat) (wv : Value) (old : List Int) (path : List (List Int)) (pv : Value) (w : World) (hY : Y.length ≤ 63) (hk : bkAt kv w F N c)
    (hst : newSteps w B wv Y) (hstF : ∀ j, wv.ownBlock = some j → ¬ F j) (ho : isSum old) (hp : sumsAt w pv path) (hpF : 0 < path.length → ∀ j, pv.ownBlock = some j → ¬ F j)
    (hpl : path.length = Y.length + if gIn Y = true then 1 else 0) (ht : tabIs w) (hF0 : ¬ F 0) (hN : N.length < 100000) (hc : 0 ≤ c ∧ c < 100000000) :
    Calls Tryd.prog 28 #[kv, wv, sumV old, pv] w fun e w' => ∃ Fi, e = .returned (.tuple #[sumV (gTell Y old path).1, sumV (gTell Y old path).2]) ∧ bkAt kv w' Fi (gTellN N Y old path) (c + gCnt (gUps Y (gRest Y path))) ∧ (∀ j, Fi j → F j ∨ w.heap.size ≤ j) ∧ Fr F w w' := by
  obtain ⟨ka, rfl⟩ : ∃ ka, kv = .pointer ka := by
    rcases hk with ⟨e, _⟩ | ⟨k, e, _⟩ <;> exact ⟨_, e⟩
  have hFlt := hk.lt
  have hvl : 0 < path.length → ∀ j, pv.ownBlock = some j → j < w.heap.size := fun h0 j hj => by
    obtain ⟨_, a, cap, rfl, _, _, h5⟩ := hp
    obtain ⟨g, o, rfl, hg, _⟩ := h5 h0
    have : g = j := by simpa [Value.ownBlock] using hj
    omega
  obtain ⟨sa, sc, rfl, hsc, _, hscell⟩ := newSteps.slice hst
  have hsl : ∃ a cap, pv = .slice a path.length cap := by
    obtain ⟨_, a, cap, e, _⟩ := hp; exact ⟨a, cap, e⟩
  obtain ⟨pa, pc, rfl⟩ := hsl
  have hz32 := zero_s32
  obtain ⟨w1, hw1⟩ : ∃ w1, w1 = (((((w.alloc (.cells #[.pointer ka] 30)).alloc (.cells #[.slice sa Y.length sc] 47)).alloc (.cells (rowV 32 (arrV old)) 29)).alloc (.cells #[.slice pa path.length pc] 22)).alloc (.cells (rowV 32 (fun _ => .int .u8 0)) 29)).alloc (.cells (rowV 32 (fun _ => .int .u8 0)) 29) := ⟨_, rfl⟩
  have z1 : w1.heap.size = w.heap.size + 6 := by rw [hw1]; simp
  have b1 : Below w.heap.size w w1 := by rw [hw1]; exact ((((((Below.refl _ _).alloc (Nat.le_refl _) _).alloc (by simp) _).alloc (by first | (simp; done) | (simp; omega)) _).alloc (by first | (simp; done) | (simp; omega)) _).alloc (by first | (simp; done) | (simp; omega)) _).alloc (by first | (simp; done) | (simp; omega)) _
  have x4 : w1.rowIs w.heap.size 30 1 (fun _ => .pointer ka) := by
    have r1 := rowIs_one w (.pointer ka) 30
    rw [hw1]; exact ((((((Below.refl (w.alloc (.cells #[.pointer ka] 30)).heap.size _).alloc (Nat.le_refl _) _).alloc (by simp) _).alloc (by first | (simp; done) | (simp; omega)) _).alloc (by first | (simp; done) | (simp; omega)) _).alloc (by first | (simp; done) | (simp; omega)) _).row r1 (by simp)
  have x5 : w1.rowIs (w.heap.size + 1) 47 1 (fun _ => .slice sa Y.length sc) := by
    have r1 := rowIs_one (w.alloc (.cells #[.pointer ka] 30)) (.slice sa Y.length sc) 47
    rw [World.size_alloc] at r1
    rw [hw1]; exact (((((Below.refl ((w.alloc (.cells #[.pointer ka] 30)).alloc (.cells #[.slice sa Y.length sc] 47)).heap.size _).alloc (Nat.le_refl _) _).alloc (by simp) _).alloc (by first | (simp; done) | (simp; omega)) _).alloc (by first | (simp; done) | (simp; omega)) _).row r1 (by simp)
  have x6 : w1.rowIs (w.heap.size + 2) 29 32 (arrV old) := by
    have r1 := rowIs_box ((w.alloc (.cells #[.pointer ka] 30)).alloc (.cells #[.slice sa Y.length sc] 47)) 29 32 (arrV old)
    rw [World.size_alloc, World.size_alloc] at r1
    rw [hw1]; exact ((((Below.refl (((w.alloc (.cells #[.pointer ka] 30)).alloc (.cells #[.slice sa Y.length sc] 47)).alloc (.cells (rowV 32 (arrV old)) 29)).heap.size _).alloc (Nat.le_refl _) _).alloc (by simp) _).alloc (by first | (simp; done) | (simp; omega)) _).row r1 (by simp)
  have x7 : w1.rowIs (w.heap.size + 3) 22 1 (fun _ => .slice pa path.length pc) := by
    have r1 := rowIs_one (((w.alloc (.cells #[.pointer ka] 30)).alloc (.cells #[.slice sa Y.length sc] 47)).alloc (.cells (rowV 32 (arrV old)) 29)) (.slice pa path.length pc) 22
    rw [World.size_alloc, World.size_alloc, World.size_alloc] at r1
    rw [hw1]; exact (((Below.refl ((((w.alloc (.cells #[.pointer ka] 30)).alloc (.cells #[.slice sa Y.length sc] 47)).alloc (.cells (rowV 32 (arrV old)) 29)).alloc (.cells #[.slice pa path.length pc] 22)).heap.size _).alloc (Nat.le_refl _) _).alloc (by simp) _).row r1 (by simp)
  have x8 : w1.rowIs (w.heap.size + 4) 29 32 (fun _ => .int .u8 0) := by
    have r1 := rowIs_box ((((w.alloc (.cells #[.pointer ka] 30)).alloc (.cells #[.slice sa Y.length sc] 47)).alloc (.cells (rowV 32 (arrV old)) 29)).alloc (.cells #[.slice pa path.length pc] 22)) 29 32 (fun _ => .int .u8 0)
    rw [World.size_alloc, World.size_alloc, World.size_alloc, World.size_alloc] at r1
    rw [hw1]; exact ((Below.refl (((((w.alloc (.cells #[.pointer ka] 30)).alloc (.cells #[.slice sa Y.length sc] 47)).alloc (.cells (rowV 32 (arrV old)) 29)).alloc (.cells #[.slice pa path.length pc] 22)).alloc (.cells (rowV 32 (fun _ => .int .u8 0)) 29)).heap.size _).alloc (Nat.le_refl _) _).row r1 (by simp)
  have x9 : w1.rowIs (w.heap.size + 5) 29 32 (fun _ => .int .u8 0) := by
    have r1 := rowIs_box (((((w.alloc (.cells #[.pointer ka] 30)).alloc (.cells #[.slice sa Y.length sc] 47)).alloc (.cells (rowV 32 (arrV old)) 29)).alloc (.cells #[.slice pa path.length pc] 22)).alloc (.cells (rowV 32 (fun _ => .int .u8 0)) 29)) 29 32 (fun _ => .int .u8 0)
    rw [World.size_alloc, World.size_alloc, World.size_alloc, World.size_alloc, World.size_alloc] at r1
    rw [hw1]; exact r1
  have HK : Hid (bkAt (.pointer ka) w F N c) := (show bkAt (.pointer ka) w F N c from hk)
  have HSP : Hid (newSteps w B (.slice sa Y.length sc) Y) := (show newSteps w B (.slice sa Y.length sc) Y from hst)
  have HSF : Hid (∀ j, (Value.slice sa Y.length sc).ownBlock = some j → ¬ F j) := (show ∀ j, (Value.slice sa Y.length sc).ownBlock = some j → ¬ F j from hstF)
  have HSC : Hid (0 < Y.length → ∃ g, sa = some ⟨g, 0, none⟩ ∧ g < w.heap.size ∧ B ≤ g ∧ ∀ (i : Nat) (x : Nat × Bool), Y[i]? = some x → w.cell? ⟨g, i * 2, none⟩ = some (.int .i64 (x.1 : Int)) ∧ w.cell? ⟨g, i * 2 + 1, none⟩ = some (.bool x.2)) := (show _ from hscell)
  have HO : Hid (isSum old) := (show isSum old from ho)
  have HP : Hid (sumsAt w (.slice pa path.length pc) path) := (show sumsAt w (.slice pa path.length pc) path from hp)
  have HPF : Hid (0 < path.length → ∀ j, (Value.slice pa path.length pc).ownBlock = some j → j < w.heap.size ∧ ¬ F j) := (show 0 < path.length → ∀ j, (Value.slice pa path.length pc).ownBlock = some j → j < w.heap.size ∧ ¬ F j from fun h j hj => ⟨hvl h j hj, hpF h j hj⟩)
  have HPL : Hid (path.length = Y.length + if gIn Y = true then 1 else 0) := (show path.length = Y.length + if gIn Y = true then 1 else 0 from hpl)
  have HT : Hid (tabIs w) := (show tabIs w from ht)
  have HF0 : Hid (¬ F 0) := (show ¬ F 0 from hF0)
  have HFL : Hid (∀ j, F j → j < w.heap.size) := (show ∀ j, F j → j < w.heap.size from hFlt)
  have HN : Hid (N.length < 100000) := (show N.length < 100000 from hN)
  have HC : Hid (0 ≤ c ∧ c < 100000000) := (show 0 ≤ c ∧ c < 100000000 from hc)
  have B1 : Hid (Below w.heap.size w w1) := (show Below w.heap.size w w1 from b1)
  have Z1 : Hid (w1.heap.size = w.heap.size + 6) := (show w1.heap.size = w.heap.size + 6 from z1)
  have ROWS : Hid (w1.rowIs w.heap.size 30 1 (fun _ => .pointer ka) ∧ w1.rowIs (w.heap.size + 1) 47 1 (fun _ => .slice sa Y.length sc) ∧ w1.rowIs (w.heap.size + 2) 29 32 (arrV old) ∧ w1.rowIs (w.heap.size + 3) 22 1 (fun _ => .slice pa path.length pc) ∧
      w1.rowIs (w.heap.size + 4) 29 32 (fun _ => .int .u8 0) ∧ w1.rowIs (w.heap.size + 5) 29 32 (fun _ => .int .u8 0)) := (show _ from ⟨x4, x5, x6, x7, x8, x9⟩)
  have q0 : (Y.length : Int) ≤ 63 := by omega
  have q1 : (path.length : Int) ≤ 64 := by split at hpl <;> omega
  clear hk hst hstF hscell ho hp hpF hpl ht hF0 hFlt hN hc b1 z1 x4 x5 x6 x7 x8 x9 hvl
  unfold sumV
  refine callsIn_wide (n := 3) |>.1 ?_
  refine callsIn_of_wp_marks Tryd.func28 rfl trivial ?_ rfl
  refine wpIn_wide.2 ?_
  simp only [Tryd.ntmps28, List.size_toArray, List.length_cons, List.length_nil, Nat.reduceAdd, Nat.reduceSub, Array.replicate_succ, Array.replicate_zero, List.push_toArray, List.append_toArray, List.nil_append, List.cons_append]
  go_upto_region 1 with fail
  rw [← hw1]
  clear hw1
  refine wp_region_noPanic ?_
  refine wp_region_held_drew (S := fun w' => w'.rowIs (w.heap.size + 2) 29 32 (arrV old)) (by kernel_rfl) ROWS.out.2.2.1 (fun hHeld => ?_)
  refine take_load (i := 0) rfl (by kernel_rfl) (by kernel_rfl) (by kernel_rfl) 29 _ rfl (w.heap.size + 2) 0 32 (arrV old) rfl _ Tryd.underlying29 rfl (by kernel_rfl) (fun _ _ _ h => h) rfl hHeld (fun wz hz j hj => by rw [Nat.zero_add]; exact World.rowIs.cell hz hj) ?_
  try simp only [Act.put, List.setIfInBounds_toArray, List.set_cons_zero, List.set_cons_succ]
  refine take_load (i := 1) rfl (by kernel_rfl) (by kernel_rfl) (by kernel_rfl) 29 _ rfl (w.heap.size + 2) 0 32 (arrV old) rfl _ Tryd.underlying29 rfl (by kernel_rfl) (fun _ _ _ h => h) rfl hHeld (fun wz hz j hj => by rw [Nat.zero_add]; exact World.rowIs.cell hz hj) ?_
  try simp only [Act.put, List.setIfInBounds_toArray, List.set_cons_zero, List.set_cons_succ]
  obtain ⟨w2, hst, rw2, zw2, bw2⟩ := tell_store (q := old) (show w1.drew.rowIs (w.heap.size + 4) 29 32 (fun _ => .int .u8 0) from ROWS.out.2.2.2.2.1)
  refine take_one (i := 2) rfl (by kernel_rfl) rfl (fun K hK => ?_)
  unfold Oper.wp execOp
  simp only [Instr.storeAt, Instr.sureAddr, Sem.run_bind, Sem.run_pure, Result.andThen_ok]
  simp [Act.eval, hst, Oper.upon]
  clear hst
  have zd : w1.drew.heap.size = w1.heap.size := rfl
  have r6 := bw2.row (show w1.drew.rowIs (w.heap.size + 2) 29 32 (arrV old) from ROWS.out.2.2.1) (by have := Z1.out; omega) (by omega)
  refine hK.out _ _ r6 (fun hHeld => ?_)
  clear hK K
  try simp only [Act.put, List.setIfInBounds_toArray, List.set_cons_zero, List.set_cons_succ]
  obtain ⟨w3, hst, rw3, zw3, bw3⟩ := tell_store (q := old) (bw2.row (show w1.drew.rowIs (w.heap.size + 5) 29 32 (fun _ => .int .u8 0) from ROWS.out.2.2.2.2.2) (by have := Z1.out; omega) (by omega))
  refine take_one (i := 3) rfl (by kernel_rfl) rfl (fun K hK => ?_)
  unfold Oper.wp execOp
  simp only [Instr.storeAt, Instr.sureAddr, Sem.run_bind, Sem.run_pure, Result.andThen_ok]
  simp [Act.eval, hst, Oper.upon]
  clear hst
  have r6b := bw3.row r6 (by have := Z1.out; omega) (by omega)
  refine hK.out _ _ r6b (fun hHeld => ?_)
  clear hK K
  refine wpAnyH_done (by kernel_rfl) ?_ _
  refine NoPanic.normal ?_
  simp only [Nat.add_assoc, Nat.reduceAdd]
  have T3 : Hid (tellRows w.heap.size (.pointer ka) (.slice sa Y.length sc) (.slice pa path.length pc) old old w3 ∧ Below w.heap.size w w3) := (show _ ∧ _ from by
    have zz := Z1.out
    refine ⟨⟨bw3.row (bw2.row (show w1.drew.rowIs w.heap.size 30 1 (fun _ => .pointer ka) from ROWS.out.1) (by omega) (by omega)) (by omega) (by omega), bw3.row (bw2.row (show w1.drew.rowIs (w.heap.size + 1) 47 1 (fun _ => .slice sa Y.length sc) from ROWS.out.2.1) (by omega) (by omega)) (by omega) (by omega),
      bw3.row (bw2.row (show w1.drew.rowIs (w.heap.size + 3) 22 1 (fun _ => .slice pa path.length pc) from ROWS.out.2.2.2.1) (by omega) (by omega)) (by omega) (by omega), bw3.row rw2 (by omega) (by omega), rw3⟩, ?_⟩
    exact B1.out.trans (((Below.refl w.heap.size w1).drew).trans ((bw2.below' (by omega) (by omega)).trans (bw3.below' (by omega) (by omega)))))
  have hYl : Y.length ≤ 1000 := by omega
  have XI := inside_any Y B (.slice sa Y.length sc) w3 (HSP.out.below T3.out.2 (Nat.le_refl _)) hYl
  have c5 := T3.out.1.2.1.cell (i := 0) (by omega)
  clear ROWS zd r6 r6b rw2 rw3 bw2 bw3 zw2 zw3 hHeld hYl
  go_wp2_with fail
  refine XI.mono ?_
  rintro e w4 ⟨rfl, b4⟩
  clear XI c5
  have T4 : Hid (tellRows w.heap.size (.pointer ka) (.slice sa Y.length sc) (.slice pa path.length pc) old old w4 ∧ Below w.heap.size w w4) := (show _ ∧ _ from ⟨T3.out.1.below b4 T3.out.1.lt, T3.out.2.trans (b4.mono T3.out.2.size)⟩)
  clear T3 b4
  cases hin : gIn Y with
  | true =>
    have hpl := HPL.out
    rw [hin] at hpl
    have hpl1 : path.length = Y.length + 1 := hpl
    have hY1 : 0 < Y.length := by
      by_cases e : Y.length = 0
      · rw [List.eq_nil_of_length_eq_zero e] at hin; cases hin
      · omega
    have hsc := HP.out
    obtain ⟨ub, rb, sb, ob, xc, yc, rfl⟩ := hsc.from' 1 (by omega)
    obtain ⟨_, a', cap', e', _, _, hpc⟩ := id hsc
    obtain ⟨g, o, rfl, hg, hcell⟩ := hpc (by omega)
    have ea : pa = some ⟨g, o, none⟩ := by injection e'
    subst ea
    have hp0 := hcell 0 (by omega)
    have hp0s : isSum path[0] := hsc.1 _ (List.getElem_mem _)
    have EG : Hid (gSeed Y old path = path[0] ∧ gRest Y path = path.drop 1) := (show _ ∧ _ from ⟨by unfold gSeed; rw [if_pos hin, List.getD_eq_getElem?_getD, List.getElem?_eq_getElem (by omega)]; rfl, by unfold gRest; rw [if_pos hin]⟩)
    obtain ⟨x0, hx0⟩ : ∃ x0, x0 = path[0]'(by omega) := ⟨_, rfl⟩
    rw [← hx0] at hp0 hp0s EG
    have hg4 : w4.drew.cell? ⟨w.heap.size + 3, 0, none⟩ = some (.slice (some ⟨g, o, none⟩) path.length pc) := T4.out.1.2.2.1.cell (i := 0) (by omega)
    have hcx : ∀ j, j < 32 → w4.drew.cell? ⟨g, o + j, none⟩ = some (arrV x0 j) := fun j hj => by
      have := hp0 j hj
      rw [show o + 0 * 32 + j = o + j by omega] at this
      exact (T4.out.2.cell (p := ⟨g, o + j, none⟩) hg).trans this
    have i0 : (0 : Int) < (path.length : Int) := by omega
    have i1 : (1 : Int) ≤ (path.length : Int) := by omega
    have n0 : 0 < path.length := by omega
    have n1 : 1 ≤ path.length := by omega
    have RB : Hid (∀ wz : World, (Instr.slice 22 (.slice (some ⟨g, o, none⟩) path.length pc) (some (.int .i64 1)) none none).run Tryd.prog wz = .ok (.slice xc (path.length - 1) yc) wz) := (show ∀ wz : World, (Instr.slice 22 (.slice (some ⟨g, o, none⟩) path.length pc) (some (.int .i64 1)) none none).run Tryd.prog wz = .ok (.slice xc (path.length - 1) yc) wz from rb)
    have EPL : Hid _ := hpl1
    clear rb hpl hpl1 hp0 hx0 e' hpc hcell hsc
    go_upto_region 3 with fail
    refine wp_region_noPanic ?_
    have HJ : Hid (∀ s, JJ 10 (fun w' => w'.cell? ⟨w.heap.size + 3, 0, none⟩ = some (.slice (some ⟨g, o, none⟩) path.length pc) ∧ ∀ j, j < 32 → w'.cell? ⟨g, o + j, none⟩ = some (arrV x0 j)) 11 (fun _ => True) s w4.drew) := (show ∀ s, JJ 10 (fun w' => w'.cell? ⟨w.heap.size + 3, 0, none⟩ = some (.slice (some ⟨g, o, none⟩) path.length pc) ∧ ∀ j, j < 32 → w'.cell? ⟨g, o + j, none⟩ = some (arrV x0 j)) 11 (fun _ => True) s w4.drew from JJ_all ⟨hg4, hcx⟩ trivial)
    refine wp_region_T (JJ 10 (fun w' => w'.cell? ⟨w.heap.size + 3, 0, none⟩ = some (.slice (some ⟨g, o, none⟩) path.length pc) ∧ ∀ j, j < 32 → w'.cell? ⟨g, o + j, none⟩ = some (arrV x0 j)) 11 (fun _ => True)) (by kernel_rfl) ?_
    refine take_opT (i := 0) (v := ?vt0) 10 rfl (by kernel_rfl) (by kernel_rfl) (by kernel_rfl) (by kernel_rfl) (by kernel_rfl) (JJ_free rfl rfl) (fun _ _ _ h => h) rfl HJ.out ?yt0 ?rt0
    case yt0 => (intro wz hz0; have hz := hz0.1 rfl; have hz1 := hz.1; go_simp; first | done | with_reducible rfl)
    try simp only [Act.put, List.setIfInBounds_toArray, List.set_cons_zero, List.set_cons_succ]
    refine take_opT (i := 1) (v := ?vt1) 10 rfl (by kernel_rfl) (by kernel_rfl) (by kernel_rfl) (by kernel_rfl) (by kernel_rfl) (JJ_free rfl rfl) (fun _ _ _ h => h) rfl HJ.out ?yt1 ?rt1
    case yt1 => (intro wz hz0; have hz := hz0.1 rfl; go_simp; first | done | with_reducible rfl)
    try simp only [Act.put, List.setIfInBounds_toArray, List.set_cons_zero, List.set_cons_succ]
    refine take_loadT (i := 2) 10 rfl (by kernel_rfl) (by kernel_rfl) (by kernel_rfl) (by kernel_rfl) (by kernel_rfl) (JJ_free rfl rfl) 29 _ rfl g o 32 (arrV x0) rfl _ Tryd.underlying29 rfl (by kernel_rfl) (fun _ _ _ h => h) rfl HJ.out (fun wz hz => (hz.1 rfl).2) ?_
    try simp only [Act.put, List.setIfInBounds_toArray, List.set_cons_zero, List.set_cons_succ]
    refine take_opT (i := 3) (v := ?vt3) 10 rfl (by kernel_rfl) (by kernel_rfl) (by kernel_rfl) (by kernel_rfl) (by kernel_rfl) (JJ_free rfl rfl) (fun _ _ _ h => h) rfl HJ.out ?yt3 ?rt3
    case yt3 => (intro wz hz0; have hz := hz0.1 rfl; have hz1 := hz.1; go_simp; first | done | with_reducible rfl)
    try simp only [Act.put, List.setIfInBounds_toArray, List.set_cons_zero, List.set_cons_succ]
    refine take_opT (i := 4) (v := ?vt4) 10 rfl (by kernel_rfl) (by kernel_rfl) (by kernel_rfl) (by kernel_rfl) (by kernel_rfl) (JJ_free rfl rfl) (fun _ _ _ h => h) rfl HJ.out ?yt4 ?rt4
    case yt4 => (intro wz hz0; have hz := hz0.1 rfl; go_simp; first | done | with_reducible rfl)
    try simp only [Act.put, List.setIfInBounds_toArray, List.set_cons_zero, List.set_cons_succ]
    refine take_loadT (i := 5) 10 rfl (by kernel_rfl) (by kernel_rfl) (by kernel_rfl) (by kernel_rfl) (by kernel_rfl) (JJ_free rfl rfl) 29 _ rfl g o 32 (arrV x0) rfl _ Tryd.underlying29 rfl (by kernel_rfl) (fun _ _ _ h => h) rfl HJ.out (fun wz hz => (hz.1 rfl).2) ?_
    try simp only [Act.put, List.setIfInBounds_toArray, List.set_cons_zero, List.set_cons_succ]
    refine take_opT (i := 6) (v := ?vt6) 10 rfl (by kernel_rfl) (by kernel_rfl) (by kernel_rfl) (by kernel_rfl) (by kernel_rfl) (JJ_free rfl rfl) (fun _ _ _ h => h) rfl HJ.out ?yt6 ?rt6
    case yt6 => (intro wz hz0; have hz := hz0.1 rfl; have hz1 := hz.1; go_simp; first | done | with_reducible rfl)
    try simp only [Act.put, List.setIfInBounds_toArray, List.set_cons_zero, List.set_cons_succ]
    refine take_opT (i := 7) (v := ?vt7) 10 rfl (by kernel_rfl) (by kernel_rfl) (by kernel_rfl) (by kernel_rfl) (by kernel_rfl) (JJ_free rfl rfl) (fun _ _ _ h => h) rfl HJ.out ?yt7 ?rt7
    case yt7 => (intro wz hz0; have hz := hz0.1 rfl; have hcz := RB.out wz; go_simp; first | done | with_reducible rfl)
    try simp only [Act.put, List.setIfInBounds_toArray, List.set_cons_zero, List.set_cons_succ]
    obtain ⟨w5, hst, rw5, zw5, bw5⟩ := tell_store (q := x0) (show w4.drew.rowIs (w.heap.size + 4) 29 32 (arrV old) from T4.out.1.2.2.2.1)
    refine take_oneT (i := 8) rfl (by kernel_rfl) rfl (fun K hK => ?_)
    unfold Oper.wp execOp
    simp only [Instr.storeAt, Instr.sureAddr, Sem.run_bind, Sem.run_pure, Result.andThen_ok]
    simp [Act.eval, hst, Oper.upon]
    clear hst
    have zd : w4.drew.heap.size = w4.heap.size := rfl
    have zt := T4.out.1.lt
    have zt2 := T4.out.2.size
    refine hK.out _ _ (heldJ_all ⟨?_, ?_⟩ trivial) ?_
    · exact (bw5.row (show w4.drew.rowIs (w.heap.size + 3) 22 1 (fun _ => .slice (some ⟨g, o, none⟩) path.length pc) from T4.out.1.2.2.1) (by omega) (by omega)).cell (i := 0) (by omega)
    · exact fun j hj => (World.cell?_of_block (a := ⟨g, o + j, none⟩) (bw5.block g (by omega) (by omega))).trans (hcx j hj)
    clear hK K
    try simp only [Act.put, List.setIfInBounds_toArray, List.set_cons_zero, List.set_cons_succ]
    obtain ⟨w6, hst, rw6, zw6, bw6⟩ := tell_store (q := x0) (bw5.row (show w4.drew.rowIs (w.heap.size + 5) 29 32 (arrV old) from T4.out.1.2.2.2.2) (by omega) (by omega))
    refine take_oneT (i := 9) rfl (by kernel_rfl) rfl (fun K hK => ?_)
    unfold Oper.wp execOp
    simp only [Instr.storeAt, Instr.sureAddr, Sem.run_bind, Sem.run_pure, Result.andThen_ok]
    simp [Act.eval, hst, Oper.upon]
    clear hst
    have y3 := bw6.row (bw5.row (show w4.drew.rowIs (w.heap.size + 3) 22 1 (fun _ => .slice (some ⟨g, o, none⟩) path.length pc) from T4.out.1.2.2.1) (by omega) (by omega)) (by omega) (by omega)
    refine hK.out _ _ (heldJ_all ⟨y3.cell (i := 0) (by omega), ?_⟩ trivial) ?_
    · exact fun j hj => (World.cell?_of_block (a := ⟨g, o + j, none⟩) ((bw6.block g (by omega) (by omega)).trans (bw5.block g (by omega) (by omega)))).trans (hcx j hj)
    clear hK K
    try simp only [Act.put, List.setIfInBounds_toArray, List.set_cons_zero, List.set_cons_succ]
    have c3 := y3.cell (i := 0) (by omega)
    have f3 := y3.frozen 0
    refine take_oneT (i := 10) rfl (by kernel_rfl) rfl (fun K hK => ?_)
    go_simp
    refine hK.out _ _ (heldJ_none rfl rfl) ?_
    clear hK K c3 f3
    try simp only [Act.put, List.setIfInBounds_toArray, List.set_cons_zero, List.set_cons_succ]
    refine doneT (by kernel_rfl) ?_ _
    refine NoPanic.normal ?_
    obtain ⟨w5', hw5⟩ : ∃ w5', w5' = w6.setCell ⟨w.heap.size + 3, 0, none⟩ (.slice xc (path.length - 1) yc) := ⟨_, rfl⟩
    rw [← hw5]
    have T5 : Hid (tellRows w.heap.size (.pointer ka) (.slice sa Y.length sc) (.slice xc (path.drop 1).length yc) x0 x0 w5' ∧ Below w.heap.size w w5') := (show _ ∧ _ from by
      have hne : ∀ j, j ≠ w.heap.size + 3 → w5'.heap[j]? = w6.heap[j]? := fun j hj => by rw [hw5]; exact blk_setCell_other _ _ _ _ (fun e => hj (by have : j = w.heap.size + 3 := e; exact this))
      have h1 := bw6.row (bw5.row (show w4.drew.rowIs w.heap.size 30 1 (fun _ => .pointer ka) from T4.out.1.1) (by omega) (by omega)) (by omega) (by omega)
      have h2 := bw6.row (bw5.row (show w4.drew.rowIs (w.heap.size + 1) 47 1 (fun _ => .slice sa Y.length sc) from T4.out.1.2.1) (by omega) (by omega)) (by omega) (by omega)
      have h3 := bw6.row rw5 (by omega) (by omega)
      refine ⟨⟨World.rowIs.of_block h1 (hne _ (by omega)), World.rowIs.of_block h2 (hne _ (by omega)), ?_, World.rowIs.of_block h3 (hne _ (by omega)), World.rowIs.of_block rw6 (hne _ (by omega))⟩, ?_⟩
      · rw [hw5, List.length_drop]; exact gRow_set0 y3 _
      · have b6 : Below w.heap.size w w6 := (T4.out.2.drew).trans ((bw5.below' (by omega) (by omega)).trans (bw6.below' (by omega) (by omega)))
        rw [hw5]; exact b6.setCell (by show w.heap.size ≤ w.heap.size + 3; omega) _)
    have P5 : Hid (sumsAt w (.slice xc (path.drop 1).length yc) (path.drop 1)) := (show sumsAt w (.slice xc (path.drop 1).length yc) (path.drop 1) from by rw [List.length_drop]; exact sb)
    have PF5 : Hid (0 < (path.drop 1).length → ∀ j, (Value.slice xc (path.drop 1).length yc).ownBlock = some j → j < w.heap.size ∧ ¬ F j) := (show 0 < (path.drop 1).length → ∀ j, (Value.slice xc (path.drop 1).length yc).ownBlock = some j → j < w.heap.size ∧ ¬ F j from fun _ j hj => HPF.out n0 j (by rw [← ob]; rw [List.length_drop] at hj; exact hj))
    have L5 : Hid ((path.drop 1).length = Y.length) := (show (path.drop 1).length = Y.length from by rw [List.length_drop, EPL.out]; omega)
    have S5 : Hid (isSum x0) := (show isSum x0 from hp0s)
    clear HP HPF sb ob hp0s EPL y3 rw5 rw6 bw5 bw6 zw5 zw6 zd zt zt2 hg4 hcx HJ hHeld hw5 RB i0 i1 n0 n1 hg hin hY1 T4
    generalize path.drop 1 = p2 at T5 P5 PF5 L5 EG
    obtain ⟨w6, hw6⟩ : ∃ w6, w6 = w5'.alloc (.cells #[.slice sa Y.length sc] 47) := ⟨_, rfl⟩
    have z6 : w6.heap.size = w5'.heap.size + 1 := by rw [hw6]; simp
    have b6 : Below w5'.heap.size w5' w6 := by rw [hw6]; exact (Below.refl _ _).alloc (Nat.le_refl _) _
    have XB := backS_any sa Y.length sc w5'
    rw [← hw6] at XB
    have x6 : w6.rowIs w5'.heap.size 47 1 (fun _ => .slice sa Y.length sc) := by rw [hw6]; exact rowIs_one _ _ _
    have T6 : Hid (tellRows w.heap.size (.pointer ka) (.slice sa Y.length sc) (.slice xc p2.length yc) x0 x0 w6 ∧ Below w.heap.size w w6) := (show _ ∧ _ from ⟨T5.out.1.below b6 T5.out.1.lt, T5.out.2.trans (b6.mono T5.out.2.size)⟩)
    have BB : Hid (w.heap.size + 5 < w6.heap.size ∧ w6.heap.size = w5'.heap.size + 1 ∧ w.heap.size + 5 < w5'.heap.size) := (show _ ∧ _ ∧ _ from ⟨T6.out.1.lt, z6, T5.out.1.lt⟩)
    -- what no round turns
    have GET : Hid (∀ W, Fr (fun j => F j ∨ j = w.heap.size + 4 ∨ j = w.heap.size + 5) w6 W → (W.rowIs w.heap.size 30 1 (fun _ => .pointer ka) ∧ W.rowIs (w.heap.size + 1) 47 1 (fun _ => .slice sa Y.length sc) ∧ W.rowIs (w.heap.size + 3) 22 1 (fun _ => .slice xc p2.length yc)) ∧
        stepsIn w5'.heap.size sa sc Y W ∧ (0 < p2.length → ∃ g o, xc = some ⟨g, o, none⟩ ∧ ∀ i (hi : i < p2.length) j, j < 32 → W.cell? ⟨g, o + i * 32 + j, none⟩ = some (arrV p2[i] j)) ∧ tabIs W) := (show ∀ W, Fr (fun j => F j ∨ j = w.heap.size + 4 ∨ j = w.heap.size + 5) w6 W → _ from fun W hW => by
      have hbb := BB.out
      have bk : ∀ j, j < w6.heap.size → ¬ F j → j ≠ w.heap.size + 4 → j ≠ w.heap.size + 5 → W.heap[j]? = w6.heap[j]? := fun j h1 h2 h3 h4 => hW.block j h1 (fun h => by rcases h with h | h | h; exact h2 h; exact h3 h; exact h4 h)
      have nF : ∀ j, w.heap.size ≤ j → ¬ F j := fun j h1 h2 => by have := HFL.out j h2; omega
      obtain ⟨t1, t2, t3, t4, t5⟩ := T6.out.1
      refine ⟨⟨World.rowIs.of_block t1 (bk _ (by omega) (nF _ (by omega)) (by omega) (by omega)), World.rowIs.of_block t2 (bk _ (by omega) (nF _ (by omega)) (by omega) (by omega)), World.rowIs.of_block t3 (bk _ (by omega) (nF _ (by omega)) (by omega) (by omega))⟩, ⟨?_, fun h0 => ?_⟩, fun h0 => ?_, ?_⟩
      · exact (World.rowIs.of_block x6 (bk _ (by omega) (nF _ (by omega)) (by omega) (by omega))).cell (i := 0) (by omega)
      · obtain ⟨g, rfl, hg, _, hc⟩ := HSC.out h0
        have hgF := HSF.out g (by simp [Value.ownBlock])
        have e := (bk g (by omega) hgF (by omega) (by omega)).trans (T6.out.2.block g hg)
        exact ⟨g, rfl, fun i x hx => ⟨(World.cell?_of_block (a := ⟨g, i * 2, none⟩) e).trans (hc i x hx).1, (World.cell?_of_block (a := ⟨g, i * 2 + 1, none⟩) e).trans (hc i x hx).2⟩⟩
      · obtain ⟨_, a', cap', e', _, _, hpc⟩ := P5.out
        obtain ⟨g, o, ha, hg, hc⟩ := hpc h0
        have ea : xc = some ⟨g, o, none⟩ := by rw [← ha]; injection e'
        obtain ⟨hgl, hgF⟩ := PF5.out h0 g (by rw [ea]; simp [Value.ownBlock])
        have e := (bk g (by omega) hgF (by omega) (by omega)).trans (T6.out.2.block g hgl)
        exact ⟨g, o, ea, fun i hi j hj => (World.cell?_of_block (a := ⟨g, o + i * 32 + j, none⟩) e).trans (hc i hi j hj)⟩
      · have h0 := HT.out
        refine tabIs.far (h0.below T6.out.2 h0.1) (bk 0 (by omega) HF0.out (by have := h0.1; omega) (by have := h0.1; omega)) hW.size)
    obtain ⟨U, hU⟩ : ∃ U, U = gUps Y p2 := ⟨_, rfl⟩
    have UL : Hid (U.length = Y.length) := (show U.length = Y.length from by rw [hU]; exact gUps_len L5.out)
    have UG : Hid (∀ k (hk : k < Y.length) x, Y[Y.length - 1 - k]? = some x → ∃ (h1 : k < U.length) (h2 : k < p2.length), U[k] = (x.2, p2[k])) := (show _ from fun k hk x hx => by
      have l5 := L5.out
      refine ⟨by rw [UL.out]; exact hk, by omega, ?_⟩
      simp only [hU]
      unfold gUps
      rw [List.getElem_zip]
      congr 1
      rw [List.getElem_reverse, List.getElem_map]
      simp only [List.length_map]
      rw [List.getElem?_eq_getElem (by omega)] at hx
      rw [Option.some.inj hx])
    have I0 : Hid (tellI w6 w.heap.size F F (.pointer ka) (N, (x0, x0)) c w6) := (show tellI w6 w.heap.size F F (.pointer ka) (N, (x0, x0)) c w6 from
      ⟨T6.out.1.2.2.2.1, T6.out.1.2.2.2.2, HK.out.below T6.out.2 (Nat.le_refl _), fun j hj => Or.inl hj, Fr.refl _ _⟩)
    have HH := backS_hands 2 w5'.heap.size sa sc Y w6 (by omega) hsc
    have HHD : Hid (handsR 2 Tryd.prog 50 #[.pointer (some ⟨w5'.heap.size, 0, none⟩)] backSV Y.zipIdx.reverse w6 (stepsIn w5'.heap.size sa sc Y)) := (show handsR 2 Tryd.prog 50 #[.pointer (some ⟨w5'.heap.size, 0, none⟩)] backSV Y.zipIdx.reverse w6 (stepsIn w5'.heap.size sa sc Y) from HH)
    have EU : Hid (gTellN N Y old path = (U.foldl gUpN (N, (x0, x0))).1 ∧ gTell Y old path = U.foldl gUp (x0, x0) ∧ gUps Y (gRest Y path) = U) := (show _ ∧ _ ∧ _ from by
      refine ⟨?_, ?_, ?_⟩
      · unfold gTellN; rw [EG.out.1, EG.out.2, ← hU]
      · rw [gTell_is, EG.out.1, EG.out.2, ← hU]
      · rw [EG.out.2, ← hU])
    have c5 := T5.out.1.2.1.cell (i := 0) (by omega)
    clear z6 b6 x6 HH hU
    go_wp2_with fail
    refine XB.mono ?_
    rintro e w' ⟨rfl, hw⟩
    obtain rfl := hw.symm
    clear XB hw hw6 c5
    go_wp2_with fail
    refine (wpIn_wide (n := 3)).1 ?_
    refine wpIn_range_asg (gf := 50) (lb := #[.pointer (some ⟨w5'.heap.size, 0, none⟩)]) (encs := backSV) (ys := Y.zipIdx.reverse) rfl (enters_of Tryd.func50 (by kernel_rfl) rfl) HHD.out (fun _ => rfl)
      (fun k W => ∃ Fi, tellI w6 w.heap.size F Fi (.pointer ka) ((U.take k).foldl gUpN (N, (x0, x0))) (c + gCnt (U.take k)) W)
      (fun k W x y h hx => by
        obtain ⟨Fi, h⟩ := h
        exact ⟨Fi, h.keep BB.out.1 HFL.out ⟨rfl, rfl, rfl⟩ (by simp [World.putObj]) (fun j _ h1 h2 => putObj_block W _ _ h2)⟩)
      (fun k W h => by
        obtain ⟨Fi, h⟩ := h
        exact ⟨Fi, h.keep BB.out.1 HFL.out ⟨rfl, rfl, rfl⟩ (Nat.le_refl _) (fun j _ _ _ => rfl)⟩)
      (fun k W h => by
        obtain ⟨Fi, h⟩ := h
        exact (GET.out W h.2.2.2.2).2.1)
      (fun o o' => ⟨F, by
        rw [List.take_zero]
        show tellI w6 w.heap.size F F (.pointer ka) (N, (x0, x0)) (c + 0) _
        rw [Int.add_zero]
        exact I0.out.keep BB.out.1 HFL.out ⟨rfl, rfl, rfl⟩ (by simp; omega) (fun j hj _ _ => (((Below.refl w6.heap.size w6).alloc (Nat.le_refl _) o).alloc (by simp) o').block j hj)⟩)
      (fun y bx => [(27, .int .i64 (y.2 : Int)), (28, .agg #[.int .i64 (y.1.1 : Int), .bool y.1.2]), (10, .int .i64 (y.2 : Int)), (11, .pointer (some ⟨bx, 0, none⟩))])
      (fun k bx W => (∃ Fi, tellI w6 w.heap.size F Fi (.pointer ka) ((U.take k).foldl gUpN (N, (x0, x0))) (c + gCnt (U.take k)) W ∧ ¬ Fi bx) ∧ w6.heap.size + 2 ≤ bx ∧ ∃ y, Y.zipIdx.reverse[k]? = some y ∧ W.rowIs bx 51 2 (fun i => if i = 0 then .int .i64 (y.1.1 : Int) else .bool y.1.2))
      (fun k bx W x y h hx => by
        obtain ⟨⟨Fi, h, hn⟩, hb, y0, hy, hr⟩ := h
        exact ⟨⟨Fi, h.keep BB.out.1 HFL.out ⟨rfl, rfl, rfl⟩ (by simp [World.putObj]) (fun j _ h1 h2 => putObj_block W _ _ h2), hn⟩, hb, y0, hy, World.rowIs.of_block hr (putObj_block W _ _ (by omega))⟩) ?assignt ?bodyt ?donet
    case assignt =>
      intro l k hk W x hI hDd hDl K hK
      have hD : w6.heap.size + 1 < W.heap.size := (Array.getElem?_eq_some_iff.1 hDl).1
      obtain ⟨y, hy⟩ : ∃ y, y = Y.zipIdx.reverse[k] := ⟨_, rfl⟩
      obtain ⟨Fi, hI⟩ := hI
      have ba : Below W.heap.size W (W.alloc (.cells #[.int .i64 (y.1.1 : Int), .bool y.1.2] 51)) := (Below.refl _ _).alloc (Nat.le_refl _) _
      have hK0 := hK W.heap.size (W.alloc (.cells #[.int .i64 (y.1.1 : Int), .bool y.1.2] 51)) (ba.block _ (by omega)) (ba.block _ (by omega))
        ⟨⟨Fi, hI.keep BB.out.1 HFL.out ⟨rfl, rfl, rfl⟩ ba.size (fun j hj _ _ => ba.block j hj), fun h => by have := hI.2.2.1.lt _ h; omega⟩, by omega, y, by rw [hy]; exact List.getElem?_eq_getElem hk,
          rowIs_new W _ _ 2 _ rfl (fun i hi => by
            match i, hi with
            | 0, _ => rfl
            | 1, _ => rfl)⟩
      rw [← hy] at hK0 ⊢
      clear hK hI ba hDd hDl hD hy
      obtain ⟨⟨yn, yb⟩, yi⟩ := y
      simp only [List.foldl_cons, List.foldl_nil, List.setIfInBounds_toArray, List.set_cons_succ, List.set_cons_zero] at hK0
      simp only [backSV, List.zip_toArray, List.zip_cons_cons, List.zip_nil_left, List.zip_nil_right, List.foldl_toArray, List.foldl_cons, List.foldl_nil, List.setIfInBounds_toArray, List.set_cons_succ, List.set_cons_zero]
      gi_wp2
      exact hK0
    case bodyt =>
      rintro l k hk bx W xl hIA hDd hDl
      obtain ⟨⟨Fi, hT, hnb⟩, hb2, y, hy, hrb⟩ := hIA
      have hgx := zipRev_get Y k hk
      have hkl : k < Y.length := by rw [zipRev_len] at hk; exact hk
      rw [List.getElem?_eq_getElem hk] at hy
      have hy2 := Option.some.inj hy
      generalize Y.zipIdx.reverse[k] = y2 at hgx hy2 ⊢
      subst hy2
      clear hy
      obtain ⟨⟨yn, yb⟩, yi⟩ := y2
      obtain ⟨hyx, hyi⟩ := hgx
      simp only at hyi
      obtain ⟨hkU, hkp, hUk⟩ := UG.out k hkl _ hyx
      obtain ⟨⟨k1, k2, k3⟩, _, hpc, htW⟩ := GET.out W hT.2.2.2.2
      obtain ⟨g, o, rfl, hpc2⟩ := hpc (by omega)
      have hcx := hpc2 k hkp
      have hxs : isSum p2[k] := P5.out.1 _ (List.getElem_mem _)
      obtain ⟨xs, hxe⟩ : ∃ xs, xs = p2[k] := ⟨_, rfl⟩
      rw [← hxe] at hcx hxs hUk
      obtain ⟨st, hst⟩ : ∃ st, st = (U.take k).foldl gUpN (N, (x0, x0)) := ⟨_, rfl⟩
      have hst2 : st.2 = (U.take k).foldl gUp (x0, x0) := by rw [hst]; exact gUpN_snd _ _ _
      have hss := gUps_sum (U.take k) (x0, x0) S5.out S5.out
      rw [← hst2] at hss
      have hstN : st.1.length ≤ N.length + 126 := by
        rw [hst]
        have h1 := gUpN_len (U.take k) N (x0, x0)
        have h2 : (U.take k).length ≤ 63 := by rw [List.length_take, UL.out]; omega
        omega
      have hcl := gCnt_le (U.take k)
      have hcl2 : (U.take k).length ≤ 63 := by rw [List.length_take, UL.out]; omega
      have hst' : (U.take (k + 1)).foldl gUpN (N, (x0, x0)) = gUpN st (yb, xs) := by rw [take_snoc U k hkU, List.foldl_append, List.foldl_cons, List.foldl_nil, hUk, hst]
      have hcnt : gCnt (U.take (k + 1)) = gCnt (U.take k) + gOne (yb, xs) := by rw [take_snoc U k hkU, gCnt_snoc, hUk]
      rw [← hst] at hT
      have hD : w6.heap.size + 1 < W.heap.size := (Array.getElem?_eq_some_iff.1 hDl).1
      have hlt := hT.2.2.1.lt
      obtain ⟨cc, hcc⟩ : ∃ cc, cc = c + gCnt (U.take k) := ⟨_, rfl⟩
      have hcB : 0 ≤ cc ∧ cc < 100000126 := by have := HC.out; omega
      rw [← hcc] at hT
      have hcc' : c + gCnt (U.take (k + 1)) = cc + gOne (yb, xs) := by omega
      have c3 := k3.cell (i := 0) (by omega)
      have c5 := k2.cell (i := 0) (by omega)
      have hhz := rowIs_box W 29 32 (fun _ => .int .u8 0)
      have n0 : k < p2.length := hkp
      have i0 : (0 : Int) ≤ (k : Int) := by omega
      have i1 : (k : Int) < (p2.length : Int) := by omega
      have j0 : (0 : Int) ≤ (yi : Int) := by omega
      have j1 : (yi : Int) < 63 := by omega
      have he : (Y.length : Int) - 1 - (yi : Int) = (k : Int) := by omega
      have CX : Hid (∀ j, j < 32 → W.cell? ⟨g, o + k * 32 + j, none⟩ = some (arrV xs j)) := (show _ from hcx)
      have HZ : Hid ((W.alloc (.cells (rowV 32 (fun _ => .int .u8 0)) 29)).rowIs W.heap.size 29 32 (fun _ => .int .u8 0)) := (show _ from hhz)
      have HTT : Hid (tellI w6 w.heap.size F Fi (.pointer ka) st cc W) := (show tellI w6 w.heap.size F Fi (.pointer ka) st cc W from hT)
      have FCT : Hid ((¬ Fi bx ∧ w6.heap.size + 2 ≤ bx) ∧ isSum xs ∧ (isSum st.2.1 ∧ isSum st.2.2) ∧ st.1.length ≤ N.length + 126 ∧ (0 ≤ cc ∧ cc < 100000126) ∧ w6.heap.size + 1 < W.heap.size ∧ tabIs W) := (show _ from ⟨⟨hnb, hb2⟩, hxs, hss, hstN, hcB, hD, htW⟩)
      have RB : Hid (W.rowIs bx 51 2 (fun i => if i = 0 then .int .i64 (yn : Int) else .bool yb)) := (show _ from hrb)
      have FIN : Hid (∀ Fj W9, W9.heap[w6.heap.size]? = W.heap[w6.heap.size]? ∧ W9.heap[w6.heap.size + 1]? = W.heap[w6.heap.size + 1]? ∧ tellI w6 w.heap.size F Fj (.pointer ka) (gUpN st (yb, xs)) (cc + gOne (yb, xs)) W9 → W9.heap[w6.heap.size]? = W.heap[w6.heap.size]? ∧ W9.heap[w6.heap.size + 1]? = W.heap[w6.heap.size + 1]? ∧ ∃ Fi, tellI w6 w.heap.size F Fi (.pointer ka) ((U.take (k + 1)).foldl gUpN (N, (x0, x0))) (c + gCnt (U.take (k + 1))) W9) := (show _ from fun Fj W9 h => ⟨h.1, h.2.1, Fj, by rw [hst', hcc']; exact h.2.2⟩)
      clear hyx hyi hkU hkp hUk k1 k2 k3 hpc hpc2 htW hcx hxs hxe hst hst2 hss hstN hcl hcl2 hst' hcnt hT hD hlt hcB hcc hcc' hhz hrb hnb hb2 hDd hDl hkl
      simp only [List.foldl_cons, List.foldl_nil, List.setIfInBounds_toArray, List.set_cons_succ, List.set_cons_zero]
      refine wpIn_block ?_
      refine wpIn_seq ?_
      refine wpIn_region_roundP (by kernel_rfl) ?_
      go_wp2_with (first | (refine wpList_load_seg rfl 29 _ rfl g (o + k * 32) 32 (arrV xs) rfl _ Tryd.underlying29 rfl hi32' CX.out ?_) | (refine wpList_store_row rfl 29 _ _ rfl rfl W.heap.size 0 32 (arrV xs) rfl rfl hi32' (fun _ _ => rfl) _ _ _ HZ.out (by omega) ?_; intro W7 r7 z7 b7))
      refine Calm.normal ?_
      have bW7 : Below W.heap.size W W7 := ((Below.refl W.heap.size W).alloc (Nat.le_refl _) _).trans (b7.below' (Nat.le_refl _) (by simp))
      have zW7 : W7.heap.size = W.heap.size + 1 := by rw [z7]; simp
      have r12 : W7.rowIs W.heap.size 29 32 (arrV xs) := r7.congr (fun i hi => by rw [if_pos (by omega), Nat.sub_zero])
      have hT7 := HTT.out.keep BB.out.1 HFL.out ⟨bW7.os, bW7.tape, bW7.output⟩ bW7.size (fun j hj _ _ => bW7.block j hj)
      obtain ⟨⟨k1, _, _⟩, _, _, _⟩ := GET.out W7 hT7.2.2.2.2
      have rb7 := bW7.row RB.out (gRow_lt RB.out)
      have hF4 := hT7.2.2.2.1
      have nFi : ∀ j, w.heap.size ≤ j → j < w6.heap.size + 2 → ¬ Fi j := fun j hb hj hf => by
        rcases hF4 j hf with h | h
        · have := HFL.out j h; omega
        · omega
      have hbb := BB.out
      have hD7 := FCT.out.2.2.2.2.2.1
      have hFlt := HTT.out.2.2.1.lt
      have c11 : W7.cell? ⟨bx, 1, none⟩ = some (.bool yb) := rb7.cell (i := 1) (by omega)
      have ROW4 : Hid (W7.rowIs (w.heap.size + 4) 29 32 (arrV st.2.1)) := (show _ from hT7.1)
      have ROW5 : Hid (W7.rowIs (w.heap.size + 5) 29 32 (arrV st.2.2)) := (show _ from hT7.2.1)
      have NB : Hid ((w.heap.size + 4 < W7.heap.size ∧ ¬ Fi (w.heap.size + 4)) ∧ (w.heap.size + 5 < W7.heap.size ∧ ¬ Fi (w.heap.size + 5))) := (show _ from ⟨⟨by omega, nFi _ (by omega) (by omega)⟩, ⟨by omega, nFi _ (by omega) (by omega)⟩⟩)
      have NG : Hid (∀ (G : Nat → Prop), (∀ j, G j → Fi j ∨ W7.heap.size ≤ j) → ∀ b, b < W7.heap.size ∧ ¬ Fi b → ¬ G b) := (show _ from fun G hG b hb h => by
        rcases hG b h with h | h
        · exact hb.2 h
        · omega)
      have CA : Hid (∀ wz, Fr Fi W7 wz → wz.cell? ⟨w.heap.size, 0, none⟩ = some (.pointer ka) ∧ (∀ j, j < 32 → wz.cell? ⟨W.heap.size, 0 + j, none⟩ = some (arrV xs j)) ∧ (∀ j, j < 32 → wz.cell? ⟨w.heap.size + 4, 0 + j, none⟩ = some (arrV st.2.1 j)) ∧ (∀ j, j < 32 → wz.cell? ⟨w.heap.size + 5, 0 + j, none⟩ = some (arrV st.2.2 j))) := (show _ from fun wz hz => by
        refine ⟨(World.rowIs.of_block k1 (hz.block _ (by omega) (nFi _ (by omega) (by omega)))).cell (i := 0) (by omega), fun j hj => ?_, fun j hj => ?_, fun j hj => ?_⟩
        · rw [Nat.zero_add]; exact (World.rowIs.of_block r12 (hz.block _ (by omega) (fun h => by have := hFlt _ h; omega))).cell hj
        · rw [Nat.zero_add]; exact (World.rowIs.of_block hT7.1 (hz.block _ NB.out.1.1 NB.out.1.2)).cell hj
        · rw [Nat.zero_add]; exact (World.rowIs.of_block hT7.2.1 (hz.block _ NB.out.2.1 NB.out.2.2)).cell hj)
      have CB : Hid (∀ wz, Fr (fun j => Fi j ∨ j = w.heap.size + 4) W7 wz → wz.cell? ⟨w.heap.size, 0, none⟩ = some (.pointer ka) ∧ (∀ j, j < 32 → wz.cell? ⟨W.heap.size, 0 + j, none⟩ = some (arrV xs j)) ∧ (∀ j, j < 32 → wz.cell? ⟨w.heap.size + 5, 0 + j, none⟩ = some (arrV st.2.2 j))) := (show _ from fun wz hz => by
        refine ⟨(World.rowIs.of_block k1 (hz.block _ (by omega) (fun h => by rcases h with h | h; exact nFi _ (by omega) (by omega) h; omega))).cell (i := 0) (by omega), fun j hj => ?_, fun j hj => ?_⟩
        · rw [Nat.zero_add]; exact (World.rowIs.of_block r12 (hz.block _ (by omega) (fun h => by rcases h with h | h; have := hFlt _ h; omega; omega))).cell hj
        · rw [Nat.zero_add]; exact (World.rowIs.of_block hT7.2.1 (hz.block _ NB.out.2.1 (fun h => by rcases h with h | h; exact NB.out.2.2 h; omega))).cell hj)
      have TS : Hid (tellS W7 Fi (.pointer ka) st.1 cc Fi W7) := (show _ from ⟨hT7.2.2.1, fun j h => Or.inl h, Fr.refl _ _⟩)
      have FI0 : Hid (¬ Fi 0 ∧ 0 < W7.heap.size) := (show _ from ⟨fun h => by
        rcases hF4 0 h with h | h
        · exact HF0.out h
        · omega, by omega⟩)
      have HT7 : Hid (tellI w6 w.heap.size F Fi (.pointer ka) st cc W7) := (show _ from hT7)
      have HD7 : Hid (w6.heap.size + 1 < W7.heap.size) := (show w6.heap.size + 1 < W7.heap.size from by omega)
      have HWD : Hid (W7.heap[w6.heap.size]? = W.heap[w6.heap.size]? ∧ W7.heap[w6.heap.size + 1]? = W.heap[w6.heap.size + 1]?) := (show _ from ⟨bW7.block _ (by omega), bW7.block _ hD7⟩)
      have FTAB : Hid (tabIs W7) := (show _ from FCT.out.2.2.2.2.2.2.below bW7 FCT.out.2.2.2.2.2.2.1)
      have FCU : Hid ((¬ Fi bx ∧ w6.heap.size + 2 ≤ bx) ∧ isSum xs ∧ (isSum st.2.1 ∧ isSum st.2.2) ∧ st.1.length ≤ N.length + 126 ∧ (0 ≤ cc ∧ cc < 100000126) ∧ w6.heap.size + 1 < W.heap.size ∧ True ∧ tabIs W7) := (show _ from ⟨FCT.out.1, FCT.out.2.1, FCT.out.2.2.1, FCT.out.2.2.2.1, FCT.out.2.2.2.2.1, FCT.out.2.2.2.2.2.1, trivial, FTAB.out⟩)
      have FINAL : Hid (∀ Fj W9, W9.rowIs (w.heap.size + 4) 29 32 (arrV (gUpN st (yb, xs)).2.1) → W9.rowIs (w.heap.size + 5) 29 32 (arrV (gUpN st (yb, xs)).2.2) → bkAt (.pointer ka) W9 Fj (gUpN st (yb, xs)).1 (cc + gOne (yb, xs)) → (∀ j, Fj j → Fi j ∨ W7.heap.size ≤ j) → Fr (fun j => Fi j ∨ j = w.heap.size + 4 ∨ j = w.heap.size + 5) W7 W9 →
          W9.heap[w6.heap.size]? = W.heap[w6.heap.size]? ∧ W9.heap[w6.heap.size + 1]? = W.heap[w6.heap.size + 1]? ∧ ∃ Fi, tellI w6 w.heap.size F Fi (.pointer ka) ((U.take (k + 1)).foldl gUpN (N, (x0, x0))) (c + gCnt (U.take (k + 1))) W9) := (show _ from fun Fj W9 h1 h2 h3 h4 h5 => by
        have h := tell_post HT7.out HD7.out BB.out.1 HFL.out h1 h2 h3 h4 h5
        have h' := FIN.out Fj W9 ⟨h.1.trans HWD.out.1, h.2.1.trans HWD.out.2, h.2.2⟩
        exact h')
      clear bW7 zW7 r12 hT7 k1 rb7 hF4 nFi hbb hD7 hFlt FIN HT7 HD7 HWD HTT RB CX HZ r7 z7 b7 c3 c5 he
      cases yb with
      | true =>
        gi_upto_region 9 with fail
        refine wpIn_region_roundP (by kernel_rfl) ?_
        have tS0 := TS.out
        obtain ⟨Wa, hWa⟩ : ∃ W', W' = W7.alloc (.cells (rowV 64 (fun j => if j < 32 then arrV st.2.2 j else arrV xs (j - 32))) 29) := ⟨_, rfl⟩
        obtain ⟨tWa, f1⟩ := tS0.alloc2 st.2.2 xs FCU.out.2.2.1.2 FCU.out.2.1
        rw [← hWa] at tWa f1
        have X7 := tWa.call f1 (by simp) FCU.out.2.2.2.2.2.2.2 FI0.out.1 FI0.out.2 (by have := FCU.out.2.2.2.1; have := HN.out; omega) (by have := FCU.out.2.2.2.2.1; omega)
        have ca := CA.out W7 (Fr.refl _ _)
        have cb0 := ca.1
        have CAH : Hid _ := ca
        have BR := build_two (arrV st.2.2) (arrV xs) W7
        rw [← hWa] at BR
        have HBR : Hid _ := BR
        clear tWa f1 ca hWa BR
        refine wpList_runG (v := .pointer ka) (w' := W7) rfl ?k1t ?k2t
        case k1t => (go_simp; first | done | with_reducible rfl)
        try simp only [Act.put, List.setIfInBounds_toArray, List.set_cons_zero, List.set_cons_succ]
        refine wpList_load_seg rfl 29 _ rfl (w.heap.size + 5) 0 32 (arrV st.2.2) rfl _ Tryd.underlying29 rfl hi32' CAH.out.2.2.2 ?_
        try simp only [Act.put, List.setIfInBounds_toArray, List.set_cons_zero, List.set_cons_succ]
        refine wpList_load_seg rfl 29 _ rfl W.heap.size 0 32 (arrV xs) rfl _ Tryd.underlying29 rfl hi32' CAH.out.2.1 ?_
        try simp only [Act.put, List.setIfInBounds_toArray, List.set_cons_zero, List.set_cons_succ]
        refine wpList_runG (v := .slice (some ⟨W7.heap.size, 0, none⟩) 2 2) (w' := Wa) rfl (exec_bslice2' 22 2 0 1 (.tmp 40) (.tmp 41) (.agg (rowV 32 (arrV st.2.2))) (.agg (rowV 32 (arrV xs))) rfl rfl rfl HBR.out) ?_
        try simp only [Act.put, List.setIfInBounds_toArray, List.set_cons_zero, List.set_cons_succ]
        refine wpList_plain rfl (fun K hK => ?_)
        go_simp
        refine Calls.mono X7 ?_
        rintro e Wd ⟨Gj, rfl, tWd, _⟩
        have rd5 := World.rowIs.of_block ROW5.out (tWd.2.2.block _ NB.out.2.1 NB.out.2.2)
        have rd4 := World.rowIs.of_block ROW4.out (tWd.2.2.block _ NB.out.1.1 NB.out.1.2)
        have HT7 : Hid (tellS W7 Fi (.pointer ka) (addN st.1 (ntOf [st.2.2, xs])) (cc + 1) Gj Wd) := (show _ from tWd)
        have RD5 : Hid (Wd.rowIs (w.heap.size + 5) 29 32 (arrV st.2.2)) := (show _ from rd5)
        have RD4 : Hid (Wd.rowIs (w.heap.size + 4) 29 32 (arrV st.2.1)) := (show _ from rd4)
        clear X7 tWd rd5 rd4 cb0
        refine hK _ _ ?_
        clear hK K
        try simp only [Act.put, List.setIfInBounds_toArray, List.set_cons_zero, List.set_cons_succ]
        refine wpList_store_row rfl 29 _ _ rfl rfl (w.heap.size + 5) 0 32 (arrV (nodeS [st.2.2, xs])) rfl rfl hi32' (fun _ _ => rfl) _ _ _ RD5.out (by omega) ?_
        intro V2 rV2 zV2 bV2
        refine wpList_nil ?_
        refine Calm.normal ?_
        have rV2' : V2.rowIs (w.heap.size + 5) 29 32 (arrV (nodeS [st.2.2, xs])) := rV2.congr (fun i hi => by rw [if_pos (by omega), Nat.sub_zero])
        have tWd := HT7.out
        have FF := FINAL.out Gj V2 (bV2.row RD4.out (by have := tWd.2.2.size; have := NB.out.1.1; omega) (by omega)) rV2'
          (tWd.1.far (fun j hj hl => bV2.block j hl (fun e => NG.out _ tWd.2.1 (w.heap.size + 5) NB.out.2 (e ▸ hj))) (by omega)) tWd.2.1
          ⟨bV2.os.trans tWd.2.2.os, bV2.tape.trans tWd.2.2.tape, bV2.output.trans tWd.2.2.output, by have := tWd.2.2.size; omega, fun j hj hn => (bV2.block j (by have := tWd.2.2.size; omega) (fun e => hn (Or.inr (Or.inr e)))).trans (tWd.2.2.block j hj (fun h => hn (Or.inl h)))⟩
        exact FF
      | false =>
        obtain ⟨Wx, hWx⟩ : ∃ Wx, Wx = W7.drew := ⟨_, rfl⟩
        have hz7 : Fr Fi W7 Wx := by rw [hWx]; exact (Fr.refl Fi W7).drew
        have tS0 : tellS W7 Fi (.pointer ka) st.1 cc Fi Wx := ⟨by rw [hWx]; exact TS.out.1.drew, fun j h => Or.inl h, hz7⟩
        have HJ : Hid (∀ s, JJ 10 (Fr Fi W7) 11 (Fr (fun j => Fi j ∨ j = w.heap.size + 4) W7) s Wx) := (show ∀ s, JJ 10 (Fr Fi W7) 11 (Fr (fun j => Fi j ∨ j = w.heap.size + 4) W7) s Wx from JJ_all hz7 (hz7.mono (fun j h => Or.inl h)))
        gi_upto_region 10 with fail
        refine wpIn_region_roundT (JJ 10 (Fr Fi W7) 11 (Fr (fun j => Fi j ∨ j = w.heap.size + 4) W7)) (by kernel_rfl) (by kernel_rfl) ?_
        rw [← hWx]
        clear hWx
        refine take_opT (i := 0) (v := ?vL0) 10 rfl (by kernel_rfl) (by kernel_rfl) (by kernel_rfl) (by kernel_rfl) (by kernel_rfl) (JJ_free rfl rfl) (fun _ _ _ h => h) rfl HJ.out ?yL0 ?rL0
        case yL0 => (intro wz hz0; have hz := hz0.1 rfl; have hcz := (CA.out wz hz).1; go_simp; first | done | with_reducible rfl)
        try simp only [Act.put, List.setIfInBounds_toArray, List.set_cons_zero, List.set_cons_succ]
        refine take_loadT (i := 1) 10 rfl (by kernel_rfl) (by kernel_rfl) (by kernel_rfl) (by kernel_rfl) (by kernel_rfl) (JJ_free rfl rfl) 29 _ rfl W.heap.size 0 32 (arrV xs) rfl _ Tryd.underlying29 rfl (by kernel_rfl) (fun _ _ _ h => h) rfl HJ.out (fun wz hz => (CA.out wz (hz.1 rfl)).2.1) ?_
        try simp only [Act.put, List.setIfInBounds_toArray, List.set_cons_zero, List.set_cons_succ]
        refine take_loadT (i := 2) 10 rfl (by kernel_rfl) (by kernel_rfl) (by kernel_rfl) (by kernel_rfl) (by kernel_rfl) (JJ_free rfl rfl) 29 _ rfl (w.heap.size + 4) 0 32 (arrV st.2.1) rfl _ Tryd.underlying29 rfl (by kernel_rfl) (fun _ _ _ h => h) rfl HJ.out (fun wz hz => (CA.out wz (hz.1 rfl)).2.2.1) ?_
        try simp only [Act.put, List.setIfInBounds_toArray, List.set_cons_zero, List.set_cons_succ]
        refine take_opT (i := 5) (v := ?vL5) 11 rfl (by kernel_rfl) (by kernel_rfl) (by kernel_rfl) (by kernel_rfl) (by kernel_rfl) (JJ_free rfl rfl) (fun _ _ _ h => h) rfl HJ.out ?yL5 ?rL5
        case yL5 => (intro wz hz0; have hz := hz0.2 rfl; have hcz := (CB.out wz hz).1; go_simp; first | done | with_reducible rfl)
        try simp only [Act.put, List.setIfInBounds_toArray, List.set_cons_zero, List.set_cons_succ]
        refine take_loadT (i := 6) 11 rfl (by kernel_rfl) (by kernel_rfl) (by kernel_rfl) (by kernel_rfl) (by kernel_rfl) (JJ_free rfl rfl) 29 _ rfl W.heap.size 0 32 (arrV xs) rfl _ Tryd.underlying29 rfl (by kernel_rfl) (fun _ _ _ h => h) rfl HJ.out (fun wz hz => (CB.out wz (hz.2 rfl)).2.1) ?_
        try simp only [Act.put, List.setIfInBounds_toArray, List.set_cons_zero, List.set_cons_succ]
        refine take_loadT (i := 7) 11 rfl (by kernel_rfl) (by kernel_rfl) (by kernel_rfl) (by kernel_rfl) (by kernel_rfl) (JJ_free rfl rfl) 29 _ rfl (w.heap.size + 5) 0 32 (arrV st.2.2) rfl _ Tryd.underlying29 rfl (by kernel_rfl) (fun _ _ _ h => h) rfl HJ.out (fun wz hz => (CB.out wz (hz.2 rfl)).2.2) ?_
        try simp only [Act.put, List.setIfInBounds_toArray, List.set_cons_zero, List.set_cons_succ]
        refine take_pairT (i := 3) (j := 8) rfl rfl (by kernel_rfl) rfl rfl ?L1 ?L2
        case L1 =>
          intro K hK
          obtain ⟨Wa, hWa⟩ : ∃ W', W' = Wx.alloc (.cells (rowV 64 (fun j => if j < 32 then arrV xs j else arrV st.2.1 (j - 32))) 29) := ⟨_, rfl⟩
          obtain ⟨tWa, f1Wa⟩ := tS0.alloc2 xs st.2.1 FCU.out.2.1 FCU.out.2.2.1.1
          rw [← hWa] at tWa f1Wa
          refine wp_of_run (w' := Wa) (by rw [hWa]; exact exec_bslice2' 22 2 0 1 (.tmp 45) (.tmp 46) _ _ rfl rfl rfl (build_two (arrV xs) (arrV st.2.1) Wx)) ?_
          refine hK.out _ _ (heldJ_all tWa.2.2 (tWa.2.2.mono (fun j h => Or.inl h))) ?_
          clear hK K hWa
          try simp only [Act.put, List.setIfInBounds_toArray, List.set_cons_zero, List.set_cons_succ]
          refine take_pairT (i := 4) (j := 8) rfl rfl (by kernel_rfl) rfl rfl ?L3 ?L4
          case L3 =>
            intro K hK
            go_simp
            refine Calls.mono (tWa.call f1Wa (by simp) FCU.out.2.2.2.2.2.2.2 FI0.out.1 FI0.out.2 (by have := FCU.out.2.2.2.1; have := HN.out; omega) (by have := FCU.out.2.2.2.2.1; omega)) ?_
            rintro e Wb ⟨GWb, rfl, tWb, keepWb⟩
            refine hK.out _ _ (heldJ_all tWb.2.2 (tWb.2.2.mono (fun j h => Or.inl h))) ?_
            clear hK K
            try simp only [Act.put, List.setIfInBounds_toArray, List.set_cons_zero, List.set_cons_succ]
            refine take_oneT (i := 8) rfl (by kernel_rfl) rfl (fun K hK => ?_)
            obtain ⟨Wc, hWc⟩ : ∃ W', W' = Wb.alloc (.cells (rowV 64 (fun j => if j < 32 then arrV xs j else arrV st.2.2 (j - 32))) 29) := ⟨_, rfl⟩
            obtain ⟨tWc, f2Wc⟩ := tWb.alloc2 xs st.2.2 FCU.out.2.1 FCU.out.2.2.1.2
            rw [← hWc] at tWc f2Wc
            refine wp_of_run (w' := Wc) (by rw [hWc]; exact exec_bslice2' 22 2 0 1 (.tmp 50) (.tmp 51) _ _ rfl rfl rfl (build_two (arrV xs) (arrV st.2.2) Wb)) ?_
            refine hK.out _ _ (heldJ_all tWc.2.2 (tWc.2.2.mono (fun j h => Or.inl h))) ?_
            clear hK K hWc
            try simp only [Act.put, List.setIfInBounds_toArray, List.set_cons_zero, List.set_cons_succ]
            refine take_oneT (i := 9) rfl (by kernel_rfl) rfl (fun K hK => ?_)
            go_simp
            refine Calls.mono (tWc.call f2Wc (by simp) FCU.out.2.2.2.2.2.2.2 FI0.out.1 FI0.out.2 (by have := FCU.out.2.2.2.1; have := HN.out; have := addN_le st.1 (ntOf [xs, st.2.1]); omega) (by have := FCU.out.2.2.2.2.1; omega)) ?_
            rintro e Wd ⟨GWd, rfl, tWd, keepWd⟩
            refine hK.out _ _ (heldJ_all tWd.2.2 (tWd.2.2.mono (fun j h => Or.inl h))) ?_
            clear hK K
            try simp only [Act.put, List.setIfInBounds_toArray, List.set_cons_zero, List.set_cons_succ]
            obtain ⟨V1, hst, rV1, zV1, bV1⟩ := tell_store (q := nodeS [xs, st.2.1]) (World.rowIs.of_block ROW4.out (tWd.2.2.block _ NB.out.1.1 NB.out.1.2))
            refine take_oneT (i := 10) rfl (by kernel_rfl) rfl (fun K hK => ?_)
            unfold Oper.wp execOp
            simp only [Instr.storeAt, Instr.sureAddr, Sem.run_bind, Sem.run_pure, Result.andThen_ok]
            simp [Act.eval, hst, Oper.upon]
            clear hst
            refine hK.out _ _ (heldJ_b rfl ?_) ?_
            · have z := tWd.2.2.size
              refine ⟨bV1.os.trans tWd.2.2.os, bV1.tape.trans tWd.2.2.tape, bV1.output.trans tWd.2.2.output, by omega, fun j hj hn => (bV1.block j (by omega) (fun e => hn (Or.inr e))).trans (tWd.2.2.block j hj (fun h => hn (Or.inl h)))⟩
            clear hK K
            try simp only [Act.put, List.setIfInBounds_toArray, List.set_cons_zero, List.set_cons_succ]
            obtain ⟨V2, hst, rV2, zV2, bV2⟩ := tell_store (q := nodeS [xs, st.2.2]) (bV1.row (World.rowIs.of_block ROW5.out (tWd.2.2.block _ NB.out.2.1 NB.out.2.2)) (by have := tWd.2.2.size; have := NB.out.2.1; omega) (by omega))
            refine take_oneT (i := 11) rfl (by kernel_rfl) rfl (fun K hK => ?_)
            unfold Oper.wp execOp
            simp only [Instr.storeAt, Instr.sureAddr, Sem.run_bind, Sem.run_pure, Result.andThen_ok]
            simp [Act.eval, hst, Oper.upon]
            clear hst
            refine hK.out _ _ (heldJ_none rfl rfl) ?_
            clear hK K
            try simp only [Act.put, List.setIfInBounds_toArray, List.set_cons_zero, List.set_cons_succ]
            refine doneT (by kernel_rfl) ?_ _
            refine Calm.normal ?_
            have tb := tWd.1
            rw [show cc + 1 + 1 = cc + gOne (false, xs) from by unfold gOne; rw [if_neg (by simp)]; omega] at tb
            have FF := FINAL.out GWd V2 (bV2.row rV1 (by have := tWd.2.2.size; have := NB.out.1.1; omega) (by omega)) rV2
              (tb.far (fun j hj hl => (bV2.block j (by omega) (fun e => NG.out _ tWd.2.1 (w.heap.size + 5) NB.out.2 (e ▸ hj))).trans (bV1.block j hl (fun e => NG.out _ tWd.2.1 (w.heap.size + 4) NB.out.1 (e ▸ hj)))) (by omega)) tWd.2.1
              ⟨bV2.os.trans (bV1.os.trans tWd.2.2.os), bV2.tape.trans (bV1.tape.trans tWd.2.2.tape), bV2.output.trans (bV1.output.trans tWd.2.2.output), by have := tWd.2.2.size; omega, fun j hj hn => (bV2.block j (by have := tWd.2.2.size; omega) (fun e => hn (Or.inr (Or.inr e)))).trans ((bV1.block j (by have := tWd.2.2.size; omega) (fun e => hn (Or.inr (Or.inl e)))).trans (tWd.2.2.block j hj (fun h => hn (Or.inl h))))⟩
            exact FF
          case L4 =>
            intro K hK
            obtain ⟨Wb, hWb⟩ : ∃ W', W' = Wa.alloc (.cells (rowV 64 (fun j => if j < 32 then arrV xs j else arrV st.2.2 (j - 32))) 29) := ⟨_, rfl⟩
            obtain ⟨tWb, f2Wb⟩ := tWa.alloc2 xs st.2.2 FCU.out.2.1 FCU.out.2.2.1.2
            rw [← hWb] at tWb f2Wb
            have f1WaWb := f1Wa.alloc (.cells (rowV 64 (fun j => if j < 32 then arrV xs j else arrV st.2.2 (j - 32))) 29)
            rw [← hWb] at f1WaWb
            refine wp_of_run (w' := Wb) (by rw [hWb]; exact exec_bslice2' 22 2 0 1 (.tmp 50) (.tmp 51) _ _ rfl rfl rfl (build_two (arrV xs) (arrV st.2.2) Wa)) ?_
            refine hK.out _ _ (heldJ_all tWb.2.2 (tWb.2.2.mono (fun j h => Or.inl h))) ?_
            clear hK K hWb
            try simp only [Act.put, List.setIfInBounds_toArray, List.set_cons_zero, List.set_cons_succ]
            refine take_oneT (i := 4) rfl (by kernel_rfl) rfl (fun K hK => ?_)
            go_simp
            refine Calls.mono (tWb.call f1WaWb (by simp) FCU.out.2.2.2.2.2.2.2 FI0.out.1 FI0.out.2 (by have := FCU.out.2.2.2.1; have := HN.out; omega) (by have := FCU.out.2.2.2.2.1; omega)) ?_
            rintro e Wc ⟨GWc, rfl, tWc, keepWc⟩
            refine hK.out _ _ (heldJ_all tWc.2.2 (tWc.2.2.mono (fun j h => Or.inl h))) ?_
            clear hK K
            try simp only [Act.put, List.setIfInBounds_toArray, List.set_cons_zero, List.set_cons_succ]
            refine take_oneT (i := 9) rfl (by kernel_rfl) rfl (fun K hK => ?_)
            go_simp
            refine Calls.mono (tWc.call (keepWc _ _ f2Wb) (by simp) FCU.out.2.2.2.2.2.2.2 FI0.out.1 FI0.out.2 (by have := FCU.out.2.2.2.1; have := HN.out; have := addN_le st.1 (ntOf [xs, st.2.1]); omega) (by have := FCU.out.2.2.2.2.1; omega)) ?_
            rintro e Wd ⟨GWd, rfl, tWd, keepWd⟩
            refine hK.out _ _ (heldJ_all tWd.2.2 (tWd.2.2.mono (fun j h => Or.inl h))) ?_
            clear hK K
            try simp only [Act.put, List.setIfInBounds_toArray, List.set_cons_zero, List.set_cons_succ]
            obtain ⟨V1, hst, rV1, zV1, bV1⟩ := tell_store (q := nodeS [xs, st.2.1]) (World.rowIs.of_block ROW4.out (tWd.2.2.block _ NB.out.1.1 NB.out.1.2))
            refine take_oneT (i := 10) rfl (by kernel_rfl) rfl (fun K hK => ?_)
            unfold Oper.wp execOp
            simp only [Instr.storeAt, Instr.sureAddr, Sem.run_bind, Sem.run_pure, Result.andThen_ok]
            simp [Act.eval, hst, Oper.upon]
            clear hst
            refine hK.out _ _ (heldJ_b rfl ?_) ?_
            · have z := tWd.2.2.size
              refine ⟨bV1.os.trans tWd.2.2.os, bV1.tape.trans tWd.2.2.tape, bV1.output.trans tWd.2.2.output, by omega, fun j hj hn => (bV1.block j (by omega) (fun e => hn (Or.inr e))).trans (tWd.2.2.block j hj (fun h => hn (Or.inl h)))⟩
            clear hK K
            try simp only [Act.put, List.setIfInBounds_toArray, List.set_cons_zero, List.set_cons_succ]
            obtain ⟨V2, hst, rV2, zV2, bV2⟩ := tell_store (q := nodeS [xs, st.2.2]) (bV1.row (World.rowIs.of_block ROW5.out (tWd.2.2.block _ NB.out.2.1 NB.out.2.2)) (by have := tWd.2.2.size; have := NB.out.2.1; omega) (by omega))
            refine take_oneT (i := 11) rfl (by kernel_rfl) rfl (fun K hK => ?_)
            unfold Oper.wp execOp
            simp only [Instr.storeAt, Instr.sureAddr, Sem.run_bind, Sem.run_pure, Result.andThen_ok]
            simp [Act.eval, hst, Oper.upon]
            clear hst
            refine hK.out _ _ (heldJ_none rfl rfl) ?_
            clear hK K
            try simp only [Act.put, List.setIfInBounds_toArray, List.set_cons_zero, List.set_cons_succ]
            refine doneT (by kernel_rfl) ?_ _
            refine Calm.normal ?_
            have tb := tWd.1
            rw [show cc + 1 + 1 = cc + gOne (false, xs) from by unfold gOne; rw [if_neg (by simp)]; omega] at tb
            have FF := FINAL.out GWd V2 (bV2.row rV1 (by have := tWd.2.2.size; have := NB.out.1.1; omega) (by omega)) rV2
              (tb.far (fun j hj hl => (bV2.block j (by omega) (fun e => NG.out _ tWd.2.1 (w.heap.size + 5) NB.out.2 (e ▸ hj))).trans (bV1.block j hl (fun e => NG.out _ tWd.2.1 (w.heap.size + 4) NB.out.1 (e ▸ hj)))) (by omega)) tWd.2.1
              ⟨bV2.os.trans (bV1.os.trans tWd.2.2.os), bV2.tape.trans (bV1.tape.trans tWd.2.2.tape), bV2.output.trans (bV1.output.trans tWd.2.2.output), by have := tWd.2.2.size; omega, fun j hj hn => (bV2.block j (by have := tWd.2.2.size; omega) (fun e => hn (Or.inr (Or.inr e)))).trans ((bV1.block j (by have := tWd.2.2.size; omega) (fun e => hn (Or.inr (Or.inl e)))).trans (tWd.2.2.block j hj (fun h => hn (Or.inl h))))⟩
            exact FF
        case L2 =>
          intro K hK
          obtain ⟨Wa, hWa⟩ : ∃ W', W' = Wx.alloc (.cells (rowV 64 (fun j => if j < 32 then arrV xs j else arrV st.2.2 (j - 32))) 29) := ⟨_, rfl⟩
          obtain ⟨tWa, f2Wa⟩ := tS0.alloc2 xs st.2.2 FCU.out.2.1 FCU.out.2.2.1.2
          rw [← hWa] at tWa f2Wa
          refine wp_of_run (w' := Wa) (by rw [hWa]; exact exec_bslice2' 22 2 0 1 (.tmp 50) (.tmp 51) _ _ rfl rfl rfl (build_two (arrV xs) (arrV st.2.2) Wx)) ?_
          refine hK.out _ _ (heldJ_all tWa.2.2 (tWa.2.2.mono (fun j h => Or.inl h))) ?_
          clear hK K hWa
          try simp only [Act.put, List.setIfInBounds_toArray, List.set_cons_zero, List.set_cons_succ]
          refine take_oneT (i := 3) rfl (by kernel_rfl) rfl (fun K hK => ?_)
          obtain ⟨Wb, hWb⟩ : ∃ W', W' = Wa.alloc (.cells (rowV 64 (fun j => if j < 32 then arrV xs j else arrV st.2.1 (j - 32))) 29) := ⟨_, rfl⟩
          obtain ⟨tWb, f1Wb⟩ := tWa.alloc2 xs st.2.1 FCU.out.2.1 FCU.out.2.2.1.1
          rw [← hWb] at tWb f1Wb
          have f2WaWb := f2Wa.alloc (.cells (rowV 64 (fun j => if j < 32 then arrV xs j else arrV st.2.1 (j - 32))) 29)
          rw [← hWb] at f2WaWb
          refine wp_of_run (w' := Wb) (by rw [hWb]; exact exec_bslice2' 22 2 0 1 (.tmp 45) (.tmp 46) _ _ rfl rfl rfl (build_two (arrV xs) (arrV st.2.1) Wa)) ?_
          refine hK.out _ _ (heldJ_all tWb.2.2 (tWb.2.2.mono (fun j h => Or.inl h))) ?_
          clear hK K hWb
          try simp only [Act.put, List.setIfInBounds_toArray, List.set_cons_zero, List.set_cons_succ]
          refine take_oneT (i := 4) rfl (by kernel_rfl) rfl (fun K hK => ?_)
          go_simp
          refine Calls.mono (tWb.call f1Wb (by simp) FCU.out.2.2.2.2.2.2.2 FI0.out.1 FI0.out.2 (by have := FCU.out.2.2.2.1; have := HN.out; omega) (by have := FCU.out.2.2.2.2.1; omega)) ?_
          rintro e Wc ⟨GWc, rfl, tWc, keepWc⟩
          refine hK.out _ _ (heldJ_all tWc.2.2 (tWc.2.2.mono (fun j h => Or.inl h))) ?_
          clear hK K
          try simp only [Act.put, List.setIfInBounds_toArray, List.set_cons_zero, List.set_cons_succ]
          refine take_oneT (i := 9) rfl (by kernel_rfl) rfl (fun K hK => ?_)
          go_simp
          refine Calls.mono (tWc.call (keepWc _ _ f2WaWb) (by simp) FCU.out.2.2.2.2.2.2.2 FI0.out.1 FI0.out.2 (by have := FCU.out.2.2.2.1; have := HN.out; have := addN_le st.1 (ntOf [xs, st.2.1]); omega) (by have := FCU.out.2.2.2.2.1; omega)) ?_
          rintro e Wd ⟨GWd, rfl, tWd, keepWd⟩
          refine hK.out _ _ (heldJ_all tWd.2.2 (tWd.2.2.mono (fun j h => Or.inl h))) ?_
          clear hK K
          try simp only [Act.put, List.setIfInBounds_toArray, List.set_cons_zero, List.set_cons_succ]
          obtain ⟨V1, hst, rV1, zV1, bV1⟩ := tell_store (q := nodeS [xs, st.2.1]) (World.rowIs.of_block ROW4.out (tWd.2.2.block _ NB.out.1.1 NB.out.1.2))
          refine take_oneT (i := 10) rfl (by kernel_rfl) rfl (fun K hK => ?_)
          unfold Oper.wp execOp
          simp only [Instr.storeAt, Instr.sureAddr, Sem.run_bind, Sem.run_pure, Result.andThen_ok]
          simp [Act.eval, hst, Oper.upon]
          clear hst
          refine hK.out _ _ (heldJ_b rfl ?_) ?_
          · have z := tWd.2.2.size
            refine ⟨bV1.os.trans tWd.2.2.os, bV1.tape.trans tWd.2.2.tape, bV1.output.trans tWd.2.2.output, by omega, fun j hj hn => (bV1.block j (by omega) (fun e => hn (Or.inr e))).trans (tWd.2.2.block j hj (fun h => hn (Or.inl h)))⟩
          clear hK K
          try simp only [Act.put, List.setIfInBounds_toArray, List.set_cons_zero, List.set_cons_succ]
          obtain ⟨V2, hst, rV2, zV2, bV2⟩ := tell_store (q := nodeS [xs, st.2.2]) (bV1.row (World.rowIs.of_block ROW5.out (tWd.2.2.block _ NB.out.2.1 NB.out.2.2)) (by have := tWd.2.2.size; have := NB.out.2.1; omega) (by omega))
          refine take_oneT (i := 11) rfl (by kernel_rfl) rfl (fun K hK => ?_)
          unfold Oper.wp execOp
          simp only [Instr.storeAt, Instr.sureAddr, Sem.run_bind, Sem.run_pure, Result.andThen_ok]
          simp [Act.eval, hst, Oper.upon]
          clear hst
          refine hK.out _ _ (heldJ_none rfl rfl) ?_
          clear hK K
          try simp only [Act.put, List.setIfInBounds_toArray, List.set_cons_zero, List.set_cons_succ]
          refine doneT (by kernel_rfl) ?_ _
          refine Calm.normal ?_
          have tb := tWd.1
          rw [show cc + 1 + 1 = cc + gOne (false, xs) from by unfold gOne; rw [if_neg (by simp)]; omega] at tb
          have FF := FINAL.out GWd V2 (bV2.row rV1 (by have := tWd.2.2.size; have := NB.out.1.1; omega) (by omega)) rV2
            (tb.far (fun j hj hl => (bV2.block j (by omega) (fun e => NG.out _ tWd.2.1 (w.heap.size + 5) NB.out.2 (e ▸ hj))).trans (bV1.block j hl (fun e => NG.out _ tWd.2.1 (w.heap.size + 4) NB.out.1 (e ▸ hj)))) (by omega)) tWd.2.1
            ⟨bV2.os.trans (bV1.os.trans tWd.2.2.os), bV2.tape.trans (bV1.tape.trans tWd.2.2.tape), bV2.output.trans (bV1.output.trans tWd.2.2.output), by have := tWd.2.2.size; omega, fun j hj hn => (bV2.block j (by have := tWd.2.2.size; omega) (fun e => hn (Or.inr (Or.inr e)))).trans ((bV1.block j (by have := tWd.2.2.size; omega) (fun e => hn (Or.inr (Or.inl e)))).trans (tWd.2.2.block j hj (fun h => hn (Or.inl h))))⟩
          exact FF
    case donet =>
      rintro W hP hDd
      obtain ⟨Fi, hT⟩ := hP
      rw [zipRev_len, ← UL.out, List.take_length] at hT
      obtain ⟨st, hst⟩ : ∃ st, st = U.foldl gUpN (N, (x0, x0)) := ⟨_, rfl⟩
      have hst2 : st.2 = U.foldl gUp (x0, x0) := by rw [hst]; exact gUpN_snd _ _ _
      rw [← hst] at hT
      obtain ⟨h4, h5, hbk, hFi, hfr⟩ := hT
      have hbb := BB.out
      have hD : w6.heap.size < W.heap.size := (Array.getElem?_eq_some_iff.1 hDd).1
      have nFi : ∀ j, w.heap.size ≤ j → j < w6.heap.size + 2 → ¬ Fi j := fun j hb hj hf => by
        rcases hFi j hf with h | h
        · have := HFL.out j h; omega
        · omega
      have EU2 : Hid (gTellN N Y old path = st.1 ∧ gTell Y old path = st.2 ∧ gUps Y (gRest Y path) = U) := (show _ ∧ _ ∧ _ from ⟨by rw [hst]; exact EU.out.1, by rw [hst2]; exact EU.out.2.1, EU.out.2.2⟩)
      have H4 : Hid (W.rowIs (w.heap.size + 4) 29 32 (arrV st.2.1)) := (show W.rowIs (w.heap.size + 4) 29 32 (arrV st.2.1) from h4)
      have H5 : Hid (W.rowIs (w.heap.size + 5) 29 32 (arrV st.2.2)) := (show W.rowIs (w.heap.size + 5) 29 32 (arrV st.2.2) from h5)
      have FINAL : Hid (∀ W9, Fr (fun j => j = w.heap.size + 4 ∨ j = w.heap.size + 5) W W9 → W9.heap[w6.heap.size]? = some (.deferred (some [])) ∧ ∃ Fj, bkAt (.pointer ka) (W9.putObj w6.heap.size (.deferred none)) Fj st.1 (c + gCnt U) ∧ (∀ j, Fj j → F j ∨ w.heap.size ≤ j) ∧ Fr F w (W9.putObj w6.heap.size (.deferred none))) := (show ∀ W9, Fr (fun j => j = w.heap.size + 4 ∨ j = w.heap.size + 5) W W9 → _ from fun W9 h9 => by
        have z9 := h9.size
        have zf := hfr.size
        have hpz : (W9.putObj w6.heap.size (.deferred none)).heap.size = W9.heap.size := by simp [World.putObj]
        refine ⟨(h9.block _ hD (fun h => by omega)).trans hDd, Fi, ?_, fun j hj => ?_, ?_⟩
        · exact hbk.far (fun j hj hl => (putObj_block W9 _ _ (fun e => nFi _ (by omega) (by omega) (e ▸ hj))).trans (h9.block j hl (fun h => by
            rcases h with h | h
            · exact nFi _ (by omega) (by omega) (h ▸ hj)
            · exact nFi _ (by omega) (by omega) (h ▸ hj)))) (by omega)
        · rcases hFi j hj with h | h
          · exact Or.inl h
          · exact Or.inr (by omega)
        · have b6 := T6.out.2
          refine ⟨h9.os.trans (hfr.os.trans b6.os), h9.tape.trans (hfr.tape.trans b6.tape), h9.output.trans (hfr.output.trans b6.output), by have := b6.size; omega, fun j hj hn => ?_⟩
          exact (putObj_block W9 _ _ (by omega)).trans ((h9.block j (by omega) (by omega)).trans ((hfr.block j (by omega) (fun h => by rcases h with h | h | h; exact hn h; omega; omega)).trans (b6.block j hj))))
      have ND : Hid (w.heap.size + 5 < w6.heap.size ∧ w6.heap.size < W.heap.size) := (show _ ∧ _ from ⟨by omega, hD⟩)
      clear hst hst2 h4 h5 hbk hFi hfr hbb hD nFi hDd
      go_upto_region 11 with fail
      refine wp_region_noPanic ?_
      refine wp_region_held_drew (S := fun w' => w'.rowIs (w.heap.size + 4) 29 32 (arrV st.2.1) ∧ w'.rowIs (w.heap.size + 5) 29 32 (arrV st.2.2)) (by kernel_rfl) ⟨H4.out, H5.out⟩ (fun hHeld => ?_)
      refine take_load (i := 0) rfl (by kernel_rfl) (by kernel_rfl) (by kernel_rfl) 29 _ rfl (w.heap.size + 4) 0 32 (arrV st.2.1) rfl _ Tryd.underlying29 rfl (by kernel_rfl) (fun _ _ _ h => h) rfl hHeld (fun wz hz j hj => by rw [Nat.zero_add]; exact World.rowIs.cell hz.1 hj) ?_
      try simp only [Act.put, List.setIfInBounds_toArray, List.set_cons_zero, List.set_cons_succ]
      refine take_load (i := 1) rfl (by kernel_rfl) (by kernel_rfl) (by kernel_rfl) 29 _ rfl (w.heap.size + 5) 0 32 (arrV st.2.2) rfl _ Tryd.underlying29 rfl (by kernel_rfl) (fun _ _ _ h => h) rfl hHeld (fun wz hz j hj => by rw [Nat.zero_add]; exact World.rowIs.cell hz.2 hj) ?_
      try simp only [Act.put, List.setIfInBounds_toArray, List.set_cons_zero, List.set_cons_succ]
      obtain ⟨V1, hst, rV1, zV1, bV1⟩ := tell_store (q := st.2.1) (show W.drew.rowIs (w.heap.size + 4) 29 32 (arrV st.2.1) from H4.out)
      refine take_one (i := 2) rfl (by kernel_rfl) rfl (fun K hK => ?_)
      unfold Oper.wp execOp
      simp only [Instr.storeAt, Instr.sureAddr, Sem.run_bind, Sem.run_pure, Result.andThen_ok]
      simp [Act.eval, hst, Oper.upon]
      clear hst
      have zd : W.drew.heap.size = W.heap.size := rfl
      have y5 := bV1.row (show W.drew.rowIs (w.heap.size + 5) 29 32 (arrV st.2.2) from H5.out) (by have := ND.out; omega) (by omega)
      refine hK.out _ _ ⟨rV1, y5⟩ (fun hHeld => ?_)
      clear hK K
      try simp only [Act.put, List.setIfInBounds_toArray, List.set_cons_zero, List.set_cons_succ]
      obtain ⟨V2, hst, rV2, zV2, bV2⟩ := tell_store (q := st.2.2) y5
      refine take_one (i := 3) rfl (by kernel_rfl) rfl (fun K hK => ?_)
      unfold Oper.wp execOp
      simp only [Instr.storeAt, Instr.sureAddr, Sem.run_bind, Sem.run_pure, Result.andThen_ok]
      simp [Act.eval, hst, Oper.upon]
      clear hst
      have y4 := bV2.row rV1 (by have := ND.out; omega) (by omega)
      refine hK.out _ _ ⟨y4, rV2⟩ (fun hHeld => ?_)
      clear hK K
      try simp only [Act.put, List.setIfInBounds_toArray, List.set_cons_zero, List.set_cons_succ]
      refine wpAnyH_done (by kernel_rfl) ?_ _
      refine NoPanic.normal ?_
      have hf9 : Fr (fun j => j = w.heap.size + 4 ∨ j = w.heap.size + 5) W V2 := ⟨bV2.os.trans bV1.os, bV2.tape.trans bV1.tape, bV2.output.trans bV1.output, by omega, fun j hj hn => (bV2.block j (by omega) (fun e => hn (Or.inr e))).trans (bV1.block j (by omega) (fun e => hn (Or.inl e)))⟩
      have FF := FINAL.out V2 hf9
      have Y4 : Hid ((V2.putObj w6.heap.size (.deferred none)).rowIs (w.heap.size + 4) 29 32 (arrV st.2.1)) := (show (V2.putObj w6.heap.size (.deferred none)).rowIs (w.heap.size + 4) 29 32 (arrV st.2.1) from World.rowIs.of_block y4 (putObj_block V2 _ _ (by have := ND.out; omega)))
      have Y5 : Hid ((V2.putObj w6.heap.size (.deferred none)).rowIs (w.heap.size + 5) 29 32 (arrV st.2.2)) := (show (V2.putObj w6.heap.size (.deferred none)).rowIs (w.heap.size + 5) 29 32 (arrV st.2.2) from World.rowIs.of_block rV2 (putObj_block V2 _ _ (by have := ND.out; omega)))
      have HFF : Hid (V2.heap[w6.heap.size]? = some (.deferred (some [])) ∧ ∃ Fj, bkAt (.pointer ka) (V2.putObj w6.heap.size (.deferred none)) Fj st.1 (c + gCnt U) ∧ (∀ j, Fj j → F j ∨ w.heap.size ≤ j) ∧ Fr F w (V2.putObj w6.heap.size (.deferred none))) := (show _ ∧ _ from FF)
      clear y4 y5 rV1 rV2 bV1 bV2 zV1 zV2 zd hf9 FF hHeld
      go_wp2
      refine bodyPostM_mark rfl HFF.out.1 (results_two_cells rfl _ _ (w.heap.size + 4) (w.heap.size + 5) 29 (arrV st.2.1) (arrV st.2.2) 32 _ rfl rfl Tryd.underlying29 rfl hi32' Y4.out Y5.out) ?_
      obtain ⟨Fj, f1, f2, f3⟩ := HFF.out.2
      refine ⟨Fj, ?_, ?_, f2, f3⟩
      · rw [EU2.out.2.1]
      · rw [EU2.out.1, EU2.out.2.2]; exact f1
  | false =>
    have hpl := HPL.out
    rw [hin] at hpl
    have hpl0 : path.length = Y.length := hpl
    have EG : Hid (gSeed Y old path = old ∧ gRest Y path = path) := (show _ ∧ _ from ⟨by unfold gSeed; rw [if_neg (by rw [hin]; simp)], by unfold gRest; rw [if_neg (by rw [hin]; simp)]⟩)
    have L5 : Hid (path.length = Y.length) := (show path.length = Y.length from hpl0)
    clear hin hpl hpl0
    obtain ⟨w6, hw6⟩ : ∃ w6, w6 = w4.alloc (.cells #[.slice sa Y.length sc] 47) := ⟨_, rfl⟩
    have z6 : w6.heap.size = w4.heap.size + 1 := by rw [hw6]; simp
    have b6 : Below w4.heap.size w4 w6 := by rw [hw6]; exact (Below.refl _ _).alloc (Nat.le_refl _) _
    have XB := backS_any sa Y.length sc w4
    rw [← hw6] at XB
    have x6 : w6.rowIs w4.heap.size 47 1 (fun _ => .slice sa Y.length sc) := by rw [hw6]; exact rowIs_one _ _ _
    have T6 : Hid (tellRows w.heap.size (.pointer ka) (.slice sa Y.length sc) (.slice pa path.length pc) old old w6 ∧ Below w.heap.size w w6) := (show _ ∧ _ from ⟨T4.out.1.below b6 T4.out.1.lt, T4.out.2.trans (b6.mono T4.out.2.size)⟩)
    have BB : Hid (w.heap.size + 5 < w6.heap.size ∧ w6.heap.size = w4.heap.size + 1 ∧ w.heap.size + 5 < w4.heap.size) := (show _ ∧ _ ∧ _ from ⟨T6.out.1.lt, z6, T4.out.1.lt⟩)
    -- what no round turns
    have GET : Hid (∀ W, Fr (fun j => F j ∨ j = w.heap.size + 4 ∨ j = w.heap.size + 5) w6 W → (W.rowIs w.heap.size 30 1 (fun _ => .pointer ka) ∧ W.rowIs (w.heap.size + 1) 47 1 (fun _ => .slice sa Y.length sc) ∧ W.rowIs (w.heap.size + 3) 22 1 (fun _ => .slice pa path.length pc)) ∧
        stepsIn w4.heap.size sa sc Y W ∧ (0 < path.length → ∃ g o, pa = some ⟨g, o, none⟩ ∧ ∀ i (hi : i < path.length) j, j < 32 → W.cell? ⟨g, o + i * 32 + j, none⟩ = some (arrV path[i] j)) ∧ tabIs W) := (show ∀ W, Fr (fun j => F j ∨ j = w.heap.size + 4 ∨ j = w.heap.size + 5) w6 W → _ from fun W hW => by
      have hbb := BB.out
      have bk : ∀ j, j < w6.heap.size → ¬ F j → j ≠ w.heap.size + 4 → j ≠ w.heap.size + 5 → W.heap[j]? = w6.heap[j]? := fun j h1 h2 h3 h4 => hW.block j h1 (fun h => by rcases h with h | h | h; exact h2 h; exact h3 h; exact h4 h)
      have nF : ∀ j, w.heap.size ≤ j → ¬ F j := fun j h1 h2 => by have := HFL.out j h2; omega
      obtain ⟨t1, t2, t3, t4, t5⟩ := T6.out.1
      refine ⟨⟨World.rowIs.of_block t1 (bk _ (by omega) (nF _ (by omega)) (by omega) (by omega)), World.rowIs.of_block t2 (bk _ (by omega) (nF _ (by omega)) (by omega) (by omega)), World.rowIs.of_block t3 (bk _ (by omega) (nF _ (by omega)) (by omega) (by omega))⟩, ⟨?_, fun h0 => ?_⟩, fun h0 => ?_, ?_⟩
      · exact (World.rowIs.of_block x6 (bk _ (by omega) (nF _ (by omega)) (by omega) (by omega))).cell (i := 0) (by omega)
      · obtain ⟨g, rfl, hg, _, hc⟩ := HSC.out h0
        have hgF := HSF.out g (by simp [Value.ownBlock])
        have e := (bk g (by omega) hgF (by omega) (by omega)).trans (T6.out.2.block g hg)
        exact ⟨g, rfl, fun i x hx => ⟨(World.cell?_of_block (a := ⟨g, i * 2, none⟩) e).trans (hc i x hx).1, (World.cell?_of_block (a := ⟨g, i * 2 + 1, none⟩) e).trans (hc i x hx).2⟩⟩
      · obtain ⟨_, a', cap', e', _, _, hpc⟩ := HP.out
        obtain ⟨g, o, ha, hg, hc⟩ := hpc h0
        have ea : pa = some ⟨g, o, none⟩ := by rw [← ha]; injection e'
        obtain ⟨hgl, hgF⟩ := HPF.out h0 g (by rw [ea]; simp [Value.ownBlock])
        have e := (bk g (by omega) hgF (by omega) (by omega)).trans (T6.out.2.block g hgl)
        exact ⟨g, o, ea, fun i hi j hj => (World.cell?_of_block (a := ⟨g, o + i * 32 + j, none⟩) e).trans (hc i hi j hj)⟩
      · have h0 := HT.out
        refine tabIs.far (h0.below T6.out.2 h0.1) (bk 0 (by omega) HF0.out (by have := h0.1; omega) (by have := h0.1; omega)) hW.size)
    obtain ⟨U, hU⟩ : ∃ U, U = gUps Y path := ⟨_, rfl⟩
    have UL : Hid (U.length = Y.length) := (show U.length = Y.length from by rw [hU]; exact gUps_len L5.out)
    have UG : Hid (∀ k (hk : k < Y.length) x, Y[Y.length - 1 - k]? = some x → ∃ (h1 : k < U.length) (h2 : k < path.length), U[k] = (x.2, path[k])) := (show _ from fun k hk x hx => by
      have l5 := L5.out
      refine ⟨by rw [UL.out]; exact hk, by omega, ?_⟩
      simp only [hU]
      unfold gUps
      rw [List.getElem_zip]
      congr 1
      rw [List.getElem_reverse, List.getElem_map]
      simp only [List.length_map]
      rw [List.getElem?_eq_getElem (by omega)] at hx
      rw [Option.some.inj hx])
    have I0 : Hid (tellI w6 w.heap.size F F (.pointer ka) (N, (old, old)) c w6) := (show tellI w6 w.heap.size F F (.pointer ka) (N, (old, old)) c w6 from
      ⟨T6.out.1.2.2.2.1, T6.out.1.2.2.2.2, HK.out.below T6.out.2 (Nat.le_refl _), fun j hj => Or.inl hj, Fr.refl _ _⟩)
    have HH := backS_hands 2 w4.heap.size sa sc Y w6 (by omega) hsc
    have HHD : Hid (handsR 2 Tryd.prog 50 #[.pointer (some ⟨w4.heap.size, 0, none⟩)] backSV Y.zipIdx.reverse w6 (stepsIn w4.heap.size sa sc Y)) := (show handsR 2 Tryd.prog 50 #[.pointer (some ⟨w4.heap.size, 0, none⟩)] backSV Y.zipIdx.reverse w6 (stepsIn w4.heap.size sa sc Y) from HH)
    have EU : Hid (gTellN N Y old path = (U.foldl gUpN (N, (old, old))).1 ∧ gTell Y old path = U.foldl gUp (old, old) ∧ gUps Y (gRest Y path) = U) := (show _ ∧ _ ∧ _ from by
      refine ⟨?_, ?_, ?_⟩
      · unfold gTellN; rw [EG.out.1, EG.out.2, ← hU]
      · rw [gTell_is, EG.out.1, EG.out.2, ← hU]
      · rw [EG.out.2, ← hU])
    have c5 := T4.out.1.2.1.cell (i := 0) (by omega)
    clear z6 b6 x6 HH hU
    go_wp2_with fail
    refine XB.mono ?_
    rintro e w' ⟨rfl, hw⟩
    obtain rfl := hw.symm
    clear XB hw hw6 c5
    go_wp2_with fail
    refine (wpIn_wide (n := 3)).1 ?_
    refine wpIn_range_asg (gf := 50) (lb := #[.pointer (some ⟨w4.heap.size, 0, none⟩)]) (encs := backSV) (ys := Y.zipIdx.reverse) rfl (enters_of Tryd.func50 (by kernel_rfl) rfl) HHD.out (fun _ => rfl)
      (fun k W => ∃ Fi, tellI w6 w.heap.size F Fi (.pointer ka) ((U.take k).foldl gUpN (N, (old, old))) (c + gCnt (U.take k)) W)
      (fun k W x y h hx => by
        obtain ⟨Fi, h⟩ := h
        exact ⟨Fi, h.keep BB.out.1 HFL.out ⟨rfl, rfl, rfl⟩ (by simp [World.putObj]) (fun j _ h1 h2 => putObj_block W _ _ h2)⟩)
      (fun k W h => by
        obtain ⟨Fi, h⟩ := h
        exact ⟨Fi, h.keep BB.out.1 HFL.out ⟨rfl, rfl, rfl⟩ (Nat.le_refl _) (fun j _ _ _ => rfl)⟩)
      (fun k W h => by
        obtain ⟨Fi, h⟩ := h
        exact (GET.out W h.2.2.2.2).2.1)
      (fun o o' => ⟨F, by
        rw [List.take_zero]
        show tellI w6 w.heap.size F F (.pointer ka) (N, (old, old)) (c + 0) _
        rw [Int.add_zero]
        exact I0.out.keep BB.out.1 HFL.out ⟨rfl, rfl, rfl⟩ (by simp; omega) (fun j hj _ _ => (((Below.refl w6.heap.size w6).alloc (Nat.le_refl _) o).alloc (by simp) o').block j hj)⟩)
      (fun y bx => [(27, .int .i64 (y.2 : Int)), (28, .agg #[.int .i64 (y.1.1 : Int), .bool y.1.2]), (10, .int .i64 (y.2 : Int)), (11, .pointer (some ⟨bx, 0, none⟩))])
      (fun k bx W => (∃ Fi, tellI w6 w.heap.size F Fi (.pointer ka) ((U.take k).foldl gUpN (N, (old, old))) (c + gCnt (U.take k)) W ∧ ¬ Fi bx) ∧ w6.heap.size + 2 ≤ bx ∧ ∃ y, Y.zipIdx.reverse[k]? = some y ∧ W.rowIs bx 51 2 (fun i => if i = 0 then .int .i64 (y.1.1 : Int) else .bool y.1.2))
      (fun k bx W x y h hx => by
        obtain ⟨⟨Fi, h, hn⟩, hb, y0, hy, hr⟩ := h
        exact ⟨⟨Fi, h.keep BB.out.1 HFL.out ⟨rfl, rfl, rfl⟩ (by simp [World.putObj]) (fun j _ h1 h2 => putObj_block W _ _ h2), hn⟩, hb, y0, hy, World.rowIs.of_block hr (putObj_block W _ _ (by omega))⟩) ?assignf ?bodyf ?donef
    case assignf =>
      intro l k hk W x hI hDd hDl K hK
      have hD : w6.heap.size + 1 < W.heap.size := (Array.getElem?_eq_some_iff.1 hDl).1
      obtain ⟨y, hy⟩ : ∃ y, y = Y.zipIdx.reverse[k] := ⟨_, rfl⟩
      obtain ⟨Fi, hI⟩ := hI
      have ba : Below W.heap.size W (W.alloc (.cells #[.int .i64 (y.1.1 : Int), .bool y.1.2] 51)) := (Below.refl _ _).alloc (Nat.le_refl _) _
      have hK0 := hK W.heap.size (W.alloc (.cells #[.int .i64 (y.1.1 : Int), .bool y.1.2] 51)) (ba.block _ (by omega)) (ba.block _ (by omega))
        ⟨⟨Fi, hI.keep BB.out.1 HFL.out ⟨rfl, rfl, rfl⟩ ba.size (fun j hj _ _ => ba.block j hj), fun h => by have := hI.2.2.1.lt _ h; omega⟩, by omega, y, by rw [hy]; exact List.getElem?_eq_getElem hk,
          rowIs_new W _ _ 2 _ rfl (fun i hi => by
            match i, hi with
            | 0, _ => rfl
            | 1, _ => rfl)⟩
      rw [← hy] at hK0 ⊢
      clear hK hI ba hDd hDl hD hy
      obtain ⟨⟨yn, yb⟩, yi⟩ := y
      simp only [List.foldl_cons, List.foldl_nil, List.setIfInBounds_toArray, List.set_cons_succ, List.set_cons_zero] at hK0
      simp only [backSV, List.zip_toArray, List.zip_cons_cons, List.zip_nil_left, List.zip_nil_right, List.foldl_toArray, List.foldl_cons, List.foldl_nil, List.setIfInBounds_toArray, List.set_cons_succ, List.set_cons_zero]
      gi_wp2
      exact hK0
    case bodyf =>
      rintro l k hk bx W xl hIA hDd hDl
      obtain ⟨⟨Fi, hT, hnb⟩, hb2, y, hy, hrb⟩ := hIA
      have hgx := zipRev_get Y k hk
      have hkl : k < Y.length := by rw [zipRev_len] at hk; exact hk
      rw [List.getElem?_eq_getElem hk] at hy
      have hy2 := Option.some.inj hy
      generalize Y.zipIdx.reverse[k] = y2 at hgx hy2 ⊢
      subst hy2
      clear hy
      obtain ⟨⟨yn, yb⟩, yi⟩ := y2
      obtain ⟨hyx, hyi⟩ := hgx
      simp only at hyi
      obtain ⟨hkU, hkp, hUk⟩ := UG.out k hkl _ hyx
      obtain ⟨⟨k1, k2, k3⟩, _, hpc, htW⟩ := GET.out W hT.2.2.2.2
      obtain ⟨g, o, rfl, hpc2⟩ := hpc (by omega)
      have hcx := hpc2 k hkp
      have hxs : isSum path[k] := HP.out.1 _ (List.getElem_mem _)
      obtain ⟨xs, hxe⟩ : ∃ xs, xs = path[k] := ⟨_, rfl⟩
      rw [← hxe] at hcx hxs hUk
      obtain ⟨st, hst⟩ : ∃ st, st = (U.take k).foldl gUpN (N, (old, old)) := ⟨_, rfl⟩
      have hst2 : st.2 = (U.take k).foldl gUp (old, old) := by rw [hst]; exact gUpN_snd _ _ _
      have hss := gUps_sum (U.take k) (old, old) HO.out HO.out
      rw [← hst2] at hss
      have hstN : st.1.length ≤ N.length + 126 := by
        rw [hst]
        have h1 := gUpN_len (U.take k) N (old, old)
        have h2 : (U.take k).length ≤ 63 := by rw [List.length_take, UL.out]; omega
        omega
      have hcl := gCnt_le (U.take k)
      have hcl2 : (U.take k).length ≤ 63 := by rw [List.length_take, UL.out]; omega
      have hst' : (U.take (k + 1)).foldl gUpN (N, (old, old)) = gUpN st (yb, xs) := by rw [take_snoc U k hkU, List.foldl_append, List.foldl_cons, List.foldl_nil, hUk, hst]
      have hcnt : gCnt (U.take (k + 1)) = gCnt (U.take k) + gOne (yb, xs) := by rw [take_snoc U k hkU, gCnt_snoc, hUk]
      rw [← hst] at hT
      have hD : w6.heap.size + 1 < W.heap.size := (Array.getElem?_eq_some_iff.1 hDl).1
      have hlt := hT.2.2.1.lt
      obtain ⟨cc, hcc⟩ : ∃ cc, cc = c + gCnt (U.take k) := ⟨_, rfl⟩
      have hcB : 0 ≤ cc ∧ cc < 100000126 := by have := HC.out; omega
      rw [← hcc] at hT
      have hcc' : c + gCnt (U.take (k + 1)) = cc + gOne (yb, xs) := by omega
      have c3 := k3.cell (i := 0) (by omega)
      have c5 := k2.cell (i := 0) (by omega)
      have hhz := rowIs_box W 29 32 (fun _ => .int .u8 0)
      have n0 : k < path.length := hkp
      have i0 : (0 : Int) ≤ (k : Int) := by omega
      have i1 : (k : Int) < (path.length : Int) := by omega
      have j0 : (0 : Int) ≤ (yi : Int) := by omega
      have j1 : (yi : Int) < 63 := by omega
      have he : (Y.length : Int) - 1 - (yi : Int) = (k : Int) := by omega
      have CX : Hid (∀ j, j < 32 → W.cell? ⟨g, o + k * 32 + j, none⟩ = some (arrV xs j)) := (show _ from hcx)
      have HZ : Hid ((W.alloc (.cells (rowV 32 (fun _ => .int .u8 0)) 29)).rowIs W.heap.size 29 32 (fun _ => .int .u8 0)) := (show _ from hhz)
      have HTT : Hid (tellI w6 w.heap.size F Fi (.pointer ka) st cc W) := (show tellI w6 w.heap.size F Fi (.pointer ka) st cc W from hT)
      have FCT : Hid ((¬ Fi bx ∧ w6.heap.size + 2 ≤ bx) ∧ isSum xs ∧ (isSum st.2.1 ∧ isSum st.2.2) ∧ st.1.length ≤ N.length + 126 ∧ (0 ≤ cc ∧ cc < 100000126) ∧ w6.heap.size + 1 < W.heap.size ∧ tabIs W) := (show _ from ⟨⟨hnb, hb2⟩, hxs, hss, hstN, hcB, hD, htW⟩)
      have RB : Hid (W.rowIs bx 51 2 (fun i => if i = 0 then .int .i64 (yn : Int) else .bool yb)) := (show _ from hrb)
      have FIN : Hid (∀ Fj W9, W9.heap[w6.heap.size]? = W.heap[w6.heap.size]? ∧ W9.heap[w6.heap.size + 1]? = W.heap[w6.heap.size + 1]? ∧ tellI w6 w.heap.size F Fj (.pointer ka) (gUpN st (yb, xs)) (cc + gOne (yb, xs)) W9 → W9.heap[w6.heap.size]? = W.heap[w6.heap.size]? ∧ W9.heap[w6.heap.size + 1]? = W.heap[w6.heap.size + 1]? ∧ ∃ Fi, tellI w6 w.heap.size F Fi (.pointer ka) ((U.take (k + 1)).foldl gUpN (N, (old, old))) (c + gCnt (U.take (k + 1))) W9) := (show _ from fun Fj W9 h => ⟨h.1, h.2.1, Fj, by rw [hst', hcc']; exact h.2.2⟩)
      clear hyx hyi hkU hkp hUk k1 k2 k3 hpc hpc2 htW hcx hxs hxe hst hst2 hss hstN hcl hcl2 hst' hcnt hT hD hlt hcB hcc hcc' hhz hrb hnb hb2 hDd hDl hkl
      simp only [List.foldl_cons, List.foldl_nil, List.setIfInBounds_toArray, List.set_cons_succ, List.set_cons_zero]
      refine wpIn_block ?_
      refine wpIn_seq ?_
      refine wpIn_region_roundP (by kernel_rfl) ?_
      go_wp2_with (first | (refine wpList_load_seg rfl 29 _ rfl g (o + k * 32) 32 (arrV xs) rfl _ Tryd.underlying29 rfl hi32' CX.out ?_) | (refine wpList_store_row rfl 29 _ _ rfl rfl W.heap.size 0 32 (arrV xs) rfl rfl hi32' (fun _ _ => rfl) _ _ _ HZ.out (by omega) ?_; intro W7 r7 z7 b7))
      refine Calm.normal ?_
      have bW7 : Below W.heap.size W W7 := ((Below.refl W.heap.size W).alloc (Nat.le_refl _) _).trans (b7.below' (Nat.le_refl _) (by simp))
      have zW7 : W7.heap.size = W.heap.size + 1 := by rw [z7]; simp
      have r12 : W7.rowIs W.heap.size 29 32 (arrV xs) := r7.congr (fun i hi => by rw [if_pos (by omega), Nat.sub_zero])
      have hT7 := HTT.out.keep BB.out.1 HFL.out ⟨bW7.os, bW7.tape, bW7.output⟩ bW7.size (fun j hj _ _ => bW7.block j hj)
      obtain ⟨⟨k1, _, _⟩, _, _, _⟩ := GET.out W7 hT7.2.2.2.2
      have rb7 := bW7.row RB.out (gRow_lt RB.out)
      have hF4 := hT7.2.2.2.1
      have nFi : ∀ j, w.heap.size ≤ j → j < w6.heap.size + 2 → ¬ Fi j := fun j hb hj hf => by
        rcases hF4 j hf with h | h
        · have := HFL.out j h; omega
        · omega
      have hbb := BB.out
      have hD7 := FCT.out.2.2.2.2.2.1
      have hFlt := HTT.out.2.2.1.lt
      have c11 : W7.cell? ⟨bx, 1, none⟩ = some (.bool yb) := rb7.cell (i := 1) (by omega)
      have ROW4 : Hid (W7.rowIs (w.heap.size + 4) 29 32 (arrV st.2.1)) := (show _ from hT7.1)
      have ROW5 : Hid (W7.rowIs (w.heap.size + 5) 29 32 (arrV st.2.2)) := (show _ from hT7.2.1)
      have NB : Hid ((w.heap.size + 4 < W7.heap.size ∧ ¬ Fi (w.heap.size + 4)) ∧ (w.heap.size + 5 < W7.heap.size ∧ ¬ Fi (w.heap.size + 5))) := (show _ from ⟨⟨by omega, nFi _ (by omega) (by omega)⟩, ⟨by omega, nFi _ (by omega) (by omega)⟩⟩)
      have NG : Hid (∀ (G : Nat → Prop), (∀ j, G j → Fi j ∨ W7.heap.size ≤ j) → ∀ b, b < W7.heap.size ∧ ¬ Fi b → ¬ G b) := (show _ from fun G hG b hb h => by
        rcases hG b h with h | h
        · exact hb.2 h
        · omega)
      have CA : Hid (∀ wz, Fr Fi W7 wz → wz.cell? ⟨w.heap.size, 0, none⟩ = some (.pointer ka) ∧ (∀ j, j < 32 → wz.cell? ⟨W.heap.size, 0 + j, none⟩ = some (arrV xs j)) ∧ (∀ j, j < 32 → wz.cell? ⟨w.heap.size + 4, 0 + j, none⟩ = some (arrV st.2.1 j)) ∧ (∀ j, j < 32 → wz.cell? ⟨w.heap.size + 5, 0 + j, none⟩ = some (arrV st.2.2 j))) := (show _ from fun wz hz => by
        refine ⟨(World.rowIs.of_block k1 (hz.block _ (by omega) (nFi _ (by omega) (by omega)))).cell (i := 0) (by omega), fun j hj => ?_, fun j hj => ?_, fun j hj => ?_⟩
        · rw [Nat.zero_add]; exact (World.rowIs.of_block r12 (hz.block _ (by omega) (fun h => by have := hFlt _ h; omega))).cell hj
        · rw [Nat.zero_add]; exact (World.rowIs.of_block hT7.1 (hz.block _ NB.out.1.1 NB.out.1.2)).cell hj
        · rw [Nat.zero_add]; exact (World.rowIs.of_block hT7.2.1 (hz.block _ NB.out.2.1 NB.out.2.2)).cell hj)
      have CB : Hid (∀ wz, Fr (fun j => Fi j ∨ j = w.heap.size + 4) W7 wz → wz.cell? ⟨w.heap.size, 0, none⟩ = some (.pointer ka) ∧ (∀ j, j < 32 → wz.cell? ⟨W.heap.size, 0 + j, none⟩ = some (arrV xs j)) ∧ (∀ j, j < 32 → wz.cell? ⟨w.heap.size + 5, 0 + j, none⟩ = some (arrV st.2.2 j))) := (show _ from fun wz hz => by
        refine ⟨(World.rowIs.of_block k1 (hz.block _ (by omega) (fun h => by rcases h with h | h; exact nFi _ (by omega) (by omega) h; omega))).cell (i := 0) (by omega), fun j hj => ?_, fun j hj => ?_⟩
        · rw [Nat.zero_add]; exact (World.rowIs.of_block r12 (hz.block _ (by omega) (fun h => by rcases h with h | h; have := hFlt _ h; omega; omega))).cell hj
        · rw [Nat.zero_add]; exact (World.rowIs.of_block hT7.2.1 (hz.block _ NB.out.2.1 (fun h => by rcases h with h | h; exact NB.out.2.2 h; omega))).cell hj)
      have TS : Hid (tellS W7 Fi (.pointer ka) st.1 cc Fi W7) := (show _ from ⟨hT7.2.2.1, fun j h => Or.inl h, Fr.refl _ _⟩)
      have FI0 : Hid (¬ Fi 0 ∧ 0 < W7.heap.size) := (show _ from ⟨fun h => by
        rcases hF4 0 h with h | h
        · exact HF0.out h
        · omega, by omega⟩)
      have HT7 : Hid (tellI w6 w.heap.size F Fi (.pointer ka) st cc W7) := (show _ from hT7)
      have HD7 : Hid (w6.heap.size + 1 < W7.heap.size) := (show w6.heap.size + 1 < W7.heap.size from by omega)
      have HWD : Hid (W7.heap[w6.heap.size]? = W.heap[w6.heap.size]? ∧ W7.heap[w6.heap.size + 1]? = W.heap[w6.heap.size + 1]?) := (show _ from ⟨bW7.block _ (by omega), bW7.block _ hD7⟩)
      have FTAB : Hid (tabIs W7) := (show _ from FCT.out.2.2.2.2.2.2.below bW7 FCT.out.2.2.2.2.2.2.1)
      have FCU : Hid ((¬ Fi bx ∧ w6.heap.size + 2 ≤ bx) ∧ isSum xs ∧ (isSum st.2.1 ∧ isSum st.2.2) ∧ st.1.length ≤ N.length + 126 ∧ (0 ≤ cc ∧ cc < 100000126) ∧ w6.heap.size + 1 < W.heap.size ∧ True ∧ tabIs W7) := (show _ from ⟨FCT.out.1, FCT.out.2.1, FCT.out.2.2.1, FCT.out.2.2.2.1, FCT.out.2.2.2.2.1, FCT.out.2.2.2.2.2.1, trivial, FTAB.out⟩)
      have FINAL : Hid (∀ Fj W9, W9.rowIs (w.heap.size + 4) 29 32 (arrV (gUpN st (yb, xs)).2.1) → W9.rowIs (w.heap.size + 5) 29 32 (arrV (gUpN st (yb, xs)).2.2) → bkAt (.pointer ka) W9 Fj (gUpN st (yb, xs)).1 (cc + gOne (yb, xs)) → (∀ j, Fj j → Fi j ∨ W7.heap.size ≤ j) → Fr (fun j => Fi j ∨ j = w.heap.size + 4 ∨ j = w.heap.size + 5) W7 W9 →
          W9.heap[w6.heap.size]? = W.heap[w6.heap.size]? ∧ W9.heap[w6.heap.size + 1]? = W.heap[w6.heap.size + 1]? ∧ ∃ Fi, tellI w6 w.heap.size F Fi (.pointer ka) ((U.take (k + 1)).foldl gUpN (N, (old, old))) (c + gCnt (U.take (k + 1))) W9) := (show _ from fun Fj W9 h1 h2 h3 h4 h5 => by
        have h := tell_post HT7.out HD7.out BB.out.1 HFL.out h1 h2 h3 h4 h5
        have h' := FIN.out Fj W9 ⟨h.1.trans HWD.out.1, h.2.1.trans HWD.out.2, h.2.2⟩
        exact h')
      clear bW7 zW7 r12 hT7 k1 rb7 hF4 nFi hbb hD7 hFlt FIN HT7 HD7 HWD HTT RB CX HZ r7 z7 b7 c3 c5 he
      cases yb with
      | true =>
        gi_upto_region 9 with fail
        refine wpIn_region_roundP (by kernel_rfl) ?_
        have tS0 := TS.out
        obtain ⟨Wa, hWa⟩ : ∃ W', W' = W7.alloc (.cells (rowV 64 (fun j => if j < 32 then arrV st.2.2 j else arrV xs (j - 32))) 29) := ⟨_, rfl⟩
        obtain ⟨tWa, f1⟩ := tS0.alloc2 st.2.2 xs FCU.out.2.2.1.2 FCU.out.2.1
        rw [← hWa] at tWa f1
        have X7 := tWa.call f1 (by simp) FCU.out.2.2.2.2.2.2.2 FI0.out.1 FI0.out.2 (by have := FCU.out.2.2.2.1; have := HN.out; omega) (by have := FCU.out.2.2.2.2.1; omega)
        have ca := CA.out W7 (Fr.refl _ _)
        have cb0 := ca.1
        have CAH : Hid _ := ca
        have BR := build_two (arrV st.2.2) (arrV xs) W7
        rw [← hWa] at BR
        have HBR : Hid _ := BR
        clear tWa f1 ca hWa BR
        refine wpList_runG (v := .pointer ka) (w' := W7) rfl ?k1f ?k2f
        case k1f => (go_simp; first | done | with_reducible rfl)
        try simp only [Act.put, List.setIfInBounds_toArray, List.set_cons_zero, List.set_cons_succ]
        refine wpList_load_seg rfl 29 _ rfl (w.heap.size + 5) 0 32 (arrV st.2.2) rfl _ Tryd.underlying29 rfl hi32' CAH.out.2.2.2 ?_
        try simp only [Act.put, List.setIfInBounds_toArray, List.set_cons_zero, List.set_cons_succ]
        refine wpList_load_seg rfl 29 _ rfl W.heap.size 0 32 (arrV xs) rfl _ Tryd.underlying29 rfl hi32' CAH.out.2.1 ?_
        try simp only [Act.put, List.setIfInBounds_toArray, List.set_cons_zero, List.set_cons_succ]
        refine wpList_runG (v := .slice (some ⟨W7.heap.size, 0, none⟩) 2 2) (w' := Wa) rfl (exec_bslice2' 22 2 0 1 (.tmp 40) (.tmp 41) (.agg (rowV 32 (arrV st.2.2))) (.agg (rowV 32 (arrV xs))) rfl rfl rfl HBR.out) ?_
        try simp only [Act.put, List.setIfInBounds_toArray, List.set_cons_zero, List.set_cons_succ]
        refine wpList_plain rfl (fun K hK => ?_)
        go_simp
        refine Calls.mono X7 ?_
        rintro e Wd ⟨Gj, rfl, tWd, _⟩
        have rd5 := World.rowIs.of_block ROW5.out (tWd.2.2.block _ NB.out.2.1 NB.out.2.2)
        have rd4 := World.rowIs.of_block ROW4.out (tWd.2.2.block _ NB.out.1.1 NB.out.1.2)
        have HT7 : Hid (tellS W7 Fi (.pointer ka) (addN st.1 (ntOf [st.2.2, xs])) (cc + 1) Gj Wd) := (show _ from tWd)
        have RD5 : Hid (Wd.rowIs (w.heap.size + 5) 29 32 (arrV st.2.2)) := (show _ from rd5)
        have RD4 : Hid (Wd.rowIs (w.heap.size + 4) 29 32 (arrV st.2.1)) := (show _ from rd4)
        clear X7 tWd rd5 rd4 cb0
        refine hK _ _ ?_
        clear hK K
        try simp only [Act.put, List.setIfInBounds_toArray, List.set_cons_zero, List.set_cons_succ]
        refine wpList_store_row rfl 29 _ _ rfl rfl (w.heap.size + 5) 0 32 (arrV (nodeS [st.2.2, xs])) rfl rfl hi32' (fun _ _ => rfl) _ _ _ RD5.out (by omega) ?_
        intro V2 rV2 zV2 bV2
        refine wpList_nil ?_
        refine Calm.normal ?_
        have rV2' : V2.rowIs (w.heap.size + 5) 29 32 (arrV (nodeS [st.2.2, xs])) := rV2.congr (fun i hi => by rw [if_pos (by omega), Nat.sub_zero])
        have tWd := HT7.out
        have FF := FINAL.out Gj V2 (bV2.row RD4.out (by have := tWd.2.2.size; have := NB.out.1.1; omega) (by omega)) rV2'
          (tWd.1.far (fun j hj hl => bV2.block j hl (fun e => NG.out _ tWd.2.1 (w.heap.size + 5) NB.out.2 (e ▸ hj))) (by omega)) tWd.2.1
          ⟨bV2.os.trans tWd.2.2.os, bV2.tape.trans tWd.2.2.tape, bV2.output.trans tWd.2.2.output, by have := tWd.2.2.size; omega, fun j hj hn => (bV2.block j (by have := tWd.2.2.size; omega) (fun e => hn (Or.inr (Or.inr e)))).trans (tWd.2.2.block j hj (fun h => hn (Or.inl h)))⟩
        exact FF
      | false =>
        obtain ⟨Wx, hWx⟩ : ∃ Wx, Wx = W7.drew := ⟨_, rfl⟩
        have hz7 : Fr Fi W7 Wx := by rw [hWx]; exact (Fr.refl Fi W7).drew
        have tS0 : tellS W7 Fi (.pointer ka) st.1 cc Fi Wx := ⟨by rw [hWx]; exact TS.out.1.drew, fun j h => Or.inl h, hz7⟩
        have HJ : Hid (∀ s, JJ 10 (Fr Fi W7) 11 (Fr (fun j => Fi j ∨ j = w.heap.size + 4) W7) s Wx) := (show ∀ s, JJ 10 (Fr Fi W7) 11 (Fr (fun j => Fi j ∨ j = w.heap.size + 4) W7) s Wx from JJ_all hz7 (hz7.mono (fun j h => Or.inl h)))
        gi_upto_region 10 with fail
        refine wpIn_region_roundT (JJ 10 (Fr Fi W7) 11 (Fr (fun j => Fi j ∨ j = w.heap.size + 4) W7)) (by kernel_rfl) (by kernel_rfl) ?_
        rw [← hWx]
        clear hWx
        refine take_opT (i := 0) (v := ?vM0) 10 rfl (by kernel_rfl) (by kernel_rfl) (by kernel_rfl) (by kernel_rfl) (by kernel_rfl) (JJ_free rfl rfl) (fun _ _ _ h => h) rfl HJ.out ?yM0 ?rM0
        case yM0 => (intro wz hz0; have hz := hz0.1 rfl; have hcz := (CA.out wz hz).1; go_simp; first | done | with_reducible rfl)
        try simp only [Act.put, List.setIfInBounds_toArray, List.set_cons_zero, List.set_cons_succ]
        refine take_loadT (i := 1) 10 rfl (by kernel_rfl) (by kernel_rfl) (by kernel_rfl) (by kernel_rfl) (by kernel_rfl) (JJ_free rfl rfl) 29 _ rfl W.heap.size 0 32 (arrV xs) rfl _ Tryd.underlying29 rfl (by kernel_rfl) (fun _ _ _ h => h) rfl HJ.out (fun wz hz => (CA.out wz (hz.1 rfl)).2.1) ?_
        try simp only [Act.put, List.setIfInBounds_toArray, List.set_cons_zero, List.set_cons_succ]
        refine take_loadT (i := 2) 10 rfl (by kernel_rfl) (by kernel_rfl) (by kernel_rfl) (by kernel_rfl) (by kernel_rfl) (JJ_free rfl rfl) 29 _ rfl (w.heap.size + 4) 0 32 (arrV st.2.1) rfl _ Tryd.underlying29 rfl (by kernel_rfl) (fun _ _ _ h => h) rfl HJ.out (fun wz hz => (CA.out wz (hz.1 rfl)).2.2.1) ?_
        try simp only [Act.put, List.setIfInBounds_toArray, List.set_cons_zero, List.set_cons_succ]
        refine take_opT (i := 5) (v := ?vM5) 11 rfl (by kernel_rfl) (by kernel_rfl) (by kernel_rfl) (by kernel_rfl) (by kernel_rfl) (JJ_free rfl rfl) (fun _ _ _ h => h) rfl HJ.out ?yM5 ?rM5
        case yM5 => (intro wz hz0; have hz := hz0.2 rfl; have hcz := (CB.out wz hz).1; go_simp; first | done | with_reducible rfl)
        try simp only [Act.put, List.setIfInBounds_toArray, List.set_cons_zero, List.set_cons_succ]
        refine take_loadT (i := 6) 11 rfl (by kernel_rfl) (by kernel_rfl) (by kernel_rfl) (by kernel_rfl) (by kernel_rfl) (JJ_free rfl rfl) 29 _ rfl W.heap.size 0 32 (arrV xs) rfl _ Tryd.underlying29 rfl (by kernel_rfl) (fun _ _ _ h => h) rfl HJ.out (fun wz hz => (CB.out wz (hz.2 rfl)).2.1) ?_
        try simp only [Act.put, List.setIfInBounds_toArray, List.set_cons_zero, List.set_cons_succ]
        refine take_loadT (i := 7) 11 rfl (by kernel_rfl) (by kernel_rfl) (by kernel_rfl) (by kernel_rfl) (by kernel_rfl) (JJ_free rfl rfl) 29 _ rfl (w.heap.size + 5) 0 32 (arrV st.2.2) rfl _ Tryd.underlying29 rfl (by kernel_rfl) (fun _ _ _ h => h) rfl HJ.out (fun wz hz => (CB.out wz (hz.2 rfl)).2.2) ?_
        try simp only [Act.put, List.setIfInBounds_toArray, List.set_cons_zero, List.set_cons_succ]
        refine take_pairT (i := 3) (j := 8) rfl rfl (by kernel_rfl) rfl rfl ?M1 ?M2
        case M1 =>
          intro K hK
          obtain ⟨Wa, hWa⟩ : ∃ W', W' = Wx.alloc (.cells (rowV 64 (fun j => if j < 32 then arrV xs j else arrV st.2.1 (j - 32))) 29) := ⟨_, rfl⟩
          obtain ⟨tWa, f1Wa⟩ := tS0.alloc2 xs st.2.1 FCU.out.2.1 FCU.out.2.2.1.1
          rw [← hWa] at tWa f1Wa
          refine wp_of_run (w' := Wa) (by rw [hWa]; exact exec_bslice2' 22 2 0 1 (.tmp 45) (.tmp 46) _ _ rfl rfl rfl (build_two (arrV xs) (arrV st.2.1) Wx)) ?_
          refine hK.out _ _ (heldJ_all tWa.2.2 (tWa.2.2.mono (fun j h => Or.inl h))) ?_
          clear hK K hWa
          try simp only [Act.put, List.setIfInBounds_toArray, List.set_cons_zero, List.set_cons_succ]
          refine take_pairT (i := 4) (j := 8) rfl rfl (by kernel_rfl) rfl rfl ?M3 ?M4
          case M3 =>
            intro K hK
            go_simp
            refine Calls.mono (tWa.call f1Wa (by simp) FCU.out.2.2.2.2.2.2.2 FI0.out.1 FI0.out.2 (by have := FCU.out.2.2.2.1; have := HN.out; omega) (by have := FCU.out.2.2.2.2.1; omega)) ?_
            rintro e Wb ⟨GWb, rfl, tWb, keepWb⟩
            refine hK.out _ _ (heldJ_all tWb.2.2 (tWb.2.2.mono (fun j h => Or.inl h))) ?_
            clear hK K
            try simp only [Act.put, List.setIfInBounds_toArray, List.set_cons_zero, List.set_cons_succ]
            refine take_oneT (i := 8) rfl (by kernel_rfl) rfl (fun K hK => ?_)
            obtain ⟨Wc, hWc⟩ : ∃ W', W' = Wb.alloc (.cells (rowV 64 (fun j => if j < 32 then arrV xs j else arrV st.2.2 (j - 32))) 29) := ⟨_, rfl⟩
            obtain ⟨tWc, f2Wc⟩ := tWb.alloc2 xs st.2.2 FCU.out.2.1 FCU.out.2.2.1.2
            rw [← hWc] at tWc f2Wc
            refine wp_of_run (w' := Wc) (by rw [hWc]; exact exec_bslice2' 22 2 0 1 (.tmp 50) (.tmp 51) _ _ rfl rfl rfl (build_two (arrV xs) (arrV st.2.2) Wb)) ?_
            refine hK.out _ _ (heldJ_all tWc.2.2 (tWc.2.2.mono (fun j h => Or.inl h))) ?_
            clear hK K hWc
            try simp only [Act.put, List.setIfInBounds_toArray, List.set_cons_zero, List.set_cons_succ]
            refine take_oneT (i := 9) rfl (by kernel_rfl) rfl (fun K hK => ?_)
            go_simp
            refine Calls.mono (tWc.call f2Wc (by simp) FCU.out.2.2.2.2.2.2.2 FI0.out.1 FI0.out.2 (by have := FCU.out.2.2.2.1; have := HN.out; have := addN_le st.1 (ntOf [xs, st.2.1]); omega) (by have := FCU.out.2.2.2.2.1; omega)) ?_
            rintro e Wd ⟨GWd, rfl, tWd, keepWd⟩
            refine hK.out _ _ (heldJ_all tWd.2.2 (tWd.2.2.mono (fun j h => Or.inl h))) ?_
            clear hK K
            try simp only [Act.put, List.setIfInBounds_toArray, List.set_cons_zero, List.set_cons_succ]
            obtain ⟨V1, hst, rV1, zV1, bV1⟩ := tell_store (q := nodeS [xs, st.2.1]) (World.rowIs.of_block ROW4.out (tWd.2.2.block _ NB.out.1.1 NB.out.1.2))
            refine take_oneT (i := 10) rfl (by kernel_rfl) rfl (fun K hK => ?_)
            unfold Oper.wp execOp
            simp only [Instr.storeAt, Instr.sureAddr, Sem.run_bind, Sem.run_pure, Result.andThen_ok]
            simp [Act.eval, hst, Oper.upon]
            clear hst
            refine hK.out _ _ (heldJ_b rfl ?_) ?_
            · have z := tWd.2.2.size
              refine ⟨bV1.os.trans tWd.2.2.os, bV1.tape.trans tWd.2.2.tape, bV1.output.trans tWd.2.2.output, by omega, fun j hj hn => (bV1.block j (by omega) (fun e => hn (Or.inr e))).trans (tWd.2.2.block j hj (fun h => hn (Or.inl h)))⟩
            clear hK K
            try simp only [Act.put, List.setIfInBounds_toArray, List.set_cons_zero, List.set_cons_succ]
            obtain ⟨V2, hst, rV2, zV2, bV2⟩ := tell_store (q := nodeS [xs, st.2.2]) (bV1.row (World.rowIs.of_block ROW5.out (tWd.2.2.block _ NB.out.2.1 NB.out.2.2)) (by have := tWd.2.2.size; have := NB.out.2.1; omega) (by omega))
            refine take_oneT (i := 11) rfl (by kernel_rfl) rfl (fun K hK => ?_)
            unfold Oper.wp execOp
            simp only [Instr.storeAt, Instr.sureAddr, Sem.run_bind, Sem.run_pure, Result.andThen_ok]
            simp [Act.eval, hst, Oper.upon]
            clear hst
            refine hK.out _ _ (heldJ_none rfl rfl) ?_
            clear hK K
            try simp only [Act.put, List.setIfInBounds_toArray, List.set_cons_zero, List.set_cons_succ]
            refine doneT (by kernel_rfl) ?_ _
            refine Calm.normal ?_
            have tb := tWd.1
            rw [show cc + 1 + 1 = cc + gOne (false, xs) from by unfold gOne; rw [if_neg (by simp)]; omega] at tb
            have FF := FINAL.out GWd V2 (bV2.row rV1 (by have := tWd.2.2.size; have := NB.out.1.1; omega) (by omega)) rV2
              (tb.far (fun j hj hl => (bV2.block j (by omega) (fun e => NG.out _ tWd.2.1 (w.heap.size + 5) NB.out.2 (e ▸ hj))).trans (bV1.block j hl (fun e => NG.out _ tWd.2.1 (w.heap.size + 4) NB.out.1 (e ▸ hj)))) (by omega)) tWd.2.1
              ⟨bV2.os.trans (bV1.os.trans tWd.2.2.os), bV2.tape.trans (bV1.tape.trans tWd.2.2.tape), bV2.output.trans (bV1.output.trans tWd.2.2.output), by have := tWd.2.2.size; omega, fun j hj hn => (bV2.block j (by have := tWd.2.2.size; omega) (fun e => hn (Or.inr (Or.inr e)))).trans ((bV1.block j (by have := tWd.2.2.size; omega) (fun e => hn (Or.inr (Or.inl e)))).trans (tWd.2.2.block j hj (fun h => hn (Or.inl h))))⟩
            exact FF
          case M4 =>
            intro K hK
            obtain ⟨Wb, hWb⟩ : ∃ W', W' = Wa.alloc (.cells (rowV 64 (fun j => if j < 32 then arrV xs j else arrV st.2.2 (j - 32))) 29) := ⟨_, rfl⟩
            obtain ⟨tWb, f2Wb⟩ := tWa.alloc2 xs st.2.2 FCU.out.2.1 FCU.out.2.2.1.2
            rw [← hWb] at tWb f2Wb
            have f1WaWb := f1Wa.alloc (.cells (rowV 64 (fun j => if j < 32 then arrV xs j else arrV st.2.2 (j - 32))) 29)
            rw [← hWb] at f1WaWb
            refine wp_of_run (w' := Wb) (by rw [hWb]; exact exec_bslice2' 22 2 0 1 (.tmp 50) (.tmp 51) _ _ rfl rfl rfl (build_two (arrV xs) (arrV st.2.2) Wa)) ?_
            refine hK.out _ _ (heldJ_all tWb.2.2 (tWb.2.2.mono (fun j h => Or.inl h))) ?_
            clear hK K hWb
            try simp only [Act.put, List.setIfInBounds_toArray, List.set_cons_zero, List.set_cons_succ]
            refine take_oneT (i := 4) rfl (by kernel_rfl) rfl (fun K hK => ?_)
            go_simp
            refine Calls.mono (tWb.call f1WaWb (by simp) FCU.out.2.2.2.2.2.2.2 FI0.out.1 FI0.out.2 (by have := FCU.out.2.2.2.1; have := HN.out; omega) (by have := FCU.out.2.2.2.2.1; omega)) ?_
            rintro e Wc ⟨GWc, rfl, tWc, keepWc⟩
            refine hK.out _ _ (heldJ_all tWc.2.2 (tWc.2.2.mono (fun j h => Or.inl h))) ?_
            clear hK K
            try simp only [Act.put, List.setIfInBounds_toArray, List.set_cons_zero, List.set_cons_succ]
            refine take_oneT (i := 9) rfl (by kernel_rfl) rfl (fun K hK => ?_)
            go_simp
            refine Calls.mono (tWc.call (keepWc _ _ f2Wb) (by simp) FCU.out.2.2.2.2.2.2.2 FI0.out.1 FI0.out.2 (by have := FCU.out.2.2.2.1; have := HN.out; have := addN_le st.1 (ntOf [xs, st.2.1]); omega) (by have := FCU.out.2.2.2.2.1; omega)) ?_
            rintro e Wd ⟨GWd, rfl, tWd, keepWd⟩
            refine hK.out _ _ (heldJ_all tWd.2.2 (tWd.2.2.mono (fun j h => Or.inl h))) ?_
            clear hK K
            try simp only [Act.put, List.setIfInBounds_toArray, List.set_cons_zero, List.set_cons_succ]
            obtain ⟨V1, hst, rV1, zV1, bV1⟩ := tell_store (q := nodeS [xs, st.2.1]) (World.rowIs.of_block ROW4.out (tWd.2.2.block _ NB.out.1.1 NB.out.1.2))
            refine take_oneT (i := 10) rfl (by kernel_rfl) rfl (fun K hK => ?_)
            unfold Oper.wp execOp
            simp only [Instr.storeAt, Instr.sureAddr, Sem.run_bind, Sem.run_pure, Result.andThen_ok]
            simp [Act.eval, hst, Oper.upon]
            clear hst
            refine hK.out _ _ (heldJ_b rfl ?_) ?_
            · have z := tWd.2.2.size
              refine ⟨bV1.os.trans tWd.2.2.os, bV1.tape.trans tWd.2.2.tape, bV1.output.trans tWd.2.2.output, by omega, fun j hj hn => (bV1.block j (by omega) (fun e => hn (Or.inr e))).trans (tWd.2.2.block j hj (fun h => hn (Or.inl h)))⟩
            clear hK K
            try simp only [Act.put, List.setIfInBounds_toArray, List.set_cons_zero, List.set_cons_succ]
            obtain ⟨V2, hst, rV2, zV2, bV2⟩ := tell_store (q := nodeS [xs, st.2.2]) (bV1.row (World.rowIs.of_block ROW5.out (tWd.2.2.block _ NB.out.2.1 NB.out.2.2)) (by have := tWd.2.2.size; have := NB.out.2.1; omega) (by omega))
            refine take_oneT (i := 11) rfl (by kernel_rfl) rfl (fun K hK => ?_)
            unfold Oper.wp execOp
            simp only [Instr.storeAt, Instr.sureAddr, Sem.run_bind, Sem.run_pure, Result.andThen_ok]
            simp [Act.eval, hst, Oper.upon]
            clear hst
            refine hK.out _ _ (heldJ_none rfl rfl) ?_
            clear hK K
            try simp only [Act.put, List.setIfInBounds_toArray, List.set_cons_zero, List.set_cons_succ]
            refine doneT (by kernel_rfl) ?_ _
            refine Calm.normal ?_
            have tb := tWd.1
            rw [show cc + 1 + 1 = cc + gOne (false, xs) from by unfold gOne; rw [if_neg (by simp)]; omega] at tb
            have FF := FINAL.out GWd V2 (bV2.row rV1 (by have := tWd.2.2.size; have := NB.out.1.1; omega) (by omega)) rV2
              (tb.far (fun j hj hl => (bV2.block j (by omega) (fun e => NG.out _ tWd.2.1 (w.heap.size + 5) NB.out.2 (e ▸ hj))).trans (bV1.block j hl (fun e => NG.out _ tWd.2.1 (w.heap.size + 4) NB.out.1 (e ▸ hj)))) (by omega)) tWd.2.1
              ⟨bV2.os.trans (bV1.os.trans tWd.2.2.os), bV2.tape.trans (bV1.tape.trans tWd.2.2.tape), bV2.output.trans (bV1.output.trans tWd.2.2.output), by have := tWd.2.2.size; omega, fun j hj hn => (bV2.block j (by have := tWd.2.2.size; omega) (fun e => hn (Or.inr (Or.inr e)))).trans ((bV1.block j (by have := tWd.2.2.size; omega) (fun e => hn (Or.inr (Or.inl e)))).trans (tWd.2.2.block j hj (fun h => hn (Or.inl h))))⟩
            exact FF
        case M2 =>
          intro K hK
          obtain ⟨Wa, hWa⟩ : ∃ W', W' = Wx.alloc (.cells (rowV 64 (fun j => if j < 32 then arrV xs j else arrV st.2.2 (j - 32))) 29) := ⟨_, rfl⟩
          obtain ⟨tWa, f2Wa⟩ := tS0.alloc2 xs st.2.2 FCU.out.2.1 FCU.out.2.2.1.2
          rw [← hWa] at tWa f2Wa
          refine wp_of_run (w' := Wa) (by rw [hWa]; exact exec_bslice2' 22 2 0 1 (.tmp 50) (.tmp 51) _ _ rfl rfl rfl (build_two (arrV xs) (arrV st.2.2) Wx)) ?_
          refine hK.out _ _ (heldJ_all tWa.2.2 (tWa.2.2.mono (fun j h => Or.inl h))) ?_
          clear hK K hWa
          try simp only [Act.put, List.setIfInBounds_toArray, List.set_cons_zero, List.set_cons_succ]
          refine take_oneT (i := 3) rfl (by kernel_rfl) rfl (fun K hK => ?_)
          obtain ⟨Wb, hWb⟩ : ∃ W', W' = Wa.alloc (.cells (rowV 64 (fun j => if j < 32 then arrV xs j else arrV st.2.1 (j - 32))) 29) := ⟨_, rfl⟩
          obtain ⟨tWb, f1Wb⟩ := tWa.alloc2 xs st.2.1 FCU.out.2.1 FCU.out.2.2.1.1
          rw [← hWb] at tWb f1Wb
          have f2WaWb := f2Wa.alloc (.cells (rowV 64 (fun j => if j < 32 then arrV xs j else arrV st.2.1 (j - 32))) 29)
          rw [← hWb] at f2WaWb
          refine wp_of_run (w' := Wb) (by rw [hWb]; exact exec_bslice2' 22 2 0 1 (.tmp 45) (.tmp 46) _ _ rfl rfl rfl (build_two (arrV xs) (arrV st.2.1) Wa)) ?_
          refine hK.out _ _ (heldJ_all tWb.2.2 (tWb.2.2.mono (fun j h => Or.inl h))) ?_
          clear hK K hWb
          try simp only [Act.put, List.setIfInBounds_toArray, List.set_cons_zero, List.set_cons_succ]
          refine take_oneT (i := 4) rfl (by kernel_rfl) rfl (fun K hK => ?_)
          go_simp
          refine Calls.mono (tWb.call f1Wb (by simp) FCU.out.2.2.2.2.2.2.2 FI0.out.1 FI0.out.2 (by have := FCU.out.2.2.2.1; have := HN.out; omega) (by have := FCU.out.2.2.2.2.1; omega)) ?_
          rintro e Wc ⟨GWc, rfl, tWc, keepWc⟩
          refine hK.out _ _ (heldJ_all tWc.2.2 (tWc.2.2.mono (fun j h => Or.inl h))) ?_
          clear hK K
          try simp only [Act.put, List.setIfInBounds_toArray, List.set_cons_zero, List.set_cons_succ]
          refine take_oneT (i := 9) rfl (by kernel_rfl) rfl (fun K hK => ?_)
          go_simp
          refine Calls.mono (tWc.call (keepWc _ _ f2WaWb) (by simp) FCU.out.2.2.2.2.2.2.2 FI0.out.1 FI0.out.2 (by have := FCU.out.2.2.2.1; have := HN.out; have := addN_le st.1 (ntOf [xs, st.2.1]); omega) (by have := FCU.out.2.2.2.2.1; omega)) ?_
          rintro e Wd ⟨GWd, rfl, tWd, keepWd⟩
          refine hK.out _ _ (heldJ_all tWd.2.2 (tWd.2.2.mono (fun j h => Or.inl h))) ?_
          clear hK K
          try simp only [Act.put, List.setIfInBounds_toArray, List.set_cons_zero, List.set_cons_succ]
          obtain ⟨V1, hst, rV1, zV1, bV1⟩ := tell_store (q := nodeS [xs, st.2.1]) (World.rowIs.of_block ROW4.out (tWd.2.2.block _ NB.out.1.1 NB.out.1.2))
          refine take_oneT (i := 10) rfl (by kernel_rfl) rfl (fun K hK => ?_)
          unfold Oper.wp execOp
          simp only [Instr.storeAt, Instr.sureAddr, Sem.run_bind, Sem.run_pure, Result.andThen_ok]
          simp [Act.eval, hst, Oper.upon]
          clear hst
          refine hK.out _ _ (heldJ_b rfl ?_) ?_
          · have z := tWd.2.2.size
            refine ⟨bV1.os.trans tWd.2.2.os, bV1.tape.trans tWd.2.2.tape, bV1.output.trans tWd.2.2.output, by omega, fun j hj hn => (bV1.block j (by omega) (fun e => hn (Or.inr e))).trans (tWd.2.2.block j hj (fun h => hn (Or.inl h)))⟩
          clear hK K
          try simp only [Act.put, List.setIfInBounds_toArray, List.set_cons_zero, List.set_cons_succ]
          obtain ⟨V2, hst, rV2, zV2, bV2⟩ := tell_store (q := nodeS [xs, st.2.2]) (bV1.row (World.rowIs.of_block ROW5.out (tWd.2.2.block _ NB.out.2.1 NB.out.2.2)) (by have := tWd.2.2.size; have := NB.out.2.1; omega) (by omega))
          refine take_oneT (i := 11) rfl (by kernel_rfl) rfl (fun K hK => ?_)
          unfold Oper.wp execOp
          simp only [Instr.storeAt, Instr.sureAddr, Sem.run_bind, Sem.run_pure, Result.andThen_ok]
          simp [Act.eval, hst, Oper.upon]
          clear hst
          refine hK.out _ _ (heldJ_none rfl rfl) ?_
          clear hK K
          try simp only [Act.put, List.setIfInBounds_toArray, List.set_cons_zero, List.set_cons_succ]
          refine doneT (by kernel_rfl) ?_ _
          refine Calm.normal ?_
          have tb := tWd.1
          rw [show cc + 1 + 1 = cc + gOne (false, xs) from by unfold gOne; rw [if_neg (by simp)]; omega] at tb
          have FF := FINAL.out GWd V2 (bV2.row rV1 (by have := tWd.2.2.size; have := NB.out.1.1; omega) (by omega)) rV2
            (tb.far (fun j hj hl => (bV2.block j (by omega) (fun e => NG.out _ tWd.2.1 (w.heap.size + 5) NB.out.2 (e ▸ hj))).trans (bV1.block j hl (fun e => NG.out _ tWd.2.1 (w.heap.size + 4) NB.out.1 (e ▸ hj)))) (by omega)) tWd.2.1
            ⟨bV2.os.trans (bV1.os.trans tWd.2.2.os), bV2.tape.trans (bV1.tape.trans tWd.2.2.tape), bV2.output.trans (bV1.output.trans tWd.2.2.output), by have := tWd.2.2.size; omega, fun j hj hn => (bV2.block j (by have := tWd.2.2.size; omega) (fun e => hn (Or.inr (Or.inr e)))).trans ((bV1.block j (by have := tWd.2.2.size; omega) (fun e => hn (Or.inr (Or.inl e)))).trans (tWd.2.2.block j hj (fun h => hn (Or.inl h))))⟩
          exact FF
    case donef =>
      rintro W hP hDd
      obtain ⟨Fi, hT⟩ := hP
      rw [zipRev_len, ← UL.out, List.take_length] at hT
      obtain ⟨st, hst⟩ : ∃ st, st = U.foldl gUpN (N, (old, old)) := ⟨_, rfl⟩
      have hst2 : st.2 = U.foldl gUp (old, old) := by rw [hst]; exact gUpN_snd _ _ _
      rw [← hst] at hT
      obtain ⟨h4, h5, hbk, hFi, hfr⟩ := hT
      have hbb := BB.out
      have hD : w6.heap.size < W.heap.size := (Array.getElem?_eq_some_iff.1 hDd).1
      have nFi : ∀ j, w.heap.size ≤ j → j < w6.heap.size + 2 → ¬ Fi j := fun j hb hj hf => by
        rcases hFi j hf with h | h
        · have := HFL.out j h; omega
        · omega
      have EU2 : Hid (gTellN N Y old path = st.1 ∧ gTell Y old path = st.2 ∧ gUps Y (gRest Y path) = U) := (show _ ∧ _ ∧ _ from ⟨by rw [hst]; exact EU.out.1, by rw [hst2]; exact EU.out.2.1, EU.out.2.2⟩)
      have H4 : Hid (W.rowIs (w.heap.size + 4) 29 32 (arrV st.2.1)) := (show W.rowIs (w.heap.size + 4) 29 32 (arrV st.2.1) from h4)
      have H5 : Hid (W.rowIs (w.heap.size + 5) 29 32 (arrV st.2.2)) := (show W.rowIs (w.heap.size + 5) 29 32 (arrV st.2.2) from h5)
      have FINAL : Hid (∀ W9, Fr (fun j => j = w.heap.size + 4 ∨ j = w.heap.size + 5) W W9 → W9.heap[w6.heap.size]? = some (.deferred (some [])) ∧ ∃ Fj, bkAt (.pointer ka) (W9.putObj w6.heap.size (.deferred none)) Fj st.1 (c + gCnt U) ∧ (∀ j, Fj j → F j ∨ w.heap.size ≤ j) ∧ Fr F w (W9.putObj w6.heap.size (.deferred none))) := (show ∀ W9, Fr (fun j => j = w.heap.size + 4 ∨ j = w.heap.size + 5) W W9 → _ from fun W9 h9 => by
        have z9 := h9.size
        have zf := hfr.size
        have hpz : (W9.putObj w6.heap.size (.deferred none)).heap.size = W9.heap.size := by simp [World.putObj]
        refine ⟨(h9.block _ hD (fun h => by omega)).trans hDd, Fi, ?_, fun j hj => ?_, ?_⟩
        · exact hbk.far (fun j hj hl => (putObj_block W9 _ _ (fun e => nFi _ (by omega) (by omega) (e ▸ hj))).trans (h9.block j hl (fun h => by
            rcases h with h | h
            · exact nFi _ (by omega) (by omega) (h ▸ hj)
            · exact nFi _ (by omega) (by omega) (h ▸ hj)))) (by omega)
        · rcases hFi j hj with h | h
          · exact Or.inl h
          · exact Or.inr (by omega)
        · have b6 := T6.out.2
          refine ⟨h9.os.trans (hfr.os.trans b6.os), h9.tape.trans (hfr.tape.trans b6.tape), h9.output.trans (hfr.output.trans b6.output), by have := b6.size; omega, fun j hj hn => ?_⟩
          exact (putObj_block W9 _ _ (by omega)).trans ((h9.block j (by omega) (by omega)).trans ((hfr.block j (by omega) (fun h => by rcases h with h | h | h; exact hn h; omega; omega)).trans (b6.block j hj))))
      have ND : Hid (w.heap.size + 5 < w6.heap.size ∧ w6.heap.size < W.heap.size) := (show _ ∧ _ from ⟨by omega, hD⟩)
      clear hst hst2 h4 h5 hbk hFi hfr hbb hD nFi hDd
      go_upto_region 11 with fail
      refine wp_region_noPanic ?_
      refine wp_region_held_drew (S := fun w' => w'.rowIs (w.heap.size + 4) 29 32 (arrV st.2.1) ∧ w'.rowIs (w.heap.size + 5) 29 32 (arrV st.2.2)) (by kernel_rfl) ⟨H4.out, H5.out⟩ (fun hHeld => ?_)
      refine take_load (i := 0) rfl (by kernel_rfl) (by kernel_rfl) (by kernel_rfl) 29 _ rfl (w.heap.size + 4) 0 32 (arrV st.2.1) rfl _ Tryd.underlying29 rfl (by kernel_rfl) (fun _ _ _ h => h) rfl hHeld (fun wz hz j hj => by rw [Nat.zero_add]; exact World.rowIs.cell hz.1 hj) ?_
      try simp only [Act.put, List.setIfInBounds_toArray, List.set_cons_zero, List.set_cons_succ]
      refine take_load (i := 1) rfl (by kernel_rfl) (by kernel_rfl) (by kernel_rfl) 29 _ rfl (w.heap.size + 5) 0 32 (arrV st.2.2) rfl _ Tryd.underlying29 rfl (by kernel_rfl) (fun _ _ _ h => h) rfl hHeld (fun wz hz j hj => by rw [Nat.zero_add]; exact World.rowIs.cell hz.2 hj) ?_
      try simp only [Act.put, List.setIfInBounds_toArray, List.set_cons_zero, List.set_cons_succ]
      obtain ⟨V1, hst, rV1, zV1, bV1⟩ := tell_store (q := st.2.1) (show W.drew.rowIs (w.heap.size + 4) 29 32 (arrV st.2.1) from H4.out)
      refine take_one (i := 2) rfl (by kernel_rfl) rfl (fun K hK => ?_)
      unfold Oper.wp execOp
      simp only [Instr.storeAt, Instr.sureAddr, Sem.run_bind, Sem.run_pure, Result.andThen_ok]
      simp [Act.eval, hst, Oper.upon]
      clear hst
      have zd : W.drew.heap.size = W.heap.size := rfl
      have y5 := bV1.row (show W.drew.rowIs (w.heap.size + 5) 29 32 (arrV st.2.2) from H5.out) (by have := ND.out; omega) (by omega)
      refine hK.out _ _ ⟨rV1, y5⟩ (fun hHeld => ?_)
      clear hK K
      try simp only [Act.put, List.setIfInBounds_toArray, List.set_cons_zero, List.set_cons_succ]
      obtain ⟨V2, hst, rV2, zV2, bV2⟩ := tell_store (q := st.2.2) y5
      refine take_one (i := 3) rfl (by kernel_rfl) rfl (fun K hK => ?_)
      unfold Oper.wp execOp
      simp only [Instr.storeAt, Instr.sureAddr, Sem.run_bind, Sem.run_pure, Result.andThen_ok]
      simp [Act.eval, hst, Oper.upon]
      clear hst
      have y4 := bV2.row rV1 (by have := ND.out; omega) (by omega)
      refine hK.out _ _ ⟨y4, rV2⟩ (fun hHeld => ?_)
      clear hK K
      try simp only [Act.put, List.setIfInBounds_toArray, List.set_cons_zero, List.set_cons_succ]
      refine wpAnyH_done (by kernel_rfl) ?_ _
      refine NoPanic.normal ?_
      have hf9 : Fr (fun j => j = w.heap.size + 4 ∨ j = w.heap.size + 5) W V2 := ⟨bV2.os.trans bV1.os, bV2.tape.trans bV1.tape, bV2.output.trans bV1.output, by omega, fun j hj hn => (bV2.block j (by omega) (fun e => hn (Or.inr e))).trans (bV1.block j (by omega) (fun e => hn (Or.inl e)))⟩
      have FF := FINAL.out V2 hf9
      have Y4 : Hid ((V2.putObj w6.heap.size (.deferred none)).rowIs (w.heap.size + 4) 29 32 (arrV st.2.1)) := (show (V2.putObj w6.heap.size (.deferred none)).rowIs (w.heap.size + 4) 29 32 (arrV st.2.1) from World.rowIs.of_block y4 (putObj_block V2 _ _ (by have := ND.out; omega)))
      have Y5 : Hid ((V2.putObj w6.heap.size (.deferred none)).rowIs (w.heap.size + 5) 29 32 (arrV st.2.2)) := (show (V2.putObj w6.heap.size (.deferred none)).rowIs (w.heap.size + 5) 29 32 (arrV st.2.2) from World.rowIs.of_block rV2 (putObj_block V2 _ _ (by have := ND.out; omega)))
      have HFF : Hid (V2.heap[w6.heap.size]? = some (.deferred (some [])) ∧ ∃ Fj, bkAt (.pointer ka) (V2.putObj w6.heap.size (.deferred none)) Fj st.1 (c + gCnt U) ∧ (∀ j, Fj j → F j ∨ w.heap.size ≤ j) ∧ Fr F w (V2.putObj w6.heap.size (.deferred none))) := (show _ ∧ _ from FF)
      clear y4 y5 rV1 rV2 bV1 bV2 zV1 zV2 zd hf9 FF hHeld
      go_wp2
      refine bodyPostM_mark rfl HFF.out.1 (results_two_cells rfl _ _ (w.heap.size + 4) (w.heap.size + 5) 29 (arrV st.2.1) (arrV st.2.2) 32 _ rfl rfl Tryd.underlying29 rfl hi32' Y4.out Y5.out) ?_
      obtain ⟨Fj, f1, f2, f3⟩ := HFF.out.2
      refine ⟨Fj, ?_, ?_, f2, f3⟩
      · rw [EU2.out.2.1]
      · rw [EU2.out.1, EU2.out.2.2]; exact f1
end Go.Proofs.YthpnenblmkdmcaaDoor

/- grow.Extends. -/
namespace Go.Proofs.YthpnenblmkdmcaaDoor
set_option linter.unusedSimpArgs false
set_option linter.unusedVariables false
open Go.RowKit Go.Deep Go.Shelf

def okI (b : Bool) : Value := .int .i64 (if b = true then 0 else 10)
set_option maxHeartbeats 1000000 in
theorem unless_any (a b o f : List Int) (B9 B10 : Nat) (w : World) (ha : isSum a) (hb : isSum b) (ho : isSum o) (hf : isSum f) (h9 : w.rowIs B9 29 32 (arrV o)) (h10 : w.rowIs B10 29 32 (arrV f)) :
    Calls Tryd.prog 27 #[.agg (rowV 32 (arrV a)), .agg (rowV 32 (arrV b)), .pointer (some ⟨B9, 0, none⟩), .pointer (some ⟨B10, 0, none⟩)] w fun e w' => e = .returned (okI (decide (a = o) && decide (b = f))) ∧ Below w.heap.size w w' := by
  obtain ⟨w1, hw1⟩ : ∃ w1, w1 = (w.alloc (.cells (rowV 32 (arrV a)) 29)).alloc (.cells (rowV 32 (arrV b)) 29) := ⟨_, rfl⟩
  have b1 : Below w.heap.size w w1 := by rw [hw1]; exact (((Below.refl _ _).alloc (Nat.le_refl _) _).alloc (by simp) _)
  have z1 : w1.heap.size = w.heap.size + 2 := by rw [hw1]; simp
  have l9 := gRow_lt h9
  have l10 := gRow_lt h10
  have r4 : w1.rowIs w.heap.size 29 32 (arrV a) := by
    have r := rowIs_box w 29 32 (arrV a)
    rw [hw1]; exact ((Below.refl (w.alloc (.cells (rowV 32 (arrV a)) 29)).heap.size _).alloc (Nat.le_refl _) _).row r (by simp)
  have r5 : w1.rowIs (w.heap.size + 1) 29 32 (arrV b) := by
    have r := rowIs_box (w.alloc (.cells (rowV 32 (arrV a)) 29)) 29 32 (arrV b)
    rw [World.size_alloc] at r
    rw [hw1]; exact r
  have r9 := b1.row h9 (by omega)
  have r10 := b1.row h10 (by omega)
  have C4 : Hid (∀ j, j < 32 → w1.cell? ⟨w.heap.size, 0 + j, none⟩ = some (arrV a j)) := (show _ from fun j hj => by rw [Nat.zero_add]; exact r4.cell hj)
  have C5 : Hid (∀ j, j < 32 → w1.cell? ⟨w.heap.size + 1, 0 + j, none⟩ = some (arrV b j)) := (show _ from fun j hj => by rw [Nat.zero_add]; exact r5.cell hj)
  have C9 : Hid (∀ j, j < 32 → w1.cell? ⟨B9, 0 + j, none⟩ = some (arrV o j)) := (show _ from fun j hj => by rw [Nat.zero_add]; exact r9.cell hj)
  have C10 : Hid (∀ j, j < 32 → w1.cell? ⟨B10, 0 + j, none⟩ = some (arrV f j)) := (show _ from fun j hj => by rw [Nat.zero_add]; exact r10.cell hj)
  have E1 : ∀ wz : World, (Op.equalIn 10000 29 (.agg (rowV 32 (arrV a))) (.agg (rowV 32 (arrV o)))).run Tryd.prog wz = .ok (decide (a = o)) wz := fun wz => run_eq_sums wz 9998 ha ho
  have E2 : ∀ wz : World, (Op.equalIn 10000 29 (.agg (rowV 32 (arrV b))) (.agg (rowV 32 (arrV f)))).run Tryd.prog wz = .ok (decide (b = f)) wz := fun wz => run_eq_sums wz 9998 hb hf
  have B1 : Hid _ := b1
  by_cases e1 : a = o
  · have d1 : decide (a = o) = true := decide_eq_true e1
    have HD1 : Hid _ := d1
    simp only [d1] at E1
    by_cases e2 : b = f
    · have d2 : decide (b = f) = true := decide_eq_true e2
      have HD2 : Hid _ := d2
      simp only [d2] at E2
      clear e1 e2 d1 d2 ha hb ho hf h9 h10 b1 z1 l9 l10 r4 r5 r9 r10
      go_enter Tryd.func27, Tryd.ntmps27
      go_upto_region 1 with fail
      rw [← hw1]
      clear hw1
      go_wp2_with (first | (refine wpList_load_seg rfl 29 _ rfl w.heap.size 0 32 (arrV a) rfl _ Tryd.underlying29 rfl hi32' C4.out ?_) | (refine wpList_load_seg rfl 29 _ rfl B9 0 32 (arrV o) rfl _ Tryd.underlying29 rfl hi32' C9.out ?_) | (refine wpList_load_w 29 _ rfl rfl (w.heap.size + 1) 0 32 (arrV b) rfl _ Tryd.underlying29 rfl hi32' C5.out ?_) | (refine wpList_load_w 29 _ rfl rfl B10 0 32 (arrV f) rfl _ Tryd.underlying29 rfl hi32' C10.out ?_))
      go_ret
      exact ⟨by rw [HD1.out, HD2.out]; rfl, B1.out⟩
    · have d2 : decide (b = f) = false := decide_eq_false e2
      have HD2 : Hid _ := d2
      simp only [d2] at E2
      clear e1 e2 d1 d2 ha hb ho hf h9 h10 b1 z1 l9 l10 r4 r5 r9 r10
      go_enter Tryd.func27, Tryd.ntmps27
      go_upto_region 1 with fail
      rw [← hw1]
      clear hw1
      go_wp2_with (first | (refine wpList_load_seg rfl 29 _ rfl w.heap.size 0 32 (arrV a) rfl _ Tryd.underlying29 rfl hi32' C4.out ?_) | (refine wpList_load_seg rfl 29 _ rfl B9 0 32 (arrV o) rfl _ Tryd.underlying29 rfl hi32' C9.out ?_) | (refine wpList_load_w 29 _ rfl rfl (w.heap.size + 1) 0 32 (arrV b) rfl _ Tryd.underlying29 rfl hi32' C5.out ?_) | (refine wpList_load_w 29 _ rfl rfl B10 0 32 (arrV f) rfl _ Tryd.underlying29 rfl hi32' C10.out ?_))
      go_ret
      exact ⟨by rw [HD1.out, HD2.out]; rfl, B1.out⟩
  · have d1 : decide (a = o) = false := decide_eq_false e1
    have HD1 : Hid _ := d1
    simp only [d1] at E1
    clear e1 d1 ha hb ho hf h9 h10 b1 z1 l9 l10 r4 r5 r9 r10 E2
    go_enter Tryd.func27, Tryd.ntmps27
    go_upto_region 1 with fail
    rw [← hw1]
    clear hw1
    go_wp2_with (first | (refine wpList_load_seg rfl 29 _ rfl w.heap.size 0 32 (arrV a) rfl _ Tryd.underlying29 rfl hi32' C4.out ?_) | (refine wpList_load_seg rfl 29 _ rfl B9 0 32 (arrV o) rfl _ Tryd.underlying29 rfl hi32' C9.out ?_) | (refine wpList_load_w 29 _ rfl rfl (w.heap.size + 1) 0 32 (arrV b) rfl _ Tryd.underlying29 rfl hi32' C5.out ?_) | (refine wpList_load_w 29 _ rfl rfl B10 0 32 (arrV f) rfl _ Tryd.underlying29 rfl hi32' C10.out ?_))
    go_ret
    exact ⟨by rw [HD1.out]; rfl, B1.out⟩
end Go.Proofs.YthpnenblmkdmcaaDoor
