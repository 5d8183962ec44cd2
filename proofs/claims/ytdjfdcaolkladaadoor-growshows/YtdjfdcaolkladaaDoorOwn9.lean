import Derived.ProofKit
import Derived.OpenShut
import Derived.Test.YtdjfdcaolkladaaDoorRows
import Derived.ChangeSlices
import Derived.Deep.Slices
import Derived.Deep.Strs
import Derived.Test.YtdjfdcaolkladaaDoorCards
import Derived.Deep.DeepHandedRow
import Derived.Lib.LaidTab
import Derived.Test.YtdjfdcaolkladaaDoorOwn1
import Derived.Test.YtdjfdcaolkladaaDoorOwn3
import Derived.Test.YtdjfdcaolkladaaDoorOwn4
import Derived.Test.YtdjfdcaolkladaaDoorOwn8
set_option linter.unusedVariables false
set_option linter.unusedSimpArgs false
/- The chapter's examples, walked to the end. -/
namespace Go.Proofs.YtdjfdcaolkladaaDoor
set_option linter.unusedSimpArgs false
set_option linter.unusedVariables false
open Go.RowKit Go.Deep

theorem ext_nil (m n : Int) (old fresh : List Int) (path : List (List Int)) (pv : Value) (w : World) (hm : -9223372036854775808 ≤ m ∧ m ≤ 9223372036854775807) (hn : -9223372036854775808 ≤ n ∧ n ≤ 9223372036854775807)
    (ho : isSum old) (hf : isSum fresh) (hp : sumsAt w pv path) (hpl : path.length ≤ 1000) (ht : tabIs w) :
    Calls Tryd.prog 15 #[.pointer none, .int .i64 m, .int .i64 n, .agg (rowV 32 (arrV old)), .agg (rowV 32 (arrV fresh)), pv] w fun e w' => e = .returned (okI (extR m n old fresh path)) ∧ Below w.heap.size w w' := by
  refine (extends_k (fun _ => False) (.pointer none) [] 0 m n old fresh path pv w hm hn (bkAt.none w [] 0) ho hf hp hpl (fun _ _ _ h => h) ht (fun h => h) (by simp) (by omega)).mono ?_
  rintro e w' ⟨Fi, h1, _, _, h2⟩
  exact ⟨h1, Fr.none h2⟩
set_option maxHeartbeats 4000000 in
set_option maxRecDepth 100000 in
theorem gawake_any (w : World) (ht : tabIs w) : Calls Tryd.prog 9 #[] w fun e w' => e = .returned (.bool true) ∧ Below w.heap.size w w' := by
  have X0 := five_any w
  have hz32 := zero_s32
  have HT : Hid (tabIs w) := (show tabIs w from ht)
  clear ht
  go_enter Tryd.func9, Tryd.ntmps9
  go_wp2_with fail
  refine X0.mono ?_
  rintro e w1 ⟨b, rfl, y1, hb, hb0, b1⟩
  clear X0
  have X1 := between_nil five (.slice (some ⟨b, 0, none⟩) 5 5) 3 w1 (by omega) y1 (by simp [five]) (HT.out.below b1 HT.out.1)
  have Y1 : Hid (sumsAt w1 (.slice (some ⟨b, 0, none⟩) 5 5) five) := (show sumsAt w1 (.slice (some ⟨b, 0, none⟩) 5 5) five from y1)
  have B1 : Hid _ := b1
  have HB : Hid (b < w1.heap.size) := (show b < w1.heap.size from hb)
  clear y1 b1 hb hb0
  go_wp2_with fail
  refine X1.mono ?_
  rintro e w2 ⟨v2, rfl, n2, b2⟩
  clear X1
  rw [gPath_five.1] at n2
  have B12 : Hid (Below w1.heap.size w1 w2) := (show Below w1.heap.size w1 w2 from b2)
  obtain ⟨ga, c2, rfl, _, _, k2⟩ := ownsRow_slice n2.2
  obtain ⟨g2, rfl, hg2, _, hc2⟩ := k2 (by simp)
  have CP : Hid (∀ i q, ([lf 3, lf 4, rootS [lf 1, lf 2], lf 5] : List (List Int))[i]? = some q → ∀ j, j < 32 → w2.cell? ⟨g2, i * 32 + j, none⟩ = some (arrV q j)) := (show _ from fun i q hi j hj => hc2 _ _ (sumsC_get _ i j q hi hj))
  have HG2 : Hid (g2 < w2.heap.size) := (show g2 < w2.heap.size from hg2)
  have X2 := between_nil five (.slice (some ⟨b, 0, none⟩) 5 5) 4 w2 (by omega) (Y1.out.below B12.out (Nat.le_refl _)) (by simp [five]) (HT.out.below (B1.out.trans (B12.out.mono B1.out.size)) HT.out.1)
  clear n2 b2 k2 hg2 hc2
  simp only [List.length_cons, List.length_nil, Nat.zero_add, Nat.reduceAdd]
  go_wp2_with fail
  refine X2.mono ?_
  rintro e w3 ⟨v3, rfl, n3, b3⟩
  clear X2
  rw [gPath_five.2] at n3
  have B23 : Hid (Below w2.heap.size w2 w3) := (show Below w2.heap.size w2 w3 from b3)
  have N3 : Hid (newSums w3 w2.heap.size v3 [lf 5]) := (show newSums w3 w2.heap.size v3 [lf 5] from n3)
  obtain ⟨ga, c3, rfl, _, _, k3⟩ := ownsRow_slice n3.2
  obtain ⟨g3, rfl, hg3, _, hc3⟩ := k3 (by simp)
  have CQ : Hid (∀ i q, ([lf 5] : List (List Int))[i]? = some q → ∀ j, j < 32 → w3.cell? ⟨g3, i * 32 + j, none⟩ = some (arrV q j)) := (show _ from fun i q hi j hj => hc3 _ _ (sumsC_get _ i j q hi hj))
  have HG3 : Hid (g3 < w3.heap.size) := (show g3 < w3.heap.size from hg3)
  have B13 : Hid (Below w1.heap.size w1 w3) := (show Below w1.heap.size w1 w3 from B12.out.trans (B23.out.mono B12.out.size))
  have Y3 : Hid (sumsAt w3 (.slice (some ⟨b, 0, none⟩) 5 5) five) := (show sumsAt w3 (.slice (some ⟨b, 0, none⟩) 5 5) five from Y1.out.below B13.out (Nat.le_refl _))
  have T3 : Hid (tabIs w3) := (show tabIs w3 from HT.out.below (B1.out.trans (B13.out.mono B1.out.size)) HT.out.1)
  have sR5 : isSum R5 := rootS_sum five_sum
  have s4s : ∀ x ∈ ([lf 1, lf 2, lf 3, lf 4] : List (List Int)), isSum x := fun x hx => five_sum x (by
    simp only [five, List.mem_cons, List.not_mem_nil, or_false] at hx ⊢
    rcases hx with h | h | h | h <;> simp [h])
  have sR4 : isSum R4 := rootS_sum s4s
  have SR : Hid (isSum R5 ∧ isSum R4) := (show _ ∧ _ from ⟨sR5, sR4⟩)
  obtain ⟨us, ra, sa, _, xa, ya, rfl⟩ := Y3.out.to' 4 (by simp [five])
  have RA : Hid (∀ wz : World, (Instr.slice 22 (.slice (some ⟨b, 0, none⟩) 5 5) none (some (.int .i64 4)) none).run Tryd.prog wz = .ok (.slice xa 4 ya) wz) := (show ∀ wz : World, (Instr.slice 22 (.slice (some ⟨b, 0, none⟩) 5 5) none (some (.int .i64 4)) none).run Tryd.prog wz = .ok (.slice xa 4 ya) wz from ra)
  have RT1 : Hid (∀ W, Below w3.heap.size w3 W → Calls Tryd.prog 18 #[.pointer none, .slice (some ⟨b, 0, none⟩) 5 5] W fun e w' => e = .returned (.agg (rowV 32 (arrV R5))) ∧ Below W.heap.size W w') := (show ∀ W, Below w3.heap.size w3 W → _ from fun W hW => root_nil 1000 five _ W (by simp [five]) (Nat.le_refl _) (Y3.out.below hW (Nat.le_refl _)) (T3.out.below hW T3.out.1))
  have RT4 : Hid (∀ W, Below w3.heap.size w3 W → Calls Tryd.prog 18 #[.pointer none, .slice xa 4 ya] W fun e w' => e = .returned (.agg (rowV 32 (arrV R4))) ∧ Below W.heap.size W w') := (show ∀ W, Below w3.heap.size w3 W → _ from fun W hW => root_nil 1000 [lf 1, lf 2, lf 3, lf 4] _ W (by simp) (Nat.le_refl _) (sumsAt.below (show sumsAt w3 (.slice xa 4 ya) [lf 1, lf 2, lf 3, lf 4] from sa) hW (Nat.le_refl _)) (T3.out.below hW T3.out.1))
  clear n3 b3 k3 hg3 hc3 ra sa sR5 sR4 s4s
  simp only [List.length_cons, List.length_nil, Nat.zero_add, Nat.reduceAdd]
  go_upto_region 3 with fail
  go_cut [4, 5] from 11 to 15 (fun p4 p5 wx => ∃ b4 b5, p4 = .pointer (some ⟨b4, 0, none⟩) ∧ p5 = .pointer (some ⟨b5, 0, none⟩) ∧ wx.rowIs b4 29 32 (arrV R5) ∧ wx.rowIs b5 29 32 (arrV R4) ∧ Below w3.heap.size w3 wx)
  case first =>
    obtain ⟨wq, hwq⟩ : ∃ wq, wq = w3.drew := ⟨_, rfl⟩
    have Bwq : Below w3.heap.size w3 wq := by rw [hwq]; exact (Below.refl _ _).drew
    refine wp_region_noPanic ?_
    refine wp_region_held_drew (S := fun w' => True) (by kernel_rfl) trivial (fun hHeld => ?_)
    rw [← hwq]
    clear hwq
    refine take_op (i := 0) (v := ?va0) rfl (by kernel_rfl) (by kernel_rfl) (by kernel_rfl) (fun _ _ _ h => h) rfl hHeld ?ya0 ?ra0
    case ya0 => (intro wz hz; go_simp; first | done | with_reducible rfl)
    try simp only [Act.put, List.setIfInBounds_toArray, List.set_cons_zero, List.set_cons_succ]
    refine take_op (i := 2) (v := ?va2) rfl (by kernel_rfl) (by kernel_rfl) (by kernel_rfl) (fun _ _ _ h => h) rfl hHeld ?ya2 ?ra2
    case ya2 => (intro wz hz; go_simp; first | done | with_reducible rfl)
    try simp only [Act.put, List.setIfInBounds_toArray, List.set_cons_zero, List.set_cons_succ]
    refine take_op (i := 3) (v := ?va3) rfl (by kernel_rfl) (by kernel_rfl) (by kernel_rfl) (fun _ _ _ h => h) rfl hHeld ?ya3 ?ra3
    case ya3 => (intro wz hz; have hcz := RA.out wz; go_simp; first | done | with_reducible rfl)
    try simp only [Act.put, List.setIfInBounds_toArray, List.set_cons_zero, List.set_cons_succ]
    refine take_threeG (i := 1) (j := 5) (k := 6) rfl rfl rfl (by kernel_rfl) rfl rfl rfl ?g1a ?g1b ?g1c
    case g1a =>
      intro K hK
      go_simp
      refine Calls.mono (RT1.out wq Bwq) ?_
      rintro e u2 ⟨rfl, bbu2⟩
      have Bu2 : Below w3.heap.size w3 u2 := Bwq.trans (bbu2.mono Bwq.size)
      refine hK.out _ _ trivial (fun hHeld => ?_)
      clear hK K
      try simp only [Act.put, List.setIfInBounds_toArray, List.set_cons_zero, List.set_cons_succ]
      refine take_threeG (i := 4) (j := 5) (k := 6) rfl rfl rfl (by kernel_rfl) rfl rfl rfl ?g3a ?g3b ?g3c
      case g3a =>
        intro K hK
        go_simp
        refine Calls.mono (RT4.out u2 Bu2) ?_
        rintro e u4 ⟨rfl, bbu4⟩
        have Bu4 : Below w3.heap.size w3 u4 := Bu2.trans (bbu4.mono Bu2.size)
        refine hK.out _ _ trivial (fun hHeld => ?_)
        clear hK K
        try simp only [Act.put, List.setIfInBounds_toArray, List.set_cons_zero, List.set_cons_succ]
        refine take_pair (i := 5) (j := 6) rfl rfl (by kernel_rfl) rfl rfl ?g5a ?g5b
        case g5a =>
          intro K hK
          obtain ⟨u6, hu6⟩ : ∃ W', W' = u4.alloc (.cells (rowV 32 (fun _ => .int .u8 0)) 29) := ⟨_, rfl⟩
          have bbu6 : Below u4.heap.size u4 u6 := by rw [hu6]; exact (Below.refl _ _).alloc (Nat.le_refl _) _
          have Bu6 : Below w3.heap.size w3 u6 := Bu4.trans (bbu6.mono Bu4.size)
          have z4u6 : u6.rowIs u4.heap.size 29 32 (fun _ => .int .u8 0) := by rw [hu6]; exact rowIs_box u4 _ _ _
          have zzu6 := Bu4.size
          refine wp_of_run (v := .pointer (some ⟨u4.heap.size, 0, none⟩)) (w' := u6) (by rw [hu6]; exact exec_allocG rfl u4) ?_
          refine hK.out _ _ trivial (fun hHeld => ?_)
          clear hK K hu6
          try simp only [Act.put, List.setIfInBounds_toArray, List.set_cons_zero, List.set_cons_succ]
          refine take_one (i := 6) rfl (by kernel_rfl) rfl (fun K hK => ?_)
          obtain ⟨u7, hu7⟩ : ∃ W', W' = u6.alloc (.cells (rowV 32 (fun _ => .int .u8 0)) 29) := ⟨_, rfl⟩
          have bbu7 : Below u6.heap.size u6 u7 := by rw [hu7]; exact (Below.refl _ _).alloc (Nat.le_refl _) _
          have Bu7 : Below w3.heap.size w3 u7 := Bu6.trans (bbu7.mono Bu6.size)
          have z5u7 : u7.rowIs u6.heap.size 29 32 (fun _ => .int .u8 0) := by rw [hu7]; exact rowIs_box u6 _ _ _
          have zzu7 := Bu6.size
          have z4u7 := bbu7.row z4u6 (gRow_lt z4u6)
          have nez4u7 := gRow_lt z4u6
          refine wp_of_run (v := .pointer (some ⟨u6.heap.size, 0, none⟩)) (w' := u7) (by rw [hu7]; exact exec_allocG rfl u6) ?_
          refine hK.out _ _ trivial (fun hHeld => ?_)
          clear hK K hu7
          try simp only [Act.put, List.setIfInBounds_toArray, List.set_cons_zero, List.set_cons_succ]
          obtain ⟨V1, hst, rV1, zV1, bV1⟩ := tell_store (q := R5) z4u7
          refine take_one (i := 7) rfl (by kernel_rfl) rfl (fun K hK => ?_)
          unfold Oper.wp execOp
          simp only [Instr.storeAt, Instr.sureAddr, Sem.run_bind, Sem.run_pure, Result.andThen_ok]
          simp [Act.eval, hst, Oper.upon]
          clear hst
          refine hK.out _ _ trivial (fun hHeld => ?_)
          clear hK K
          try simp only [Act.put, List.setIfInBounds_toArray, List.set_cons_zero, List.set_cons_succ]
          obtain ⟨V2, hst, rV2, zV2, bV2⟩ := tell_store (q := R4) (bV1.row z5u7 (gRow_lt z5u7) (by omega))
          refine take_one (i := 8) rfl (by kernel_rfl) rfl (fun K hK => ?_)
          unfold Oper.wp execOp
          simp only [Instr.storeAt, Instr.sureAddr, Sem.run_bind, Sem.run_pure, Result.andThen_ok]
          simp [Act.eval, hst, Oper.upon]
          clear hst
          refine hK.out _ _ trivial (fun hHeld => ?_)
          clear hK K
          try simp only [Act.put, List.setIfInBounds_toArray, List.set_cons_zero, List.set_cons_succ]
          refine wpAnyH_done (by kernel_rfl) ?_ _
          refine NoPanic.normal ?_
          have FF : Hid (V2.rowIs _ 29 32 (arrV R5) ∧ V2.rowIs _ 29 32 (arrV R4) ∧ Below w3.heap.size w3 V2) := (show _ ∧ _ ∧ _ from ⟨bV2.row rV1 (gRow_lt rV1) (by omega), rV2, Bu7.trans ((bV1.below' (by omega) Bu7.size).trans (bV2.below' (by omega) (by rw [zV1]; exact Bu7.size)))⟩)
          clear rV1 rV2 bV1 bV2 zV1 zV2 hHeld
          go_wp2_with fail
          go_meet
          case rel => exact ⟨_, _, rfl, rfl, FF.out.1, FF.out.2.1, FF.out.2.2⟩
        case g5b =>
          intro K hK
          obtain ⟨u8, hu8⟩ : ∃ W', W' = u4.alloc (.cells (rowV 32 (fun _ => .int .u8 0)) 29) := ⟨_, rfl⟩
          have bbu8 : Below u4.heap.size u4 u8 := by rw [hu8]; exact (Below.refl _ _).alloc (Nat.le_refl _) _
          have Bu8 : Below w3.heap.size w3 u8 := Bu4.trans (bbu8.mono Bu4.size)
          have z5u8 : u8.rowIs u4.heap.size 29 32 (fun _ => .int .u8 0) := by rw [hu8]; exact rowIs_box u4 _ _ _
          have zzu8 := Bu4.size
          refine wp_of_run (v := .pointer (some ⟨u4.heap.size, 0, none⟩)) (w' := u8) (by rw [hu8]; exact exec_allocG rfl u4) ?_
          refine hK.out _ _ trivial (fun hHeld => ?_)
          clear hK K hu8
          try simp only [Act.put, List.setIfInBounds_toArray, List.set_cons_zero, List.set_cons_succ]
          refine take_one (i := 5) rfl (by kernel_rfl) rfl (fun K hK => ?_)
          obtain ⟨u9, hu9⟩ : ∃ W', W' = u8.alloc (.cells (rowV 32 (fun _ => .int .u8 0)) 29) := ⟨_, rfl⟩
          have bbu9 : Below u8.heap.size u8 u9 := by rw [hu9]; exact (Below.refl _ _).alloc (Nat.le_refl _) _
          have Bu9 : Below w3.heap.size w3 u9 := Bu8.trans (bbu9.mono Bu8.size)
          have z4u9 : u9.rowIs u8.heap.size 29 32 (fun _ => .int .u8 0) := by rw [hu9]; exact rowIs_box u8 _ _ _
          have zzu9 := Bu8.size
          have z5u9 := bbu9.row z5u8 (gRow_lt z5u8)
          have nez5u9 := gRow_lt z5u8
          refine wp_of_run (v := .pointer (some ⟨u8.heap.size, 0, none⟩)) (w' := u9) (by rw [hu9]; exact exec_allocG rfl u8) ?_
          refine hK.out _ _ trivial (fun hHeld => ?_)
          clear hK K hu9
          try simp only [Act.put, List.setIfInBounds_toArray, List.set_cons_zero, List.set_cons_succ]
          obtain ⟨V1, hst, rV1, zV1, bV1⟩ := tell_store (q := R5) z4u9
          refine take_one (i := 7) rfl (by kernel_rfl) rfl (fun K hK => ?_)
          unfold Oper.wp execOp
          simp only [Instr.storeAt, Instr.sureAddr, Sem.run_bind, Sem.run_pure, Result.andThen_ok]
          simp [Act.eval, hst, Oper.upon]
          clear hst
          refine hK.out _ _ trivial (fun hHeld => ?_)
          clear hK K
          try simp only [Act.put, List.setIfInBounds_toArray, List.set_cons_zero, List.set_cons_succ]
          obtain ⟨V2, hst, rV2, zV2, bV2⟩ := tell_store (q := R4) (bV1.row z5u9 (gRow_lt z5u9) (by omega))
          refine take_one (i := 8) rfl (by kernel_rfl) rfl (fun K hK => ?_)
          unfold Oper.wp execOp
          simp only [Instr.storeAt, Instr.sureAddr, Sem.run_bind, Sem.run_pure, Result.andThen_ok]
          simp [Act.eval, hst, Oper.upon]
          clear hst
          refine hK.out _ _ trivial (fun hHeld => ?_)
          clear hK K
          try simp only [Act.put, List.setIfInBounds_toArray, List.set_cons_zero, List.set_cons_succ]
          refine wpAnyH_done (by kernel_rfl) ?_ _
          refine NoPanic.normal ?_
          have FF : Hid (V2.rowIs _ 29 32 (arrV R5) ∧ V2.rowIs _ 29 32 (arrV R4) ∧ Below w3.heap.size w3 V2) := (show _ ∧ _ ∧ _ from ⟨bV2.row rV1 (gRow_lt rV1) (by omega), rV2, Bu9.trans ((bV1.below' (by omega) Bu9.size).trans (bV2.below' (by omega) (by rw [zV1]; exact Bu9.size)))⟩)
          clear rV1 rV2 bV1 bV2 zV1 zV2 hHeld
          go_wp2_with fail
          go_meet
          case rel => exact ⟨_, _, rfl, rfl, FF.out.1, FF.out.2.1, FF.out.2.2⟩
      case g3b =>
        intro K hK
        obtain ⟨u10, hu10⟩ : ∃ W', W' = u2.alloc (.cells (rowV 32 (fun _ => .int .u8 0)) 29) := ⟨_, rfl⟩
        have bbu10 : Below u2.heap.size u2 u10 := by rw [hu10]; exact (Below.refl _ _).alloc (Nat.le_refl _) _
        have Bu10 : Below w3.heap.size w3 u10 := Bu2.trans (bbu10.mono Bu2.size)
        have z4u10 : u10.rowIs u2.heap.size 29 32 (fun _ => .int .u8 0) := by rw [hu10]; exact rowIs_box u2 _ _ _
        have zzu10 := Bu2.size
        refine wp_of_run (v := .pointer (some ⟨u2.heap.size, 0, none⟩)) (w' := u10) (by rw [hu10]; exact exec_allocG rfl u2) ?_
        refine hK.out _ _ trivial (fun hHeld => ?_)
        clear hK K hu10
        try simp only [Act.put, List.setIfInBounds_toArray, List.set_cons_zero, List.set_cons_succ]
        refine take_pair (i := 4) (j := 6) rfl rfl (by kernel_rfl) rfl rfl ?g11a ?g11b
        case g11a =>
          intro K hK
          go_simp
          refine Calls.mono (RT4.out u10 Bu10) ?_
          rintro e u12 ⟨rfl, bbu12⟩
          have Bu12 : Below w3.heap.size w3 u12 := Bu10.trans (bbu12.mono Bu10.size)
          have z4u12 := bbu12.row z4u10 (gRow_lt z4u10)
          refine hK.out _ _ trivial (fun hHeld => ?_)
          clear hK K
          try simp only [Act.put, List.setIfInBounds_toArray, List.set_cons_zero, List.set_cons_succ]
          refine take_one (i := 6) rfl (by kernel_rfl) rfl (fun K hK => ?_)
          obtain ⟨u13, hu13⟩ : ∃ W', W' = u12.alloc (.cells (rowV 32 (fun _ => .int .u8 0)) 29) := ⟨_, rfl⟩
          have bbu13 : Below u12.heap.size u12 u13 := by rw [hu13]; exact (Below.refl _ _).alloc (Nat.le_refl _) _
          have Bu13 : Below w3.heap.size w3 u13 := Bu12.trans (bbu13.mono Bu12.size)
          have z5u13 : u13.rowIs u12.heap.size 29 32 (fun _ => .int .u8 0) := by rw [hu13]; exact rowIs_box u12 _ _ _
          have zzu13 := Bu12.size
          have z4u13 := bbu13.row z4u12 (gRow_lt z4u12)
          have nez4u13 := gRow_lt z4u12
          refine wp_of_run (v := .pointer (some ⟨u12.heap.size, 0, none⟩)) (w' := u13) (by rw [hu13]; exact exec_allocG rfl u12) ?_
          refine hK.out _ _ trivial (fun hHeld => ?_)
          clear hK K hu13
          try simp only [Act.put, List.setIfInBounds_toArray, List.set_cons_zero, List.set_cons_succ]
          obtain ⟨V1, hst, rV1, zV1, bV1⟩ := tell_store (q := R5) z4u13
          refine take_one (i := 7) rfl (by kernel_rfl) rfl (fun K hK => ?_)
          unfold Oper.wp execOp
          simp only [Instr.storeAt, Instr.sureAddr, Sem.run_bind, Sem.run_pure, Result.andThen_ok]
          simp [Act.eval, hst, Oper.upon]
          clear hst
          refine hK.out _ _ trivial (fun hHeld => ?_)
          clear hK K
          try simp only [Act.put, List.setIfInBounds_toArray, List.set_cons_zero, List.set_cons_succ]
          obtain ⟨V2, hst, rV2, zV2, bV2⟩ := tell_store (q := R4) (bV1.row z5u13 (gRow_lt z5u13) (by omega))
          refine take_one (i := 8) rfl (by kernel_rfl) rfl (fun K hK => ?_)
          unfold Oper.wp execOp
          simp only [Instr.storeAt, Instr.sureAddr, Sem.run_bind, Sem.run_pure, Result.andThen_ok]
          simp [Act.eval, hst, Oper.upon]
          clear hst
          refine hK.out _ _ trivial (fun hHeld => ?_)
          clear hK K
          try simp only [Act.put, List.setIfInBounds_toArray, List.set_cons_zero, List.set_cons_succ]
          refine wpAnyH_done (by kernel_rfl) ?_ _
          refine NoPanic.normal ?_
          have FF : Hid (V2.rowIs _ 29 32 (arrV R5) ∧ V2.rowIs _ 29 32 (arrV R4) ∧ Below w3.heap.size w3 V2) := (show _ ∧ _ ∧ _ from ⟨bV2.row rV1 (gRow_lt rV1) (by omega), rV2, Bu13.trans ((bV1.below' (by omega) Bu13.size).trans (bV2.below' (by omega) (by rw [zV1]; exact Bu13.size)))⟩)
          clear rV1 rV2 bV1 bV2 zV1 zV2 hHeld
          go_wp2_with fail
          go_meet
          case rel => exact ⟨_, _, rfl, rfl, FF.out.1, FF.out.2.1, FF.out.2.2⟩
        case g11b =>
          intro K hK
          obtain ⟨u14, hu14⟩ : ∃ W', W' = u10.alloc (.cells (rowV 32 (fun _ => .int .u8 0)) 29) := ⟨_, rfl⟩
          have bbu14 : Below u10.heap.size u10 u14 := by rw [hu14]; exact (Below.refl _ _).alloc (Nat.le_refl _) _
          have Bu14 : Below w3.heap.size w3 u14 := Bu10.trans (bbu14.mono Bu10.size)
          have z5u14 : u14.rowIs u10.heap.size 29 32 (fun _ => .int .u8 0) := by rw [hu14]; exact rowIs_box u10 _ _ _
          have zzu14 := Bu10.size
          have z4u14 := bbu14.row z4u10 (gRow_lt z4u10)
          have nez4u14 := gRow_lt z4u10
          refine wp_of_run (v := .pointer (some ⟨u10.heap.size, 0, none⟩)) (w' := u14) (by rw [hu14]; exact exec_allocG rfl u10) ?_
          refine hK.out _ _ trivial (fun hHeld => ?_)
          clear hK K hu14
          try simp only [Act.put, List.setIfInBounds_toArray, List.set_cons_zero, List.set_cons_succ]
          refine take_one (i := 4) rfl (by kernel_rfl) rfl (fun K hK => ?_)
          go_simp
          refine Calls.mono (RT4.out u14 Bu14) ?_
          rintro e u15 ⟨rfl, bbu15⟩
          have Bu15 : Below w3.heap.size w3 u15 := Bu14.trans (bbu15.mono Bu14.size)
          have z4u15 := bbu15.row z4u14 (gRow_lt z4u14)
          have z5u15 := bbu15.row z5u14 (gRow_lt z5u14)
          refine hK.out _ _ trivial (fun hHeld => ?_)
          clear hK K
          try simp only [Act.put, List.setIfInBounds_toArray, List.set_cons_zero, List.set_cons_succ]
          obtain ⟨V1, hst, rV1, zV1, bV1⟩ := tell_store (q := R5) z4u15
          refine take_one (i := 7) rfl (by kernel_rfl) rfl (fun K hK => ?_)
          unfold Oper.wp execOp
          simp only [Instr.storeAt, Instr.sureAddr, Sem.run_bind, Sem.run_pure, Result.andThen_ok]
          simp [Act.eval, hst, Oper.upon]
          clear hst
          refine hK.out _ _ trivial (fun hHeld => ?_)
          clear hK K
          try simp only [Act.put, List.setIfInBounds_toArray, List.set_cons_zero, List.set_cons_succ]
          obtain ⟨V2, hst, rV2, zV2, bV2⟩ := tell_store (q := R4) (bV1.row z5u15 (gRow_lt z5u15) (by omega))
          refine take_one (i := 8) rfl (by kernel_rfl) rfl (fun K hK => ?_)
          unfold Oper.wp execOp
          simp only [Instr.storeAt, Instr.sureAddr, Sem.run_bind, Sem.run_pure, Result.andThen_ok]
          simp [Act.eval, hst, Oper.upon]
          clear hst
          refine hK.out _ _ trivial (fun hHeld => ?_)
          clear hK K
          try simp only [Act.put, List.setIfInBounds_toArray, List.set_cons_zero, List.set_cons_succ]
          refine wpAnyH_done (by kernel_rfl) ?_ _
          refine NoPanic.normal ?_
          have FF : Hid (V2.rowIs _ 29 32 (arrV R5) ∧ V2.rowIs _ 29 32 (arrV R4) ∧ Below w3.heap.size w3 V2) := (show _ ∧ _ ∧ _ from ⟨bV2.row rV1 (gRow_lt rV1) (by omega), rV2, Bu15.trans ((bV1.below' (by omega) Bu15.size).trans (bV2.below' (by omega) (by rw [zV1]; exact Bu15.size)))⟩)
          clear rV1 rV2 bV1 bV2 zV1 zV2 hHeld
          go_wp2_with fail
          go_meet
          case rel => exact ⟨_, _, rfl, rfl, FF.out.1, FF.out.2.1, FF.out.2.2⟩
      case g3c =>
        intro K hK
        obtain ⟨u16, hu16⟩ : ∃ W', W' = u2.alloc (.cells (rowV 32 (fun _ => .int .u8 0)) 29) := ⟨_, rfl⟩
        have bbu16 : Below u2.heap.size u2 u16 := by rw [hu16]; exact (Below.refl _ _).alloc (Nat.le_refl _) _
        have Bu16 : Below w3.heap.size w3 u16 := Bu2.trans (bbu16.mono Bu2.size)
        have z5u16 : u16.rowIs u2.heap.size 29 32 (fun _ => .int .u8 0) := by rw [hu16]; exact rowIs_box u2 _ _ _
        have zzu16 := Bu2.size
        refine wp_of_run (v := .pointer (some ⟨u2.heap.size, 0, none⟩)) (w' := u16) (by rw [hu16]; exact exec_allocG rfl u2) ?_
        refine hK.out _ _ trivial (fun hHeld => ?_)
        clear hK K hu16
        try simp only [Act.put, List.setIfInBounds_toArray, List.set_cons_zero, List.set_cons_succ]
        refine take_pair (i := 4) (j := 5) rfl rfl (by kernel_rfl) rfl rfl ?g17a ?g17b
        case g17a =>
          intro K hK
          go_simp
          refine Calls.mono (RT4.out u16 Bu16) ?_
          rintro e u18 ⟨rfl, bbu18⟩
          have Bu18 : Below w3.heap.size w3 u18 := Bu16.trans (bbu18.mono Bu16.size)
          have z5u18 := bbu18.row z5u16 (gRow_lt z5u16)
          refine hK.out _ _ trivial (fun hHeld => ?_)
          clear hK K
          try simp only [Act.put, List.setIfInBounds_toArray, List.set_cons_zero, List.set_cons_succ]
          refine take_one (i := 5) rfl (by kernel_rfl) rfl (fun K hK => ?_)
          obtain ⟨u19, hu19⟩ : ∃ W', W' = u18.alloc (.cells (rowV 32 (fun _ => .int .u8 0)) 29) := ⟨_, rfl⟩
          have bbu19 : Below u18.heap.size u18 u19 := by rw [hu19]; exact (Below.refl _ _).alloc (Nat.le_refl _) _
          have Bu19 : Below w3.heap.size w3 u19 := Bu18.trans (bbu19.mono Bu18.size)
          have z4u19 : u19.rowIs u18.heap.size 29 32 (fun _ => .int .u8 0) := by rw [hu19]; exact rowIs_box u18 _ _ _
          have zzu19 := Bu18.size
          have z5u19 := bbu19.row z5u18 (gRow_lt z5u18)
          have nez5u19 := gRow_lt z5u18
          refine wp_of_run (v := .pointer (some ⟨u18.heap.size, 0, none⟩)) (w' := u19) (by rw [hu19]; exact exec_allocG rfl u18) ?_
          refine hK.out _ _ trivial (fun hHeld => ?_)
          clear hK K hu19
          try simp only [Act.put, List.setIfInBounds_toArray, List.set_cons_zero, List.set_cons_succ]
          obtain ⟨V1, hst, rV1, zV1, bV1⟩ := tell_store (q := R5) z4u19
          refine take_one (i := 7) rfl (by kernel_rfl) rfl (fun K hK => ?_)
          unfold Oper.wp execOp
          simp only [Instr.storeAt, Instr.sureAddr, Sem.run_bind, Sem.run_pure, Result.andThen_ok]
          simp [Act.eval, hst, Oper.upon]
          clear hst
          refine hK.out _ _ trivial (fun hHeld => ?_)
          clear hK K
          try simp only [Act.put, List.setIfInBounds_toArray, List.set_cons_zero, List.set_cons_succ]
          obtain ⟨V2, hst, rV2, zV2, bV2⟩ := tell_store (q := R4) (bV1.row z5u19 (gRow_lt z5u19) (by omega))
          refine take_one (i := 8) rfl (by kernel_rfl) rfl (fun K hK => ?_)
          unfold Oper.wp execOp
          simp only [Instr.storeAt, Instr.sureAddr, Sem.run_bind, Sem.run_pure, Result.andThen_ok]
          simp [Act.eval, hst, Oper.upon]
          clear hst
          refine hK.out _ _ trivial (fun hHeld => ?_)
          clear hK K
          try simp only [Act.put, List.setIfInBounds_toArray, List.set_cons_zero, List.set_cons_succ]
          refine wpAnyH_done (by kernel_rfl) ?_ _
          refine NoPanic.normal ?_
          have FF : Hid (V2.rowIs _ 29 32 (arrV R5) ∧ V2.rowIs _ 29 32 (arrV R4) ∧ Below w3.heap.size w3 V2) := (show _ ∧ _ ∧ _ from ⟨bV2.row rV1 (gRow_lt rV1) (by omega), rV2, Bu19.trans ((bV1.below' (by omega) Bu19.size).trans (bV2.below' (by omega) (by rw [zV1]; exact Bu19.size)))⟩)
          clear rV1 rV2 bV1 bV2 zV1 zV2 hHeld
          go_wp2_with fail
          go_meet
          case rel => exact ⟨_, _, rfl, rfl, FF.out.1, FF.out.2.1, FF.out.2.2⟩
        case g17b =>
          intro K hK
          obtain ⟨u20, hu20⟩ : ∃ W', W' = u16.alloc (.cells (rowV 32 (fun _ => .int .u8 0)) 29) := ⟨_, rfl⟩
          have bbu20 : Below u16.heap.size u16 u20 := by rw [hu20]; exact (Below.refl _ _).alloc (Nat.le_refl _) _
          have Bu20 : Below w3.heap.size w3 u20 := Bu16.trans (bbu20.mono Bu16.size)
          have z4u20 : u20.rowIs u16.heap.size 29 32 (fun _ => .int .u8 0) := by rw [hu20]; exact rowIs_box u16 _ _ _
          have zzu20 := Bu16.size
          have z5u20 := bbu20.row z5u16 (gRow_lt z5u16)
          have nez5u20 := gRow_lt z5u16
          refine wp_of_run (v := .pointer (some ⟨u16.heap.size, 0, none⟩)) (w' := u20) (by rw [hu20]; exact exec_allocG rfl u16) ?_
          refine hK.out _ _ trivial (fun hHeld => ?_)
          clear hK K hu20
          try simp only [Act.put, List.setIfInBounds_toArray, List.set_cons_zero, List.set_cons_succ]
          refine take_one (i := 4) rfl (by kernel_rfl) rfl (fun K hK => ?_)
          go_simp
          refine Calls.mono (RT4.out u20 Bu20) ?_
          rintro e u21 ⟨rfl, bbu21⟩
          have Bu21 : Below w3.heap.size w3 u21 := Bu20.trans (bbu21.mono Bu20.size)
          have z5u21 := bbu21.row z5u20 (gRow_lt z5u20)
          have z4u21 := bbu21.row z4u20 (gRow_lt z4u20)
          refine hK.out _ _ trivial (fun hHeld => ?_)
          clear hK K
          try simp only [Act.put, List.setIfInBounds_toArray, List.set_cons_zero, List.set_cons_succ]
          obtain ⟨V1, hst, rV1, zV1, bV1⟩ := tell_store (q := R5) z4u21
          refine take_one (i := 7) rfl (by kernel_rfl) rfl (fun K hK => ?_)
          unfold Oper.wp execOp
          simp only [Instr.storeAt, Instr.sureAddr, Sem.run_bind, Sem.run_pure, Result.andThen_ok]
          simp [Act.eval, hst, Oper.upon]
          clear hst
          refine hK.out _ _ trivial (fun hHeld => ?_)
          clear hK K
          try simp only [Act.put, List.setIfInBounds_toArray, List.set_cons_zero, List.set_cons_succ]
          obtain ⟨V2, hst, rV2, zV2, bV2⟩ := tell_store (q := R4) (bV1.row z5u21 (gRow_lt z5u21) (by omega))
          refine take_one (i := 8) rfl (by kernel_rfl) rfl (fun K hK => ?_)
          unfold Oper.wp execOp
          simp only [Instr.storeAt, Instr.sureAddr, Sem.run_bind, Sem.run_pure, Result.andThen_ok]
          simp [Act.eval, hst, Oper.upon]
          clear hst
          refine hK.out _ _ trivial (fun hHeld => ?_)
          clear hK K
          try simp only [Act.put, List.setIfInBounds_toArray, List.set_cons_zero, List.set_cons_succ]
          refine wpAnyH_done (by kernel_rfl) ?_ _
          refine NoPanic.normal ?_
          have FF : Hid (V2.rowIs _ 29 32 (arrV R5) ∧ V2.rowIs _ 29 32 (arrV R4) ∧ Below w3.heap.size w3 V2) := (show _ ∧ _ ∧ _ from ⟨bV2.row rV1 (gRow_lt rV1) (by omega), rV2, Bu21.trans ((bV1.below' (by omega) Bu21.size).trans (bV2.below' (by omega) (by rw [zV1]; exact Bu21.size)))⟩)
          clear rV1 rV2 bV1 bV2 zV1 zV2 hHeld
          go_wp2_with fail
          go_meet
          case rel => exact ⟨_, _, rfl, rfl, FF.out.1, FF.out.2.1, FF.out.2.2⟩
    case g1b =>
      intro K hK
      obtain ⟨u22, hu22⟩ : ∃ W', W' = wq.alloc (.cells (rowV 32 (fun _ => .int .u8 0)) 29) := ⟨_, rfl⟩
      have bbu22 : Below wq.heap.size wq u22 := by rw [hu22]; exact (Below.refl _ _).alloc (Nat.le_refl _) _
      have Bu22 : Below w3.heap.size w3 u22 := Bwq.trans (bbu22.mono Bwq.size)
      have z4u22 : u22.rowIs wq.heap.size 29 32 (fun _ => .int .u8 0) := by rw [hu22]; exact rowIs_box wq _ _ _
      have zzu22 := Bwq.size
      refine wp_of_run (v := .pointer (some ⟨wq.heap.size, 0, none⟩)) (w' := u22) (by rw [hu22]; exact exec_allocG rfl wq) ?_
      refine hK.out _ _ trivial (fun hHeld => ?_)
      clear hK K hu22
      try simp only [Act.put, List.setIfInBounds_toArray, List.set_cons_zero, List.set_cons_succ]
      refine take_pair (i := 1) (j := 6) rfl rfl (by kernel_rfl) rfl rfl ?g23a ?g23b
      case g23a =>
        intro K hK
        go_simp
        refine Calls.mono (RT1.out u22 Bu22) ?_
        rintro e u24 ⟨rfl, bbu24⟩
        have Bu24 : Below w3.heap.size w3 u24 := Bu22.trans (bbu24.mono Bu22.size)
        have z4u24 := bbu24.row z4u22 (gRow_lt z4u22)
        refine hK.out _ _ trivial (fun hHeld => ?_)
        clear hK K
        try simp only [Act.put, List.setIfInBounds_toArray, List.set_cons_zero, List.set_cons_succ]
        refine take_pair (i := 4) (j := 6) rfl rfl (by kernel_rfl) rfl rfl ?g25a ?g25b
        case g25a =>
          intro K hK
          go_simp
          refine Calls.mono (RT4.out u24 Bu24) ?_
          rintro e u26 ⟨rfl, bbu26⟩
          have Bu26 : Below w3.heap.size w3 u26 := Bu24.trans (bbu26.mono Bu24.size)
          have z4u26 := bbu26.row z4u24 (gRow_lt z4u24)
          refine hK.out _ _ trivial (fun hHeld => ?_)
          clear hK K
          try simp only [Act.put, List.setIfInBounds_toArray, List.set_cons_zero, List.set_cons_succ]
          refine take_one (i := 6) rfl (by kernel_rfl) rfl (fun K hK => ?_)
          obtain ⟨u27, hu27⟩ : ∃ W', W' = u26.alloc (.cells (rowV 32 (fun _ => .int .u8 0)) 29) := ⟨_, rfl⟩
          have bbu27 : Below u26.heap.size u26 u27 := by rw [hu27]; exact (Below.refl _ _).alloc (Nat.le_refl _) _
          have Bu27 : Below w3.heap.size w3 u27 := Bu26.trans (bbu27.mono Bu26.size)
          have z5u27 : u27.rowIs u26.heap.size 29 32 (fun _ => .int .u8 0) := by rw [hu27]; exact rowIs_box u26 _ _ _
          have zzu27 := Bu26.size
          have z4u27 := bbu27.row z4u26 (gRow_lt z4u26)
          have nez4u27 := gRow_lt z4u26
          refine wp_of_run (v := .pointer (some ⟨u26.heap.size, 0, none⟩)) (w' := u27) (by rw [hu27]; exact exec_allocG rfl u26) ?_
          refine hK.out _ _ trivial (fun hHeld => ?_)
          clear hK K hu27
          try simp only [Act.put, List.setIfInBounds_toArray, List.set_cons_zero, List.set_cons_succ]
          obtain ⟨V1, hst, rV1, zV1, bV1⟩ := tell_store (q := R5) z4u27
          refine take_one (i := 7) rfl (by kernel_rfl) rfl (fun K hK => ?_)
          unfold Oper.wp execOp
          simp only [Instr.storeAt, Instr.sureAddr, Sem.run_bind, Sem.run_pure, Result.andThen_ok]
          simp [Act.eval, hst, Oper.upon]
          clear hst
          refine hK.out _ _ trivial (fun hHeld => ?_)
          clear hK K
          try simp only [Act.put, List.setIfInBounds_toArray, List.set_cons_zero, List.set_cons_succ]
          obtain ⟨V2, hst, rV2, zV2, bV2⟩ := tell_store (q := R4) (bV1.row z5u27 (gRow_lt z5u27) (by omega))
          refine take_one (i := 8) rfl (by kernel_rfl) rfl (fun K hK => ?_)
          unfold Oper.wp execOp
          simp only [Instr.storeAt, Instr.sureAddr, Sem.run_bind, Sem.run_pure, Result.andThen_ok]
          simp [Act.eval, hst, Oper.upon]
          clear hst
          refine hK.out _ _ trivial (fun hHeld => ?_)
          clear hK K
          try simp only [Act.put, List.setIfInBounds_toArray, List.set_cons_zero, List.set_cons_succ]
          refine wpAnyH_done (by kernel_rfl) ?_ _
          refine NoPanic.normal ?_
          have FF : Hid (V2.rowIs _ 29 32 (arrV R5) ∧ V2.rowIs _ 29 32 (arrV R4) ∧ Below w3.heap.size w3 V2) := (show _ ∧ _ ∧ _ from ⟨bV2.row rV1 (gRow_lt rV1) (by omega), rV2, Bu27.trans ((bV1.below' (by omega) Bu27.size).trans (bV2.below' (by omega) (by rw [zV1]; exact Bu27.size)))⟩)
          clear rV1 rV2 bV1 bV2 zV1 zV2 hHeld
          go_wp2_with fail
          go_meet
          case rel => exact ⟨_, _, rfl, rfl, FF.out.1, FF.out.2.1, FF.out.2.2⟩
        case g25b =>
          intro K hK
          obtain ⟨u28, hu28⟩ : ∃ W', W' = u24.alloc (.cells (rowV 32 (fun _ => .int .u8 0)) 29) := ⟨_, rfl⟩
          have bbu28 : Below u24.heap.size u24 u28 := by rw [hu28]; exact (Below.refl _ _).alloc (Nat.le_refl _) _
          have Bu28 : Below w3.heap.size w3 u28 := Bu24.trans (bbu28.mono Bu24.size)
          have z5u28 : u28.rowIs u24.heap.size 29 32 (fun _ => .int .u8 0) := by rw [hu28]; exact rowIs_box u24 _ _ _
          have zzu28 := Bu24.size
          have z4u28 := bbu28.row z4u24 (gRow_lt z4u24)
          have nez4u28 := gRow_lt z4u24
          refine wp_of_run (v := .pointer (some ⟨u24.heap.size, 0, none⟩)) (w' := u28) (by rw [hu28]; exact exec_allocG rfl u24) ?_
          refine hK.out _ _ trivial (fun hHeld => ?_)
          clear hK K hu28
          try simp only [Act.put, List.setIfInBounds_toArray, List.set_cons_zero, List.set_cons_succ]
          refine take_one (i := 4) rfl (by kernel_rfl) rfl (fun K hK => ?_)
          go_simp
          refine Calls.mono (RT4.out u28 Bu28) ?_
          rintro e u29 ⟨rfl, bbu29⟩
          have Bu29 : Below w3.heap.size w3 u29 := Bu28.trans (bbu29.mono Bu28.size)
          have z4u29 := bbu29.row z4u28 (gRow_lt z4u28)
          have z5u29 := bbu29.row z5u28 (gRow_lt z5u28)
          refine hK.out _ _ trivial (fun hHeld => ?_)
          clear hK K
          try simp only [Act.put, List.setIfInBounds_toArray, List.set_cons_zero, List.set_cons_succ]
          obtain ⟨V1, hst, rV1, zV1, bV1⟩ := tell_store (q := R5) z4u29
          refine take_one (i := 7) rfl (by kernel_rfl) rfl (fun K hK => ?_)
          unfold Oper.wp execOp
          simp only [Instr.storeAt, Instr.sureAddr, Sem.run_bind, Sem.run_pure, Result.andThen_ok]
          simp [Act.eval, hst, Oper.upon]
          clear hst
          refine hK.out _ _ trivial (fun hHeld => ?_)
          clear hK K
          try simp only [Act.put, List.setIfInBounds_toArray, List.set_cons_zero, List.set_cons_succ]
          obtain ⟨V2, hst, rV2, zV2, bV2⟩ := tell_store (q := R4) (bV1.row z5u29 (gRow_lt z5u29) (by omega))
          refine take_one (i := 8) rfl (by kernel_rfl) rfl (fun K hK => ?_)
          unfold Oper.wp execOp
          simp only [Instr.storeAt, Instr.sureAddr, Sem.run_bind, Sem.run_pure, Result.andThen_ok]
          simp [Act.eval, hst, Oper.upon]
          clear hst
          refine hK.out _ _ trivial (fun hHeld => ?_)
          clear hK K
          try simp only [Act.put, List.setIfInBounds_toArray, List.set_cons_zero, List.set_cons_succ]
          refine wpAnyH_done (by kernel_rfl) ?_ _
          refine NoPanic.normal ?_
          have FF : Hid (V2.rowIs _ 29 32 (arrV R5) ∧ V2.rowIs _ 29 32 (arrV R4) ∧ Below w3.heap.size w3 V2) := (show _ ∧ _ ∧ _ from ⟨bV2.row rV1 (gRow_lt rV1) (by omega), rV2, Bu29.trans ((bV1.below' (by omega) Bu29.size).trans (bV2.below' (by omega) (by rw [zV1]; exact Bu29.size)))⟩)
          clear rV1 rV2 bV1 bV2 zV1 zV2 hHeld
          go_wp2_with fail
          go_meet
          case rel => exact ⟨_, _, rfl, rfl, FF.out.1, FF.out.2.1, FF.out.2.2⟩
      case g23b =>
        intro K hK
        obtain ⟨u30, hu30⟩ : ∃ W', W' = u22.alloc (.cells (rowV 32 (fun _ => .int .u8 0)) 29) := ⟨_, rfl⟩
        have bbu30 : Below u22.heap.size u22 u30 := by rw [hu30]; exact (Below.refl _ _).alloc (Nat.le_refl _) _
        have Bu30 : Below w3.heap.size w3 u30 := Bu22.trans (bbu30.mono Bu22.size)
        have z5u30 : u30.rowIs u22.heap.size 29 32 (fun _ => .int .u8 0) := by rw [hu30]; exact rowIs_box u22 _ _ _
        have zzu30 := Bu22.size
        have z4u30 := bbu30.row z4u22 (gRow_lt z4u22)
        have nez4u30 := gRow_lt z4u22
        refine wp_of_run (v := .pointer (some ⟨u22.heap.size, 0, none⟩)) (w' := u30) (by rw [hu30]; exact exec_allocG rfl u22) ?_
        refine hK.out _ _ trivial (fun hHeld => ?_)
        clear hK K hu30
        try simp only [Act.put, List.setIfInBounds_toArray, List.set_cons_zero, List.set_cons_succ]
        refine take_one (i := 1) rfl (by kernel_rfl) rfl (fun K hK => ?_)
        go_simp
        refine Calls.mono (RT1.out u30 Bu30) ?_
        rintro e u31 ⟨rfl, bbu31⟩
        have Bu31 : Below w3.heap.size w3 u31 := Bu30.trans (bbu31.mono Bu30.size)
        have z4u31 := bbu31.row z4u30 (gRow_lt z4u30)
        have z5u31 := bbu31.row z5u30 (gRow_lt z5u30)
        refine hK.out _ _ trivial (fun hHeld => ?_)
        clear hK K
        try simp only [Act.put, List.setIfInBounds_toArray, List.set_cons_zero, List.set_cons_succ]
        refine take_one (i := 4) rfl (by kernel_rfl) rfl (fun K hK => ?_)
        go_simp
        refine Calls.mono (RT4.out u31 Bu31) ?_
        rintro e u32 ⟨rfl, bbu32⟩
        have Bu32 : Below w3.heap.size w3 u32 := Bu31.trans (bbu32.mono Bu31.size)
        have z4u32 := bbu32.row z4u31 (gRow_lt z4u31)
        have z5u32 := bbu32.row z5u31 (gRow_lt z5u31)
        refine hK.out _ _ trivial (fun hHeld => ?_)
        clear hK K
        try simp only [Act.put, List.setIfInBounds_toArray, List.set_cons_zero, List.set_cons_succ]
        obtain ⟨V1, hst, rV1, zV1, bV1⟩ := tell_store (q := R5) z4u32
        refine take_one (i := 7) rfl (by kernel_rfl) rfl (fun K hK => ?_)
        unfold Oper.wp execOp
        simp only [Instr.storeAt, Instr.sureAddr, Sem.run_bind, Sem.run_pure, Result.andThen_ok]
        simp [Act.eval, hst, Oper.upon]
        clear hst
        refine hK.out _ _ trivial (fun hHeld => ?_)
        clear hK K
        try simp only [Act.put, List.setIfInBounds_toArray, List.set_cons_zero, List.set_cons_succ]
        obtain ⟨V2, hst, rV2, zV2, bV2⟩ := tell_store (q := R4) (bV1.row z5u32 (gRow_lt z5u32) (by omega))
        refine take_one (i := 8) rfl (by kernel_rfl) rfl (fun K hK => ?_)
        unfold Oper.wp execOp
        simp only [Instr.storeAt, Instr.sureAddr, Sem.run_bind, Sem.run_pure, Result.andThen_ok]
        simp [Act.eval, hst, Oper.upon]
        clear hst
        refine hK.out _ _ trivial (fun hHeld => ?_)
        clear hK K
        try simp only [Act.put, List.setIfInBounds_toArray, List.set_cons_zero, List.set_cons_succ]
        refine wpAnyH_done (by kernel_rfl) ?_ _
        refine NoPanic.normal ?_
        have FF : Hid (V2.rowIs _ 29 32 (arrV R5) ∧ V2.rowIs _ 29 32 (arrV R4) ∧ Below w3.heap.size w3 V2) := (show _ ∧ _ ∧ _ from ⟨bV2.row rV1 (gRow_lt rV1) (by omega), rV2, Bu32.trans ((bV1.below' (by omega) Bu32.size).trans (bV2.below' (by omega) (by rw [zV1]; exact Bu32.size)))⟩)
        clear rV1 rV2 bV1 bV2 zV1 zV2 hHeld
        go_wp2_with fail
        go_meet
        case rel => exact ⟨_, _, rfl, rfl, FF.out.1, FF.out.2.1, FF.out.2.2⟩
    case g1c =>
      intro K hK
      obtain ⟨u33, hu33⟩ : ∃ W', W' = wq.alloc (.cells (rowV 32 (fun _ => .int .u8 0)) 29) := ⟨_, rfl⟩
      have bbu33 : Below wq.heap.size wq u33 := by rw [hu33]; exact (Below.refl _ _).alloc (Nat.le_refl _) _
      have Bu33 : Below w3.heap.size w3 u33 := Bwq.trans (bbu33.mono Bwq.size)
      have z5u33 : u33.rowIs wq.heap.size 29 32 (fun _ => .int .u8 0) := by rw [hu33]; exact rowIs_box wq _ _ _
      have zzu33 := Bwq.size
      refine wp_of_run (v := .pointer (some ⟨wq.heap.size, 0, none⟩)) (w' := u33) (by rw [hu33]; exact exec_allocG rfl wq) ?_
      refine hK.out _ _ trivial (fun hHeld => ?_)
      clear hK K hu33
      try simp only [Act.put, List.setIfInBounds_toArray, List.set_cons_zero, List.set_cons_succ]
      refine take_pair (i := 1) (j := 5) rfl rfl (by kernel_rfl) rfl rfl ?g34a ?g34b
      case g34a =>
        intro K hK
        go_simp
        refine Calls.mono (RT1.out u33 Bu33) ?_
        rintro e u35 ⟨rfl, bbu35⟩
        have Bu35 : Below w3.heap.size w3 u35 := Bu33.trans (bbu35.mono Bu33.size)
        have z5u35 := bbu35.row z5u33 (gRow_lt z5u33)
        refine hK.out _ _ trivial (fun hHeld => ?_)
        clear hK K
        try simp only [Act.put, List.setIfInBounds_toArray, List.set_cons_zero, List.set_cons_succ]
        refine take_pair (i := 4) (j := 5) rfl rfl (by kernel_rfl) rfl rfl ?g36a ?g36b
        case g36a =>
          intro K hK
          go_simp
          refine Calls.mono (RT4.out u35 Bu35) ?_
          rintro e u37 ⟨rfl, bbu37⟩
          have Bu37 : Below w3.heap.size w3 u37 := Bu35.trans (bbu37.mono Bu35.size)
          have z5u37 := bbu37.row z5u35 (gRow_lt z5u35)
          refine hK.out _ _ trivial (fun hHeld => ?_)
          clear hK K
          try simp only [Act.put, List.setIfInBounds_toArray, List.set_cons_zero, List.set_cons_succ]
          refine take_one (i := 5) rfl (by kernel_rfl) rfl (fun K hK => ?_)
          obtain ⟨u38, hu38⟩ : ∃ W', W' = u37.alloc (.cells (rowV 32 (fun _ => .int .u8 0)) 29) := ⟨_, rfl⟩
          have bbu38 : Below u37.heap.size u37 u38 := by rw [hu38]; exact (Below.refl _ _).alloc (Nat.le_refl _) _
          have Bu38 : Below w3.heap.size w3 u38 := Bu37.trans (bbu38.mono Bu37.size)
          have z4u38 : u38.rowIs u37.heap.size 29 32 (fun _ => .int .u8 0) := by rw [hu38]; exact rowIs_box u37 _ _ _
          have zzu38 := Bu37.size
          have z5u38 := bbu38.row z5u37 (gRow_lt z5u37)
          have nez5u38 := gRow_lt z5u37
          refine wp_of_run (v := .pointer (some ⟨u37.heap.size, 0, none⟩)) (w' := u38) (by rw [hu38]; exact exec_allocG rfl u37) ?_
          refine hK.out _ _ trivial (fun hHeld => ?_)
          clear hK K hu38
          try simp only [Act.put, List.setIfInBounds_toArray, List.set_cons_zero, List.set_cons_succ]
          obtain ⟨V1, hst, rV1, zV1, bV1⟩ := tell_store (q := R5) z4u38
          refine take_one (i := 7) rfl (by kernel_rfl) rfl (fun K hK => ?_)
          unfold Oper.wp execOp
          simp only [Instr.storeAt, Instr.sureAddr, Sem.run_bind, Sem.run_pure, Result.andThen_ok]
          simp [Act.eval, hst, Oper.upon]
          clear hst
          refine hK.out _ _ trivial (fun hHeld => ?_)
          clear hK K
          try simp only [Act.put, List.setIfInBounds_toArray, List.set_cons_zero, List.set_cons_succ]
          obtain ⟨V2, hst, rV2, zV2, bV2⟩ := tell_store (q := R4) (bV1.row z5u38 (gRow_lt z5u38) (by omega))
          refine take_one (i := 8) rfl (by kernel_rfl) rfl (fun K hK => ?_)
          unfold Oper.wp execOp
          simp only [Instr.storeAt, Instr.sureAddr, Sem.run_bind, Sem.run_pure, Result.andThen_ok]
          simp [Act.eval, hst, Oper.upon]
          clear hst
          refine hK.out _ _ trivial (fun hHeld => ?_)
          clear hK K
          try simp only [Act.put, List.setIfInBounds_toArray, List.set_cons_zero, List.set_cons_succ]
          refine wpAnyH_done (by kernel_rfl) ?_ _
          refine NoPanic.normal ?_
          have FF : Hid (V2.rowIs _ 29 32 (arrV R5) ∧ V2.rowIs _ 29 32 (arrV R4) ∧ Below w3.heap.size w3 V2) := (show _ ∧ _ ∧ _ from ⟨bV2.row rV1 (gRow_lt rV1) (by omega), rV2, Bu38.trans ((bV1.below' (by omega) Bu38.size).trans (bV2.below' (by omega) (by rw [zV1]; exact Bu38.size)))⟩)
          clear rV1 rV2 bV1 bV2 zV1 zV2 hHeld
          go_wp2_with fail
          go_meet
          case rel => exact ⟨_, _, rfl, rfl, FF.out.1, FF.out.2.1, FF.out.2.2⟩
        case g36b =>
          intro K hK
          obtain ⟨u39, hu39⟩ : ∃ W', W' = u35.alloc (.cells (rowV 32 (fun _ => .int .u8 0)) 29) := ⟨_, rfl⟩
          have bbu39 : Below u35.heap.size u35 u39 := by rw [hu39]; exact (Below.refl _ _).alloc (Nat.le_refl _) _
          have Bu39 : Below w3.heap.size w3 u39 := Bu35.trans (bbu39.mono Bu35.size)
          have z4u39 : u39.rowIs u35.heap.size 29 32 (fun _ => .int .u8 0) := by rw [hu39]; exact rowIs_box u35 _ _ _
          have zzu39 := Bu35.size
          have z5u39 := bbu39.row z5u35 (gRow_lt z5u35)
          have nez5u39 := gRow_lt z5u35
          refine wp_of_run (v := .pointer (some ⟨u35.heap.size, 0, none⟩)) (w' := u39) (by rw [hu39]; exact exec_allocG rfl u35) ?_
          refine hK.out _ _ trivial (fun hHeld => ?_)
          clear hK K hu39
          try simp only [Act.put, List.setIfInBounds_toArray, List.set_cons_zero, List.set_cons_succ]
          refine take_one (i := 4) rfl (by kernel_rfl) rfl (fun K hK => ?_)
          go_simp
          refine Calls.mono (RT4.out u39 Bu39) ?_
          rintro e u40 ⟨rfl, bbu40⟩
          have Bu40 : Below w3.heap.size w3 u40 := Bu39.trans (bbu40.mono Bu39.size)
          have z5u40 := bbu40.row z5u39 (gRow_lt z5u39)
          have z4u40 := bbu40.row z4u39 (gRow_lt z4u39)
          refine hK.out _ _ trivial (fun hHeld => ?_)
          clear hK K
          try simp only [Act.put, List.setIfInBounds_toArray, List.set_cons_zero, List.set_cons_succ]
          obtain ⟨V1, hst, rV1, zV1, bV1⟩ := tell_store (q := R5) z4u40
          refine take_one (i := 7) rfl (by kernel_rfl) rfl (fun K hK => ?_)
          unfold Oper.wp execOp
          simp only [Instr.storeAt, Instr.sureAddr, Sem.run_bind, Sem.run_pure, Result.andThen_ok]
          simp [Act.eval, hst, Oper.upon]
          clear hst
          refine hK.out _ _ trivial (fun hHeld => ?_)
          clear hK K
          try simp only [Act.put, List.setIfInBounds_toArray, List.set_cons_zero, List.set_cons_succ]
          obtain ⟨V2, hst, rV2, zV2, bV2⟩ := tell_store (q := R4) (bV1.row z5u40 (gRow_lt z5u40) (by omega))
          refine take_one (i := 8) rfl (by kernel_rfl) rfl (fun K hK => ?_)
          unfold Oper.wp execOp
          simp only [Instr.storeAt, Instr.sureAddr, Sem.run_bind, Sem.run_pure, Result.andThen_ok]
          simp [Act.eval, hst, Oper.upon]
          clear hst
          refine hK.out _ _ trivial (fun hHeld => ?_)
          clear hK K
          try simp only [Act.put, List.setIfInBounds_toArray, List.set_cons_zero, List.set_cons_succ]
          refine wpAnyH_done (by kernel_rfl) ?_ _
          refine NoPanic.normal ?_
          have FF : Hid (V2.rowIs _ 29 32 (arrV R5) ∧ V2.rowIs _ 29 32 (arrV R4) ∧ Below w3.heap.size w3 V2) := (show _ ∧ _ ∧ _ from ⟨bV2.row rV1 (gRow_lt rV1) (by omega), rV2, Bu40.trans ((bV1.below' (by omega) Bu40.size).trans (bV2.below' (by omega) (by rw [zV1]; exact Bu40.size)))⟩)
          clear rV1 rV2 bV1 bV2 zV1 zV2 hHeld
          go_wp2_with fail
          go_meet
          case rel => exact ⟨_, _, rfl, rfl, FF.out.1, FF.out.2.1, FF.out.2.2⟩
      case g34b =>
        intro K hK
        obtain ⟨u41, hu41⟩ : ∃ W', W' = u33.alloc (.cells (rowV 32 (fun _ => .int .u8 0)) 29) := ⟨_, rfl⟩
        have bbu41 : Below u33.heap.size u33 u41 := by rw [hu41]; exact (Below.refl _ _).alloc (Nat.le_refl _) _
        have Bu41 : Below w3.heap.size w3 u41 := Bu33.trans (bbu41.mono Bu33.size)
        have z4u41 : u41.rowIs u33.heap.size 29 32 (fun _ => .int .u8 0) := by rw [hu41]; exact rowIs_box u33 _ _ _
        have zzu41 := Bu33.size
        have z5u41 := bbu41.row z5u33 (gRow_lt z5u33)
        have nez5u41 := gRow_lt z5u33
        refine wp_of_run (v := .pointer (some ⟨u33.heap.size, 0, none⟩)) (w' := u41) (by rw [hu41]; exact exec_allocG rfl u33) ?_
        refine hK.out _ _ trivial (fun hHeld => ?_)
        clear hK K hu41
        try simp only [Act.put, List.setIfInBounds_toArray, List.set_cons_zero, List.set_cons_succ]
        refine take_one (i := 1) rfl (by kernel_rfl) rfl (fun K hK => ?_)
        go_simp
        refine Calls.mono (RT1.out u41 Bu41) ?_
        rintro e u42 ⟨rfl, bbu42⟩
        have Bu42 : Below w3.heap.size w3 u42 := Bu41.trans (bbu42.mono Bu41.size)
        have z5u42 := bbu42.row z5u41 (gRow_lt z5u41)
        have z4u42 := bbu42.row z4u41 (gRow_lt z4u41)
        refine hK.out _ _ trivial (fun hHeld => ?_)
        clear hK K
        try simp only [Act.put, List.setIfInBounds_toArray, List.set_cons_zero, List.set_cons_succ]
        refine take_one (i := 4) rfl (by kernel_rfl) rfl (fun K hK => ?_)
        go_simp
        refine Calls.mono (RT4.out u42 Bu42) ?_
        rintro e u43 ⟨rfl, bbu43⟩
        have Bu43 : Below w3.heap.size w3 u43 := Bu42.trans (bbu43.mono Bu42.size)
        have z5u43 := bbu43.row z5u42 (gRow_lt z5u42)
        have z4u43 := bbu43.row z4u42 (gRow_lt z4u42)
        refine hK.out _ _ trivial (fun hHeld => ?_)
        clear hK K
        try simp only [Act.put, List.setIfInBounds_toArray, List.set_cons_zero, List.set_cons_succ]
        obtain ⟨V1, hst, rV1, zV1, bV1⟩ := tell_store (q := R5) z4u43
        refine take_one (i := 7) rfl (by kernel_rfl) rfl (fun K hK => ?_)
        unfold Oper.wp execOp
        simp only [Instr.storeAt, Instr.sureAddr, Sem.run_bind, Sem.run_pure, Result.andThen_ok]
        simp [Act.eval, hst, Oper.upon]
        clear hst
        refine hK.out _ _ trivial (fun hHeld => ?_)
        clear hK K
        try simp only [Act.put, List.setIfInBounds_toArray, List.set_cons_zero, List.set_cons_succ]
        obtain ⟨V2, hst, rV2, zV2, bV2⟩ := tell_store (q := R4) (bV1.row z5u43 (gRow_lt z5u43) (by omega))
        refine take_one (i := 8) rfl (by kernel_rfl) rfl (fun K hK => ?_)
        unfold Oper.wp execOp
        simp only [Instr.storeAt, Instr.sureAddr, Sem.run_bind, Sem.run_pure, Result.andThen_ok]
        simp [Act.eval, hst, Oper.upon]
        clear hst
        refine hK.out _ _ trivial (fun hHeld => ?_)
        clear hK K
        try simp only [Act.put, List.setIfInBounds_toArray, List.set_cons_zero, List.set_cons_succ]
        refine wpAnyH_done (by kernel_rfl) ?_ _
        refine NoPanic.normal ?_
        have FF : Hid (V2.rowIs _ 29 32 (arrV R5) ∧ V2.rowIs _ 29 32 (arrV R4) ∧ Below w3.heap.size w3 V2) := (show _ ∧ _ ∧ _ from ⟨bV2.row rV1 (gRow_lt rV1) (by omega), rV2, Bu43.trans ((bV1.below' (by omega) Bu43.size).trans (bV2.below' (by omega) (by rw [zV1]; exact Bu43.size)))⟩)
        clear rV1 rV2 bV1 bV2 zV1 zV2 hHeld
        go_wp2_with fail
        go_meet
        case rel => exact ⟨_, _, rfl, rfl, FF.out.1, FF.out.2.1, FF.out.2.2⟩
  case rest =>
    obtain ⟨b4, b5, rfl, rfl, h4, h5, hB⟩ := hcut
    rename World => w6
    have Z6 := hB.size
    have L4 : Hid (∀ wz, Below w6.heap.size w6 wz → ∀ j, j < 32 → wz.cell? ⟨b4, 0 + j, none⟩ = some (arrV R5 j)) := (show _ from fun wz hz j hj => by rw [Nat.zero_add]; exact (hz.row h4 (gRow_lt h4)).cell hj)
    have L5 : Hid (∀ wz, Below w6.heap.size w6 wz → ∀ j, j < 32 → wz.cell? ⟨b5, 0 + j, none⟩ = some (arrV R4 j)) := (show _ from fun wz hz j hj => by rw [Nat.zero_add]; exact (hz.row h5 (gRow_lt h5)).cell hj)
    have hb3 := HB.out
    have hg2 := HG2.out
    have hg3 := HG3.out
    have z12 := B12.out.size
    have z23 := B23.out.size
    have y5 : sumsAt w6 (.slice (some ⟨b, 0, none⟩) 5 5) five := Y3.out.below hB (Nat.le_refl _)
    have CF : Hid (∀ wz, Below w6.heap.size w6 wz → ∀ i (hi : i < five.length) j, j < 32 → wz.cell? ⟨b, 0 + i * 32 + j, none⟩ = some (arrV five[i] j)) := (show _ from fun wz hz i hi j hj => by
      obtain ⟨_, a, cap, e, _, _, h5'⟩ := y5.below hz (Nat.le_refl _)
      obtain ⟨g, o, ha, _, hc⟩ := h5' (by simp [five])
      have e1 : some (⟨b, 0, none⟩ : Addr) = a := by injection e
      rw [ha] at e1
      have e2 : (⟨b, 0, none⟩ : Addr) = ⟨g, o, none⟩ := Option.some.inj e1
      have e3 : b = g := congrArg Addr.block e2
      have e4 : 0 = o := congrArg Addr.off e2
      subst e3; subst e4
      exact hc i hi j hj)
    have P0 : Hid (∀ wz, Below w6.heap.size w6 wz → ∀ j, j < 32 → wz.cell? ⟨g2, 0 + j, none⟩ = some (arrV (lf 3) j)) := (show _ from fun wz hz j hj => (hz.cell (p := ⟨g2, 0 + j, none⟩) (by show g2 < _; omega)).trans ((hB.cell (p := ⟨g2, 0 + j, none⟩) (by show g2 < _; omega)).trans ((B23.out.cell (p := ⟨g2, 0 + j, none⟩) hg2).trans (by have := CP.out 0 (lf 3) rfl j hj; rwa [Nat.zero_mul] at this))))
    have P3 : Hid (∀ wz, Below w6.heap.size w6 wz → ∀ j, j < 32 → wz.cell? ⟨g2, 96 + j, none⟩ = some (arrV (lf 5) j)) := (show _ from fun wz hz j hj => (hz.cell (p := ⟨g2, 96 + j, none⟩) (by show g2 < _; omega)).trans ((hB.cell (p := ⟨g2, 96 + j, none⟩) (by show g2 < _; omega)).trans ((B23.out.cell (p := ⟨g2, 96 + j, none⟩) hg2).trans (CP.out 3 (lf 5) rfl j hj))))
    have Q0 : Hid (∀ wz, Below w6.heap.size w6 wz → ∀ j, j < 32 → wz.cell? ⟨g3, 0 + j, none⟩ = some (arrV (lf 5) j)) := (show _ from fun wz hz j hj => (hz.cell (p := ⟨g3, 0 + j, none⟩) (by show g3 < _; omega)).trans ((hB.cell (p := ⟨g3, 0 + j, none⟩) (by show g3 < _; omega)).trans (by have := CQ.out 0 (lf 5) rfl j hj; rwa [Nat.zero_mul] at this)))
    have F2 : Hid (∀ wz, Below w6.heap.size w6 wz → ∀ j, j < 32 → wz.cell? ⟨b, 64 + j, none⟩ = some (arrV (lf 3) j)) := (show _ from fun wz hz j hj => CF.out wz hz 2 (by simp [five]) j hj)
    have F4 : Hid (∀ wz, Below w6.heap.size w6 wz → ∀ j, j < 32 → wz.cell? ⟨b, 128 + j, none⟩ = some (arrV (lf 5) j)) := (show _ from fun wz hz j hj => CF.out wz hz 4 (by simp [five]) j hj)
    have E3 : Hid (∀ wz : World, (Op.equalIn 10000 29 (.agg (rowV 32 (arrV (lf 3)))) (.agg (rowV 32 (arrV (lf 3))))).run Tryd.prog wz = .ok true wz) := (show ∀ wz : World, _ from fun wz => by have := run_eq_sums wz 9998 (lf_sum (k := 3) (by omega)) (lf_sum (k := 3) (by omega)); rwa [decide_eq_true rfl] at this)
    have E5 : Hid (∀ wz : World, (Op.equalIn 10000 29 (.agg (rowV 32 (arrV (lf 5)))) (.agg (rowV 32 (arrV (lf 5))))).run Tryd.prog wz = .ok true wz) := (show ∀ wz : World, _ from fun wz => by have := run_eq_sums wz 9998 (lf_sum (k := 5) (by omega)) (lf_sum (k := 5) (by omega)); rwa [decide_eq_true rfl] at this)
    have TZ : Hid (∀ wz, Below w6.heap.size w6 wz → tabIs wz ∧ sumsAt wz (.slice (some ⟨g3, 0, none⟩) 1 c3) [lf 5]) := (show _ from fun wz hz => ⟨(T3.out.below hB T3.out.1).below hz (Nat.lt_of_lt_of_le T3.out.1 Z6), (N3.out.is.below hB (Nat.le_refl _)).below hz (Nat.le_refl _)⟩)
    have BF : Hid (Below w.heap.size w w6 ∧ w.heap.size ≤ w6.heap.size) := (show _ ∧ _ from ⟨B1.out.trans ((B13.out.trans (hB.mono B13.out.size)).mono B1.out.size), by have := B1.out.size; omega⟩)
    clear h4 h5 hB Z6 hb3 hg2 hg3 z12 z23 y5 hz32
    go_upto_region 4 with fail
    refine wp_region_noPanic ?_
    refine wp_region_held_drew (S := fun w' => Below w6.heap.size w6 w') (by kernel_rfl) ((Below.refl _ _).drew) (fun hHeld => ?_)
    have Y0 := (by have h := steps_any 3 5 (by omega) (by omega) w6.drew; rw [gSteps_five.1] at h; exact h : Calls Tryd.prog 13 #[.int .i64 3, .int .i64 5] w6.drew fun e w' => e = .returned (.int .i64 4) ∧ Below (w6.drew).heap.size (w6.drew) w')
    refine take_one (i := 0) rfl (by kernel_rfl) rfl (fun K hK => ?_)
    go_simp
    refine Calls.mono Y0 ?_
    rintro e x0 ⟨rfl, bz⟩
    have bx0 : Below w6.heap.size w6 x0 := hHeld.trans (bz.mono hHeld.size)
    clear Y0 bz
    refine hK.out _ _ bx0 (fun hHeld => ?_)
    clear hK K
    try simp only [Act.put, List.setIfInBounds_toArray, List.set_cons_zero, List.set_cons_succ]
    refine take_op (i := 1) (v := ?vz1) rfl (by kernel_rfl) (by kernel_rfl) (by kernel_rfl) (fun _ _ _ h => h) rfl hHeld ?yz1 ?rz1
    case yz1 => (intro wz hz; go_simp; first | done | with_reducible rfl)
    try simp only [Act.put, List.setIfInBounds_toArray, List.set_cons_zero, List.set_cons_succ]
    refine take_op (i := 2) (v := ?vz2) rfl (by kernel_rfl) (by kernel_rfl) (by kernel_rfl) (fun _ _ _ h => h) rfl hHeld ?yz2 ?rz2
    case yz2 => (intro wz hz; go_simp; first | done | with_reducible rfl)
    try simp only [Act.put, List.setIfInBounds_toArray, List.set_cons_zero, List.set_cons_succ]
    have Y3 := (by have h := steps_any 4 5 (by omega) (by omega) x0; rw [gSteps_five.2.1] at h; exact h : Calls Tryd.prog 13 #[.int .i64 4, .int .i64 5] x0 fun e w' => e = .returned (.int .i64 1) ∧ Below (x0).heap.size (x0) w')
    refine take_one (i := 3) rfl (by kernel_rfl) rfl (fun K hK => ?_)
    go_simp
    refine Calls.mono Y3 ?_
    rintro e x3 ⟨rfl, bz⟩
    have bx3 : Below w6.heap.size w6 x3 := hHeld.trans (bz.mono hHeld.size)
    clear Y3 bz
    refine hK.out _ _ bx3 (fun hHeld => ?_)
    clear hK K
    try simp only [Act.put, List.setIfInBounds_toArray, List.set_cons_zero, List.set_cons_succ]
    refine take_op (i := 4) (v := ?vz4) rfl (by kernel_rfl) (by kernel_rfl) (by kernel_rfl) (fun _ _ _ h => h) rfl hHeld ?yz4 ?rz4
    case yz4 => (intro wz hz; go_simp; first | done | with_reducible rfl)
    try simp only [Act.put, List.setIfInBounds_toArray, List.set_cons_zero, List.set_cons_succ]
    refine take_op (i := 5) (v := ?vz5) rfl (by kernel_rfl) (by kernel_rfl) (by kernel_rfl) (fun _ _ _ h => h) rfl hHeld ?yz5 ?rz5
    case yz5 => (intro wz hz; go_simp; first | done | with_reducible rfl)
    try simp only [Act.put, List.setIfInBounds_toArray, List.set_cons_zero, List.set_cons_succ]
    refine take_op (i := 6) (v := ?vz6) rfl (by kernel_rfl) (by kernel_rfl) (by kernel_rfl) (fun _ _ _ h => h) rfl hHeld ?yz6 ?rz6
    case yz6 => (intro wz hz; go_simp; first | done | with_reducible rfl)
    try simp only [Act.put, List.setIfInBounds_toArray, List.set_cons_zero, List.set_cons_succ]
    have Y7 := (by have h := steps_any 5 5 (by omega) (by omega) x3; rw [gSteps_five.2.2.1] at h; exact h : Calls Tryd.prog 13 #[.int .i64 5, .int .i64 5] x3 fun e w' => e = .returned (.int .i64 0) ∧ Below (x3).heap.size (x3) w')
    refine take_one (i := 7) rfl (by kernel_rfl) rfl (fun K hK => ?_)
    go_simp
    refine Calls.mono Y7 ?_
    rintro e x7 ⟨rfl, bz⟩
    have bx7 : Below w6.heap.size w6 x7 := hHeld.trans (bz.mono hHeld.size)
    clear Y7 bz
    refine hK.out _ _ bx7 (fun hHeld => ?_)
    clear hK K
    try simp only [Act.put, List.setIfInBounds_toArray, List.set_cons_zero, List.set_cons_succ]
    refine take_op (i := 8) (v := ?vz8) rfl (by kernel_rfl) (by kernel_rfl) (by kernel_rfl) (fun _ _ _ h => h) rfl hHeld ?yz8 ?rz8
    case yz8 => (intro wz hz; go_simp; first | done | with_reducible rfl)
    try simp only [Act.put, List.setIfInBounds_toArray, List.set_cons_zero, List.set_cons_succ]
    refine take_op (i := 9) (v := ?vz9) rfl (by kernel_rfl) (by kernel_rfl) (by kernel_rfl) (fun _ _ _ h => h) rfl hHeld ?yz9 ?rz9
    case yz9 => (intro wz hz; go_simp; first | done | with_reducible rfl)
    try simp only [Act.put, List.setIfInBounds_toArray, List.set_cons_zero, List.set_cons_succ]
    refine take_op (i := 10) (v := ?vz10) rfl (by kernel_rfl) (by kernel_rfl) (by kernel_rfl) (fun _ _ _ h => h) rfl hHeld ?yz10 ?rz10
    case yz10 => (intro wz hz; go_simp; first | done | with_reducible rfl)
    try simp only [Act.put, List.setIfInBounds_toArray, List.set_cons_zero, List.set_cons_succ]
    have Y11 := (by have h := steps_any 0 5 (by omega) (by omega) x7; rw [gSteps_five.2.2.2] at h; exact h : Calls Tryd.prog 13 #[.int .i64 0, .int .i64 5] x7 fun e w' => e = .returned (.int .i64 0) ∧ Below (x7).heap.size (x7) w')
    refine take_one (i := 11) rfl (by kernel_rfl) rfl (fun K hK => ?_)
    go_simp
    refine Calls.mono Y11 ?_
    rintro e x11 ⟨rfl, bz⟩
    have bx11 : Below w6.heap.size w6 x11 := hHeld.trans (bz.mono hHeld.size)
    clear Y11 bz
    refine hK.out _ _ bx11 (fun hHeld => ?_)
    clear hK K
    try simp only [Act.put, List.setIfInBounds_toArray, List.set_cons_zero, List.set_cons_succ]
    refine take_op (i := 12) (v := ?vz12) rfl (by kernel_rfl) (by kernel_rfl) (by kernel_rfl) (fun _ _ _ h => h) rfl hHeld ?yz12 ?rz12
    case yz12 => (intro wz hz; go_simp; first | done | with_reducible rfl)
    try simp only [Act.put, List.setIfInBounds_toArray, List.set_cons_zero, List.set_cons_succ]
    refine take_op (i := 13) (v := ?vz13) rfl (by kernel_rfl) (by kernel_rfl) (by kernel_rfl) (fun _ _ _ h => h) rfl hHeld ?yz13 ?rz13
    case yz13 => (intro wz hz; go_simp; first | done | with_reducible rfl)
    try simp only [Act.put, List.setIfInBounds_toArray, List.set_cons_zero, List.set_cons_succ]
    refine take_op (i := 14) (v := ?vz14) rfl (by kernel_rfl) (by kernel_rfl) (by kernel_rfl) (fun _ _ _ h => h) rfl hHeld ?yz14 ?rz14
    case yz14 => (intro wz hz; go_simp; first | done | with_reducible rfl)
    try simp only [Act.put, List.setIfInBounds_toArray, List.set_cons_zero, List.set_cons_succ]
    refine take_op (i := 15) (v := ?vz15) rfl (by kernel_rfl) (by kernel_rfl) (by kernel_rfl) (fun _ _ _ h => h) rfl hHeld ?yz15 ?rz15
    case yz15 => (intro wz hz; go_simp; first | done | with_reducible rfl)
    try simp only [Act.put, List.setIfInBounds_toArray, List.set_cons_zero, List.set_cons_succ]
    refine take_op (i := 16) (v := ?vz16) rfl (by kernel_rfl) (by kernel_rfl) (by kernel_rfl) (fun _ _ _ h => h) rfl hHeld ?yz16 ?rz16
    case yz16 => (intro wz hz; go_simp; first | done | with_reducible rfl)
    try simp only [Act.put, List.setIfInBounds_toArray, List.set_cons_zero, List.set_cons_succ]
    refine take_op (i := 17) (v := ?vz17) rfl (by kernel_rfl) (by kernel_rfl) (by kernel_rfl) (fun _ _ _ h => h) rfl hHeld ?yz17 ?rz17
    case yz17 => (intro wz hz; go_simp; first | done | with_reducible rfl)
    try simp only [Act.put, List.setIfInBounds_toArray, List.set_cons_zero, List.set_cons_succ]
    refine take_op (i := 18) (v := ?vz18) rfl (by kernel_rfl) (by kernel_rfl) (by kernel_rfl) (fun _ _ _ h => h) rfl hHeld ?yz18 ?rz18
    case yz18 => (intro wz hz; go_simp; first | done | with_reducible rfl)
    try simp only [Act.put, List.setIfInBounds_toArray, List.set_cons_zero, List.set_cons_succ]
    refine take_op (i := 19) (v := ?vz19) rfl (by kernel_rfl) (by kernel_rfl) (by kernel_rfl) (fun _ _ _ h => h) rfl hHeld ?yz19 ?rz19
    case yz19 => (intro wz hz; go_simp; first | done | with_reducible rfl)
    try simp only [Act.put, List.setIfInBounds_toArray, List.set_cons_zero, List.set_cons_succ]
    refine take_op (i := 20) (v := ?vz20) rfl (by kernel_rfl) (by kernel_rfl) (by kernel_rfl) (fun _ _ _ h => h) rfl hHeld ?yz20 ?rz20
    case yz20 => (intro wz hz; go_simp; first | done | with_reducible rfl)
    try simp only [Act.put, List.setIfInBounds_toArray, List.set_cons_zero, List.set_cons_succ]
    refine take_op (i := 21) (v := ?vz21) rfl (by kernel_rfl) (by kernel_rfl) (by kernel_rfl) (fun _ _ _ h => h) rfl hHeld ?yz21 ?rz21
    case yz21 => (intro wz hz; go_simp; first | done | with_reducible rfl)
    try simp only [Act.put, List.setIfInBounds_toArray, List.set_cons_zero, List.set_cons_succ]
    refine take_load (i := 22) rfl (by kernel_rfl) (by kernel_rfl) (by kernel_rfl) 29 _ rfl g2 0 32 (arrV (lf 3)) rfl _ Tryd.underlying29 rfl (by kernel_rfl) (fun _ _ _ h => h) rfl hHeld (fun wz hz => P0.out wz hz) ?_
    try simp only [Act.put, List.setIfInBounds_toArray, List.set_cons_zero, List.set_cons_succ]
    refine take_op (i := 23) (v := ?vz23) rfl (by kernel_rfl) (by kernel_rfl) (by kernel_rfl) (fun _ _ _ h => h) rfl hHeld ?yz23 ?rz23
    case yz23 => (intro wz hz; go_simp; first | done | with_reducible rfl)
    try simp only [Act.put, List.setIfInBounds_toArray, List.set_cons_zero, List.set_cons_succ]
    refine take_op (i := 24) (v := ?vz24) rfl (by kernel_rfl) (by kernel_rfl) (by kernel_rfl) (fun _ _ _ h => h) rfl hHeld ?yz24 ?rz24
    case yz24 => (intro wz hz; go_simp; first | done | with_reducible rfl)
    try simp only [Act.put, List.setIfInBounds_toArray, List.set_cons_zero, List.set_cons_succ]
    refine take_load (i := 25) rfl (by kernel_rfl) (by kernel_rfl) (by kernel_rfl) 29 _ rfl b 64 32 (arrV (lf 3)) rfl _ Tryd.underlying29 rfl (by kernel_rfl) (fun _ _ _ h => h) rfl hHeld (fun wz hz => F2.out wz hz) ?_
    try simp only [Act.put, List.setIfInBounds_toArray, List.set_cons_zero, List.set_cons_succ]
    refine take_op (i := 26) (v := ?vz26) rfl (by kernel_rfl) (by kernel_rfl) (by kernel_rfl) (fun _ _ _ h => h) rfl hHeld ?yz26 ?rz26
    case yz26 => (intro wz hz; have hcz := E3.out wz; go_simp; first | done | with_reducible rfl)
    try simp only [Act.put, List.setIfInBounds_toArray, List.set_cons_zero, List.set_cons_succ]
    refine take_op (i := 27) (v := ?vz27) rfl (by kernel_rfl) (by kernel_rfl) (by kernel_rfl) (fun _ _ _ h => h) rfl hHeld ?yz27 ?rz27
    case yz27 => (intro wz hz; go_simp; first | done | with_reducible rfl)
    try simp only [Act.put, List.setIfInBounds_toArray, List.set_cons_zero, List.set_cons_succ]
    refine take_op (i := 28) (v := ?vz28) rfl (by kernel_rfl) (by kernel_rfl) (by kernel_rfl) (fun _ _ _ h => h) rfl hHeld ?yz28 ?rz28
    case yz28 => (intro wz hz; go_simp; first | done | with_reducible rfl)
    try simp only [Act.put, List.setIfInBounds_toArray, List.set_cons_zero, List.set_cons_succ]
    refine take_op (i := 29) (v := ?vz29) rfl (by kernel_rfl) (by kernel_rfl) (by kernel_rfl) (fun _ _ _ h => h) rfl hHeld ?yz29 ?rz29
    case yz29 => (intro wz hz; go_simp; first | done | with_reducible rfl)
    try simp only [Act.put, List.setIfInBounds_toArray, List.set_cons_zero, List.set_cons_succ]
    refine take_op (i := 30) (v := ?vz30) rfl (by kernel_rfl) (by kernel_rfl) (by kernel_rfl) (fun _ _ _ h => h) rfl hHeld ?yz30 ?rz30
    case yz30 => (intro wz hz; go_simp; first | done | with_reducible rfl)
    try simp only [Act.put, List.setIfInBounds_toArray, List.set_cons_zero, List.set_cons_succ]
    refine take_load (i := 31) rfl (by kernel_rfl) (by kernel_rfl) (by kernel_rfl) 29 _ rfl g2 96 32 (arrV (lf 5)) rfl _ Tryd.underlying29 rfl (by kernel_rfl) (fun _ _ _ h => h) rfl hHeld (fun wz hz => P3.out wz hz) ?_
    try simp only [Act.put, List.setIfInBounds_toArray, List.set_cons_zero, List.set_cons_succ]
    refine take_op (i := 32) (v := ?vz32) rfl (by kernel_rfl) (by kernel_rfl) (by kernel_rfl) (fun _ _ _ h => h) rfl hHeld ?yz32 ?rz32
    case yz32 => (intro wz hz; go_simp; first | done | with_reducible rfl)
    try simp only [Act.put, List.setIfInBounds_toArray, List.set_cons_zero, List.set_cons_succ]
    refine take_op (i := 33) (v := ?vz33) rfl (by kernel_rfl) (by kernel_rfl) (by kernel_rfl) (fun _ _ _ h => h) rfl hHeld ?yz33 ?rz33
    case yz33 => (intro wz hz; go_simp; first | done | with_reducible rfl)
    try simp only [Act.put, List.setIfInBounds_toArray, List.set_cons_zero, List.set_cons_succ]
    refine take_load (i := 34) rfl (by kernel_rfl) (by kernel_rfl) (by kernel_rfl) 29 _ rfl b 128 32 (arrV (lf 5)) rfl _ Tryd.underlying29 rfl (by kernel_rfl) (fun _ _ _ h => h) rfl hHeld (fun wz hz => F4.out wz hz) ?_
    try simp only [Act.put, List.setIfInBounds_toArray, List.set_cons_zero, List.set_cons_succ]
    refine take_op (i := 35) (v := ?vz35) rfl (by kernel_rfl) (by kernel_rfl) (by kernel_rfl) (fun _ _ _ h => h) rfl hHeld ?yz35 ?rz35
    case yz35 => (intro wz hz; have hcz := E5.out wz; go_simp; first | done | with_reducible rfl)
    try simp only [Act.put, List.setIfInBounds_toArray, List.set_cons_zero, List.set_cons_succ]
    refine take_op (i := 36) (v := ?vz36) rfl (by kernel_rfl) (by kernel_rfl) (by kernel_rfl) (fun _ _ _ h => h) rfl hHeld ?yz36 ?rz36
    case yz36 => (intro wz hz; go_simp; first | done | with_reducible rfl)
    try simp only [Act.put, List.setIfInBounds_toArray, List.set_cons_zero, List.set_cons_succ]
    refine take_op (i := 37) (v := ?vz37) rfl (by kernel_rfl) (by kernel_rfl) (by kernel_rfl) (fun _ _ _ h => h) rfl hHeld ?yz37 ?rz37
    case yz37 => (intro wz hz; go_simp; first | done | with_reducible rfl)
    try simp only [Act.put, List.setIfInBounds_toArray, List.set_cons_zero, List.set_cons_succ]
    refine take_op (i := 38) (v := ?vz38) rfl (by kernel_rfl) (by kernel_rfl) (by kernel_rfl) (fun _ _ _ h => h) rfl hHeld ?yz38 ?rz38
    case yz38 => (intro wz hz; go_simp; first | done | with_reducible rfl)
    try simp only [Act.put, List.setIfInBounds_toArray, List.set_cons_zero, List.set_cons_succ]
    refine take_op (i := 39) (v := ?vz39) rfl (by kernel_rfl) (by kernel_rfl) (by kernel_rfl) (fun _ _ _ h => h) rfl hHeld ?yz39 ?rz39
    case yz39 => (intro wz hz; go_simp; first | done | with_reducible rfl)
    try simp only [Act.put, List.setIfInBounds_toArray, List.set_cons_zero, List.set_cons_succ]
    refine take_op (i := 40) (v := ?vz40) rfl (by kernel_rfl) (by kernel_rfl) (by kernel_rfl) (fun _ _ _ h => h) rfl hHeld ?yz40 ?rz40
    case yz40 => (intro wz hz; go_simp; first | done | with_reducible rfl)
    try simp only [Act.put, List.setIfInBounds_toArray, List.set_cons_zero, List.set_cons_succ]
    refine take_op (i := 41) (v := ?vz41) rfl (by kernel_rfl) (by kernel_rfl) (by kernel_rfl) (fun _ _ _ h => h) rfl hHeld ?yz41 ?rz41
    case yz41 => (intro wz hz; go_simp; first | done | with_reducible rfl)
    try simp only [Act.put, List.setIfInBounds_toArray, List.set_cons_zero, List.set_cons_succ]
    refine take_op (i := 42) (v := ?vz42) rfl (by kernel_rfl) (by kernel_rfl) (by kernel_rfl) (fun _ _ _ h => h) rfl hHeld ?yz42 ?rz42
    case yz42 => (intro wz hz; go_simp; first | done | with_reducible rfl)
    try simp only [Act.put, List.setIfInBounds_toArray, List.set_cons_zero, List.set_cons_succ]
    refine take_op (i := 43) (v := ?vz43) rfl (by kernel_rfl) (by kernel_rfl) (by kernel_rfl) (fun _ _ _ h => h) rfl hHeld ?yz43 ?rz43
    case yz43 => (intro wz hz; go_simp; first | done | with_reducible rfl)
    try simp only [Act.put, List.setIfInBounds_toArray, List.set_cons_zero, List.set_cons_succ]
    refine take_op (i := 44) (v := ?vz44) rfl (by kernel_rfl) (by kernel_rfl) (by kernel_rfl) (fun _ _ _ h => h) rfl hHeld ?yz44 ?rz44
    case yz44 => (intro wz hz; go_simp; first | done | with_reducible rfl)
    try simp only [Act.put, List.setIfInBounds_toArray, List.set_cons_zero, List.set_cons_succ]
    refine take_load (i := 45) rfl (by kernel_rfl) (by kernel_rfl) (by kernel_rfl) 29 _ rfl g3 0 32 (arrV (lf 5)) rfl _ Tryd.underlying29 rfl (by kernel_rfl) (fun _ _ _ h => h) rfl hHeld (fun wz hz => Q0.out wz hz) ?_
    try simp only [Act.put, List.setIfInBounds_toArray, List.set_cons_zero, List.set_cons_succ]
    refine take_op (i := 46) (v := ?vz46) rfl (by kernel_rfl) (by kernel_rfl) (by kernel_rfl) (fun _ _ _ h => h) rfl hHeld ?yz46 ?rz46
    case yz46 => (intro wz hz; go_simp; first | done | with_reducible rfl)
    try simp only [Act.put, List.setIfInBounds_toArray, List.set_cons_zero, List.set_cons_succ]
    refine take_op (i := 47) (v := ?vz47) rfl (by kernel_rfl) (by kernel_rfl) (by kernel_rfl) (fun _ _ _ h => h) rfl hHeld ?yz47 ?rz47
    case yz47 => (intro wz hz; go_simp; first | done | with_reducible rfl)
    try simp only [Act.put, List.setIfInBounds_toArray, List.set_cons_zero, List.set_cons_succ]
    refine take_load (i := 48) rfl (by kernel_rfl) (by kernel_rfl) (by kernel_rfl) 29 _ rfl b 128 32 (arrV (lf 5)) rfl _ Tryd.underlying29 rfl (by kernel_rfl) (fun _ _ _ h => h) rfl hHeld (fun wz hz => F4.out wz hz) ?_
    try simp only [Act.put, List.setIfInBounds_toArray, List.set_cons_zero, List.set_cons_succ]
    refine take_op (i := 49) (v := ?vz49) rfl (by kernel_rfl) (by kernel_rfl) (by kernel_rfl) (fun _ _ _ h => h) rfl hHeld ?yz49 ?rz49
    case yz49 => (intro wz hz; have hcz := E5.out wz; go_simp; first | done | with_reducible rfl)
    try simp only [Act.put, List.setIfInBounds_toArray, List.set_cons_zero, List.set_cons_succ]
    refine take_op (i := 50) (v := ?vz50) rfl (by kernel_rfl) (by kernel_rfl) (by kernel_rfl) (fun _ _ _ h => h) rfl hHeld ?yz50 ?rz50
    case yz50 => (intro wz hz; go_simp; first | done | with_reducible rfl)
    try simp only [Act.put, List.setIfInBounds_toArray, List.set_cons_zero, List.set_cons_succ]
    refine take_op (i := 51) (v := ?vz51) rfl (by kernel_rfl) (by kernel_rfl) (by kernel_rfl) (fun _ _ _ h => h) rfl hHeld ?yz51 ?rz51
    case yz51 => (intro wz hz; go_simp; first | done | with_reducible rfl)
    try simp only [Act.put, List.setIfInBounds_toArray, List.set_cons_zero, List.set_cons_succ]
    refine take_load (i := 52) rfl (by kernel_rfl) (by kernel_rfl) (by kernel_rfl) 29 _ rfl b5 0 32 (arrV R4) rfl _ Tryd.underlying29 rfl (by kernel_rfl) (fun _ _ _ h => h) rfl hHeld (fun wz hz => L5.out wz hz) ?_
    try simp only [Act.put, List.setIfInBounds_toArray, List.set_cons_zero, List.set_cons_succ]
    refine take_load (i := 53) rfl (by kernel_rfl) (by kernel_rfl) (by kernel_rfl) 29 _ rfl b4 0 32 (arrV R5) rfl _ Tryd.underlying29 rfl (by kernel_rfl) (fun _ _ _ h => h) rfl hHeld (fun wz hz => L4.out wz hz) ?_
    try simp only [Act.put, List.setIfInBounds_toArray, List.set_cons_zero, List.set_cons_succ]
    refine take_op (i := 54) (v := ?vz54) rfl (by kernel_rfl) (by kernel_rfl) (by kernel_rfl) (fun _ _ _ h => h) rfl hHeld ?yz54 ?rz54
    case yz54 => (intro wz hz; go_simp; first | done | with_reducible rfl)
    try simp only [Act.put, List.setIfInBounds_toArray, List.set_cons_zero, List.set_cons_succ]
    have Y55 := (by have h := ext_nil 4 5 R4 R5 [lf 5] (.slice (some ⟨g3, 0, none⟩) 1 c3) x11 (by omega) (by omega) SR.out.2 SR.out.1 (TZ.out _ hHeld).2 (by simp) (TZ.out _ hHeld).1; rw [ext_five.1] at h; exact h : Calls Tryd.prog 15 #[.pointer none, .int .i64 4, .int .i64 5, .agg (rowV 32 (arrV R4)), .agg (rowV 32 (arrV R5)), (.slice (some ⟨g3, 0, none⟩) 1 c3)] x11 fun e w' => e = .returned (.int .i64 0) ∧ Below (x11).heap.size (x11) w')
    refine take_one (i := 55) rfl (by kernel_rfl) rfl (fun K hK => ?_)
    go_simp
    refine Calls.mono Y55 ?_
    rintro e x55 ⟨rfl, bz⟩
    have bx55 : Below w6.heap.size w6 x55 := hHeld.trans (bz.mono hHeld.size)
    clear Y55 bz
    refine hK.out _ _ bx55 (fun hHeld => ?_)
    clear hK K
    try simp only [Act.put, List.setIfInBounds_toArray, List.set_cons_zero, List.set_cons_succ]
    refine take_op (i := 56) (v := ?vz56) rfl (by kernel_rfl) (by kernel_rfl) (by kernel_rfl) (fun _ _ _ h => h) rfl hHeld ?yz56 ?rz56
    case yz56 => (intro wz hz; go_simp; first | done | with_reducible rfl)
    try simp only [Act.put, List.setIfInBounds_toArray, List.set_cons_zero, List.set_cons_succ]
    refine take_op (i := 57) (v := ?vz57) rfl (by kernel_rfl) (by kernel_rfl) (by kernel_rfl) (fun _ _ _ h => h) rfl hHeld ?yz57 ?rz57
    case yz57 => (intro wz hz; go_simp; first | done | with_reducible rfl)
    try simp only [Act.put, List.setIfInBounds_toArray, List.set_cons_zero, List.set_cons_succ]
    refine take_op (i := 58) (v := ?vz58) rfl (by kernel_rfl) (by kernel_rfl) (by kernel_rfl) (fun _ _ _ h => h) rfl hHeld ?yz58 ?rz58
    case yz58 => (intro wz hz; go_simp; first | done | with_reducible rfl)
    try simp only [Act.put, List.setIfInBounds_toArray, List.set_cons_zero, List.set_cons_succ]
    refine take_load (i := 59) rfl (by kernel_rfl) (by kernel_rfl) (by kernel_rfl) 29 _ rfl b4 0 32 (arrV R5) rfl _ Tryd.underlying29 rfl (by kernel_rfl) (fun _ _ _ h => h) rfl hHeld (fun wz hz => L4.out wz hz) ?_
    try simp only [Act.put, List.setIfInBounds_toArray, List.set_cons_zero, List.set_cons_succ]
    refine take_load (i := 60) rfl (by kernel_rfl) (by kernel_rfl) (by kernel_rfl) 29 _ rfl b4 0 32 (arrV R5) rfl _ Tryd.underlying29 rfl (by kernel_rfl) (fun _ _ _ h => h) rfl hHeld (fun wz hz => L4.out wz hz) ?_
    try simp only [Act.put, List.setIfInBounds_toArray, List.set_cons_zero, List.set_cons_succ]
    refine take_op (i := 61) (v := ?vz61) rfl (by kernel_rfl) (by kernel_rfl) (by kernel_rfl) (fun _ _ _ h => h) rfl hHeld ?yz61 ?rz61
    case yz61 => (intro wz hz; go_simp; first | done | with_reducible rfl)
    try simp only [Act.put, List.setIfInBounds_toArray, List.set_cons_zero, List.set_cons_succ]
    have Y62 := (by have h := ext_nil 4 5 R5 R5 [lf 5] (.slice (some ⟨g3, 0, none⟩) 1 c3) x55 (by omega) (by omega) SR.out.1 SR.out.1 (TZ.out _ hHeld).2 (by simp) (TZ.out _ hHeld).1; rw [ext_five.2.1] at h; exact h : Calls Tryd.prog 15 #[.pointer none, .int .i64 4, .int .i64 5, .agg (rowV 32 (arrV R5)), .agg (rowV 32 (arrV R5)), (.slice (some ⟨g3, 0, none⟩) 1 c3)] x55 fun e w' => e = .returned (.int .i64 10) ∧ Below (x55).heap.size (x55) w')
    refine take_one (i := 62) rfl (by kernel_rfl) rfl (fun K hK => ?_)
    go_simp
    refine Calls.mono Y62 ?_
    rintro e x62 ⟨rfl, bz⟩
    have bx62 : Below w6.heap.size w6 x62 := hHeld.trans (bz.mono hHeld.size)
    clear Y62 bz
    refine hK.out _ _ bx62 (fun hHeld => ?_)
    clear hK K
    try simp only [Act.put, List.setIfInBounds_toArray, List.set_cons_zero, List.set_cons_succ]
    refine take_op (i := 63) (v := ?vz63) rfl (by kernel_rfl) (by kernel_rfl) (by kernel_rfl) (fun _ _ _ h => h) rfl hHeld ?yz63 ?rz63
    case yz63 => (intro wz hz; go_simp; first | done | with_reducible rfl)
    try simp only [Act.put, List.setIfInBounds_toArray, List.set_cons_zero, List.set_cons_succ]
    refine take_op (i := 64) (v := ?vz64) rfl (by kernel_rfl) (by kernel_rfl) (by kernel_rfl) (fun _ _ _ h => h) rfl hHeld ?yz64 ?rz64
    case yz64 => (intro wz hz; go_simp; first | done | with_reducible rfl)
    try simp only [Act.put, List.setIfInBounds_toArray, List.set_cons_zero, List.set_cons_succ]
    refine take_op (i := 65) (v := ?vz65) rfl (by kernel_rfl) (by kernel_rfl) (by kernel_rfl) (fun _ _ _ h => h) rfl hHeld ?yz65 ?rz65
    case yz65 => (intro wz hz; go_simp; first | done | with_reducible rfl)
    try simp only [Act.put, List.setIfInBounds_toArray, List.set_cons_zero, List.set_cons_succ]
    refine take_load (i := 67) rfl (by kernel_rfl) (by kernel_rfl) (by kernel_rfl) 29 _ rfl b4 0 32 (arrV R5) rfl _ Tryd.underlying29 rfl (by kernel_rfl) (fun _ _ _ h => h) rfl hHeld (fun wz hz => L4.out wz hz) ?_
    try simp only [Act.put, List.setIfInBounds_toArray, List.set_cons_zero, List.set_cons_succ]
    have Y66 := (root_nil 1000 [] (.slice none 0 0) x62 (by simp) (by omega) (sumsAt.nil _) (TZ.out _ hHeld).1 : Calls Tryd.prog 18 #[.pointer none, .slice none 0 0] x62 fun e w' => e = .returned (.agg (rowV 32 (arrV (rootS [])))) ∧ Below (x62).heap.size (x62) w')
    refine take_one (i := 66) rfl (by kernel_rfl) rfl (fun K hK => ?_)
    go_simp
    refine Calls.mono Y66 ?_
    rintro e x66 ⟨rfl, bz⟩
    have bx66 : Below w6.heap.size w6 x66 := hHeld.trans (bz.mono hHeld.size)
    clear Y66 bz
    refine hK.out _ _ bx66 (fun hHeld => ?_)
    clear hK K
    try simp only [Act.put, List.setIfInBounds_toArray, List.set_cons_zero, List.set_cons_succ]
    have Y68 := (by have h := ext_nil 0 5 (rootS []) R5 [] (.slice none 0 0) x66 (by omega) (by omega) (rootS_sum (fun x hx => by simp at hx)) SR.out.1 (sumsAt.nil _) (by simp) (TZ.out _ hHeld).1; rw [ext_five.2.2.1] at h; exact h : Calls Tryd.prog 15 #[.pointer none, .int .i64 0, .int .i64 5, .agg (rowV 32 (arrV (rootS []))), .agg (rowV 32 (arrV R5)), (.slice none 0 0)] x66 fun e w' => e = .returned (.int .i64 0) ∧ Below (x66).heap.size (x66) w')
    refine take_one (i := 68) rfl (by kernel_rfl) rfl (fun K hK => ?_)
    go_simp
    refine Calls.mono Y68 ?_
    rintro e x68 ⟨rfl, bz⟩
    have bx68 : Below w6.heap.size w6 x68 := hHeld.trans (bz.mono hHeld.size)
    clear Y68 bz
    refine hK.out _ _ bx68 (fun hHeld => ?_)
    clear hK K
    try simp only [Act.put, List.setIfInBounds_toArray, List.set_cons_zero, List.set_cons_succ]
    refine take_op (i := 69) (v := ?vz69) rfl (by kernel_rfl) (by kernel_rfl) (by kernel_rfl) (fun _ _ _ h => h) rfl hHeld ?yz69 ?rz69
    case yz69 => (intro wz hz; go_simp; first | done | with_reducible rfl)
    try simp only [Act.put, List.setIfInBounds_toArray, List.set_cons_zero, List.set_cons_succ]
    refine take_op (i := 70) (v := ?vz70) rfl (by kernel_rfl) (by kernel_rfl) (by kernel_rfl) (fun _ _ _ h => h) rfl hHeld ?yz70 ?rz70
    case yz70 => (intro wz hz; go_simp; first | done | with_reducible rfl)
    try simp only [Act.put, List.setIfInBounds_toArray, List.set_cons_zero, List.set_cons_succ]
    refine take_op (i := 71) (v := ?vz71) rfl (by kernel_rfl) (by kernel_rfl) (by kernel_rfl) (fun _ _ _ h => h) rfl hHeld ?yz71 ?rz71
    case yz71 => (intro wz hz; go_simp; first | done | with_reducible rfl)
    try simp only [Act.put, List.setIfInBounds_toArray, List.set_cons_zero, List.set_cons_succ]
    refine take_load (i := 72) rfl (by kernel_rfl) (by kernel_rfl) (by kernel_rfl) 29 _ rfl b5 0 32 (arrV R4) rfl _ Tryd.underlying29 rfl (by kernel_rfl) (fun _ _ _ h => h) rfl hHeld (fun wz hz => L5.out wz hz) ?_
    try simp only [Act.put, List.setIfInBounds_toArray, List.set_cons_zero, List.set_cons_succ]
    refine take_load (i := 73) rfl (by kernel_rfl) (by kernel_rfl) (by kernel_rfl) 29 _ rfl b4 0 32 (arrV R5) rfl _ Tryd.underlying29 rfl (by kernel_rfl) (fun _ _ _ h => h) rfl hHeld (fun wz hz => L4.out wz hz) ?_
    try simp only [Act.put, List.setIfInBounds_toArray, List.set_cons_zero, List.set_cons_succ]
    have Y74 := (by have h := ext_nil 6 5 R4 R5 [] (.slice none 0 0) x68 (by omega) (by omega) SR.out.2 SR.out.1 (sumsAt.nil _) (by simp) (TZ.out _ hHeld).1; rw [ext_five.2.2.2] at h; exact h : Calls Tryd.prog 15 #[.pointer none, .int .i64 6, .int .i64 5, .agg (rowV 32 (arrV R4)), .agg (rowV 32 (arrV R5)), (.slice none 0 0)] x68 fun e w' => e = .returned (.int .i64 10) ∧ Below (x68).heap.size (x68) w')
    refine take_one (i := 74) rfl (by kernel_rfl) rfl (fun K hK => ?_)
    go_simp
    refine Calls.mono Y74 ?_
    rintro e x74 ⟨rfl, bz⟩
    have bx74 : Below w6.heap.size w6 x74 := hHeld.trans (bz.mono hHeld.size)
    clear Y74 bz
    refine hK.out _ _ bx74 (fun hHeld => ?_)
    clear hK K
    try simp only [Act.put, List.setIfInBounds_toArray, List.set_cons_zero, List.set_cons_succ]
    refine take_op (i := 75) (v := ?vz75) rfl (by kernel_rfl) (by kernel_rfl) (by kernel_rfl) (fun _ _ _ h => h) rfl hHeld ?yz75 ?rz75
    case yz75 => (intro wz hz; go_simp; first | done | with_reducible rfl)
    try simp only [Act.put, List.setIfInBounds_toArray, List.set_cons_zero, List.set_cons_succ]
    refine take_op (i := 76) (v := ?vz76) rfl (by kernel_rfl) (by kernel_rfl) (by kernel_rfl) (fun _ _ _ h => h) rfl hHeld ?yz76 ?rz76
    case yz76 => (intro wz hz; go_simp; first | done | with_reducible rfl)
    try simp only [Act.put, List.setIfInBounds_toArray, List.set_cons_zero, List.set_cons_succ]
    refine take_op (i := 77) (v := ?vz77) rfl (by kernel_rfl) (by kernel_rfl) (by kernel_rfl) (fun _ _ _ h => h) rfl hHeld ?yz77 ?rz77
    case yz77 => (intro wz hz; go_simp; first | done | with_reducible rfl)
    try simp only [Act.put, List.setIfInBounds_toArray, List.set_cons_zero, List.set_cons_succ]
    refine wpAnyH_done (by kernel_rfl) ?_ _
    refine NoPanic.normal ?_
    have HHELD : Hid (Below w6.heap.size w6 x74) := (show Below w6.heap.size w6 x74 from hHeld)
    clear hHeld
    go_wp2
    go_ret
    exact ⟨rfl, BF.out.1.trans (HHELD.out.mono BF.out.2)⟩
end Go.Proofs.YtdjfdcaolkladaaDoor

/- l[:n], up to the whole of l. -/
namespace Go.Proofs.YtdjfdcaolkladaaDoor
set_option linter.unusedSimpArgs false
set_option linter.unusedVariables false
open Go.RowKit Go.Deep

theorem sumsAt.upto {w : World} {v : Value} {L : List (List Int)} (h : sumsAt w v L) (n : Nat) (hn : n ≤ L.length) :
    ∃ u, (∀ wz : World, (Instr.slice 22 v none (some (.int .i64 n)) none).run Tryd.prog wz = .ok u wz) ∧ sumsAt w u (L.take n) ∧ (0 < L.length → u.ownBlock = v.ownBlock) ∧ ∃ x y, u = .slice x n y := by
  by_cases h0 : 0 < L.length
  · obtain ⟨h1, a, cap, rfl, h3, h4, h5⟩ := h
    obtain ⟨g, o, rfl, hg, hc⟩ := h5 h0
    have hl : (L.take n).length = n := by simp; omega
    refine ⟨_, fun wz => run_slice_to32 22 29 g o L.length cap n Tryd.underlying22 (by kernel_rfl) (by omega) wz, ⟨fun x hx => h1 x (List.mem_of_mem_take hx), _, cap, by rw [hl], by omega, h4, fun _ => ⟨g, o, rfl, hg, fun i hi j hj => ?_⟩⟩, fun _ => rfl, _, _, rfl⟩
    rw [List.getElem_take]; exact hc i (by omega) j hj
  · obtain ⟨h1, a, cap, rfl, h3, h4, h5⟩ := h
    have hL : L = [] := List.eq_nil_of_length_eq_zero (by omega)
    subst hL
    have hn0 : n = 0 := by simpa using hn
    subst hn0
    have hs32 : (Tryd.prog.info? 29).map (·.size) = some 32 := by kernel_rfl
    have hu := Tryd.underlying22
    cases hq : Tryd.prog.info? 29 with
    | none => simp [hq] at hs32
    | some i =>
      have hi : i.size = 32 := by simpa [hq] using hs32
      refine ⟨.slice a 0 cap, fun wz => ?_, ⟨fun x hx => by simp at hx, a, cap, rfl, by simp, h4, fun h => by simp at h⟩, fun h => by omega, _, _, rfl⟩
      cases a with
      | none => simp [Instr.slice, Instr.sliceBounds, Instr.sliceBound, asIntOf, run_underlying hu, sizeOf, typeInfo, hq, hi]
      | some p => simp [Instr.slice, Instr.sliceBounds, Instr.sliceBound, asIntOf, run_underlying hu, sizeOf, typeInfo, hq, hi, Addr.add]
end Go.Proofs.YtdjfdcaolkladaaDoor

/- The frame of a law's row: what was read reads behind the call as it did, where nothing old has turned. -/
namespace Go.Proofs.YtdjfdcaolkladaaDoor
open Go.RowKit Go.Deep Go.ChangeShapes Go.WideShapes Go.ChangeAt

theorem below_trodAll {H : Type} {enc : TypeId × Value → H} {P : Program} (hl : laidOutB P = true) {W W' : World} (hb : Below W.heap.size W W') :
    ∀ {ts : List TypeId} {vs : List Value} {ds : List (DataW H)} {ps : List MemPlace}, (∀ t ∈ ts, P.readableRec t = true ∧ t < P.types.size) → DataW.TrodAll enc P W 0 (fun _ => true) true ts vs ds ps → (∀ x ∈ ps, x.block < W.heap.size) →
      DataW.TrodAll enc P W' 0 (fun b => decide (b < W.heap.size)) true ts vs ds ps
  | [], [], [], _, _, h, _ => h
  | t :: ts, v :: vs, d :: ds, ps, hts, h, hlt => by
    obtain ⟨p, q, h1, h2, e⟩ := h
    subst e
    exact ⟨p, q, Below.trod hl (hts t List.mem_cons_self).1 (hts t List.mem_cons_self).2 h1 hb (fun x hx => hlt x (List.mem_append_left _ hx)), below_trodAll hl hb (fun u hu => hts u (List.mem_cons_of_mem _ hu)) h2 (fun x hx => hlt x (List.mem_append_right _ hx)), rfl⟩

/-- WHAT A LAW's ROW ASKS BEHIND THE CALL, where the answer is true and nothing old has turned. -/
theorem law_post {H : Type} {enc : TypeId × Value → H} {P : Program} {spec : ChangeSpec} {f : Func} {W W' : World} {args : Array Value} {ds gs : List (DataW H)} {before : List MemPlace} {tb : TypeId}
    (hl : laidOutB P = true) (hts : ∀ t ∈ f.params.toList, P.readableRec t = true ∧ t < P.types.size) (hvars : spec.vars = []) (hres : f.resultTypes = #[tb]) (hbool : P.underlying tb = some .bool)
    (hspec : spec.fn H (ds ++ gs) = { results := [.lit (.bool true)], args := ds })
    (hW : DataW.Whole enc P f.params.toList spec.vars false W args.toList ds gs before) (hb : Below W.heap.size W W') : spec.post enc P f false true false false W args (.bool true) W' := by
  have hW' := hW
  have hlt := hW.lt
  obtain ⟨p, q, hA, hV, rfl, hfz, hnd⟩ := hW
  rw [hvars] at hV
  obtain ⟨rfl, rfl⟩ := trodVars_none hV
  refine ⟨ds, [], p ++ [], [], p, [], hW', ?_, ?_, ?_, ?_, fun h => by cases h⟩
  · rw [hspec, hres]
    exact trodAll_cons_mk (shut_bool hbool _) trodAll_mk0
  · rw [hspec]
    exact below_trodAll hl hb hts hA (fun x hx => hlt x (List.mem_append_left _ hx))
  · rw [hspec, hvars]; exact hV
  · exact hb.frame _

/-- AN ARRAY OF BYTES, opened. -/
theorem open_bytes {H : Type} {enc : TypeId × Value → H} {P : Program} {w : World} {base b0 : Nat} {sp : Nat → Bool} {held : Bool} {r : Reach} {t e : TypeId} {n : Nat} {v : Value} {d : DataW H} {ps : List MemPlace}
    (hu : P.underlying t = some (.array n e)) (he : P.underlying e = some (.int .u8)) (hc : P.cellsOf e = 1) (hct : P.cellsOf t = n) (hval : Value.okWide P w r b0 t v) (hd : DataW.Trod enc P w base sp held t v d ps) :
    ∃ f : Nat → Int, v = .agg (rowV n fun i => .int .u8 (f i)) ∧ ∀ i, 0 ≤ f i ∧ f i ≤ 255 := by
  unfold Value.okWide at hval
  rw [hu] at hval
  obtain ⟨cs, rfl, hsz, _⟩ := hval
  obtain ⟨fuel, hf⟩ := hd
  obtain ⟨xs, m, rfl, _, hlen, _, hx⟩ := DataW.trod_array hu hf
  simp only [Value.cells] at hx hlen
  have hget : ∀ i, i < n → ∃ z : Int, cs[i]? = some (.int .u8 z) ∧ 0 ≤ z ∧ z ≤ 255 := fun i hi => by
    have h1 := hx i hi
    rw [hc, Nat.mul_one] at h1
    have hxi : i < xs.length := by omega
    rw [List.getElem?_eq_getElem hxi] at h1
    obtain ⟨z, hz, _, hw⟩ := DataW.trod_int he h1
    refine ⟨z, ?_, bounds_u8 hw⟩
    have hcs : cs.toList[i]? = some (.int .u8 z) := by
      have := congrArg (fun l => l[0]?) hz
      simpa [List.getElem?_take, List.getElem?_drop] using this
    rw [← Array.getElem?_toList]; exact hcs
  refine ⟨fun i => if h : i < n then Classical.choose (hget i h) else 0, ?_, fun i => ?_⟩
  · congr 1
    refine rowV_eq (by omega) fun i hi => ?_
    dsimp only
    rw [dif_pos hi]; exact (Classical.choose_spec (hget i hi)).1
  · dsimp only
    by_cases h : i < n
    · rw [dif_pos h]; exact (Classical.choose_spec (hget i h)).2
    · rw [dif_neg h]; omega
end Go.Proofs.YtdjfdcaolkladaaDoor

/- A sum that is handed in. -/
namespace Go.Proofs.YtdjfdcaolkladaaDoor
open Go.RowKit Go.Deep
/-- its bytes as a list. -/
def listF (f : Nat → Int) : List Int := (List.range 32).map f
theorem listF_getD (f : Nat → Int) (i : Nat) (h : i < 32) : (listF f).getD i 0 = f i := by
  rw [listF, List.getD_eq_getElem?_getD, List.getElem?_map, List.getElem?_range h]; rfl
theorem listF_sum {f : Nat → Int} (hf : ∀ i, 0 ≤ f i ∧ f i ≤ 255) : isSum (listF f) := ⟨by simp [listF], fun i => by
  by_cases h : i < 32
  · rw [listF_getD f i h]; exact hf i
  · rw [List.getD_eq_getElem?_getD, List.getElem?_eq_none (by simp [listF]; omega)]; exact ⟨by simp, by simp⟩⟩
theorem listF_row (f : Nat → Int) : rowV 32 (fun i => .int .u8 (f i)) = rowV 32 (arrV (listF f)) := rowV_congr fun i hi => by rw [arrV, listF_getD f i hi]
def zeroSum : Value := .agg #[.int .u8 0, .int .u8 0, .int .u8 0, .int .u8 0, .int .u8 0, .int .u8 0, .int .u8 0, .int .u8 0, .int .u8 0, .int .u8 0, .int .u8 0, .int .u8 0, .int .u8 0, .int .u8 0, .int .u8 0, .int .u8 0, .int .u8 0, .int .u8 0, .int .u8 0, .int .u8 0, .int .u8 0, .int .u8 0, .int .u8 0, .int .u8 0, .int .u8 0, .int .u8 0, .int .u8 0, .int .u8 0, .int .u8 0, .int .u8 0, .int .u8 0, .int .u8 0]
def zeroSumD {H : Type} : DataW H := .agg [.lit (.int .u8 0), .lit (.int .u8 0), .lit (.int .u8 0), .lit (.int .u8 0), .lit (.int .u8 0), .lit (.int .u8 0), .lit (.int .u8 0), .lit (.int .u8 0), .lit (.int .u8 0), .lit (.int .u8 0), .lit (.int .u8 0), .lit (.int .u8 0), .lit (.int .u8 0), .lit (.int .u8 0), .lit (.int .u8 0), .lit (.int .u8 0), .lit (.int .u8 0), .lit (.int .u8 0), .lit (.int .u8 0), .lit (.int .u8 0), .lit (.int .u8 0), .lit (.int .u8 0), .lit (.int .u8 0), .lit (.int .u8 0), .lit (.int .u8 0), .lit (.int .u8 0), .lit (.int .u8 0), .lit (.int .u8 0), .lit (.int .u8 0), .lit (.int .u8 0), .lit (.int .u8 0), .lit (.int .u8 0)]
end Go.Proofs.YtdjfdcaolkladaaDoor

/- GrowShows: its walk. -/
namespace Go.Proofs.YtdjfdcaolkladaaDoor
set_option linter.unusedSimpArgs false
set_option linter.unusedVariables false
open Go.RowKit Go.Deep

set_option maxHeartbeats 4000000 in
set_option maxRecDepth 100000 in
theorem growShows_any (L : List (List Int)) (v : Value) (other : List Int) (hot : isSum other) (w : World) (ht : tabIs w) (h : sumsAt w v L) :
    Calls Tryd.prog 5 #[v, .agg (rowV 32 (arrV other))] w fun e w' => e = .returned (.bool true) ∧ Below w.heap.size w w' := by
  have hsl : ∃ a cap, v = .slice a L.length cap := by
    obtain ⟨_, a, cap, e, _⟩ := h; exact ⟨a, cap, e⟩
  obtain ⟨va, vc, rfl⟩ := hsl
  have hz32 := zero_s32
  obtain ⟨w1, hw1⟩ : ∃ w1, w1 = w.alloc (.cells (rowV 32 (arrV other)) 29) := ⟨_, rfl⟩
  have b1 : Below w.heap.size w w1 := by rw [hw1]; exact (Below.refl _ _).alloc (Nat.le_refl _) _
  have r3 : w1.rowIs w.heap.size 29 32 (arrV other) := by rw [hw1]; exact rowIs_box w _ _ _
  have t1 := ht.below b1 ht.1
  have h1 := h.below b1 (Nat.le_refl _)
  have B1 : Hid _ := b1
  have R3 : Hid (w1.rowIs w.heap.size 29 32 (arrV other)) := (show w1.rowIs w.heap.size 29 32 (arrV other) from r3)
  have T1 : Hid (tabIs w1) := (show tabIs w1 from t1)
  have H1 : Hid (sumsAt w1 (.slice va L.length vc) L) := (show sumsAt w1 (.slice va L.length vc) L from h1)
  clear b1 r3 t1 h1 h ht
  by_cases c : L.length > 60
  · have c' : (L.length : Int) > 60 := by omega
    have X := gawake_any w1 T1.out
    go_enter Tryd.func5, Tryd.ntmps5
    go_upto_region 1 with fail
    rw [← hw1]
    clear hw1
    go_wp2_with fail
    refine X.mono ?_
    rintro e w2 ⟨rfl, b2⟩
    have B2 : Hid _ := b2
    clear X b2
    go_wp2
    go_ret
    exact ⟨rfl, B1.out.trans (B2.out.mono B1.out.size)⟩
  have c' : (L.length : Int) ≤ 60 := by omega
  have hsR : isSum (rootS L) := rootS_sum H1.out.1
  have X := root_nil 1000 L (.slice va L.length vc) w1 (by omega) (Nat.le_refl _) H1.out T1.out
  unfold sumV at X
  obtain ⟨R, hR⟩ : ∃ R, R = rootS L := ⟨_, rfl⟩
  rw [← hR] at X hsR
  have HR : Hid (R = rootS L) := (show R = rootS L from hR)
  have HSR : Hid (isSum R) := (show isSum R from hsR)
  have HOT : Hid (isSum other) := (show isSum other from hot)
  clear hsR hot hR
  go_enter Tryd.func5, Tryd.ntmps5
  go_upto_region 1 with fail
  rw [← hw1]
  clear hw1
  go_wp2_with fail
  refine X.mono ?_
  rintro e w2 ⟨rfl, b2⟩
  clear X
  have hz := rowIs_box w2 29 32 (fun _ => .int .u8 0)
  have HZ : Hid ((w2.alloc (.cells (rowV 32 (fun _ => .int .u8 0)) 29)).rowIs w2.heap.size 29 32 (fun _ => .int .u8 0)) := (show _ from hz)
  have B2 : Hid (Below w1.heap.size w1 w2) := (show Below w1.heap.size w1 w2 from b2)
  clear hz b2
  go_upto_region 4 with (first | (refine wpList_store_row rfl 29 _ _ rfl rfl w2.heap.size 0 32 (arrV R) rfl rfl hi32' (fun _ _ => rfl) _ _ _ HZ.out (by omega) ?_; intro w3 r5 z5 b5))
  have b23 : Below w2.heap.size w2 w3 := ((Below.refl w2.heap.size w2).alloc (Nat.le_refl _) _).trans (b5.below' (Nat.le_refl _) (by simp))
  have r5' : w3.rowIs w2.heap.size 29 32 (arrV R) := r5.congr (fun i hi => by rw [if_pos (by omega), Nat.sub_zero])
  have b13 : Below w1.heap.size w1 w3 := B2.out.trans (b23.mono B2.out.size)
  have R5 : Hid (w3.rowIs w2.heap.size 29 32 (arrV R)) := (show w3.rowIs w2.heap.size 29 32 (arrV R) from r5')
  have R33 : Hid (w3.rowIs w.heap.size 29 32 (arrV other)) := (show w3.rowIs w.heap.size 29 32 (arrV other) from b13.row R3.out (gRow_lt R3.out))
  have H3 : Hid (sumsAt w3 (.slice va L.length vc) L) := (show sumsAt w3 (.slice va L.length vc) L from H1.out.below b13 (Nat.le_refl _))
  have T3 : Hid (tabIs w3) := (show tabIs w3 from T1.out.below b13 T1.out.1)
  have B03 : Hid (Below w.heap.size w w3) := (show Below w.heap.size w w3 from B1.out.trans (b13.mono B1.out.size))
  clear b23 r5' b13 r5 z5 b5 HZ R3 H1 T1 B2
  go_upto_region 5 with fail
  go_loopw [6] (fun x wr => ∃ k : Nat, x = .int .i64 (k : Int) ∧ k ≤ L.length + 1 ∧ Below w3.heap.size w3 wr) (fun x _ => L.length + 1 - (intOf x).toNat)
  case atStart => exact ⟨0, rfl, by omega, Below.refl _ _⟩
  case round =>
    obtain ⟨k, rfl, hk, hB⟩ := hrel
    have i0 : (0 : Int) ≤ (k : Int) := by omega
    by_cases hlt : k ≤ L.length
    · have i1 : (k : Int) ≤ (L.length : Int) := by omega
      have hH := H3.out.below hB (Nat.le_refl _)
      have hT := T3.out.below hB T3.out.1
      obtain ⟨u, ru, su, _, xu, yu, rfl⟩ := hH.upto k hlt
      have ltk : (L.take k).length = k := by rw [List.length_take]; omega
      have X1 := root_nil 1000 (L.take k) (.slice xu k yu) wr (by omega) (Nat.le_refl _) su hT
      unfold sumV at X1
      have hso : isSum (rootS (L.take k)) := rootS_sum su.1
      have HEX : Hid (extR k L.length (rootS (L.take k)) (rootS L) (gPath L k) = true) := (show _ from ext_path L k hlt)
      have HEO : Hid (1 ≤ k → other ≠ rootS L → extR k L.length (rootS (L.take k)) other (gPath L k) = false) := (show _ from fun h1 h2 => ext_other L k h1 hlt other h2)
      generalize rootS (L.take k) = O at X1 hso HEX HEO
      have HB : Hid (Below w3.heap.size w3 wr) := (show Below w3.heap.size w3 wr from hB)
      have HSO : Hid (isSum O) := (show isSum O from hso)
      have hcz := ru wr
      clear su hso hB hH hT
      go_wp2_with fail
      refine X1.mono ?_
      rintro e w4 ⟨rfl, b4⟩
      clear X1 hcz
      have b34 : Below w3.heap.size w3 w4 := HB.out.trans (b4.mono HB.out.size)
      have X2 := between_nil L (.slice va L.length vc) k w4 (by omega) (H3.out.below b34 (Nat.le_refl _)) (by omega) (T3.out.below b34 T3.out.1)
      have B34 : Hid (Below w3.heap.size w3 w4) := (show Below w3.heap.size w3 w4 from b34)
      clear b4 b34
      go_wp2_with fail
      refine X2.mono ?_
      rintro e w5 ⟨pv, rfl, n5, b5⟩
      clear X2
      have b35 : Below w3.heap.size w3 w5 := B34.out.trans (b5.mono B34.out.size)
      have hz := rowIs_box w5 29 32 (fun _ => .int .u8 0)
      have HZ : Hid ((w5.alloc (.cells (rowV 32 (fun _ => .int .u8 0)) 29)).rowIs w5.heap.size 29 32 (fun _ => .int .u8 0)) := (show _ from hz)
      obtain ⟨pa, pc, rfl, _⟩ := ownsRow_slice n5.2
      have B35 : Hid (Below w3.heap.size w3 w5) := (show Below w3.heap.size w3 w5 from b35)
      have N5 : Hid (newSums w5 w4.heap.size (.slice pa (gPath L k).length pc) (gPath L k)) := (show newSums w5 w4.heap.size (.slice pa (gPath L k).length pc) (gPath L k) from n5)
      clear b5 b35 hz n5
      go_upto_region 8 with (first | (refine wpList_store_row rfl 29 _ _ rfl rfl w5.heap.size 0 32 (arrV O) rfl rfl hi32' (fun _ _ => rfl) _ _ _ HZ.out (by omega) ?_; intro w6 r7 z7 b7))
      have b56 : Below w5.heap.size w5 w6 := ((Below.refl w5.heap.size w5).alloc (Nat.le_refl _) _).trans (b7.below' (Nat.le_refl _) (by simp))
      have r7' : w6.rowIs w5.heap.size 29 32 (arrV O) := r7.congr (fun i hi => by rw [if_pos (by omega), Nat.sub_zero])
      have b36 : Below w3.heap.size w3 w6 := B35.out.trans (b56.mono B35.out.size)
      have hpl : (gPath L k).length ≤ 1000 := by
        have h1 := gPath_len L k
        have h2 := gI_len k (L.length : Int) (by omega)
        unfold gSteps at h1
        split at h1 <;> omega
      have y6 := N5.out.is.below b56 (Nat.le_refl _)
      have XE := ext_nil k L.length O R (gPath L k) (.slice pa (gPath L k).length pc) w6 (by omega) (by omega) HSO.out HSR.out y6 hpl (T3.out.below b36 T3.out.1)
      rw [HR.out, HEX.out, ← HR.out] at XE
      have C7 : Hid (∀ j, j < 32 → w6.cell? ⟨w5.heap.size, 0 + j, none⟩ = some (arrV O j)) := (show _ from fun j hj => by rw [Nat.zero_add]; exact r7'.cell hj)
      have C5 : Hid (∀ j, j < 32 → w6.cell? ⟨w2.heap.size, 0 + j, none⟩ = some (arrV R j)) := (show _ from fun j hj => by rw [Nat.zero_add]; exact (b36.row R5.out (gRow_lt R5.out)).cell hj)
      have B36 : Hid (Below w3.heap.size w3 w6) := (show Below w3.heap.size w3 w6 from b36)
      have Y6 : Hid (sumsAt w6 (.slice pa (gPath L k).length pc) (gPath L k) ∧ (gPath L k).length ≤ 1000) := (show _ ∧ _ from ⟨y6, hpl⟩)
      have R76 : Hid (w6.rowIs w5.heap.size 29 32 (arrV O)) := (show w6.rowIs w5.heap.size 29 32 (arrV O) from r7')
      clear b56 r7' b36 hpl y6 r7 z7 b7 HZ B34
      go_wp2_with (first | (refine wpList_load_seg rfl 29 _ rfl w5.heap.size 0 32 (arrV O) rfl _ Tryd.underlying29 rfl hi32' C7.out ?_) | (refine wpList_load_seg rfl 29 _ rfl w2.heap.size 0 32 (arrV R) rfl _ Tryd.underlying29 rfl hi32' C5.out ?_))
      refine XE.mono ?_
      rintro e w7 ⟨rfl, b67⟩
      clear XE C7 C5
      have b37 : Below w3.heap.size w3 w7 := B36.out.trans (b67.mono B36.out.size)
      have hokT : okI true = .int .i64 0 := rfl
      have hokF : okI false = .int .i64 10 := rfl
      have C3 : Hid (∀ j, j < 32 → w7.cell? ⟨w.heap.size, 0 + j, none⟩ = some (arrV other j)) := (show _ from fun j hj => by rw [Nat.zero_add]; exact (b37.row R33.out (gRow_lt R33.out)).cell hj)
      have C5 : Hid (∀ j, j < 32 → w7.cell? ⟨w2.heap.size, 0 + j, none⟩ = some (arrV R j)) := (show _ from fun j hj => by rw [Nat.zero_add]; exact (b37.row R5.out (gRow_lt R5.out)).cell hj)
      have C7 : Hid (∀ j, j < 32 → w7.cell? ⟨w5.heap.size, 0 + j, none⟩ = some (arrV O j)) := (show _ from fun j hj => by rw [Nat.zero_add]; exact (b67.row R76.out (gRow_lt R76.out)).cell hj)
      have E1 : ∀ wz : World, (Op.equalIn 10000 29 (.agg (rowV 32 (arrV other))) (.agg (rowV 32 (arrV R)))).run Tryd.prog wz = .ok (decide (other = R)) wz := fun wz => run_eq_sums wz 9998 HOT.out HSR.out
      have B37 : Hid (Below w3.heap.size w3 w7) := (show Below w3.heap.size w3 w7 from b37)
      have B67 : Hid (Below w6.heap.size w6 w7) := (show Below w6.heap.size w6 w7 from b67)
      rw [hokT]
      clear b37 b67
      by_cases ho : other = R
      · have d1 : decide (other = R) = true := decide_eq_true ho
        simp only [d1] at E1
        clear d1 ho
        go_wp2_with (first | (refine wpList_load_seg rfl 29 _ rfl w.heap.size 0 32 (arrV other) rfl _ Tryd.underlying29 rfl hi32' C3.out ?_) | (refine wpList_load_seg rfl 29 _ rfl w2.heap.size 0 32 (arrV R) rfl _ Tryd.underlying29 rfl hi32' C5.out ?_))
        go_roundw
        case rel => exact ⟨k + 1, by go_num, by omega, B37.out⟩
        case measure => simp [intOf]; omega
      · have d1 : decide (other = R) = false := decide_eq_false ho
        simp only [d1] at E1
        by_cases hk0 : 0 < k
        · have k0 : (k : Int) > 0 := by omega
          have XE2 := ext_nil k L.length O other (gPath L k) (.slice pa (gPath L k).length pc) w7 (by omega) (by omega) HSO.out HOT.out (Y6.out.1.below B67.out (Nat.le_refl _)) Y6.out.2 (T3.out.below B37.out T3.out.1)
          rw [HEO.out (by omega) (by rw [← HR.out]; exact ho), hokF] at XE2
          clear d1 ho
          go_wp2_with (first | (refine wpList_load_seg rfl 29 _ rfl w.heap.size 0 32 (arrV other) rfl _ Tryd.underlying29 rfl hi32' C3.out ?_) | (refine wpList_load_seg rfl 29 _ rfl w2.heap.size 0 32 (arrV R) rfl _ Tryd.underlying29 rfl hi32' C5.out ?_) | (refine wpList_load_w 29 _ rfl rfl w5.heap.size 0 32 (arrV O) rfl _ Tryd.underlying29 rfl hi32' C7.out ?_) | (refine wpList_load_w 29 _ rfl rfl w.heap.size 0 32 (arrV other) rfl _ Tryd.underlying29 rfl hi32' C3.out ?_))
          refine XE2.mono ?_
          rintro e w8 ⟨rfl, b78⟩
          have B38 : Hid (Below w3.heap.size w3 w8) := (show Below w3.heap.size w3 w8 from B37.out.trans (b78.mono B37.out.size))
          clear XE2 b78
          go_wp2
          go_roundw
          case rel => exact ⟨k + 1, by go_num, by omega, B38.out⟩
          case measure => simp [intOf]; omega
        · obtain rfl : k = 0 := by omega
          clear d1 ho
          go_wp2_with (first | (refine wpList_load_seg rfl 29 _ rfl w.heap.size 0 32 (arrV other) rfl _ Tryd.underlying29 rfl hi32' C3.out ?_) | (refine wpList_load_seg rfl 29 _ rfl w2.heap.size 0 32 (arrV R) rfl _ Tryd.underlying29 rfl hi32' C5.out ?_))
          go_roundw
          case rel => exact ⟨1, rfl, by omega, B37.out⟩
          case measure => simp [intOf]
    · obtain rfl : k = L.length + 1 := by omega
      have hn : ¬ ((L.length + 1 : Nat) : Int) ≤ (L.length : Int) := by omega
      have XA := gawake_any wr (T3.out.below hB T3.out.1)
      have HB : Hid (Below w3.heap.size w3 wr) := (show Below w3.heap.size w3 wr from hB)
      clear hB
      go_wp2_with fail
      refine XA.mono ?_
      rintro e w4 ⟨rfl, b4⟩
      have B4 : Hid (Below w.heap.size w w4) := (show Below w.heap.size w w4 from B03.out.trans ((HB.out.trans (b4.mono HB.out.size)).mono B03.out.size))
      clear XA b4
      go_wp2
      go_ret
      exact ⟨rfl, B4.out⟩
theorem growShows_f (L : List (List Int)) (v : Value) (f : Nat → Int) (hf : ∀ i, 0 ≤ f i ∧ f i ≤ 255) (w : World) (ht : tabIs w) (h : sumsAt w v L) :
    Calls Tryd.prog 5 #[v, .agg (rowV 32 fun i => .int .u8 (f i))] w fun e w' => e = .returned (.bool true) ∧ Below w.heap.size w w' := by
  rw [listF_row]
  exact growShows_any L v (listF f) (listF_sum hf) w ht h
end Go.Proofs.YtdjfdcaolkladaaDoor

/- The frame of a law's row, where no package variable is laid. -/
namespace Go.Proofs.YtdjfdcaolkladaaDoor
open Go.RowKit Go.Deep Go.ChangeShapes Go.WideShapes Go.ChangeAt
theorem own : ownKnob Tryd.prog.godebug = none := by kernel_rfl
theorem laidOut : laidOutB Tryd.prog = true := by kernel_rfl
theorem bounds_u64 {a : Int} (h : (Lit.int .u64 a).wf = true) : 0 ≤ a ∧ a < 18446744073709551616 := by
  have h' : 0 ≤ a ∧ a ≤ 18446744073709551615 := by simpa [Lit.wf, IntKind.min, IntKind.max, IntKind.signed, IntKind.bits] using h
  omega
end Go.Proofs.YtdjfdcaolkladaaDoor

/- Slices that came in, opened. -/
namespace Go.Proofs.YtdjfdcaolkladaaDoor
open Go.RowKit Go.Deep Go.ChangeShapes Go.WideShapes

theorem bounds_i64 {a : Int} (h : (Lit.int .i64 a).wf = true) : -9223372036854775808 ≤ a ∧ a ≤ 9223372036854775807 := by
  simpa [Lit.wf, IntKind.min, IntKind.max, IntKind.signed, IntKind.bits] using h
/-- A SLICE, opened at every index. -/
theorem open_any {H : Type} {enc : TypeId × Value → H} {P : Program} {w : World} {base b0 : Nat} {sp : Nat → Bool} {held : Bool} {r : Reach} {t e : TypeId} {v : Value} {d : DataW H} {ps : List MemPlace} (c : Nat)
    (hu : P.underlying t = some (.slice e)) (hc : P.cellsOf e = c) (hval : Value.okWide P w r b0 t v) (hd : DataW.Trod enc P w base sp held t v d ps) :
    (v = .slice none 0 0) ∨ ∃ pb po len cap : Nat, v = .slice (some ⟨pb, po, none⟩) len cap ∧ len ≤ cap ∧ cap ≤ maxLen ∧ pb < w.heap.size ∧
      ∀ i, i < len → ∃ (cs' : List Value) (n : Nat) (D : DataW H × List MemPlace), cs'.length = c ∧ (∀ j, j < c → w.cell? ⟨pb, po + i * c + j, none⟩ = cs'[j]?) ∧ DataW.trod enc P w base sp held n e cs' = some D := by
  obtain ⟨a, len, cap, rfl⟩ := okWide_slice hu hval
  obtain ⟨fuel, hf⟩ := hd
  rcases open_slice hu hf with ⟨h0, _⟩ | ⟨a', len', cap', m, n, D, Pl, h0, _, h1, h2, h3, _, h4⟩
  · left; simpa [Value.cells] using h0
  · right
    have h0' : a = some a' ∧ len = len' ∧ cap = cap' := by simpa [Value.cells] using h0
    obtain ⟨rfl, rfl, rfl⟩ := h0'
    have hlm : len ≤ m := by rw [h3]; split <;> omega
    simp only [Value.okWide, hu, Cell.okWide, Cell.ok] at hval
    obtain ⟨_, _, _, hsp, row, cells, hsh, _⟩ := hval
    obtain ⟨pb, po, spot⟩ := a'
    obtain rfl : spot = none := hsp
    refine ⟨pb, po, len, cap, rfl, h1, h2, ?_, fun i hi => ?_⟩
    · unfold World.shape? at hsh
      cases hq : w.heap[pb]? with
      | none => rw [hq] at hsh; cases hsh
      | some o => exact (Array.getElem?_eq_some_iff.1 hq).1
    · obtain ⟨cs', g1, g2⟩ := h4 i (by omega)
      rw [hc] at g1
      obtain ⟨_, hlen, hcell⟩ := World.cells?_some g1
      refine ⟨cs', n, _, hlen, fun j hj => ?_, g2⟩
      have e0 := hcell j (by omega)
      rw [add_add, Addr.add_mid] at e0
      rw [Nat.add_assoc]; exact e0
theorem open_bytes_slice {H : Type} {enc : TypeId × Value → H} {P : Program} {w : World} {base b0 : Nat} {sp : Nat → Bool} {held : Bool} {r : Reach} {t e : TypeId} {v : Value} {d : DataW H} {ps : List MemPlace}
    (hu : P.underlying t = some (.slice e)) (he : P.underlying e = some (.int .u8)) (hc : P.cellsOf e = 1) (hval : Value.okWide P w r b0 t v) (hd : DataW.Trod enc P w base sp held t v d ps) : ∃ l, isBytes w v l := by
  rcases open_any 1 hu hc hval hd with rfl | ⟨pb, po, len, cap, rfl, h1, h2, h3, h4⟩
  · exact ⟨[], Or.inl ⟨rfl, rfl⟩⟩
  · have each : ∀ i, i < len → ∃ z : Int, w.cell? ⟨pb, po + i, none⟩ = some (.int .u8 z) ∧ 0 ≤ z ∧ z ≤ 255 := fun i hi => by
      obtain ⟨cs', n, D, g1, g2, g3⟩ := h4 i hi
      obtain ⟨z, rfl, _, hw⟩ := DataW.trod_int he g3
      have := g2 0 (by omega)
      rw [Nat.mul_one, Nat.add_zero] at this
      exact ⟨z, this, bounds_u8 hw⟩
    obtain ⟨f, hf⟩ := choose_lt each
    have hg : ∀ i, i < len → ((List.range len).map f).getD i 0 = f i := fun i hi => by
      rw [List.getD_eq_getElem?_getD, List.getElem?_map, List.getElem?_range hi]; rfl
    refine ⟨(List.range len).map f, Or.inr ⟨pb, po, cap, by simp, by simpa using h1, h2, h3, fun i hi => ?_, fun i => ?_⟩⟩
    · have hi' : i < len := by simpa using hi
      rw [hg i hi']; exact (hf i hi').1
    · by_cases hi : i < len
      · rw [hg i hi]; exact (hf i hi).2
      · rw [List.getD_eq_getElem?_getD, List.getElem?_eq_none (by simp; omega)]; exact ⟨by simp, by simp⟩
end Go.Proofs.YtdjfdcaolkladaaDoor

/- Rows of sums that came in, opened. -/
namespace Go.Proofs.YtdjfdcaolkladaaDoor
set_option maxRecDepth 100000
open Go.RowKit Go.Deep Go.ChangeShapes Go.WideShapes

theorem sum_cells {H : Type} {enc : TypeId × Value → H} {w : World} {base : Nat} {held : Bool} {n : Nat} {cs' : List Value} {D : DataW H × List MemPlace} (g1 : cs'.length = 32)
    (g3 : DataW.trod enc Tryd.prog w base (fun _ => true) held n 29 cs' = some D) : ∃ q : List Int, isSum q ∧ ∀ j, j < 32 → cs'[j]? = some (arrV q j) := by
  have c8 : Tryd.prog.cellsOf 5 = 1 := by kernel_rfl
  obtain ⟨xs, m', rfl, _, hlen, _, hx⟩ := DataW.trod_array Tryd.underlying29 g3
  have hsum : ∀ j, j < 32 → ∃ z : Int, cs'[j]? = some (.int .u8 z) ∧ 0 ≤ z ∧ z ≤ 255 := fun j hj => by
    have h5 := hx j hj
    rw [c8, Nat.mul_one] at h5
    have hxj : j < xs.length := by omega
    rw [List.getElem?_eq_getElem hxj] at h5
    obtain ⟨z, hz, _, hw⟩ := DataW.trod_int Tryd.underlying5 h5
    refine ⟨z, ?_, bounds_u8 hw⟩
    have := congrArg (fun l => l[0]?) hz
    simp only [List.getElem?_take, List.getElem?_drop, List.getElem?_cons_zero] at this
    simpa using this
  obtain ⟨f, hf⟩ := choose_lt hsum
  refine ⟨(List.range 32).map f, ⟨by simp, fun j => ?_⟩, fun j hj => ?_⟩
  · by_cases hj : j < 32
    · have : ((List.range 32).map f).getD j 0 = f j := by
        rw [List.getD_eq_getElem?_getD, List.getElem?_map, List.getElem?_range hj]; rfl
      rw [this]; exact (hf j hj).2
    · rw [List.getD_eq_getElem?_getD, List.getElem?_eq_none (by simp; omega)]; exact ⟨by simp, by simp⟩
  · have : ((List.range 32).map f).getD j 0 = f j := by
      rw [List.getD_eq_getElem?_getD, List.getElem?_map, List.getElem?_range hj]; rfl
    rw [arrV, this]; exact (hf j hj).1
theorem open_sums {H : Type} {enc : TypeId × Value → H} {w : World} {base b0 : Nat} {held : Bool} {r : Reach} {v : Value} {d : DataW H} {ps : List MemPlace}
    (hval : Value.okWide Tryd.prog w r b0 22 v) (hd : DataW.Trod enc Tryd.prog w base (fun _ => true) held 22 v d ps) : ∃ L, sumsAt w v L := by
  rcases open_any 32 Tryd.underlying22 (by kernel_rfl) hval hd with rfl | ⟨pb, po, len, cap, rfl, h1, h2, h3, h4⟩
  · exact ⟨[], sumsAt.nil w⟩
  · have each : ∀ i, i < len → ∃ q : List Int, isSum q ∧ ∀ j, j < 32 → w.cell? ⟨pb, po + i * 32 + j, none⟩ = some (arrV q j) := fun i hi => by
      obtain ⟨cs', n, D, g1, g2, g3⟩ := h4 i hi
      obtain ⟨q, e1, e2⟩ := sum_cells (by omega) g3
      exact ⟨q, e1, fun j hj => by rw [g2 j hj]; exact e2 j hj⟩
    obtain ⟨f, hf⟩ := choose_lt each
    have hl : ((List.range len).map f).length = len := by simp
    refine ⟨(List.range len).map f, fun x hx => ?_, _, cap, by rw [hl], by rw [hl]; exact h1, h2, fun h0 => ⟨pb, po, rfl, h3, fun i hi j hj => ?_⟩⟩
    · obtain ⟨i, hi, rfl⟩ := List.mem_map.1 hx
      exact (hf i (List.mem_range.1 hi)).1
    · have e : ((List.range len).map f)[i] = f i := by simp
      rw [e]; exact (hf i (by omega)).2 j hj
end Go.Proofs.YtdjfdcaolkladaaDoor

/- The table of the rounds' constants, as the row lists it; a world that holds it, for the witness. -/
namespace Go.Proofs.YtdjfdcaolkladaaDoor
set_option maxRecDepth 100000
open Go.RowKit Go.Deep Go.ChangeShapes Go.WideShapes Go.ChangeAt

/-- the table's name. -/
def tabName : String := Rows.growPathsRow.named.getD 0 ""
theorem gTab : Tryd.prog.globalNamed tabName = some 0 := by kernel_rfl
theorem gTabType : (Tryd.prog.globals[0]?).map (·.type) = some 124 := by kernel_rfl
theorem cellsTab : Tryd.prog.cellsOf 124 = 64 := by kernel_rfl
theorem cellsWord : Tryd.prog.cellsOf 91 = 1 := by kernel_rfl
/-- what the row's list gives. -/
theorem laid_tab {W : World} (h : laidMetH Tryd.prog Rows.growPathsRow.laid W) : tabIs W := by
  have ht : Lib.TabIs Tryd.prog W tabName .u32 kList := Lib.tabIs_of_head (rest := []) gTab gTabType Tryd.underlying124 Tryd.underlying91 cellsWord cellsTab h
  refine ⟨?_, fun i hi => ht.cell gTab i (by simpa [kList] using hi)⟩
  have h0 := ht.cell gTab 0 (by decide)
  exact block_lt_of_cell h0
/-- the table's block, laid. -/
def kObj : Obj → Obj
  | .cells _ t frozen => .cells #[.int .u32 1116352408, .int .u32 1899447441, .int .u32 3049323471, .int .u32 3921009573, .int .u32 961987163, .int .u32 1508970993, .int .u32 2453635748, .int .u32 2870763221, .int .u32 3624381080, .int .u32 310598401, .int .u32 607225278, .int .u32 1426881987, .int .u32 1925078388, .int .u32 2162078206, .int .u32 2614888103, .int .u32 3248222580, .int .u32 3835390401, .int .u32 4022224774, .int .u32 264347078, .int .u32 604807628, .int .u32 770255983, .int .u32 1249150122, .int .u32 1555081692, .int .u32 1996064986, .int .u32 2554220882, .int .u32 2821834349, .int .u32 2952996808, .int .u32 3210313671, .int .u32 3336571891, .int .u32 3584528711, .int .u32 113926993, .int .u32 338241895, .int .u32 666307205, .int .u32 773529912, .int .u32 1294757372, .int .u32 1396182291, .int .u32 1695183700, .int .u32 1986661051, .int .u32 2177026350, .int .u32 2456956037, .int .u32 2730485921, .int .u32 2820302411, .int .u32 3259730800, .int .u32 3345764771, .int .u32 3516065817, .int .u32 3600352804, .int .u32 4094571909, .int .u32 275423344, .int .u32 430227734, .int .u32 506948616, .int .u32 659060556, .int .u32 883997877, .int .u32 958139571, .int .u32 1322822218, .int .u32 1537002063, .int .u32 1747873779, .int .u32 1955562222, .int .u32 2024104815, .int .u32 2227730452, .int .u32 2361852424, .int .u32 2428436474, .int .u32 2756734187, .int .u32 3204031479, .int .u32 3329325298] t frozen
  | o => o
end Go.Proofs.YtdjfdcaolkladaaDoor
