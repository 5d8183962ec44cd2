import Derived.Test.YthpnenblmkdmcaaDoorOwn8
import Derived.Test.YthpnenblmkdmcaaDoorOwn9
set_option linter.unusedVariables false
set_option linter.unusedSimpArgs false
/- The chapter's examples, walked to the end. -/
namespace Go.Proofs.YthpnenblmkdmcaaDoor
set_option linter.unusedSimpArgs false
set_option linter.unusedVariables false
open Go.RowKit Go.Deep

theorem ext_nil (m n : Int) (old fresh : List Int) (path : List (List Int)) (pv : Value) (w : World) (hm : -9223372036854775808 ≤ m ∧ m ≤ 9223372036854775807) (hn : -9223372036854775808 ≤ n ∧ n ≤ 9223372036854775807)
    (ho : isSum old) (hf : isSum fresh) (hp : sumsAt w pv path) (hpl : path.length ≤ 1000) (ht : tabIs w) :
    Calls Tryd.prog 15 #[.pointer none, .int .i64 m, .int .i64 n, .agg (rowV 32 (arrV old)), .agg (rowV 32 (arrV fresh)), pv] w fun e w' => e = .returned (okI (extR m n old fresh path)) ∧ Below w.heap.size w w' := by
  refine (extends_k (fun _ => False) (.pointer none) [] 0 m n old fresh path pv w hm hn (bkAt.none w [] 0) ho hf hp hpl (fun _ _ _ h => h) ht (fun h => h) (by simp) (by omega)).mono ?_
  rintro e w' ⟨Fi, h1, _, _, h2⟩
  exact ⟨h1, Fr.none h2⟩
set_option maxHeartbeats 4000000 in
set_option maxRecDepth 100000 in
theorem gawake_any (w : World) (ht : tabIs w) : Calls Tryd.prog 9 #[] w fun e w' => e = .returned (.bool true) ∧ Below w.heap.size w w' := by
  have X0 := five_any w
  have hz32 := zero_s32
  have HT : Hid (tabIs w) := (show tabIs w from ht)
  clear ht
  go_enter Tryd.func9, Tryd.ntmps9
  go_wp2_with fail
  refine X0.mono ?_
  rintro e w1 ⟨b, rfl, y1, hb, hb0, b1⟩
  clear X0
  have X1 := between_nil five (.slice (some ⟨b, 0, none⟩) 5 5) 3 w1 (by omega) y1 (by simp [five]) (HT.out.below b1 HT.out.1)
  have Y1 : Hid (sumsAt w1 (.slice (some ⟨b, 0, none⟩) 5 5) five) := (show sumsAt w1 (.slice (some ⟨b, 0, none⟩) 5 5) five from y1)
  have B1 : Hid _ := b1
  have HB : Hid (b < w1.heap.size) := (show b < w1.heap.size from hb)
  clear y1 b1 hb hb0
  go_wp2_with fail
  refine X1.mono ?_
  rintro e w2 ⟨v2, rfl, n2, b2⟩
  clear X1
  rw [gPath_five.1] at n2
  have B12 : Hid (Below w1.heap.size w1 w2) := (show Below w1.heap.size w1 w2 from b2)
  obtain ⟨ga, c2, rfl, _, _, k2⟩ := ownsRow_slice n2.2
  obtain ⟨g2, rfl, hg2, _, hc2⟩ := k2 (by simp)
  have CP : Hid (∀ i q, ([lf 3, lf 4, rootS [lf 1, lf 2], lf 5] : List (List Int))[i]? = some q → ∀ j, j < 32 → w2.cell? ⟨g2, i * 32 + j, none⟩ = some (arrV q j)) := (show _ from fun i q hi j hj => hc2 _ _ (sumsC_get _ i j q hi hj))
  have HG2 : Hid (g2 < w2.heap.size) := (show g2 < w2.heap.size from hg2)
  have X2 := between_nil five (.slice (some ⟨b, 0, none⟩) 5 5) 4 w2 (by omega) (Y1.out.below B12.out (Nat.le_refl _)) (by simp [five]) (HT.out.below (B1.out.trans (B12.out.mono B1.out.size)) HT.out.1)
  clear n2 b2 k2 hg2 hc2
  simp only [List.length_cons, List.length_nil, Nat.zero_add, Nat.reduceAdd]
  go_wp2_with fail
  refine X2.mono ?_
  rintro e w3 ⟨v3, rfl, n3, b3⟩
  clear X2
  rw [gPath_five.2] at n3
  have B23 : Hid (Below w2.heap.size w2 w3) := (show Below w2.heap.size w2 w3 from b3)
  have N3 : Hid (newSums w3 w2.heap.size v3 [lf 5]) := (show newSums w3 w2.heap.size v3 [lf 5] from n3)
  obtain ⟨ga, c3, rfl, _, _, k3⟩ := ownsRow_slice n3.2
  obtain ⟨g3, rfl, hg3, _, hc3⟩ := k3 (by simp)
  have CQ : Hid (∀ i q, ([lf 5] : List (List Int))[i]? = some q → ∀ j, j < 32 → w3.cell? ⟨g3, i * 32 + j, none⟩ = some (arrV q j)) := (show _ from fun i q hi j hj => hc3 _ _ (sumsC_get _ i j q hi hj))
  have HG3 : Hid (g3 < w3.heap.size) := (show g3 < w3.heap.size from hg3)
  have B13 : Hid (Below w1.heap.size w1 w3) := (show Below w1.heap.size w1 w3 from B12.out.trans (B23.out.mono B12.out.size))
  have Y3 : Hid (sumsAt w3 (.slice (some ⟨b, 0, none⟩) 5 5) five) := (show sumsAt w3 (.slice (some ⟨b, 0, none⟩) 5 5) five from Y1.out.below B13.out (Nat.le_refl _))
  have T3 : Hid (tabIs w3) := (show tabIs w3 from HT.out.below (B1.out.trans (B13.out.mono B1.out.size)) HT.out.1)
  have sR5 : isSum R5 := rootS_sum five_sum
  have s4s : ∀ x ∈ ([lf 1, lf 2, lf 3, lf 4] : List (List Int)), isSum x := fun x hx => five_sum x (by
    simp only [five, List.mem_cons, List.not_mem_nil, or_false] at hx ⊢
    rcases hx with h | h | h | h <;> simp [h])
  have sR4 : isSum R4 := rootS_sum s4s
  have SR : Hid (isSum R5 ∧ isSum R4) := (show _ ∧ _ from ⟨sR5, sR4⟩)
  obtain ⟨us, ra, sa, _, xa, ya, rfl⟩ := Y3.out.to' 4 (by simp [five])
  have RA : Hid (∀ wz : World, (Instr.slice 22 (.slice (some ⟨b, 0, none⟩) 5 5) none (some (.int .i64 4)) none).run Tryd.prog wz = .ok (.slice xa 4 ya) wz) := (show ∀ wz : World, (Instr.slice 22 (.slice (some ⟨b, 0, none⟩) 5 5) none (some (.int .i64 4)) none).run Tryd.prog wz = .ok (.slice xa 4 ya) wz from ra)
  have RT1 : Hid (∀ W, Below w3.heap.size w3 W → Calls Tryd.prog 18 #[.pointer none, .slice (some ⟨b, 0, none⟩) 5 5] W fun e w' => e = .returned (.agg (rowV 32 (arrV R5))) ∧ Below W.heap.size W w') := (show ∀ W, Below w3.heap.size w3 W → _ from fun W hW => root_nil 1000 five _ W (by simp [five]) (Nat.le_refl _) (Y3.out.below hW (Nat.le_refl _)) (T3.out.below hW T3.out.1))
  have RT4 : Hid (∀ W, Below w3.heap.size w3 W → Calls Tryd.prog 18 #[.pointer none, .slice xa 4 ya] W fun e w' => e = .returned (.agg (rowV 32 (arrV R4))) ∧ Below W.heap.size W w') := (show ∀ W, Below w3.heap.size w3 W → _ from fun W hW => root_nil 1000 [lf 1, lf 2, lf 3, lf 4] _ W (by simp) (Nat.le_refl _) (sumsAt.below (show sumsAt w3 (.slice xa 4 ya) [lf 1, lf 2, lf 3, lf 4] from sa) hW (Nat.le_refl _)) (T3.out.below hW T3.out.1))
  clear n3 b3 k3 hg3 hc3 ra sa sR5 sR4 s4s
  simp only [List.length_cons, List.length_nil, Nat.zero_add, Nat.reduceAdd]
  go_upto_region 3 with fail
  go_cut [4, 5] from 11 to 15 (fun p4 p5 wx => ∃ b4 b5, p4 = .pointer (some ⟨b4, 0, none⟩) ∧ p5 = .pointer (some ⟨b5, 0, none⟩) ∧ wx.rowIs b4 29 32 (arrV R5) ∧ wx.rowIs b5 29 32 (arrV R4) ∧ Below w3.heap.size w3 wx)
  case first =>
    obtain ⟨wq, hwq⟩ : ∃ wq, wq = w3.drew := ⟨_, rfl⟩
    have Bwq : Below w3.heap.size w3 wq := by rw [hwq]; exact (Below.refl _ _).drew
    refine wp_region_noPanic ?_
    refine wp_region_held_drew (S := fun w' => True) (by kernel_rfl) trivial (fun hHeld => ?_)
    rw [← hwq]
    clear hwq
    refine take_op (i := 0) (v := ?va0) rfl (by kernel_rfl) (by kernel_rfl) (by kernel_rfl) (fun _ _ _ h => h) rfl hHeld ?ya0 ?ra0
    case ya0 => (intro wz hz; go_simp; first | done | with_reducible rfl)
    try simp only [Act.put, List.setIfInBounds_toArray, List.set_cons_zero, List.set_cons_succ]
    refine take_op (i := 2) (v := ?va2) rfl (by kernel_rfl) (by kernel_rfl) (by kernel_rfl) (fun _ _ _ h => h) rfl hHeld ?ya2 ?ra2
    case ya2 => (intro wz hz; go_simp; first | done | with_reducible rfl)
    try simp only [Act.put, List.setIfInBounds_toArray, List.set_cons_zero, List.set_cons_succ]
    refine take_op (i := 3) (v := ?va3) rfl (by kernel_rfl) (by kernel_rfl) (by kernel_rfl) (fun _ _ _ h => h) rfl hHeld ?ya3 ?ra3
    case ya3 => (intro wz hz; have hcz := RA.out wz; go_simp; first | done | with_reducible rfl)
    try simp only [Act.put, List.setIfInBounds_toArray, List.set_cons_zero, List.set_cons_succ]
    refine take_threeG (i := 1) (j := 5) (k := 6) rfl rfl rfl (by kernel_rfl) rfl rfl rfl ?g1a ?g1b ?g1c
    case g1a =>
      intro K hK
      go_simp
      refine Calls.mono (RT1.out wq Bwq) ?_
      rintro e u2 ⟨rfl, bbu2⟩
      have Bu2 : Below w3.heap.size w3 u2 := Bwq.trans (bbu2.mono Bwq.size)
      refine hK.out _ _ trivial (fun hHeld => ?_)
      clear hK K
      try simp only [Act.put, List.setIfInBounds_toArray, List.set_cons_zero, List.set_cons_succ]
      refine take_threeG (i := 4) (j := 5) (k := 6) rfl rfl rfl (by kernel_rfl) rfl rfl rfl ?g3a ?g3b ?g3c
      case g3a =>
        intro K hK
        go_simp
        refine Calls.mono (RT4.out u2 Bu2) ?_
        rintro e u4 ⟨rfl, bbu4⟩
        have Bu4 : Below w3.heap.size w3 u4 := Bu2.trans (bbu4.mono Bu2.size)
        refine hK.out _ _ trivial (fun hHeld => ?_)
        clear hK K
        try simp only [Act.put, List.setIfInBounds_toArray, List.set_cons_zero, List.set_cons_succ]
        refine take_pair (i := 5) (j := 6) rfl rfl (by kernel_rfl) rfl rfl ?g5a ?g5b
        case g5a =>
          intro K hK
          obtain ⟨u6, hu6⟩ : ∃ W', W' = u4.alloc (.cells (rowV 32 (fun _ => .int .u8 0)) 29) := ⟨_, rfl⟩
          have bbu6 : Below u4.heap.size u4 u6 := by rw [hu6]; exact (Below.refl _ _).alloc (Nat.le_refl _) _
          have Bu6 : Below w3.heap.size w3 u6 := Bu4.trans (bbu6.mono Bu4.size)
          have z4u6 : u6.rowIs u4.heap.size 29 32 (fun _ => .int .u8 0) := by rw [hu6]; exact rowIs_box u4 _ _ _
          have zzu6 := Bu4.size
          refine wp_of_run (v := .pointer (some ⟨u4.heap.size, 0, none⟩)) (w' := u6) (by rw [hu6]; exact exec_allocG rfl u4) ?_
          refine hK.out _ _ trivial (fun hHeld => ?_)
          clear hK K hu6
          try simp only [Act.put, List.setIfInBounds_toArray, List.set_cons_zero, List.set_cons_succ]
          refine take_one (i := 6) rfl (by kernel_rfl) rfl (fun K hK => ?_)
          obtain ⟨u7, hu7⟩ : ∃ W', W' = u6.alloc (.cells (rowV 32 (fun _ => .int .u8 0)) 29) := ⟨_, rfl⟩
          have bbu7 : Below u6.heap.size u6 u7 := by rw [hu7]; exact (Below.refl _ _).alloc (Nat.le_refl _) _
          have Bu7 : Below w3.heap.size w3 u7 := Bu6.trans (bbu7.mono Bu6.size)
          have z5u7 : u7.rowIs u6.heap.size 29 32 (fun _ => .int .u8 0) := by rw [hu7]; exact rowIs_box u6 _ _ _
          have zzu7 := Bu6.size
          have z4u7 := bbu7.row z4u6 (gRow_lt z4u6)
          have nez4u7 := gRow_lt z4u6
          refine wp_of_run (v := .pointer (some ⟨u6.heap.size, 0, none⟩)) (w' := u7) (by rw [hu7]; exact exec_allocG rfl u6) ?_
          refine hK.out _ _ trivial (fun hHeld => ?_)
          clear hK K hu7
          try simp only [Act.put, List.setIfInBounds_toArray, List.set_cons_zero, List.set_cons_succ]
          obtain ⟨V1, hst, rV1, zV1, bV1⟩ := tell_store (q := R5) z4u7
          refine take_one (i := 7) rfl (by kernel_rfl) rfl (fun K hK => ?_)
          unfold Oper.wp execOp
          simp only [Instr.storeAt, Instr.sureAddr, Sem.run_bind, Sem.run_pure, Result.andThen_ok]
          simp [Act.eval, hst, Oper.upon]
          clear hst
          refine hK.out _ _ trivial (fun hHeld => ?_)
          clear hK K
          try simp only [Act.put, List.setIfInBounds_toArray, List.set_cons_zero, List.set_cons_succ]
          obtain ⟨V2, hst, rV2, zV2, bV2⟩ := tell_store (q := R4) (bV1.row z5u7 (gRow_lt z5u7) (by omega))
          refine take_one (i := 8) rfl (by kernel_rfl) rfl (fun K hK => ?_)
          unfold Oper.wp execOp
          simp only [Instr.storeAt, Instr.sureAddr, Sem.run_bind, Sem.run_pure, Result.andThen_ok]
          simp [Act.eval, hst, Oper.upon]
          clear hst
          refine hK.out _ _ trivial (fun hHeld => ?_)
          clear hK K
          try simp only [Act.put, List.setIfInBounds_toArray, List.set_cons_zero, List.set_cons_succ]
          refine wpAnyH_done (by kernel_rfl) ?_ _
          refine NoPanic.normal ?_
          have FF : Hid (V2.rowIs _ 29 32 (arrV R5) ∧ V2.rowIs _ 29 32 (arrV R4) ∧ Below w3.heap.size w3 V2) := (show _ ∧ _ ∧ _ from ⟨bV2.row rV1 (gRow_lt rV1) (by omega), rV2, Bu7.trans ((bV1.below' (by omega) Bu7.size).trans (bV2.below' (by omega) (by rw [zV1]; exact Bu7.size)))⟩)
          clear rV1 rV2 bV1 bV2 zV1 zV2 hHeld
          go_wp2_with fail
          go_meet
          case rel => exact ⟨_, _, rfl, rfl, FF.out.1, FF.out.2.1, FF.out.2.2⟩
        case g5b =>
          intro K hK
          obtain ⟨u8, hu8⟩ : ∃ W', W' = u4.alloc (.cells (rowV 32 (fun _ => .int .u8 0)) 29) := ⟨_, rfl⟩
          have bbu8 : Below u4.heap.size u4 u8 := by rw [hu8]; exact (Below.refl _ _).alloc (Nat.le_refl _) _
          have Bu8 : Below w3.heap.size w3 u8 := Bu4.trans (bbu8.mono Bu4.size)
          have z5u8 : u8.rowIs u4.heap.size 29 32 (fun _ => .int .u8 0) := by rw [hu8]; exact rowIs_box u4 _ _ _
          have zzu8 := Bu4.size
          refine wp_of_run (v := .pointer (some ⟨u4.heap.size, 0, none⟩)) (w' := u8) (by rw [hu8]; exact exec_allocG rfl u4) ?_
          refine hK.out _ _ trivial (fun hHeld => ?_)
          clear hK K hu8
          try simp only [Act.put, List.setIfInBounds_toArray, List.set_cons_zero, List.set_cons_succ]
          refine take_one (i := 5) rfl (by kernel_rfl) rfl (fun K hK => ?_)
          obtain ⟨u9, hu9⟩ : ∃ W', W' = u8.alloc (.cells (rowV 32 (fun _ => .int .u8 0)) 29) := ⟨_, rfl⟩
          have bbu9 : Below u8.heap.size u8 u9 := by rw [hu9]; exact (Below.refl _ _).alloc (Nat.le_refl _) _
          have Bu9 : Below w3.heap.size w3 u9 := Bu8.trans (bbu9.mono Bu8.size)
          have z4u9 : u9.rowIs u8.heap.size 29 32 (fun _ => .int .u8 0) := by rw [hu9]; exact rowIs_box u8 _ _ _
          have zzu9 := Bu8.size
          have z5u9 := bbu9.row z5u8 (gRow_lt z5u8)
          have nez5u9 := gRow_lt z5u8
          refine wp_of_run (v := .pointer (some ⟨u8.heap.size, 0, none⟩)) (w' := u9) (by rw [hu9]; exact exec_allocG rfl u8) ?_
          refine hK.out _ _ trivial (fun hHeld => ?_)
          clear hK K hu9
          try simp only [Act.put, List.setIfInBounds_toArray, List.set_cons_zero, List.set_cons_succ]
          obtain ⟨V1, hst, rV1, zV1, bV1⟩ := tell_store (q := R5) z4u9
          refine take_one (i := 7) rfl (by kernel_rfl) rfl (fun K hK => ?_)
          unfold Oper.wp execOp
          simp only [Instr.storeAt, Instr.sureAddr, Sem.run_bind, Sem.run_pure, Result.andThen_ok]
          simp [Act.eval, hst, Oper.upon]
          clear hst
          refine hK.out _ _ trivial (fun hHeld => ?_)
          clear hK K
          try simp only [Act.put, List.setIfInBounds_toArray, List.set_cons_zero, List.set_cons_succ]
          obtain ⟨V2, hst, rV2, zV2, bV2⟩ := tell_store (q := R4) (bV1.row z5u9 (gRow_lt z5u9) (by omega))
          refine take_one (i := 8) rfl (by kernel_rfl) rfl (fun K hK => ?_)
          unfold Oper.wp execOp
          simp only [Instr.storeAt, Instr.sureAddr, Sem.run_bind, Sem.run_pure, Result.andThen_ok]
          simp [Act.eval, hst, Oper.upon]
          clear hst
          refine hK.out _ _ trivial (fun hHeld => ?_)
          clear hK K
          try simp only [Act.put, List.setIfInBounds_toArray, List.set_cons_zero, List.set_cons_succ]
          refine wpAnyH_done (by kernel_rfl) ?_ _
          refine NoPanic.normal ?_
          have FF : Hid (V2.rowIs _ 29 32 (arrV R5) ∧ V2.rowIs _ 29 32 (arrV R4) ∧ Below w3.heap.size w3 V2) := (show _ ∧ _ ∧ _ from ⟨bV2.row rV1 (gRow_lt rV1) (by omega), rV2, Bu9.trans ((bV1.below' (by omega) Bu9.size).trans (bV2.below' (by omega) (by rw [zV1]; exact Bu9.size)))⟩)
          clear rV1 rV2 bV1 bV2 zV1 zV2 hHeld
          go_wp2_with fail
          go_meet
          case rel => exact ⟨_, _, rfl, rfl, FF.out.1, FF.out.2.1, FF.out.2.2⟩
      case g3b =>
        intro K hK
        obtain ⟨u10, hu10⟩ : ∃ W', W' = u2.alloc (.cells (rowV 32 (fun _ => .int .u8 0)) 29) := ⟨_, rfl⟩
        have bbu10 : Below u2.heap.size u2 u10 := by rw [hu10]; exact (Below.refl _ _).alloc (Nat.le_refl _) _
        have Bu10 : Below w3.heap.size w3 u10 := Bu2.trans (bbu10.mono Bu2.size)
        have z4u10 : u10.rowIs u2.heap.size 29 32 (fun _ => .int .u8 0) := by rw [hu10]; exact rowIs_box u2 _ _ _
        have zzu10 := Bu2.size
        refine wp_of_run (v := .pointer (some ⟨u2.heap.size, 0, none⟩)) (w' := u10) (by rw [hu10]; exact exec_allocG rfl u2) ?_
        refine hK.out _ _ trivial (fun hHeld => ?_)
        clear hK K hu10
        try simp only [Act.put, List.setIfInBounds_toArray, List.set_cons_zero, List.set_cons_succ]
        refine take_pair (i := 4) (j := 6) rfl rfl (by kernel_rfl) rfl rfl ?g11a ?g11b
        case g11a =>
          intro K hK
          go_simp
          refine Calls.mono (RT4.out u10 Bu10) ?_
          rintro e u12 ⟨rfl, bbu12⟩
          have Bu12 : Below w3.heap.size w3 u12 := Bu10.trans (bbu12.mono Bu10.size)
          have z4u12 := bbu12.row z4u10 (gRow_lt z4u10)
          refine hK.out _ _ trivial (fun hHeld => ?_)
          clear hK K
          try simp only [Act.put, List.setIfInBounds_toArray, List.set_cons_zero, List.set_cons_succ]
          refine take_one (i := 6) rfl (by kernel_rfl) rfl (fun K hK => ?_)
          obtain ⟨u13, hu13⟩ : ∃ W', W' = u12.alloc (.cells (rowV 32 (fun _ => .int .u8 0)) 29) := ⟨_, rfl⟩
          have bbu13 : Below u12.heap.size u12 u13 := by rw [hu13]; exact (Below.refl _ _).alloc (Nat.le_refl _) _
          have Bu13 : Below w3.heap.size w3 u13 := Bu12.trans (bbu13.mono Bu12.size)
          have z5u13 : u13.rowIs u12.heap.size 29 32 (fun _ => .int .u8 0) := by rw [hu13]; exact rowIs_box u12 _ _ _
          have zzu13 := Bu12.size
          have z4u13 := bbu13.row z4u12 (gRow_lt z4u12)
          have nez4u13 := gRow_lt z4u12
          refine wp_of_run (v := .pointer (some ⟨u12.heap.size, 0, none⟩)) (w' := u13) (by rw [hu13]; exact exec_allocG rfl u12) ?_
          refine hK.out _ _ trivial (fun hHeld => ?_)
          clear hK K hu13
          try simp only [Act.put, List.setIfInBounds_toArray, List.set_cons_zero, List.set_cons_succ]
          obtain ⟨V1, hst, rV1, zV1, bV1⟩ := tell_store (q := R5) z4u13
          refine take_one (i := 7) rfl (by kernel_rfl) rfl (fun K hK => ?_)
          unfold Oper.wp execOp
          simp only [Instr.storeAt, Instr.sureAddr, Sem.run_bind, Sem.run_pure, Result.andThen_ok]
          simp [Act.eval, hst, Oper.upon]
          clear hst
          refine hK.out _ _ trivial (fun hHeld => ?_)
          clear hK K
          try simp only [Act.put, List.setIfInBounds_toArray, List.set_cons_zero, List.set_cons_succ]
          obtain ⟨V2, hst, rV2, zV2, bV2⟩ := tell_store (q := R4) (bV1.row z5u13 (gRow_lt z5u13) (by omega))
          refine take_one (i := 8) rfl (by kernel_rfl) rfl (fun K hK => ?_)
          unfold Oper.wp execOp
          simp only [Instr.storeAt, Instr.sureAddr, Sem.run_bind, Sem.run_pure, Result.andThen_ok]
          simp [Act.eval, hst, Oper.upon]
          clear hst
          refine hK.out _ _ trivial (fun hHeld => ?_)
          clear hK K
          try simp only [Act.put, List.setIfInBounds_toArray, List.set_cons_zero, List.set_cons_succ]
          refine wpAnyH_done (by kernel_rfl) ?_ _
          refine NoPanic.normal ?_
          have FF : Hid (V2.rowIs _ 29 32 (arrV R5) ∧ V2.rowIs _ 29 32 (arrV R4) ∧ Below w3.heap.size w3 V2) := (show _ ∧ _ ∧ _ from ⟨bV2.row rV1 (gRow_lt rV1) (by omega), rV2, Bu13.trans ((bV1.below' (by omega) Bu13.size).trans (bV2.below' (by omega) (by rw [zV1]; exact Bu13.size)))⟩)
          clear rV1 rV2 bV1 bV2 zV1 zV2 hHeld
          go_wp2_with fail
          go_meet
          case rel => exact ⟨_, _, rfl, rfl, FF.out.1, FF.out.2.1, FF.out.2.2⟩
        case g11b =>
          intro K hK
          obtain ⟨u14, hu14⟩ : ∃ W', W' = u10.alloc (.cells (rowV 32 (fun _ => .int .u8 0)) 29) := ⟨_, rfl⟩
          have bbu14 : Below u10.heap.size u10 u14 := by rw [hu14]; exact (Below.refl _ _).alloc (Nat.le_refl _) _
          have Bu14 : Below w3.heap.size w3 u14 := Bu10.trans (bbu14.mono Bu10.size)
          have z5u14 : u14.rowIs u10.heap.size 29 32 (fun _ => .int .u8 0) := by rw [hu14]; exact rowIs_box u10 _ _ _
          have zzu14 := Bu10.size
          have z4u14 := bbu14.row z4u10 (gRow_lt z4u10)
          have nez4u14 := gRow_lt z4u10
          refine wp_of_run (v := .pointer (some ⟨u10.heap.size, 0, none⟩)) (w' := u14) (by rw [hu14]; exact exec_allocG rfl u10) ?_
          refine hK.out _ _ trivial (fun hHeld => ?_)
          clear hK K hu14
          try simp only [Act.put, List.setIfInBounds_toArray, List.set_cons_zero, List.set_cons_succ]
          refine take_one (i := 4) rfl (by kernel_rfl) rfl (fun K hK => ?_)
          go_simp
          refine Calls.mono (RT4.out u14 Bu14) ?_
          rintro e u15 ⟨rfl, bbu15⟩
          have Bu15 : Below w3.heap.size w3 u15 := Bu14.trans (bbu15.mono Bu14.size)
          have z4u15 := bbu15.row z4u14 (gRow_lt z4u14)
          have z5u15 := bbu15.row z5u14 (gRow_lt z5u14)
          refine hK.out _ _ trivial (fun hHeld => ?_)
          clear hK K
          try simp only [Act.put, List.setIfInBounds_toArray, List.set_cons_zero, List.set_cons_succ]
          obtain ⟨V1, hst, rV1, zV1, bV1⟩ := tell_store (q := R5) z4u15
          refine take_one (i := 7) rfl (by kernel_rfl) rfl (fun K hK => ?_)
          unfold Oper.wp execOp
          simp only [Instr.storeAt, Instr.sureAddr, Sem.run_bind, Sem.run_pure, Result.andThen_ok]
          simp [Act.eval, hst, Oper.upon]
          clear hst
          refine hK.out _ _ trivial (fun hHeld => ?_)
          clear hK K
          try simp only [Act.put, List.setIfInBounds_toArray, List.set_cons_zero, List.set_cons_succ]
          obtain ⟨V2, hst, rV2, zV2, bV2⟩ := tell_store (q := R4) (bV1.row z5u15 (gRow_lt z5u15) (by omega))
          refine take_one (i := 8) rfl (by kernel_rfl) rfl (fun K hK => ?_)
          unfold Oper.wp execOp
          simp only [Instr.storeAt, Instr.sureAddr, Sem.run_bind, Sem.run_pure, Result.andThen_ok]
          simp [Act.eval, hst, Oper.upon]
          clear hst
          refine hK.out _ _ trivial (fun hHeld => ?_)
          clear hK K
          try simp only [Act.put, List.setIfInBounds_toArray, List.set_cons_zero, List.set_cons_succ]
          refine wpAnyH_done (by kernel_rfl) ?_ _
          refine NoPanic.normal ?_
          have FF : Hid (V2.rowIs _ 29 32 (arrV R5) ∧ V2.rowIs _ 29 32 (arrV R4) ∧ Below w3.heap.size w3 V2) := (show _ ∧ _ ∧ _ from ⟨bV2.row rV1 (gRow_lt rV1) (by omega), rV2, Bu15.trans ((bV1.below' (by omega) Bu15.size).trans (bV2.below' (by omega) (by rw [zV1]; exact Bu15.size)))⟩)
          clear rV1 rV2 bV1 bV2 zV1 zV2 hHeld
          go_wp2_with fail
          go_meet
          case rel => exact ⟨_, _, rfl, rfl, FF.out.1, FF.out.2.1, FF.out.2.2⟩
      case g3c =>
        intro K hK
        obtain ⟨u16, hu16⟩ : ∃ W', W' = u2.alloc (.cells (rowV 32 (fun _ => .int .u8 0)) 29) := ⟨_, rfl⟩
        have bbu16 : Below u2.heap.size u2 u16 := by rw [hu16]; exact (Below.refl _ _).alloc (Nat.le_refl _) _
        have Bu16 : Below w3.heap.size w3 u16 := Bu2.trans (bbu16.mono Bu2.size)
        have z5u16 : u16.rowIs u2.heap.size 29 32 (fun _ => .int .u8 0) := by rw [hu16]; exact rowIs_box u2 _ _ _
        have zzu16 := Bu2.size
        refine wp_of_run (v := .pointer (some ⟨u2.heap.size, 0, none⟩)) (w' := u16) (by rw [hu16]; exact exec_allocG rfl u2) ?_
        refine hK.out _ _ trivial (fun hHeld => ?_)
        clear hK K hu16
        try simp only [Act.put, List.setIfInBounds_toArray, List.set_cons_zero, List.set_cons_succ]
        refine take_pair (i := 4) (j := 5) rfl rfl (by kernel_rfl) rfl rfl ?g17a ?g17b
        case g17a =>
          intro K hK
          go_simp
          refine Calls.mono (RT4.out u16 Bu16) ?_
          rintro e u18 ⟨rfl, bbu18⟩
          have Bu18 : Below w3.heap.size w3 u18 := Bu16.trans (bbu18.mono Bu16.size)
          have z5u18 := bbu18.row z5u16 (gRow_lt z5u16)
          refine hK.out _ _ trivial (fun hHeld => ?_)
          clear hK K
          try simp only [Act.put, List.setIfInBounds_toArray, List.set_cons_zero, List.set_cons_succ]
          refine take_one (i := 5) rfl (by kernel_rfl) rfl (fun K hK => ?_)
          obtain ⟨u19, hu19⟩ : ∃ W', W' = u18.alloc (.cells (rowV 32 (fun _ => .int .u8 0)) 29) := ⟨_, rfl⟩
          have bbu19 : Below u18.heap.size u18 u19 := by rw [hu19]; exact (Below.refl _ _).alloc (Nat.le_refl _) _
          have Bu19 : Below w3.heap.size w3 u19 := Bu18.trans (bbu19.mono Bu18.size)
          have z4u19 : u19.rowIs u18.heap.size 29 32 (fun _ => .int .u8 0) := by rw [hu19]; exact rowIs_box u18 _ _ _
          have zzu19 := Bu18.size
          have z5u19 := bbu19.row z5u18 (gRow_lt z5u18)
          have nez5u19 := gRow_lt z5u18
          refine wp_of_run (v := .pointer (some ⟨u18.heap.size, 0, none⟩)) (w' := u19) (by rw [hu19]; exact exec_allocG rfl u18) ?_
          refine hK.out _ _ trivial (fun hHeld => ?_)
          clear hK K hu19
          try simp only [Act.put, List.setIfInBounds_toArray, List.set_cons_zero, List.set_cons_succ]
          obtain ⟨V1, hst, rV1, zV1, bV1⟩ := tell_store (q := R5) z4u19
          refine take_one (i := 7) rfl (by kernel_rfl) rfl (fun K hK => ?_)
          unfold Oper.wp execOp
          simp only [Instr.storeAt, Instr.sureAddr, Sem.run_bind, Sem.run_pure, Result.andThen_ok]
          simp [Act.eval, hst, Oper.upon]
          clear hst
          refine hK.out _ _ trivial (fun hHeld => ?_)
          clear hK K
          try simp only [Act.put, List.setIfInBounds_toArray, List.set_cons_zero, List.set_cons_succ]
          obtain ⟨V2, hst, rV2, zV2, bV2⟩ := tell_store (q := R4) (bV1.row z5u19 (gRow_lt z5u19) (by omega))
          refine take_one (i := 8) rfl (by kernel_rfl) rfl (fun K hK => ?_)
          unfold Oper.wp execOp
          simp only [Instr.storeAt, Instr.sureAddr, Sem.run_bind, Sem.run_pure, Result.andThen_ok]
          simp [Act.eval, hst, Oper.upon]
          clear hst
          refine hK.out _ _ trivial (fun hHeld => ?_)
          clear hK K
          try simp only [Act.put, List.setIfInBounds_toArray, List.set_cons_zero, List.set_cons_succ]
          refine wpAnyH_done (by kernel_rfl) ?_ _
          refine NoPanic.normal ?_
          have FF : Hid (V2.rowIs _ 29 32 (arrV R5) ∧ V2.rowIs _ 29 32 (arrV R4) ∧ Below w3.heap.size w3 V2) := (show _ ∧ _ ∧ _ from ⟨bV2.row rV1 (gRow_lt rV1) (by omega), rV2, Bu19.trans ((bV1.below' (by omega) Bu19.size).trans (bV2.below' (by omega) (by rw [zV1]; exact Bu19.size)))⟩)
          clear rV1 rV2 bV1 bV2 zV1 zV2 hHeld
          go_wp2_with fail
          go_meet
          case rel => exact ⟨_, _, rfl, rfl, FF.out.1, FF.out.2.1, FF.out.2.2⟩
        case g17b =>
          intro K hK
          obtain ⟨u20, hu20⟩ : ∃ W', W' = u16.alloc (.cells (rowV 32 (fun _ => .int .u8 0)) 29) := ⟨_, rfl⟩
          have bbu20 : Below u16.heap.size u16 u20 := by rw [hu20]; exact (Below.refl _ _).alloc (Nat.le_refl _) _
          have Bu20 : Below w3.heap.size w3 u20 := Bu16.trans (bbu20.mono Bu16.size)
          have z4u20 : u20.rowIs u16.heap.size 29 32 (fun _ => .int .u8 0) := by rw [hu20]; exact rowIs_box u16 _ _ _
          have zzu20 := Bu16.size
          have z5u20 := bbu20.row z5u16 (gRow_lt z5u16)
          have nez5u20 := gRow_lt z5u16
          refine wp_of_run (v := .pointer (some ⟨u16.heap.size, 0, none⟩)) (w' := u20) (by rw [hu20]; exact exec_allocG rfl u16) ?_
          refine hK.out _ _ trivial (fun hHeld => ?_)
          clear hK K hu20
          try simp only [Act.put, List.setIfInBounds_toArray, List.set_cons_zero, List.set_cons_succ]
          refine take_one (i := 4) rfl (by kernel_rfl) rfl (fun K hK => ?_)
          go_simp
          refine Calls.mono (RT4.out u20 Bu20) ?_
          rintro e u21 ⟨rfl, bbu21⟩
          have Bu21 : Below w3.heap.size w3 u21 := Bu20.trans (bbu21.mono Bu20.size)
          have z5u21 := bbu21.row z5u20 (gRow_lt z5u20)
          have z4u21 := bbu21.row z4u20 (gRow_lt z4u20)
          refine hK.out _ _ trivial (fun hHeld => ?_)
          clear hK K
          try simp only [Act.put, List.setIfInBounds_toArray, List.set_cons_zero, List.set_cons_succ]
          obtain ⟨V1, hst, rV1, zV1, bV1⟩ := tell_store (q := R5) z4u21
          refine take_one (i := 7) rfl (by kernel_rfl) rfl (fun K hK => ?_)
          unfold Oper.wp execOp
          simp only [Instr.storeAt, Instr.sureAddr, Sem.run_bind, Sem.run_pure, Result.andThen_ok]
          simp [Act.eval, hst, Oper.upon]
          clear hst
          refine hK.out _ _ trivial (fun hHeld => ?_)
          clear hK K
          try simp only [Act.put, List.setIfInBounds_toArray, List.set_cons_zero, List.set_cons_succ]
          obtain ⟨V2, hst, rV2, zV2, bV2⟩ := tell_store (q := R4) (bV1.row z5u21 (gRow_lt z5u21) (by omega))
          refine take_one (i := 8) rfl (by kernel_rfl) rfl (fun K hK => ?_)
          unfold Oper.wp execOp
          simp only [Instr.storeAt, Instr.sureAddr, Sem.run_bind, Sem.run_pure, Result.andThen_ok]
          simp [Act.eval, hst, Oper.upon]
          clear hst
          refine hK.out _ _ trivial (fun hHeld => ?_)
          clear hK K
          try simp only [Act.put, List.setIfInBounds_toArray, List.set_cons_zero, List.set_cons_succ]
          refine wpAnyH_done (by kernel_rfl) ?_ _
          refine NoPanic.normal ?_
          have FF : Hid (V2.rowIs _ 29 32 (arrV R5) ∧ V2.rowIs _ 29 32 (arrV R4) ∧ Below w3.heap.size w3 V2) := (show _ ∧ _ ∧ _ from ⟨bV2.row rV1 (gRow_lt rV1) (by omega), rV2, Bu21.trans ((bV1.below' (by omega) Bu21.size).trans (bV2.below' (by omega) (by rw [zV1]; exact Bu21.size)))⟩)
          clear rV1 rV2 bV1 bV2 zV1 zV2 hHeld
          go_wp2_with fail
          go_meet
          case rel => exact ⟨_, _, rfl, rfl, FF.out.1, FF.out.2.1, FF.out.2.2⟩
    case g1b =>
      intro K hK
      obtain ⟨u22, hu22⟩ : ∃ W', W' = wq.alloc (.cells (rowV 32 (fun _ => .int .u8 0)) 29) := ⟨_, rfl⟩
      have bbu22 : Below wq.heap.size wq u22 := by rw [hu22]; exact (Below.refl _ _).alloc (Nat.le_refl _) _
      have Bu22 : Below w3.heap.size w3 u22 := Bwq.trans (bbu22.mono Bwq.size)
      have z4u22 : u22.rowIs wq.heap.size 29 32 (fun _ => .int .u8 0) := by rw [hu22]; exact rowIs_box wq _ _ _
      have zzu22 := Bwq.size
      refine wp_of_run (v := .pointer (some ⟨wq.heap.size, 0, none⟩)) (w' := u22) (by rw [hu22]; exact exec_allocG rfl wq) ?_
      refine hK.out _ _ trivial (fun hHeld => ?_)
      clear hK K hu22
      try simp only [Act.put, List.setIfInBounds_toArray, List.set_cons_zero, List.set_cons_succ]
      refine take_pair (i := 1) (j := 6) rfl rfl (by kernel_rfl) rfl rfl ?g23a ?g23b
      case g23a =>
        intro K hK
        go_simp
        refine Calls.mono (RT1.out u22 Bu22) ?_
        rintro e u24 ⟨rfl, bbu24⟩
        have Bu24 : Below w3.heap.size w3 u24 := Bu22.trans (bbu24.mono Bu22.size)
        have z4u24 := bbu24.row z4u22 (gRow_lt z4u22)
        refine hK.out _ _ trivial (fun hHeld => ?_)
        clear hK K
        try simp only [Act.put, List.setIfInBounds_toArray, List.set_cons_zero, List.set_cons_succ]
        refine take_pair (i := 4) (j := 6) rfl rfl (by kernel_rfl) rfl rfl ?g25a ?g25b
        case g25a =>
          intro K hK
          go_simp
          refine Calls.mono (RT4.out u24 Bu24) ?_
          rintro e u26 ⟨rfl, bbu26⟩
          have Bu26 : Below w3.heap.size w3 u26 := Bu24.trans (bbu26.mono Bu24.size)
          have z4u26 := bbu26.row z4u24 (gRow_lt z4u24)
          refine hK.out _ _ trivial (fun hHeld => ?_)
          clear hK K
          try simp only [Act.put, List.setIfInBounds_toArray, List.set_cons_zero, List.set_cons_succ]
          refine take_one (i := 6) rfl (by kernel_rfl) rfl (fun K hK => ?_)
          obtain ⟨u27, hu27⟩ : ∃ W', W' = u26.alloc (.cells (rowV 32 (fun _ => .int .u8 0)) 29) := ⟨_, rfl⟩
          have bbu27 : Below u26.heap.size u26 u27 := by rw [hu27]; exact (Below.refl _ _).alloc (Nat.le_refl _) _
          have Bu27 : Below w3.heap.size w3 u27 := Bu26.trans (bbu27.mono Bu26.size)
          have z5u27 : u27.rowIs u26.heap.size 29 32 (fun _ => .int .u8 0) := by rw [hu27]; exact rowIs_box u26 _ _ _
          have zzu27 := Bu26.size
          have z4u27 := bbu27.row z4u26 (gRow_lt z4u26)
          have nez4u27 := gRow_lt z4u26
          refine wp_of_run (v := .pointer (some ⟨u26.heap.size, 0, none⟩)) (w' := u27) (by rw [hu27]; exact exec_allocG rfl u26) ?_
          refine hK.out _ _ trivial (fun hHeld => ?_)
          clear hK K hu27
          try simp only [Act.put, List.setIfInBounds_toArray, List.set_cons_zero, List.set_cons_succ]
          obtain ⟨V1, hst, rV1, zV1, bV1⟩ := tell_store (q := R5) z4u27
          refine take_one (i := 7) rfl (by kernel_rfl) rfl (fun K hK => ?_)
          unfold Oper.wp execOp
          simp only [Instr.storeAt, Instr.sureAddr, Sem.run_bind, Sem.run_pure, Result.andThen_ok]
          simp [Act.eval, hst, Oper.upon]
          clear hst
          refine hK.out _ _ trivial (fun hHeld => ?_)
          clear hK K
          try simp only [Act.put, List.setIfInBounds_toArray, List.set_cons_zero, List.set_cons_succ]
          obtain ⟨V2, hst, rV2, zV2, bV2⟩ := tell_store (q := R4) (bV1.row z5u27 (gRow_lt z5u27) (by omega))
          refine take_one (i := 8) rfl (by kernel_rfl) rfl (fun K hK => ?_)
          unfold Oper.wp execOp
          simp only [Instr.storeAt, Instr.sureAddr, Sem.run_bind, Sem.run_pure, Result.andThen_ok]
          simp [Act.eval, hst, Oper.upon]
          clear hst
          refine hK.out _ _ trivial (fun hHeld => ?_)
          clear hK K
          try simp only [Act.put, List.setIfInBounds_toArray, List.set_cons_zero, List.set_cons_succ]
          refine wpAnyH_done (by kernel_rfl) ?_ _
          refine NoPanic.normal ?_
          have FF : Hid (V2.rowIs _ 29 32 (arrV R5) ∧ V2.rowIs _ 29 32 (arrV R4) ∧ Below w3.heap.size w3 V2) := (show _ ∧ _ ∧ _ from ⟨bV2.row rV1 (gRow_lt rV1) (by omega), rV2, Bu27.trans ((bV1.below' (by omega) Bu27.size).trans (bV2.below' (by omega) (by rw [zV1]; exact Bu27.size)))⟩)
          clear rV1 rV2 bV1 bV2 zV1 zV2 hHeld
          go_wp2_with fail
          go_meet
          case rel => exact ⟨_, _, rfl, rfl, FF.out.1, FF.out.2.1, FF.out.2.2⟩
        case g25b =>
          intro K hK
          obtain ⟨u28, hu28⟩ : ∃ W', W' = u24.alloc (.cells (rowV 32 (fun _ => .int .u8 0)) 29) := ⟨_, rfl⟩
          have bbu28 : Below u24.heap.size u24 u28 := by rw [hu28]; exact (Below.refl _ _).alloc (Nat.le_refl _) _
          have Bu28 : Below w3.heap.size w3 u28 := Bu24.trans (bbu28.mono Bu24.size)
          have z5u28 : u28.rowIs u24.heap.size 29 32 (fun _ => .int .u8 0) := by rw [hu28]; exact rowIs_box u24 _ _ _
          have zzu28 := Bu24.size
          have z4u28 := bbu28.row z4u24 (gRow_lt z4u24)
          have nez4u28 := gRow_lt z4u24
          refine wp_of_run (v := .pointer (some ⟨u24.heap.size, 0, none⟩)) (w' := u28) (by rw [hu28]; exact exec_allocG rfl u24) ?_
          refine hK.out _ _ trivial (fun hHeld => ?_)
          clear hK K hu28
          try simp only [Act.put, List.setIfInBounds_toArray, List.set_cons_zero, List.set_cons_succ]
          refine take_one (i := 4) rfl (by kernel_rfl) rfl (fun K hK => ?_)
          go_simp
          refine Calls.mono (RT4.out u28 Bu28) ?_
          rintro e u29 ⟨rfl, bbu29⟩
          have Bu29 : Below w3.heap.size w3 u29 := Bu28.trans (bbu29.mono Bu28.size)
          have z4u29 := bbu29.row z4u28 (gRow_lt z4u28)
          have z5u29 := bbu29.row z5u28 (gRow_lt z5u28)
          refine hK.out _ _ trivial (fun hHeld => ?_)
          clear hK K
          try simp only [Act.put, List.setIfInBounds_toArray, List.set_cons_zero, List.set_cons_succ]
          obtain ⟨V1, hst, rV1, zV1, bV1⟩ := tell_store (q := R5) z4u29
          refine take_one (i := 7) rfl (by kernel_rfl) rfl (fun K hK => ?_)
          unfold Oper.wp execOp
          simp only [Instr.storeAt, Instr.sureAddr, Sem.run_bind, Sem.run_pure, Result.andThen_ok]
          simp [Act.eval, hst, Oper.upon]
          clear hst
          refine hK.out _ _ trivial (fun hHeld => ?_)
          clear hK K
          try simp only [Act.put, List.setIfInBounds_toArray, List.set_cons_zero, List.set_cons_succ]
          obtain ⟨V2, hst, rV2, zV2, bV2⟩ := tell_store (q := R4) (bV1.row z5u29 (gRow_lt z5u29) (by omega))
          refine take_one (i := 8) rfl (by kernel_rfl) rfl (fun K hK => ?_)
          unfold Oper.wp execOp
          simp only [Instr.storeAt, Instr.sureAddr, Sem.run_bind, Sem.run_pure, Result.andThen_ok]
          simp [Act.eval, hst, Oper.upon]
          clear hst
          refine hK.out _ _ trivial (fun hHeld => ?_)
          clear hK K
          try simp only [Act.put, List.setIfInBounds_toArray, List.set_cons_zero, List.set_cons_succ]
          refine wpAnyH_done (by kernel_rfl) ?_ _
          refine NoPanic.normal ?_
          have FF : Hid (V2.rowIs _ 29 32 (arrV R5) ∧ V2.rowIs _ 29 32 (arrV R4) ∧ Below w3.heap.size w3 V2) := (show _ ∧ _ ∧ _ from ⟨bV2.row rV1 (gRow_lt rV1) (by omega), rV2, Bu29.trans ((bV1.below' (by omega) Bu29.size).trans (bV2.below' (by omega) (by rw [zV1]; exact Bu29.size)))⟩)
          clear rV1 rV2 bV1 bV2 zV1 zV2 hHeld
          go_wp2_with fail
          go_meet
          case rel => exact ⟨_, _, rfl, rfl, FF.out.1, FF.out.2.1, FF.out.2.2⟩
      case g23b =>
        intro K hK
        obtain ⟨u30, hu30⟩ : ∃ W', W' = u22.alloc (.cells (rowV 32 (fun _ => .int .u8 0)) 29) := ⟨_, rfl⟩
        have bbu30 : Below u22.heap.size u22 u30 := by rw [hu30]; exact (Below.refl _ _).alloc (Nat.le_refl _) _
        have Bu30 : Below w3.heap.size w3 u30 := Bu22.trans (bbu30.mono Bu22.size)
        have z5u30 : u30.rowIs u22.heap.size 29 32 (fun _ => .int .u8 0) := by rw [hu30]; exact rowIs_box u22 _ _ _
        have zzu30 := Bu22.size
        have z4u30 := bbu30.row z4u22 (gRow_lt z4u22)
        have nez4u30 := gRow_lt z4u22
        refine wp_of_run (v := .pointer (some ⟨u22.heap.size, 0, none⟩)) (w' := u30) (by rw [hu30]; exact exec_allocG rfl u22) ?_
        refine hK.out _ _ trivial (fun hHeld => ?_)
        clear hK K hu30
        try simp only [Act.put, List.setIfInBounds_toArray, List.set_cons_zero, List.set_cons_succ]
        refine take_one (i := 1) rfl (by kernel_rfl) rfl (fun K hK => ?_)
        go_simp
        refine Calls.mono (RT1.out u30 Bu30) ?_
        rintro e u31 ⟨rfl, bbu31⟩
        have Bu31 : Below w3.heap.size w3 u31 := Bu30.trans (bbu31.mono Bu30.size)
        have z4u31 := bbu31.row z4u30 (gRow_lt z4u30)
        have z5u31 := bbu31.row z5u30 (gRow_lt z5u30)
        refine hK.out _ _ trivial (fun hHeld => ?_)
        clear hK K
        try simp only [Act.put, List.setIfInBounds_toArray, List.set_cons_zero, List.set_cons_succ]
        refine take_one (i := 4) rfl (by kernel_rfl) rfl (fun K hK => ?_)
        go_simp
        refine Calls.mono (RT4.out u31 Bu31) ?_
        rintro e u32 ⟨rfl, bbu32⟩
        have Bu32 : Below w3.heap.size w3 u32 := Bu31.trans (bbu32.mono Bu31.size)
        have z4u32 := bbu32.row z4u31 (gRow_lt z4u31)
        have z5u32 := bbu32.row z5u31 (gRow_lt z5u31)
        refine hK.out _ _ trivial (fun hHeld => ?_)
        clear hK K
        try simp only [Act.put, List.setIfInBounds_toArray, List.set_cons_zero, List.set_cons_succ]
        obtain ⟨V1, hst, rV1, zV1, bV1⟩ := tell_store (q := R5) z4u32
        refine take_one (i := 7) rfl (by kernel_rfl) rfl (fun K hK => ?_)
        unfold Oper.wp execOp
        simp only [Instr.storeAt, Instr.sureAddr, Sem.run_bind, Sem.run_pure, Result.andThen_ok]
        simp [Act.eval, hst, Oper.upon]
        clear hst
        refine hK.out _ _ trivial (fun hHeld => ?_)
        clear hK K
        try simp only [Act.put, List.setIfInBounds_toArray, List.set_cons_zero, List.set_cons_succ]
        obtain ⟨V2, hst, rV2, zV2, bV2⟩ := tell_store (q := R4) (bV1.row z5u32 (gRow_lt z5u32) (by omega))
        refine take_one (i := 8) rfl (by kernel_rfl) rfl (fun K hK => ?_)
        unfold Oper.wp execOp
        simp only [Instr.storeAt, Instr.sureAddr, Sem.run_bind, Sem.run_pure, Result.andThen_ok]
        simp [Act.eval, hst, Oper.upon]
        clear hst
        refine hK.out _ _ trivial (fun hHeld => ?_)
        clear hK K
        try simp only [Act.put, List.setIfInBounds_toArray, List.set_cons_zero, List.set_cons_succ]
        refine wpAnyH_done (by kernel_rfl) ?_ _
        refine NoPanic.normal ?_
        have FF : Hid (V2.rowIs _ 29 32 (arrV R5) ∧ V2.rowIs _ 29 32 (arrV R4) ∧ Below w3.heap.size w3 V2) := (show _ ∧ _ ∧ _ from ⟨bV2.row rV1 (gRow_lt rV1) (by omega), rV2, Bu32.trans ((bV1.below' (by omega) Bu32.size).trans (bV2.below' (by omega) (by rw [zV1]; exact Bu32.size)))⟩)
        clear rV1 rV2 bV1 bV2 zV1 zV2 hHeld
        go_wp2_with fail
        go_meet
        case rel => exact ⟨_, _, rfl, rfl, FF.out.1, FF.out.2.1, FF.out.2.2⟩
    case g1c =>
      intro K hK
      obtain ⟨u33, hu33⟩ : ∃ W', W' = wq.alloc (.cells (rowV 32 (fun _ => .int .u8 0)) 29) := ⟨_, rfl⟩
      have bbu33 : Below wq.heap.size wq u33 := by rw [hu33]; exact (Below.refl _ _).alloc (Nat.le_refl _) _
      have Bu33 : Below w3.heap.size w3 u33 := Bwq.trans (bbu33.mono Bwq.size)
      have z5u33 : u33.rowIs wq.heap.size 29 32 (fun _ => .int .u8 0) := by rw [hu33]; exact rowIs_box wq _ _ _
      have zzu33 := Bwq.size
      refine wp_of_run (v := .pointer (some ⟨wq.heap.size, 0, none⟩)) (w' := u33) (by rw [hu33]; exact exec_allocG rfl wq) ?_
      refine hK.out _ _ trivial (fun hHeld => ?_)
      clear hK K hu33
      try simp only [Act.put, List.setIfInBounds_toArray, List.set_cons_zero, List.set_cons_succ]
      refine take_pair (i := 1) (j := 5) rfl rfl (by kernel_rfl) rfl rfl ?g34a ?g34b
      case g34a =>
        intro K hK
        go_simp
        refine Calls.mono (RT1.out u33 Bu33) ?_
        rintro e u35 ⟨rfl, bbu35⟩
        have Bu35 : Below w3.heap.size w3 u35 := Bu33.trans (bbu35.mono Bu33.size)
        have z5u35 := bbu35.row z5u33 (gRow_lt z5u33)
        refine hK.out _ _ trivial (fun hHeld => ?_)
        clear hK K
        try simp only [Act.put, List.setIfInBounds_toArray, List.set_cons_zero, List.set_cons_succ]
        refine take_pair (i := 4) (j := 5) rfl rfl (by kernel_rfl) rfl rfl ?g36a ?g36b
        case g36a =>
          intro K hK
          go_simp
          refine Calls.mono (RT4.out u35 Bu35) ?_
          rintro e u37 ⟨rfl, bbu37⟩
          have Bu37 : Below w3.heap.size w3 u37 := Bu35.trans (bbu37.mono Bu35.size)
          have z5u37 := bbu37.row z5u35 (gRow_lt z5u35)
          refine hK.out _ _ trivial (fun hHeld => ?_)
          clear hK K
          try simp only [Act.put, List.setIfInBounds_toArray, List.set_cons_zero, List.set_cons_succ]
          refine take_one (i := 5) rfl (by kernel_rfl) rfl (fun K hK => ?_)
          obtain ⟨u38, hu38⟩ : ∃ W', W' = u37.alloc (.cells (rowV 32 (fun _ => .int .u8 0)) 29) := ⟨_, rfl⟩
          have bbu38 : Below u37.heap.size u37 u38 := by rw [hu38]; exact (Below.refl _ _).alloc (Nat.le_refl _) _
          have Bu38 : Below w3.heap.size w3 u38 := Bu37.trans (bbu38.mono Bu37.size)
          have z4u38 : u38.rowIs u37.heap.size 29 32 (fun _ => .int .u8 0) := by rw [hu38]; exact rowIs_box u37 _ _ _
          have zzu38 := Bu37.size
          have z5u38 := bbu38.row z5u37 (gRow_lt z5u37)
          have nez5u38 := gRow_lt z5u37
          refine wp_of_run (v := .pointer (some ⟨u37.heap.size, 0, none⟩)) (w' := u38) (by rw [hu38]; exact exec_allocG rfl u37) ?_
          refine hK.out _ _ trivial (fun hHeld => ?_)
          clear hK K hu38
          try simp only [Act.put, List.setIfInBounds_toArray, List.set_cons_zero, List.set_cons_succ]
          obtain ⟨V1, hst, rV1, zV1, bV1⟩ := tell_store (q := R5) z4u38
          refine take_one (i := 7) rfl (by kernel_rfl) rfl (fun K hK => ?_)
          unfold Oper.wp execOp
          simp only [Instr.storeAt, Instr.sureAddr, Sem.run_bind, Sem.run_pure, Result.andThen_ok]
          simp [Act.eval, hst, Oper.upon]
          clear hst
          refine hK.out _ _ trivial (fun hHeld => ?_)
          clear hK K
          try simp only [Act.put, List.setIfInBounds_toArray, List.set_cons_zero, List.set_cons_succ]
          obtain ⟨V2, hst, rV2, zV2, bV2⟩ := tell_store (q := R4) (bV1.row z5u38 (gRow_lt z5u38) (by omega))
          refine take_one (i := 8) rfl (by kernel_rfl) rfl (fun K hK => ?_)
          unfold Oper.wp execOp
          simp only [Instr.storeAt, Instr.sureAddr, Sem.run_bind, Sem.run_pure, Result.andThen_ok]
          simp [Act.eval, hst, Oper.upon]
          clear hst
          refine hK.out _ _ trivial (fun hHeld => ?_)
          clear hK K
          try simp only [Act.put, List.setIfInBounds_toArray, List.set_cons_zero, List.set_cons_succ]
          refine wpAnyH_done (by kernel_rfl) ?_ _
          refine NoPanic.normal ?_
          have FF : Hid (V2.rowIs _ 29 32 (arrV R5) ∧ V2.rowIs _ 29 32 (arrV R4) ∧ Below w3.heap.size w3 V2) := (show _ ∧ _ ∧ _ from ⟨bV2.row rV1 (gRow_lt rV1) (by omega), rV2, Bu38.trans ((bV1.below' (by omega) Bu38.size).trans (bV2.below' (by omega) (by rw [zV1]; exact Bu38.size)))⟩)
          clear rV1 rV2 bV1 bV2 zV1 zV2 hHeld
          go_wp2_with fail
          go_meet
          case rel => exact ⟨_, _, rfl, rfl, FF.out.1, FF.out.2.1, FF.out.2.2⟩
        case g36b =>
          intro K hK
          obtain ⟨u39, hu39⟩ : ∃ W', W' = u35.alloc (.cells (rowV 32 (fun _ => .int .u8 0)) 29) := ⟨_, rfl⟩
          have bbu39 : Below u35.heap.size u35 u39 := by rw [hu39]; exact (Below.refl _ _).alloc (Nat.le_refl _) _
          have Bu39 : Below w3.heap.size w3 u39 := Bu35.trans (bbu39.mono Bu35.size)
          have z4u39 : u39.rowIs u35.heap.size 29 32 (fun _ => .int .u8 0) := by rw [hu39]; exact rowIs_box u35 _ _ _
          have zzu39 := Bu35.size
          have z5u39 := bbu39.row z5u35 (gRow_lt z5u35)
          have nez5u39 := gRow_lt z5u35
          refine wp_of_run (v := .pointer (some ⟨u35.heap.size, 0, none⟩)) (w' := u39) (by rw [hu39]; exact exec_allocG rfl u35) ?_
          refine hK.out _ _ trivial (fun hHeld => ?_)
          clear hK K hu39
          try simp only [Act.put, List.setIfInBounds_toArray, List.set_cons_zero, List.set_cons_succ]
          refine take_one (i := 4) rfl (by kernel_rfl) rfl (fun K hK => ?_)
          go_simp
          refine Calls.mono (RT4.out u39 Bu39) ?_
          rintro e u40 ⟨rfl, bbu40⟩
          have Bu40 : Below w3.heap.size w3 u40 := Bu39.trans (bbu40.mono Bu39.size)
          have z5u40 := bbu40.row z5u39 (gRow_lt z5u39)
          have z4u40 := bbu40.row z4u39 (gRow_lt z4u39)
          refine hK.out _ _ trivial (fun hHeld => ?_)
          clear hK K
          try simp only [Act.put, List.setIfInBounds_toArray, List.set_cons_zero, List.set_cons_succ]
          obtain ⟨V1, hst, rV1, zV1, bV1⟩ := tell_store (q := R5) z4u40
          refine take_one (i := 7) rfl (by kernel_rfl) rfl (fun K hK => ?_)
          unfold Oper.wp execOp
          simp only [Instr.storeAt, Instr.sureAddr, Sem.run_bind, Sem.run_pure, Result.andThen_ok]
          simp [Act.eval, hst, Oper.upon]
          clear hst
          refine hK.out _ _ trivial (fun hHeld => ?_)
          clear hK K
          try simp only [Act.put, List.setIfInBounds_toArray, List.set_cons_zero, List.set_cons_succ]
          obtain ⟨V2, hst, rV2, zV2, bV2⟩ := tell_store (q := R4) (bV1.row z5u40 (gRow_lt z5u40) (by omega))
          refine take_one (i := 8) rfl (by kernel_rfl) rfl (fun K hK => ?_)
          unfold Oper.wp execOp
          simp only [Instr.storeAt, Instr.sureAddr, Sem.run_bind, Sem.run_pure, Result.andThen_ok]
          simp [Act.eval, hst, Oper.upon]
          clear hst
          refine hK.out _ _ trivial (fun hHeld => ?_)
          clear hK K
          try simp only [Act.put, List.setIfInBounds_toArray, List.set_cons_zero, List.set_cons_succ]
          refine wpAnyH_done (by kernel_rfl) ?_ _
          refine NoPanic.normal ?_
          have FF : Hid (V2.rowIs _ 29 32 (arrV R5) ∧ V2.rowIs _ 29 32 (arrV R4) ∧ Below w3.heap.size w3 V2) := (show _ ∧ _ ∧ _ from ⟨bV2.row rV1 (gRow_lt rV1) (by omega), rV2, Bu40.trans ((bV1.below' (by omega) Bu40.size).trans (bV2.below' (by omega) (by rw [zV1]; exact Bu40.size)))⟩)
          clear rV1 rV2 bV1 bV2 zV1 zV2 hHeld
          go_wp2_with fail
          go_meet
          case rel => exact ⟨_, _, rfl, rfl, FF.out.1, FF.out.2.1, FF.out.2.2⟩
      case g34b =>
        intro K hK
        obtain ⟨u41, hu41⟩ : ∃ W', W' = u33.alloc (.cells (rowV 32 (fun _ => .int .u8 0)) 29) := ⟨_, rfl⟩
        have bbu41 : Below u33.heap.size u33 u41 := by rw [hu41]; exact (Below.refl _ _).alloc (Nat.le_refl _) _
        have Bu41 : Below w3.heap.size w3 u41 := Bu33.trans (bbu41.mono Bu33.size)
        have z4u41 : u41.rowIs u33.heap.size 29 32 (fun _ => .int .u8 0) := by rw [hu41]; exact rowIs_box u33 _ _ _
        have zzu41 := Bu33.size
        have z5u41 := bbu41.row z5u33 (gRow_lt z5u33)
        have nez5u41 := gRow_lt z5u33
        refine wp_of_run (v := .pointer (some ⟨u33.heap.size, 0, none⟩)) (w' := u41) (by rw [hu41]; exact exec_allocG rfl u33) ?_
        refine hK.out _ _ trivial (fun hHeld => ?_)
        clear hK K hu41
        try simp only [Act.put, List.setIfInBounds_toArray, List.set_cons_zero, List.set_cons_succ]
        refine take_one (i := 1) rfl (by kernel_rfl) rfl (fun K hK => ?_)
        go_simp
        refine Calls.mono (RT1.out u41 Bu41) ?_
        rintro e u42 ⟨rfl, bbu42⟩
        have Bu42 : Below w3.heap.size w3 u42 := Bu41.trans (bbu42.mono Bu41.size)
        have z5u42 := bbu42.row z5u41 (gRow_lt z5u41)
        have z4u42 := bbu42.row z4u41 (gRow_lt z4u41)
        refine hK.out _ _ trivial (fun hHeld => ?_)
        clear hK K
        try simp only [Act.put, List.setIfInBounds_toArray, List.set_cons_zero, List.set_cons_succ]
        refine take_one (i := 4) rfl (by kernel_rfl) rfl (fun K hK => ?_)
        go_simp
        refine Calls.mono (RT4.out u42 Bu42) ?_
        rintro e u43 ⟨rfl, bbu43⟩
        have Bu43 : Below w3.heap.size w3 u43 := Bu42.trans (bbu43.mono Bu42.size)
        have z5u43 := bbu43.row z5u42 (gRow_lt z5u42)
        have z4u43 := bbu43.row z4u42 (gRow_lt z4u42)
        refine hK.out _ _ trivial (fun hHeld => ?_)
        clear hK K
        try simp only [Act.put, List.setIfInBounds_toArray, List.set_cons_zero, List.set_cons_succ]
        obtain ⟨V1, hst, rV1, zV1, bV1⟩ := tell_store (q := R5) z4u43
        refine take_one (i := 7) rfl (by kernel_rfl) rfl (fun K hK => ?_)
        unfold Oper.wp execOp
        simp only [Instr.storeAt, Instr.sureAddr, Sem.run_bind, Sem.run_pure, Result.andThen_ok]
        simp [Act.eval, hst, Oper.upon]
        clear hst
        refine hK.out _ _ trivial (fun hHeld => ?_)
        clear hK K
        try simp only [Act.put, List.setIfInBounds_toArray, List.set_cons_zero, List.set_cons_succ]
        obtain ⟨V2, hst, rV2, zV2, bV2⟩ := tell_store (q := R4) (bV1.row z5u43 (gRow_lt z5u43) (by omega))
        refine take_one (i := 8) rfl (by kernel_rfl) rfl (fun K hK => ?_)
        unfold Oper.wp execOp
        simp only [Instr.storeAt, Instr.sureAddr, Sem.run_bind, Sem.run_pure, Result.andThen_ok]
        simp [Act.eval, hst, Oper.upon]
        clear hst
        refine hK.out _ _ trivial (fun hHeld => ?_)
        clear hK K
        try simp only [Act.put, List.setIfInBounds_toArray, List.set_cons_zero, List.set_cons_succ]
        refine wpAnyH_done (by kernel_rfl) ?_ _
        refine NoPanic.normal ?_
        have FF : Hid (V2.rowIs _ 29 32 (arrV R5) ∧ V2.rowIs _ 29 32 (arrV R4) ∧ Below w3.heap.size w3 V2) := (show _ ∧ _ ∧ _ from ⟨bV2.row rV1 (gRow_lt rV1) (by omega), rV2, Bu43.trans ((bV1.below' (by omega) Bu43.size).trans (bV2.below' (by omega) (by rw [zV1]; exact Bu43.size)))⟩)
        clear rV1 rV2 bV1 bV2 zV1 zV2 hHeld
        go_wp2_with fail
        go_meet
        case rel => exact ⟨_, _, rfl, rfl, FF.out.1, FF.out.2.1, FF.out.2.2⟩
  case rest =>
    obtain ⟨b4, b5, rfl, rfl, h4, h5, hB⟩ := hcut
    rename World => w6
    have Z6 := hB.size
    have L4 : Hid (∀ wz, Below w6.heap.size w6 wz → ∀ j, j < 32 → wz.cell? ⟨b4, 0 + j, none⟩ = some (arrV R5 j)) := (show _ from fun wz hz j hj => by rw [Nat.zero_add]; exact (hz.row h4 (gRow_lt h4)).cell hj)
    have L5 : Hid (∀ wz, Below w6.heap.size w6 wz → ∀ j, j < 32 → wz.cell? ⟨b5, 0 + j, none⟩ = some (arrV R4 j)) := (show _ from fun wz hz j hj => by rw [Nat.zero_add]; exact (hz.row h5 (gRow_lt h5)).cell hj)
    have hb3 := HB.out
    have hg2 := HG2.out
    have hg3 := HG3.out
    have z12 := B12.out.size
    have z23 := B23.out.size
    have y5 : sumsAt w6 (.slice (some ⟨b, 0, none⟩) 5 5) five := Y3.out.below hB (Nat.le_refl _)
    have CF : Hid (∀ wz, Below w6.heap.size w6 wz → ∀ i (hi : i < five.length) j, j < 32 → wz.cell? ⟨b, 0 + i * 32 + j, none⟩ = some (arrV five[i] j)) := (show _ from fun wz hz i hi j hj => by
      obtain ⟨_, a, cap, e, _, _, h5'⟩ := y5.below hz (Nat.le_refl _)
      obtain ⟨g, o, ha, _, hc⟩ := h5' (by simp [five])
      have e1 : some (⟨b, 0, none⟩ : Addr) = a := by injection e
      rw [ha] at e1
      have e2 : (⟨b, 0, none⟩ : Addr) = ⟨g, o, none⟩ := Option.some.inj e1
      have e3 : b = g := congrArg Addr.block e2
      have e4 : 0 = o := congrArg Addr.off e2
      subst e3; subst e4
      exact hc i hi j hj)
    have P0 : Hid (∀ wz, Below w6.heap.size w6 wz → ∀ j, j < 32 → wz.cell? ⟨g2, 0 + j, none⟩ = some (arrV (lf 3) j)) := (show _ from fun wz hz j hj => (hz.cell (p := ⟨g2, 0 + j, none⟩) (by show g2 < _; omega)).trans ((hB.cell (p := ⟨g2, 0 + j, none⟩) (by show g2 < _; omega)).trans ((B23.out.cell (p := ⟨g2, 0 + j, none⟩) hg2).trans (by have := CP.out 0 (lf 3) rfl j hj; rwa [Nat.zero_mul] at this))))
    have P3 : Hid (∀ wz, Below w6.heap.size w6 wz → ∀ j, j < 32 → wz.cell? ⟨g2, 96 + j, none⟩ = some (arrV (lf 5) j)) := (show _ from fun wz hz j hj => (hz.cell (p := ⟨g2, 96 + j, none⟩) (by show g2 < _; omega)).trans ((hB.cell (p := ⟨g2, 96 + j, none⟩) (by show g2 < _; omega)).trans ((B23.out.cell (p := ⟨g2, 96 + j, none⟩) hg2).trans (CP.out 3 (lf 5) rfl j hj))))
    have Q0 : Hid (∀ wz, Below w6.heap.size w6 wz → ∀ j, j < 32 → wz.cell? ⟨g3, 0 + j, none⟩ = some (arrV (lf 5) j)) := (show _ from fun wz hz j hj => (hz.cell (p := ⟨g3, 0 + j, none⟩) (by show g3 < _; omega)).trans ((hB.cell (p := ⟨g3, 0 + j, none⟩) (by show g3 < _; omega)).trans (by have := CQ.out 0 (lf 5) rfl j hj; rwa [Nat.zero_mul] at this)))
    have F2 : Hid (∀ wz, Below w6.heap.size w6 wz → ∀ j, j < 32 → wz.cell? ⟨b, 64 + j, none⟩ = some (arrV (lf 3) j)) := (show _ from fun wz hz j hj => CF.out wz hz 2 (by simp [five]) j hj)
    have F4 : Hid (∀ wz, Below w6.heap.size w6 wz → ∀ j, j < 32 → wz.cell? ⟨b, 128 + j, none⟩ = some (arrV (lf 5) j)) := (show _ from fun wz hz j hj => CF.out wz hz 4 (by simp [five]) j hj)
    have E3 : Hid (∀ wz : World, (Op.equalIn 10000 29 (.agg (rowV 32 (arrV (lf 3)))) (.agg (rowV 32 (arrV (lf 3))))).run Tryd.prog wz = .ok true wz) := (show ∀ wz : World, _ from fun wz => by have := run_eq_sums wz 9998 (lf_sum (k := 3) (by omega)) (lf_sum (k := 3) (by omega)); rwa [decide_eq_true rfl] at this)
    have E5 : Hid (∀ wz : World, (Op.equalIn 10000 29 (.agg (rowV 32 (arrV (lf 5)))) (.agg (rowV 32 (arrV (lf 5))))).run Tryd.prog wz = .ok true wz) := (show ∀ wz : World, _ from fun wz => by have := run_eq_sums wz 9998 (lf_sum (k := 5) (by omega)) (lf_sum (k := 5) (by omega)); rwa [decide_eq_true rfl] at this)
    have TZ : Hid (∀ wz, Below w6.heap.size w6 wz → tabIs wz ∧ sumsAt wz (.slice (some ⟨g3, 0, none⟩) 1 c3) [lf 5]) := (show _ from fun wz hz => ⟨(T3.out.below hB T3.out.1).below hz (Nat.lt_of_lt_of_le T3.out.1 Z6), (N3.out.is.below hB (Nat.le_refl _)).below hz (Nat.le_refl _)⟩)
    have BF : Hid (Below w.heap.size w w6 ∧ w.heap.size ≤ w6.heap.size) := (show _ ∧ _ from ⟨B1.out.trans ((B13.out.trans (hB.mono B13.out.size)).mono B1.out.size), by have := B1.out.size; omega⟩)
    clear h4 h5 hB Z6 hb3 hg2 hg3 z12 z23 y5 hz32
    go_upto_region 4 with fail
    refine wp_region_noPanic ?_
    refine wp_region_held_drew (S := fun w' => Below w6.heap.size w6 w') (by kernel_rfl) ((Below.refl _ _).drew) (fun hHeld => ?_)
    have Y0 := (by have h := steps_any 3 5 (by omega) (by omega) w6.drew; rw [gSteps_five.1] at h; exact h : Calls Tryd.prog 13 #[.int .i64 3, .int .i64 5] w6.drew fun e w' => e = .returned (.int .i64 4) ∧ Below (w6.drew).heap.size (w6.drew) w')
    refine take_one (i := 0) rfl (by kernel_rfl) rfl (fun K hK => ?_)
    go_simp
    refine Calls.mono Y0 ?_
    rintro e x0 ⟨rfl, bz⟩
    have bx0 : Below w6.heap.size w6 x0 := hHeld.trans (bz.mono hHeld.size)
    clear Y0 bz
    refine hK.out _ _ bx0 (fun hHeld => ?_)
    clear hK K
    try simp only [Act.put, List.setIfInBounds_toArray, List.set_cons_zero, List.set_cons_succ]
    refine take_op (i := 1) (v := ?vz1) rfl (by kernel_rfl) (by kernel_rfl) (by kernel_rfl) (fun _ _ _ h => h) rfl hHeld ?yz1 ?rz1
    case yz1 => (intro wz hz; go_simp; first | done | with_reducible rfl)
    try simp only [Act.put, List.setIfInBounds_toArray, List.set_cons_zero, List.set_cons_succ]
    refine take_op (i := 2) (v := ?vz2) rfl (by kernel_rfl) (by kernel_rfl) (by kernel_rfl) (fun _ _ _ h => h) rfl hHeld ?yz2 ?rz2
    case yz2 => (intro wz hz; go_simp; first | done | with_reducible rfl)
    try simp only [Act.put, List.setIfInBounds_toArray, List.set_cons_zero, List.set_cons_succ]
    have Y3 := (by have h := steps_any 4 5 (by omega) (by omega) x0; rw [gSteps_five.2.1] at h; exact h : Calls Tryd.prog 13 #[.int .i64 4, .int .i64 5] x0 fun e w' => e = .returned (.int .i64 1) ∧ Below (x0).heap.size (x0) w')
    refine take_one (i := 3) rfl (by kernel_rfl) rfl (fun K hK => ?_)
    go_simp
    refine Calls.mono Y3 ?_
    rintro e x3 ⟨rfl, bz⟩
    have bx3 : Below w6.heap.size w6 x3 := hHeld.trans (bz.mono hHeld.size)
    clear Y3 bz
    refine hK.out _ _ bx3 (fun hHeld => ?_)
    clear hK K
    try simp only [Act.put, List.setIfInBounds_toArray, List.set_cons_zero, List.set_cons_succ]
    refine take_op (i := 4) (v := ?vz4) rfl (by kernel_rfl) (by kernel_rfl) (by kernel_rfl) (fun _ _ _ h => h) rfl hHeld ?yz4 ?rz4
    case yz4 => (intro wz hz; go_simp; first | done | with_reducible rfl)
    try simp only [Act.put, List.setIfInBounds_toArray, List.set_cons_zero, List.set_cons_succ]
    refine take_op (i := 5) (v := ?vz5) rfl (by kernel_rfl) (by kernel_rfl) (by kernel_rfl) (fun _ _ _ h => h) rfl hHeld ?yz5 ?rz5
    case yz5 => (intro wz hz; go_simp; first | done | with_reducible rfl)
    try simp only [Act.put, List.setIfInBounds_toArray, List.set_cons_zero, List.set_cons_succ]
    refine take_op (i := 6) (v := ?vz6) rfl (by kernel_rfl) (by kernel_rfl) (by kernel_rfl) (fun _ _ _ h => h) rfl hHeld ?yz6 ?rz6
    case yz6 => (intro wz hz; go_simp; first | done | with_reducible rfl)
    try simp only [Act.put, List.setIfInBounds_toArray, List.set_cons_zero, List.set_cons_succ]
    have Y7 := (by have h := steps_any 5 5 (by omega) (by omega) x3; rw [gSteps_five.2.2.1] at h; exact h : Calls Tryd.prog 13 #[.int .i64 5, .int .i64 5] x3 fun e w' => e = .returned (.int .i64 0) ∧ Below (x3).heap.size (x3) w')
    refine take_one (i := 7) rfl (by kernel_rfl) rfl (fun K hK => ?_)
    go_simp
    refine Calls.mono Y7 ?_
    rintro e x7 ⟨rfl, bz⟩
    have bx7 : Below w6.heap.size w6 x7 := hHeld.trans (bz.mono hHeld.size)
    clear Y7 bz
    refine hK.out _ _ bx7 (fun hHeld => ?_)
    clear hK K
    try simp only [Act.put, List.setIfInBounds_toArray, List.set_cons_zero, List.set_cons_succ]
    refine take_op (i := 8) (v := ?vz8) rfl (by kernel_rfl) (by kernel_rfl) (by kernel_rfl) (fun _ _ _ h => h) rfl hHeld ?yz8 ?rz8
    case yz8 => (intro wz hz; go_simp; first | done | with_reducible rfl)
    try simp only [Act.put, List.setIfInBounds_toArray, List.set_cons_zero, List.set_cons_succ]
    refine take_op (i := 9) (v := ?vz9) rfl (by kernel_rfl) (by kernel_rfl) (by kernel_rfl) (fun _ _ _ h => h) rfl hHeld ?yz9 ?rz9
    case yz9 => (intro wz hz; go_simp; first | done | with_reducible rfl)
    try simp only [Act.put, List.setIfInBounds_toArray, List.set_cons_zero, List.set_cons_succ]
    refine take_op (i := 10) (v := ?vz10) rfl (by kernel_rfl) (by kernel_rfl) (by kernel_rfl) (fun _ _ _ h => h) rfl hHeld ?yz10 ?rz10
    case yz10 => (intro wz hz; go_simp; first | done | with_reducible rfl)
    try simp only [Act.put, List.setIfInBounds_toArray, List.set_cons_zero, List.set_cons_succ]
    have Y11 := (by have h := steps_any 0 5 (by omega) (by omega) x7; rw [gSteps_five.2.2.2] at h; exact h : Calls Tryd.prog 13 #[.int .i64 0, .int .i64 5] x7 fun e w' => e = .returned (.int .i64 0) ∧ Below (x7).heap.size (x7) w')
    refine take_one (i := 11) rfl (by kernel_rfl) rfl (fun K hK => ?_)
    go_simp
    refine Calls.mono Y11 ?_
    rintro e x11 ⟨rfl, bz⟩
    have bx11 : Below w6.heap.size w6 x11 := hHeld.trans (bz.mono hHeld.size)
    clear Y11 bz
    refine hK.out _ _ bx11 (fun hHeld => ?_)
    clear hK K
    try simp only [Act.put, List.setIfInBounds_toArray, List.set_cons_zero, List.set_cons_succ]
    refine take_op (i := 12) (v := ?vz12) rfl (by kernel_rfl) (by kernel_rfl) (by kernel_rfl) (fun _ _ _ h => h) rfl hHeld ?yz12 ?rz12
    case yz12 => (intro wz hz; go_simp; first | done | with_reducible rfl)
    try simp only [Act.put, List.setIfInBounds_toArray, List.set_cons_zero, List.set_cons_succ]
    refine take_op (i := 13) (v := ?vz13) rfl (by kernel_rfl) (by kernel_rfl) (by kernel_rfl) (fun _ _ _ h => h) rfl hHeld ?yz13 ?rz13
    case yz13 => (intro wz hz; go_simp; first | done | with_reducible rfl)
    try simp only [Act.put, List.setIfInBounds_toArray, List.set_cons_zero, List.set_cons_succ]
    refine take_op (i := 14) (v := ?vz14) rfl (by kernel_rfl) (by kernel_rfl) (by kernel_rfl) (fun _ _ _ h => h) rfl hHeld ?yz14 ?rz14
    case yz14 => (intro wz hz; go_simp; first | done | with_reducible rfl)
    try simp only [Act.put, List.setIfInBounds_toArray, List.set_cons_zero, List.set_cons_succ]
    refine take_op (i := 15) (v := ?vz15) rfl (by kernel_rfl) (by kernel_rfl) (by kernel_rfl) (fun _ _ _ h => h) rfl hHeld ?yz15 ?rz15
    case yz15 => (intro wz hz; go_simp; first | done | with_reducible rfl)
    try simp only [Act.put, List.setIfInBounds_toArray, List.set_cons_zero, List.set_cons_succ]
    refine take_op (i := 16) (v := ?vz16) rfl (by kernel_rfl) (by kernel_rfl) (by kernel_rfl) (fun _ _ _ h => h) rfl hHeld ?yz16 ?rz16
    case yz16 => (intro wz hz; go_simp; first | done | with_reducible rfl)
    try simp only [Act.put, List.setIfInBounds_toArray, List.set_cons_zero, List.set_cons_succ]
    refine take_op (i := 17) (v := ?vz17) rfl (by kernel_rfl) (by kernel_rfl) (by kernel_rfl) (fun _ _ _ h => h) rfl hHeld ?yz17 ?rz17
    case yz17 => (intro wz hz; go_simp; first | done | with_reducible rfl)
    try simp only [Act.put, List.setIfInBounds_toArray, List.set_cons_zero, List.set_cons_succ]
    refine take_op (i := 18) (v := ?vz18) rfl (by kernel_rfl) (by kernel_rfl) (by kernel_rfl) (fun _ _ _ h => h) rfl hHeld ?yz18 ?rz18
    case yz18 => (intro wz hz; go_simp; first | done | with_reducible rfl)
    try simp only [Act.put, List.setIfInBounds_toArray, List.set_cons_zero, List.set_cons_succ]
    refine take_op (i := 19) (v := ?vz19) rfl (by kernel_rfl) (by kernel_rfl) (by kernel_rfl) (fun _ _ _ h => h) rfl hHeld ?yz19 ?rz19
    case yz19 => (intro wz hz; go_simp; first | done | with_reducible rfl)
    try simp only [Act.put, List.setIfInBounds_toArray, List.set_cons_zero, List.set_cons_succ]
    refine take_op (i := 20) (v := ?vz20) rfl (by kernel_rfl) (by kernel_rfl) (by kernel_rfl) (fun _ _ _ h => h) rfl hHeld ?yz20 ?rz20
    case yz20 => (intro wz hz; go_simp; first | done | with_reducible rfl)
    try simp only [Act.put, List.setIfInBounds_toArray, List.set_cons_zero, List.set_cons_succ]
    refine take_op (i := 21) (v := ?vz21) rfl (by kernel_rfl) (by kernel_rfl) (by kernel_rfl) (fun _ _ _ h => h) rfl hHeld ?yz21 ?rz21
    case yz21 => (intro wz hz; go_simp; first | done | with_reducible rfl)
    try simp only [Act.put, List.setIfInBounds_toArray, List.set_cons_zero, List.set_cons_succ]
    refine take_load (i := 22) rfl (by kernel_rfl) (by kernel_rfl) (by kernel_rfl) 29 _ rfl g2 0 32 (arrV (lf 3)) rfl _ Tryd.underlying29 rfl (by kernel_rfl) (fun _ _ _ h => h) rfl hHeld (fun wz hz => P0.out wz hz) ?_
    try simp only [Act.put, List.setIfInBounds_toArray, List.set_cons_zero, List.set_cons_succ]
    refine take_op (i := 23) (v := ?vz23) rfl (by kernel_rfl) (by kernel_rfl) (by kernel_rfl) (fun _ _ _ h => h) rfl hHeld ?yz23 ?rz23
    case yz23 => (intro wz hz; go_simp; first | done | with_reducible rfl)
    try simp only [Act.put, List.setIfInBounds_toArray, List.set_cons_zero, List.set_cons_succ]
    refine take_op (i := 24) (v := ?vz24) rfl (by kernel_rfl) (by kernel_rfl) (by kernel_rfl) (fun _ _ _ h => h) rfl hHeld ?yz24 ?rz24
    case yz24 => (intro wz hz; go_simp; first | done | with_reducible rfl)
    try simp only [Act.put, List.setIfInBounds_toArray, List.set_cons_zero, List.set_cons_succ]
    refine take_load (i := 25) rfl (by kernel_rfl) (by kernel_rfl) (by kernel_rfl) 29 _ rfl b 64 32 (arrV (lf 3)) rfl _ Tryd.underlying29 rfl (by kernel_rfl) (fun _ _ _ h => h) rfl hHeld (fun wz hz => F2.out wz hz) ?_
    try simp only [Act.put, List.setIfInBounds_toArray, List.set_cons_zero, List.set_cons_succ]
    refine take_op (i := 26) (v := ?vz26) rfl (by kernel_rfl) (by kernel_rfl) (by kernel_rfl) (fun _ _ _ h => h) rfl hHeld ?yz26 ?rz26
    case yz26 => (intro wz hz; have hcz := E3.out wz; go_simp; first | done | with_reducible rfl)
    try simp only [Act.put, List.setIfInBounds_toArray, List.set_cons_zero, List.set_cons_succ]
    refine take_op (i := 27) (v := ?vz27) rfl (by kernel_rfl) (by kernel_rfl) (by kernel_rfl) (fun _ _ _ h => h) rfl hHeld ?yz27 ?rz27
    case yz27 => (intro wz hz; go_simp; first | done | with_reducible rfl)
    try simp only [Act.put, List.setIfInBounds_toArray, List.set_cons_zero, List.set_cons_succ]
    refine take_op (i := 28) (v := ?vz28) rfl (by kernel_rfl) (by kernel_rfl) (by kernel_rfl) (fun _ _ _ h => h) rfl hHeld ?yz28 ?rz28
    case yz28 => (intro wz hz; go_simp; first | done | with_reducible rfl)
    try simp only [Act.put, List.setIfInBounds_toArray, List.set_cons_zero, List.set_cons_succ]
    refine take_op (i := 29) (v := ?vz29) rfl (by kernel_rfl) (by kernel_rfl) (by kernel_rfl) (fun _ _ _ h => h) rfl hHeld ?yz29 ?rz29
    case yz29 => (intro wz hz; go_simp; first | done | with_reducible rfl)
    try simp only [Act.put, List.setIfInBounds_toArray, List.set_cons_zero, List.set_cons_succ]
    refine take_op (i := 30) (v := ?vz30) rfl (by kernel_rfl) (by kernel_rfl) (by kernel_rfl) (fun _ _ _ h => h) rfl hHeld ?yz30 ?rz30
    case yz30 => (intro wz hz; go_simp; first | done | with_reducible rfl)
    try simp only [Act.put, List.setIfInBounds_toArray, List.set_cons_zero, List.set_cons_succ]
    refine take_load (i := 31) rfl (by kernel_rfl) (by kernel_rfl) (by kernel_rfl) 29 _ rfl g2 96 32 (arrV (lf 5)) rfl _ Tryd.underlying29 rfl (by kernel_rfl) (fun _ _ _ h => h) rfl hHeld (fun wz hz => P3.out wz hz) ?_
    try simp only [Act.put, List.setIfInBounds_toArray, List.set_cons_zero, List.set_cons_succ]
    refine take_op (i := 32) (v := ?vz32) rfl (by kernel_rfl) (by kernel_rfl) (by kernel_rfl) (fun _ _ _ h => h) rfl hHeld ?yz32 ?rz32
    case yz32 => (intro wz hz; go_simp; first | done | with_reducible rfl)
    try simp only [Act.put, List.setIfInBounds_toArray, List.set_cons_zero, List.set_cons_succ]
    refine take_op (i := 33) (v := ?vz33) rfl (by kernel_rfl) (by kernel_rfl) (by kernel_rfl) (fun _ _ _ h => h) rfl hHeld ?yz33 ?rz33
    case yz33 => (intro wz hz; go_simp; first | done | with_reducible rfl)
    try simp only [Act.put, List.setIfInBounds_toArray, List.set_cons_zero, List.set_cons_succ]
    refine take_load (i := 34) rfl (by kernel_rfl) (by kernel_rfl) (by kernel_rfl) 29 _ rfl b 128 32 (arrV (lf 5)) rfl _ Tryd.underlying29 rfl (by kernel_rfl) (fun _ _ _ h => h) rfl hHeld (fun wz hz => F4.out wz hz) ?_
    try simp only [Act.put, List.setIfInBounds_toArray, List.set_cons_zero, List.set_cons_succ]
    refine take_op (i := 35) (v := ?vz35) rfl (by kernel_rfl) (by kernel_rfl) (by kernel_rfl) (fun _ _ _ h => h) rfl hHeld ?yz35 ?rz35
    case yz35 => (intro wz hz; have hcz := E5.out wz; go_simp; first | done | with_reducible rfl)
    try simp only [Act.put, List.setIfInBounds_toArray, List.set_cons_zero, List.set_cons_succ]
    refine take_op (i := 36) (v := ?vz36) rfl (by kernel_rfl) (by kernel_rfl) (by kernel_rfl) (fun _ _ _ h => h) rfl hHeld ?yz36 ?rz36
    case yz36 => (intro wz hz; go_simp; first | done | with_reducible rfl)
    try simp only [Act.put, List.setIfInBounds_toArray, List.set_cons_zero, List.set_cons_succ]
    refine take_op (i := 37) (v := ?vz37) rfl (by kernel_rfl) (by kernel_rfl) (by kernel_rfl) (fun _ _ _ h => h) rfl hHeld ?yz37 ?rz37
    case yz37 => (intro wz hz; go_simp; first | done | with_reducible rfl)
    try simp only [Act.put, List.setIfInBounds_toArray, List.set_cons_zero, List.set_cons_succ]
    refine take_op (i := 38) (v := ?vz38) rfl (by kernel_rfl) (by kernel_rfl) (by kernel_rfl) (fun _ _ _ h => h) rfl hHeld ?yz38 ?rz38
    case yz38 => (intro wz hz; go_simp; first | done | with_reducible rfl)
    try simp only [Act.put, List.setIfInBounds_toArray, List.set_cons_zero, List.set_cons_succ]
    refine take_op (i := 39) (v := ?vz39) rfl (by kernel_rfl) (by kernel_rfl) (by kernel_rfl) (fun _ _ _ h => h) rfl hHeld ?yz39 ?rz39
    case yz39 => (intro wz hz; go_simp; first | done | with_reducible rfl)
    try simp only [Act.put, List.setIfInBounds_toArray, List.set_cons_zero, List.set_cons_succ]
    refine take_op (i := 40) (v := ?vz40) rfl (by kernel_rfl) (by kernel_rfl) (by kernel_rfl) (fun _ _ _ h => h) rfl hHeld ?yz40 ?rz40
    case yz40 => (intro wz hz; go_simp; first | done | with_reducible rfl)
    try simp only [Act.put, List.setIfInBounds_toArray, List.set_cons_zero, List.set_cons_succ]
    refine take_op (i := 41) (v := ?vz41) rfl (by kernel_rfl) (by kernel_rfl) (by kernel_rfl) (fun _ _ _ h => h) rfl hHeld ?yz41 ?rz41
    case yz41 => (intro wz hz; go_simp; first | done | with_reducible rfl)
    try simp only [Act.put, List.setIfInBounds_toArray, List.set_cons_zero, List.set_cons_succ]
    refine take_op (i := 42) (v := ?vz42) rfl (by kernel_rfl) (by kernel_rfl) (by kernel_rfl) (fun _ _ _ h => h) rfl hHeld ?yz42 ?rz42
    case yz42 => (intro wz hz; go_simp; first | done | with_reducible rfl)
    try simp only [Act.put, List.setIfInBounds_toArray, List.set_cons_zero, List.set_cons_succ]
    refine take_op (i := 43) (v := ?vz43) rfl (by kernel_rfl) (by kernel_rfl) (by kernel_rfl) (fun _ _ _ h => h) rfl hHeld ?yz43 ?rz43
    case yz43 => (intro wz hz; go_simp; first | done | with_reducible rfl)
    try simp only [Act.put, List.setIfInBounds_toArray, List.set_cons_zero, List.set_cons_succ]
    refine take_op (i := 44) (v := ?vz44) rfl (by kernel_rfl) (by kernel_rfl) (by kernel_rfl) (fun _ _ _ h => h) rfl hHeld ?yz44 ?rz44
    case yz44 => (intro wz hz; go_simp; first | done | with_reducible rfl)
    try simp only [Act.put, List.setIfInBounds_toArray, List.set_cons_zero, List.set_cons_succ]
    refine take_load (i := 45) rfl (by kernel_rfl) (by kernel_rfl) (by kernel_rfl) 29 _ rfl g3 0 32 (arrV (lf 5)) rfl _ Tryd.underlying29 rfl (by kernel_rfl) (fun _ _ _ h => h) rfl hHeld (fun wz hz => Q0.out wz hz) ?_
    try simp only [Act.put, List.setIfInBounds_toArray, List.set_cons_zero, List.set_cons_succ]
    refine take_op (i := 46) (v := ?vz46) rfl (by kernel_rfl) (by kernel_rfl) (by kernel_rfl) (fun _ _ _ h => h) rfl hHeld ?yz46 ?rz46
    case yz46 => (intro wz hz; go_simp; first | done | with_reducible rfl)
    try simp only [Act.put, List.setIfInBounds_toArray, List.set_cons_zero, List.set_cons_succ]
    refine take_op (i := 47) (v := ?vz47) rfl (by kernel_rfl) (by kernel_rfl) (by kernel_rfl) (fun _ _ _ h => h) rfl hHeld ?yz47 ?rz47
    case yz47 => (intro wz hz; go_simp; first | done | with_reducible rfl)
    try simp only [Act.put, List.setIfInBounds_toArray, List.set_cons_zero, List.set_cons_succ]
    refine take_load (i := 48) rfl (by kernel_rfl) (by kernel_rfl) (by kernel_rfl) 29 _ rfl b 128 32 (arrV (lf 5)) rfl _ Tryd.underlying29 rfl (by kernel_rfl) (fun _ _ _ h => h) rfl hHeld (fun wz hz => F4.out wz hz) ?_
    try simp only [Act.put, List.setIfInBounds_toArray, List.set_cons_zero, List.set_cons_succ]
    refine take_op (i := 49) (v := ?vz49) rfl (by kernel_rfl) (by kernel_rfl) (by kernel_rfl) (fun _ _ _ h => h) rfl hHeld ?yz49 ?rz49
    case yz49 => (intro wz hz; have hcz := E5.out wz; go_simp; first | done | with_reducible rfl)
    try simp only [Act.put, List.setIfInBounds_toArray, List.set_cons_zero, List.set_cons_succ]
    refine take_op (i := 50) (v := ?vz50) rfl (by kernel_rfl) (by kernel_rfl) (by kernel_rfl) (fun _ _ _ h => h) rfl hHeld ?yz50 ?rz50
    case yz50 => (intro wz hz; go_simp; first | done | with_reducible rfl)
    try simp only [Act.put, List.setIfInBounds_toArray, List.set_cons_zero, List.set_cons_succ]
    refine take_op (i := 51) (v := ?vz51) rfl (by kernel_rfl) (by kernel_rfl) (by kernel_rfl) (fun _ _ _ h => h) rfl hHeld ?yz51 ?rz51
    case yz51 => (intro wz hz; go_simp; first | done | with_reducible rfl)
    try simp only [Act.put, List.setIfInBounds_toArray, List.set_cons_zero, List.set_cons_succ]
    refine take_load (i := 52) rfl (by kernel_rfl) (by kernel_rfl) (by kernel_rfl) 29 _ rfl b5 0 32 (arrV R4) rfl _ Tryd.underlying29 rfl (by kernel_rfl) (fun _ _ _ h => h) rfl hHeld (fun wz hz => L5.out wz hz) ?_
    try simp only [Act.put, List.setIfInBounds_toArray, List.set_cons_zero, List.set_cons_succ]
    refine take_load (i := 53) rfl (by kernel_rfl) (by kernel_rfl) (by kernel_rfl) 29 _ rfl b4 0 32 (arrV R5) rfl _ Tryd.underlying29 rfl (by kernel_rfl) (fun _ _ _ h => h) rfl hHeld (fun wz hz => L4.out wz hz) ?_
    try simp only [Act.put, List.setIfInBounds_toArray, List.set_cons_zero, List.set_cons_succ]
    refine take_op (i := 54) (v := ?vz54) rfl (by kernel_rfl) (by kernel_rfl) (by kernel_rfl) (fun _ _ _ h => h) rfl hHeld ?yz54 ?rz54
    case yz54 => (intro wz hz; go_simp; first | done | with_reducible rfl)
    try simp only [Act.put, List.setIfInBounds_toArray, List.set_cons_zero, List.set_cons_succ]
    have Y55 := (by have h := ext_nil 4 5 R4 R5 [lf 5] (.slice (some ⟨g3, 0, none⟩) 1 c3) x11 (by omega) (by omega) SR.out.2 SR.out.1 (TZ.out _ hHeld).2 (by simp) (TZ.out _ hHeld).1; rw [ext_five.1] at h; exact h : Calls Tryd.prog 15 #[.pointer none, .int .i64 4, .int .i64 5, .agg (rowV 32 (arrV R4)), .agg (rowV 32 (arrV R5)), (.slice (some ⟨g3, 0, none⟩) 1 c3)] x11 fun e w' => e = .returned (.int .i64 0) ∧ Below (x11).heap.size (x11) w')
    refine take_one (i := 55) rfl (by kernel_rfl) rfl (fun K hK => ?_)
    go_simp
    refine Calls.mono Y55 ?_
    rintro e x55 ⟨rfl, bz⟩
    have bx55 : Below w6.heap.size w6 x55 := hHeld.trans (bz.mono hHeld.size)
    clear Y55 bz
    refine hK.out _ _ bx55 (fun hHeld => ?_)
    clear hK K
    try simp only [Act.put, List.setIfInBounds_toArray, List.set_cons_zero, List.set_cons_succ]
    refine take_op (i := 56) (v := ?vz56) rfl (by kernel_rfl) (by kernel_rfl) (by kernel_rfl) (fun _ _ _ h => h) rfl hHeld ?yz56 ?rz56
    case yz56 => (intro wz hz; go_simp; first | done | with_reducible rfl)
    try simp only [Act.put, List.setIfInBounds_toArray, List.set_cons_zero, List.set_cons_succ]
    refine take_op (i := 57) (v := ?vz57) rfl (by kernel_rfl) (by kernel_rfl) (by kernel_rfl) (fun _ _ _ h => h) rfl hHeld ?yz57 ?rz57
    case yz57 => (intro wz hz; go_simp; first | done | with_reducible rfl)
    try simp only [Act.put, List.setIfInBounds_toArray, List.set_cons_zero, List.set_cons_succ]
    refine take_op (i := 58) (v := ?vz58) rfl (by kernel_rfl) (by kernel_rfl) (by kernel_rfl) (fun _ _ _ h => h) rfl hHeld ?yz58 ?rz58
    case yz58 => (intro wz hz; go_simp; first | done | with_reducible rfl)
    try simp only [Act.put, List.setIfInBounds_toArray, List.set_cons_zero, List.set_cons_succ]
    refine take_load (i := 59) rfl (by kernel_rfl) (by kernel_rfl) (by kernel_rfl) 29 _ rfl b4 0 32 (arrV R5) rfl _ Tryd.underlying29 rfl (by kernel_rfl) (fun _ _ _ h => h) rfl hHeld (fun wz hz => L4.out wz hz) ?_
    try simp only [Act.put, List.setIfInBounds_toArray, List.set_cons_zero, List.set_cons_succ]
    refine take_load (i := 60) rfl (by kernel_rfl) (by kernel_rfl) (by kernel_rfl) 29 _ rfl b4 0 32 (arrV R5) rfl _ Tryd.underlying29 rfl (by kernel_rfl) (fun _ _ _ h => h) rfl hHeld (fun wz hz => L4.out wz hz) ?_
    try simp only [Act.put, List.setIfInBounds_toArray, List.set_cons_zero, List.set_cons_succ]
    refine take_op (i := 61) (v := ?vz61) rfl (by kernel_rfl) (by kernel_rfl) (by kernel_rfl) (fun _ _ _ h => h) rfl hHeld ?yz61 ?rz61
    case yz61 => (intro wz hz; go_simp; first | done | with_reducible rfl)
    try simp only [Act.put, List.setIfInBounds_toArray, List.set_cons_zero, List.set_cons_succ]
    have Y62 := (by have h := ext_nil 4 5 R5 R5 [lf 5] (.slice (some ⟨g3, 0, none⟩) 1 c3) x55 (by omega) (by omega) SR.out.1 SR.out.1 (TZ.out _ hHeld).2 (by simp) (TZ.out _ hHeld).1; rw [ext_five.2.1] at h; exact h : Calls Tryd.prog 15 #[.pointer none, .int .i64 4, .int .i64 5, .agg (rowV 32 (arrV R5)), .agg (rowV 32 (arrV R5)), (.slice (some ⟨g3, 0, none⟩) 1 c3)] x55 fun e w' => e = .returned (.int .i64 10) ∧ Below (x55).heap.size (x55) w')
    refine take_one (i := 62) rfl (by kernel_rfl) rfl (fun K hK => ?_)
    go_simp
    refine Calls.mono Y62 ?_
    rintro e x62 ⟨rfl, bz⟩
    have bx62 : Below w6.heap.size w6 x62 := hHeld.trans (bz.mono hHeld.size)
    clear Y62 bz
    refine hK.out _ _ bx62 (fun hHeld => ?_)
    clear hK K
    try simp only [Act.put, List.setIfInBounds_toArray, List.set_cons_zero, List.set_cons_succ]
    refine take_op (i := 63) (v := ?vz63) rfl (by kernel_rfl) (by kernel_rfl) (by kernel_rfl) (fun _ _ _ h => h) rfl hHeld ?yz63 ?rz63
    case yz63 => (intro wz hz; go_simp; first | done | with_reducible rfl)
    try simp only [Act.put, List.setIfInBounds_toArray, List.set_cons_zero, List.set_cons_succ]
    refine take_op (i := 64) (v := ?vz64) rfl (by kernel_rfl) (by kernel_rfl) (by kernel_rfl) (fun _ _ _ h => h) rfl hHeld ?yz64 ?rz64
    case yz64 => (intro wz hz; go_simp; first | done | with_reducible rfl)
    try simp only [Act.put, List.setIfInBounds_toArray, List.set_cons_zero, List.set_cons_succ]
    refine take_op (i := 65) (v := ?vz65) rfl (by kernel_rfl) (by kernel_rfl) (by kernel_rfl) (fun _ _ _ h => h) rfl hHeld ?yz65 ?rz65
    case yz65 => (intro wz hz; go_simp; first | done | with_reducible rfl)
    try simp only [Act.put, List.setIfInBounds_toArray, List.set_cons_zero, List.set_cons_succ]
    refine take_load (i := 67) rfl (by kernel_rfl) (by kernel_rfl) (by kernel_rfl) 29 _ rfl b4 0 32 (arrV R5) rfl _ Tryd.underlying29 rfl (by kernel_rfl) (fun _ _ _ h => h) rfl hHeld (fun wz hz => L4.out wz hz) ?_
    try simp only [Act.put, List.setIfInBounds_toArray, List.set_cons_zero, List.set_cons_succ]
    have Y66 := (root_nil 1000 [] (.slice none 0 0) x62 (by simp) (by omega) (sumsAt.nil _) (TZ.out _ hHeld).1 : Calls Tryd.prog 18 #[.pointer none, .slice none 0 0] x62 fun e w' => e = .returned (.agg (rowV 32 (arrV (rootS [])))) ∧ Below (x62).heap.size (x62) w')
    refine take_one (i := 66) rfl (by kernel_rfl) rfl (fun K hK => ?_)
    go_simp
    refine Calls.mono Y66 ?_
    rintro e x66 ⟨rfl, bz⟩
    have bx66 : Below w6.heap.size w6 x66 := hHeld.trans (bz.mono hHeld.size)
    clear Y66 bz
    refine hK.out _ _ bx66 (fun hHeld => ?_)
    clear hK K
    try simp only [Act.put, List.setIfInBounds_toArray, List.set_cons_zero, List.set_cons_succ]
    have Y68 := (by have h := ext_nil 0 5 (rootS []) R5 [] (.slice none 0 0) x66 (by omega) (by omega) (rootS_sum (fun x hx => by simp at hx)) SR.out.1 (sumsAt.nil _) (by simp) (TZ.out _ hHeld).1; rw [ext_five.2.2.1] at h; exact h : Calls Tryd.prog 15 #[.pointer none, .int .i64 0, .int .i64 5, .agg (rowV 32 (arrV (rootS []))), .agg (rowV 32 (arrV R5)), (.slice none 0 0)] x66 fun e w' => e = .returned (.int .i64 0) ∧ Below (x66).heap.size (x66) w')
    refine take_one (i := 68) rfl (by kernel_rfl) rfl (fun K hK => ?_)
    go_simp
    refine Calls.mono Y68 ?_
    rintro e x68 ⟨rfl, bz⟩
    have bx68 : Below w6.heap.size w6 x68 := hHeld.trans (bz.mono hHeld.size)
    clear Y68 bz
    refine hK.out _ _ bx68 (fun hHeld => ?_)
    clear hK K
    try simp only [Act.put, List.setIfInBounds_toArray, List.set_cons_zero, List.set_cons_succ]
    refine take_op (i := 69) (v := ?vz69) rfl (by kernel_rfl) (by kernel_rfl) (by kernel_rfl) (fun _ _ _ h => h) rfl hHeld ?yz69 ?rz69
    case yz69 => (intro wz hz; go_simp; first | done | with_reducible rfl)
    try simp only [Act.put, List.setIfInBounds_toArray, List.set_cons_zero, List.set_cons_succ]
    refine take_op (i := 70) (v := ?vz70) rfl (by kernel_rfl) (by kernel_rfl) (by kernel_rfl) (fun _ _ _ h => h) rfl hHeld ?yz70 ?rz70
    case yz70 => (intro wz hz; go_simp; first | done | with_reducible rfl)
    try simp only [Act.put, List.setIfInBounds_toArray, List.set_cons_zero, List.set_cons_succ]
    refine take_op (i := 71) (v := ?vz71) rfl (by kernel_rfl) (by kernel_rfl) (by kernel_rfl) (fun _ _ _ h => h) rfl hHeld ?yz71 ?rz71
    case yz71 => (intro wz hz; go_simp; first | done | with_reducible rfl)
    try simp only [Act.put, List.setIfInBounds_toArray, List.set_cons_zero, List.set_cons_succ]
    refine take_load (i := 72) rfl (by kernel_rfl) (by kernel_rfl) (by kernel_rfl) 29 _ rfl b5 0 32 (arrV R4) rfl _ Tryd.underlying29 rfl (by kernel_rfl) (fun _ _ _ h => h) rfl hHeld (fun wz hz => L5.out wz hz) ?_
    try simp only [Act.put, List.setIfInBounds_toArray, List.set_cons_zero, List.set_cons_succ]
    refine take_load (i := 73) rfl (by kernel_rfl) (by kernel_rfl) (by kernel_rfl) 29 _ rfl b4 0 32 (arrV R5) rfl _ Tryd.underlying29 rfl (by kernel_rfl) (fun _ _ _ h => h) rfl hHeld (fun wz hz => L4.out wz hz) ?_
    try simp only [Act.put, List.setIfInBounds_toArray, List.set_cons_zero, List.set_cons_succ]
    have Y74 := (by have h := ext_nil 6 5 R4 R5 [] (.slice none 0 0) x68 (by omega) (by omega) SR.out.2 SR.out.1 (sumsAt.nil _) (by simp) (TZ.out _ hHeld).1; rw [ext_five.2.2.2] at h; exact h : Calls Tryd.prog 15 #[.pointer none, .int .i64 6, .int .i64 5, .agg (rowV 32 (arrV R4)), .agg (rowV 32 (arrV R5)), (.slice none 0 0)] x68 fun e w' => e = .returned (.int .i64 10) ∧ Below (x68).heap.size (x68) w')
    refine take_one (i := 74) rfl (by kernel_rfl) rfl (fun K hK => ?_)
    go_simp
    refine Calls.mono Y74 ?_
    rintro e x74 ⟨rfl, bz⟩
    have bx74 : Below w6.heap.size w6 x74 := hHeld.trans (bz.mono hHeld.size)
    clear Y74 bz
    refine hK.out _ _ bx74 (fun hHeld => ?_)
    clear hK K
    try simp only [Act.put, List.setIfInBounds_toArray, List.set_cons_zero, List.set_cons_succ]
    refine take_op (i := 75) (v := ?vz75) rfl (by kernel_rfl) (by kernel_rfl) (by kernel_rfl) (fun _ _ _ h => h) rfl hHeld ?yz75 ?rz75
    case yz75 => (intro wz hz; go_simp; first | done | with_reducible rfl)
    try simp only [Act.put, List.setIfInBounds_toArray, List.set_cons_zero, List.set_cons_succ]
    refine take_op (i := 76) (v := ?vz76) rfl (by kernel_rfl) (by kernel_rfl) (by kernel_rfl) (fun _ _ _ h => h) rfl hHeld ?yz76 ?rz76
    case yz76 => (intro wz hz; go_simp; first | done | with_reducible rfl)
    try simp only [Act.put, List.setIfInBounds_toArray, List.set_cons_zero, List.set_cons_succ]
    refine take_op (i := 77) (v := ?vz77) rfl (by kernel_rfl) (by kernel_rfl) (by kernel_rfl) (fun _ _ _ h => h) rfl hHeld ?yz77 ?rz77
    case yz77 => (intro wz hz; go_simp; first | done | with_reducible rfl)
    try simp only [Act.put, List.setIfInBounds_toArray, List.set_cons_zero, List.set_cons_succ]
    refine wpAnyH_done (by kernel_rfl) ?_ _
    refine NoPanic.normal ?_
    have HHELD : Hid (Below w6.heap.size w6 x74) := (show Below w6.heap.size w6 x74 from hHeld)
    clear hHeld
    go_wp2
    go_ret
    exact ⟨rfl, BF.out.1.trans (HHELD.out.mono BF.out.2)⟩
end Go.Proofs.YthpnenblmkdmcaaDoor

/- l[:n], up to the whole of l. -/
namespace Go.Proofs.YthpnenblmkdmcaaDoor
set_option linter.unusedSimpArgs false
set_option linter.unusedVariables false
open Go.RowKit Go.Deep

theorem sumsAt.upto {w : World} {v : Value} {L : List (List Int)} (h : sumsAt w v L) (n : Nat) (hn : n ≤ L.length) :
    ∃ u, (∀ wz : World, (Instr.slice 22 v none (some (.int .i64 n)) none).run Tryd.prog wz = .ok u wz) ∧ sumsAt w u (L.take n) ∧ (0 < L.length → u.ownBlock = v.ownBlock) ∧ ∃ x y, u = .slice x n y := by
  by_cases h0 : 0 < L.length
  · obtain ⟨h1, a, cap, rfl, h3, h4, h5⟩ := h
    obtain ⟨g, o, rfl, hg, hc⟩ := h5 h0
    have hl : (L.take n).length = n := by simp; omega
    refine ⟨_, fun wz => run_slice_to32 22 29 g o L.length cap n Tryd.underlying22 (by kernel_rfl) (by omega) wz, ⟨fun x hx => h1 x (List.mem_of_mem_take hx), _, cap, by rw [hl], by omega, h4, fun _ => ⟨g, o, rfl, hg, fun i hi j hj => ?_⟩⟩, fun _ => rfl, _, _, rfl⟩
    rw [List.getElem_take]; exact hc i (by omega) j hj
  · obtain ⟨h1, a, cap, rfl, h3, h4, h5⟩ := h
    have hL : L = [] := List.eq_nil_of_length_eq_zero (by omega)
    subst hL
    have hn0 : n = 0 := by simpa using hn
    subst hn0
    have hs32 : (Tryd.prog.info? 29).map (·.size) = some 32 := by kernel_rfl
    have hu := Tryd.underlying22
    cases hq : Tryd.prog.info? 29 with
    | none => simp [hq] at hs32
    | some i =>
      have hi : i.size = 32 := by simpa [hq] using hs32
      refine ⟨.slice a 0 cap, fun wz => ?_, ⟨fun x hx => by simp at hx, a, cap, rfl, by simp, h4, fun h => by simp at h⟩, fun h => by omega, _, _, rfl⟩
      cases a with
      | none => simp [Instr.slice, Instr.sliceBounds, Instr.sliceBound, asIntOf, run_underlying hu, sizeOf, typeInfo, hq, hi]
      | some p => simp [Instr.slice, Instr.sliceBounds, Instr.sliceBound, asIntOf, run_underlying hu, sizeOf, typeInfo, hq, hi, Addr.add]
end Go.Proofs.YthpnenblmkdmcaaDoor

/- GrowOn: its walk. -/
namespace Go.Proofs.YthpnenblmkdmcaaDoor
set_option linter.unusedSimpArgs false
set_option linter.unusedVariables false
open Go.RowKit Go.Deep

/-- which of three boxes are made by now. -/
def st3 (w3 W : World) (a b c : Option Nat) : Prop := Below w3.heap.size w3 W ∧ (∀ x, a = some x → w3.heap.size ≤ x ∧ W.rowIs x 29 32 (fun _ => .int .u8 0)) ∧ (∀ x, b = some x → w3.heap.size ≤ x ∧ W.rowIs x 29 32 (fun _ => .int .u8 0)) ∧ (∀ x, c = some x → w3.heap.size ≤ x ∧ W.rowIs x 29 32 (fun _ => .int .u8 0)) ∧
  (∀ x, a = some x → b ≠ some x ∧ c ≠ some x) ∧ (∀ x, b = some x → c ≠ some x)
theorem st3.call {w3 W W' : World} {a b c : Option Nat} (h : st3 w3 W a b c) (hb : Below W.heap.size W W') : st3 w3 W' a b c := by
  obtain ⟨h1, h2, h3, h4, h5⟩ := h
  exact ⟨h1.trans (hb.mono h1.size), fun x hx => ⟨(h2 x hx).1, hb.row (h2 x hx).2 (gRow_lt (h2 x hx).2)⟩, fun x hx => ⟨(h3 x hx).1, hb.row (h3 x hx).2 (gRow_lt (h3 x hx).2)⟩, fun x hx => ⟨(h4 x hx).1, hb.row (h4 x hx).2 (gRow_lt (h4 x hx).2)⟩, h5⟩
theorem exec_allocR {o : Oper} {ev : Operand → Value} {w w' : World} {b : Nat} (ho : o.op = .alloc 29) (hr : (Instr.alloc 29 true (.tuple #[])).run Tryd.prog w = .ok (.pointer (some ⟨b, 0, none⟩)) w') :
    (execOp ev o).run Tryd.prog w = .ok (.value (.pointer (some ⟨b, 0, none⟩))) w' := by
  unfold execOp
  simp only [ho, Sem.run_bind, hr, Result.andThen_ok, Sem.run_pure]
theorem st3.new {w3 W : World} {a b c : Option Nat} (h : st3 w3 W a b c) : ∃ W' x, (Instr.alloc 29 true (.tuple #[])).run Tryd.prog W = .ok (.pointer (some ⟨x, 0, none⟩)) W' ∧ st3 w3 W' a b c ∧ w3.heap.size ≤ x ∧ W'.rowIs x 29 32 (fun _ => .int .u8 0) ∧ a ≠ some x ∧ b ≠ some x ∧ c ≠ some x := by
  have h' := h.call (W' := W.alloc (.cells (rowV 32 (fun _ => .int .u8 0)) 29)) ((Below.refl _ _).alloc (Nat.le_refl _) _)
  obtain ⟨h1, h2, h3, h4, _⟩ := h
  have ne : ∀ q : Option Nat, (∀ x, q = some x → w3.heap.size ≤ x ∧ W.rowIs x 29 32 (fun _ => .int .u8 0)) → q ≠ some W.heap.size := fun q hq e => by
    have := gRow_lt (hq _ e).2; omega
  exact ⟨_, W.heap.size, al32 W, h', h1.size, rowIs_box W _ _ _, ne a h2, ne b h3, ne c h4⟩
theorem st3.al1 {w3 W : World} {b c : Option Nat} (h : st3 w3 W none b c) : ∃ W' x, (Instr.alloc 29 true (.tuple #[])).run Tryd.prog W = .ok (.pointer (some ⟨x, 0, none⟩)) W' ∧ st3 w3 W' (some x) b c := by
  obtain ⟨W', x, hr, ⟨g1, _, g3, g4, _, g6⟩, hx, hrow, _, n2, n3⟩ := h.new
  exact ⟨W', x, hr, g1, fun y hy => by rw [← Option.some.inj hy]; exact ⟨hx, hrow⟩, g3, g4, fun y hy => by rw [← Option.some.inj hy]; exact ⟨n2, n3⟩, g6⟩
theorem st3.al2 {w3 W : World} {a c : Option Nat} (h : st3 w3 W a none c) : ∃ W' x, (Instr.alloc 29 true (.tuple #[])).run Tryd.prog W = .ok (.pointer (some ⟨x, 0, none⟩)) W' ∧ st3 w3 W' a (some x) c := by
  obtain ⟨W', x, hr, ⟨g1, g2, _, g4, g5, _⟩, hx, hrow, n1, _, n3⟩ := h.new
  exact ⟨W', x, hr, g1, g2, fun y hy => by rw [← Option.some.inj hy]; exact ⟨hx, hrow⟩, g4, fun y hy => ⟨fun e => n1 (by rw [hy, Option.some.inj e]), (g5 y hy).2⟩, fun y hy => by rw [← Option.some.inj hy]; exact n3⟩
theorem st3.al3 {w3 W : World} {a b : Option Nat} (h : st3 w3 W a b none) : ∃ W' x, (Instr.alloc 29 true (.tuple #[])).run Tryd.prog W = .ok (.pointer (some ⟨x, 0, none⟩)) W' ∧ st3 w3 W' a b (some x) := by
  obtain ⟨W', x, hr, ⟨g1, g2, g3, _, g5, _⟩, hx, hrow, n1, n2, _⟩ := h.new
  exact ⟨W', x, hr, g1, g2, g3, fun y hy => by rw [← Option.some.inj hy]; exact ⟨hx, hrow⟩, fun y hy => ⟨(g5 y hy).1, fun e => n1 (by rw [hy, Option.some.inj e])⟩, fun y hy e => n2 (by rw [hy, Option.some.inj e])⟩
theorem st3.fin {w3 W : World} {x y z : Nat} (h : st3 w3 W (some x) (some y) (some z)) (p q r : List Int) : ∃ V1 V2 V3, (storeVar 29 ⟨x, 0, none⟩ (.agg (rowV 32 (arrV p)))).run Tryd.prog W = .ok () V1 ∧ (storeVar 29 ⟨y, 0, none⟩ (.agg (rowV 32 (arrV q)))).run Tryd.prog V1 = .ok () V2 ∧ (storeVar 29 ⟨z, 0, none⟩ (.agg (rowV 32 (arrV r)))).run Tryd.prog V2 = .ok () V3 ∧
    V3.rowIs x 29 32 (arrV p) ∧ V3.rowIs y 29 32 (arrV q) ∧ V3.rowIs z 29 32 (arrV r) ∧ Below w3.heap.size w3 V3 := by
  obtain ⟨h1, h2, h3, h4, h5, h6⟩ := h
  obtain ⟨hx, rx⟩ := h2 x rfl
  obtain ⟨hy, ry⟩ := h3 y rfl
  obtain ⟨hz, rz⟩ := h4 z rfl
  have nxy : y ≠ x := fun e => (h5 x rfl).1 (by rw [e])
  have nxz : z ≠ x := fun e => (h5 x rfl).2 (by rw [e])
  have nyz : z ≠ y := fun e => (h6 y rfl) (by rw [e])
  have s1 := h1.size
  obtain ⟨V1, e1, q1, z1, b1⟩ := tell_store (q := p) rx
  have ry1 := b1.row ry (gRow_lt ry) nxy
  have rz1 := b1.row rz (gRow_lt rz) nxz
  obtain ⟨V2, e2, q2, z2, b2⟩ := tell_store (q := q) ry1
  have rz2 := b2.row rz1 (gRow_lt rz1) nyz
  obtain ⟨V3, e3, q3, z3, b3⟩ := tell_store (q := r) rz2
  exact ⟨V1, V2, V3, e1, e2, e3, b3.row (b2.row q1 (gRow_lt q1) (Ne.symm nxy)) (gRow_lt (b2.row q1 (gRow_lt q1) (Ne.symm nxy))) (Ne.symm nxz), b3.row q2 (gRow_lt q2) (Ne.symm nyz), q3,
    h1.trans ((b1.below' hx (by omega)).trans ((b2.below' hy (by omega)).trans (b3.below' hz (by omega))))⟩
theorem take_fourG {P : Program} {md : Region.Mode} {l : List Oper} {Q : Exit → Act → World → Prop} {S : World → Prop} {i j k m : Nat} {oi oj ok om : Oper} {fuel : Nat} {listed : Array Bool} {a : Act} {w : World} (hi : l[i]? = some oi) (hj : l[j]? = some oj) (hk : l[k]? = some ok) (hm : l[m]? = some om) (hr : Region.ready md l.toArray listed = [i, j, k, m])
    (hw : Region.wanted oi (yielded l.toArray a.tmps) = true) (hv : Region.wanted oj (yielded l.toArray a.tmps) = true) (hu : Region.wanted ok (yielded l.toArray a.tmps) = true) (ht : Region.wanted om (yielded l.toArray a.tmps) = true)
    (h1 : ∀ K' : Act → World → Prop, Shut (∀ a w, S w → (S w → wpAnyH P md l.toArray Q S fuel (listed.setIfInBounds i true) a w) → K' a w) → Oper.wp P oi a w K' Q)
    (h2 : ∀ K' : Act → World → Prop, Shut (∀ a w, S w → (S w → wpAnyH P md l.toArray Q S fuel (listed.setIfInBounds j true) a w) → K' a w) → Oper.wp P oj a w K' Q)
    (h3 : ∀ K' : Act → World → Prop, Shut (∀ a w, S w → (S w → wpAnyH P md l.toArray Q S fuel (listed.setIfInBounds k true) a w) → K' a w) → Oper.wp P ok a w K' Q)
    (h4 : ∀ K' : Act → World → Prop, Shut (∀ a w, S w → (S w → wpAnyH P md l.toArray Q S fuel (listed.setIfInBounds m true) a w) → K' a w) → Oper.wp P om a w K' Q) : wpAnyH P md l.toArray Q S (fuel + 1) listed a w :=
  wpAnyH_ready hr (by simp) (AllReadyH.cons ((list_toArray_get l i).trans hi) (fun K' hK => by rw [if_pos hw]; exact h1 K' hK)
    (AllReadyH.cons ((list_toArray_get l j).trans hj) (fun K' hK => by rw [if_pos hv]; exact h2 K' hK) (AllReadyH.cons ((list_toArray_get l k).trans hk) (fun K' hK => by rw [if_pos hu]; exact h3 K' hK) (AllReadyH.cons ((list_toArray_get l m).trans hm) (fun K' hK => by rw [if_pos ht]; exact h4 K' hK) AllReadyH.nil))))
end Go.Proofs.YthpnenblmkdmcaaDoor
