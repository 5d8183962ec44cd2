import Derived.Test.YtfgndamdhciaoaaDoorShaBackW
namespace Go.Proofs.YtfgndamdhciaoaaDoor
open Go.RowKit Go.Deep

theorem pair_cells (w : World) (a b : Int) : ∀ i, i < 2 → (w.alloc (.cells #[.int .u8 a, .int .u8 b] 5)).cell? ⟨w.heap.size, 0 + i, none⟩ = some (.int .u8 (if i = 0 then a else b)) := fun i hi => by
  have hb : (w.alloc (.cells #[.int .u8 a, .int .u8 b] 5)).heap[w.heap.size]? = some (.cells #[.int .u8 a, .int .u8 b] 5) := blk_alloc_new _ _
  rw [cell_of_row _ _ _ _ _ _ hb]
  have : i = 0 ∨ i = 1 := by omega
  rcases this with rfl | rfl <;> rfl
/-- the document's half byte: 16, where there is none. -/
def halfR (c : Int) : Int := if 48 ≤ c ∧ c ≤ 57 then c - 48 else if 97 ≤ c ∧ c ≤ 102 then c - 87 else 16
theorem halfR_eq (c : Int) : (0 ≤ halfI c → halfR c = halfI c) ∧ (halfI c < 0 → halfR c = 16) := by
  unfold halfR halfI
  by_cases h1 : 48 ≤ c ∧ c ≤ 57
  · rw [if_pos h1, if_pos h1]; exact ⟨fun _ => rfl, fun h => by omega⟩
  · rw [if_neg h1, if_neg h1]
    by_cases h2 : 97 ≤ c ∧ c ≤ 102
    · rw [if_pos h2, if_pos h2]; exact ⟨fun _ => rfl, fun h => by omega⟩
    · rw [if_neg h2, if_neg h2]; exact ⟨fun h => by omega, fun _ => rfl⟩
set_option maxHeartbeats 1000000 in
theorem half_any (c : Int) (h0 : 0 ≤ c) (h1 : c ≤ 255) (w : World) :
    Calls Tryd.prog 33 #[.int .u8 c] w fun e w' => e = .returned (.int .i64 (halfR c)) ∧ w' = w := by
  by_cases a1 : 48 ≤ c
  · by_cases a2 : c ≤ 57
    · have e : halfR c = c - 48 := if_pos ⟨a1, a2⟩
      rw [e]; clear e
      go_enter Tryd.func33, Tryd.ntmps33
      go_wp2
      go_ret
      exact ⟨rfl, rfl⟩
    · by_cases a3 : 97 ≤ c
      · by_cases a4 : c ≤ 102
        · have e : halfR c = c - 97 + 10 := by rw [halfR, if_neg (by omega), if_pos (by omega)]; omega
          rw [e]; clear e
          go_enter Tryd.func33, Tryd.ntmps33
          go_wp2
          go_ret
          exact ⟨rfl, rfl⟩
        · have e : halfR c = 16 := by rw [halfR, if_neg (by omega), if_neg (by omega)]
          rw [e]; clear e
          go_enter Tryd.func33, Tryd.ntmps33
          go_wp2
          go_ret
          exact ⟨rfl, rfl⟩
      · have e : halfR c = 16 := by rw [halfR, if_neg (by omega), if_neg (by omega)]
        rw [e]; clear e
        go_enter Tryd.func33, Tryd.ntmps33
        go_wp2
        go_ret
        exact ⟨rfl, rfl⟩
  · have e : halfR c = 16 := by rw [halfR, if_neg (by omega), if_neg (by omega)]
    have a3 : ¬ 97 ≤ c := by omega
    rw [e]; clear e
    go_enter Tryd.func33, Tryd.ntmps33
    go_wp2
    go_ret
    exact ⟨rfl, rfl⟩

set_option maxHeartbeats 1000000 in
set_option maxRecDepth 100000 in
theorem rread_short (s : ByteArray) (w : World) (hs : s.size ≤ maxLen) (h : s.size ≠ 64) :
    Calls Tryd.prog 22 #[.string s] w fun e w' => e = .returned (.tuple #[.agg (rowV 32 fun _ => .int .u8 0), .bool false]) ∧ Below w.heap.size w w' := by
  have hs2 := hs
  unfold maxLen at hs2
  have hi32 : (Tryd.prog.info? 26).map (·.size) = some 32 := by kernel_rfl
  have hne : ((s.size : Int) != 64) = true := by rw [bne_iff_ne]; omega
  have hz : ∀ w : World, (zeroValue 26).run Tryd.prog w = .ok (.agg (rowV 32 (fun _ => .int .u8 0))) w := fun w => by kernel_rfl
  have r0 := rowIs_box w 26 32 (fun _ => .int .u8 0)
  have r1 := r0.alloc (.cells (rowV 32 fun _ => .int .u8 0) 26)
  have q1 := rowIs_box (w.alloc (.cells (rowV 32 fun _ => .int .u8 0) 26)) 26 32 (fun _ => .int .u8 0)
  simp only [nblk_alloc] at q1
  go_enter Tryd.func22, Tryd.ntmps22
  go_wp2_with (first | (refine wpList_load_seg rfl 26 _ rfl (w.heap.size + 1) 0 32 _ rfl _ Tryd.underlying26 rfl hi32 (fun i hi => by rw [Nat.zero_add]; exact q1.cell hi) ?_) | (refine wpList_store_row rfl 26 _ _ rfl rfl w.heap.size 0 32 _ rfl rfl hi32 (fun _ _ => rfl) _ _ _ r1 (by omega) ?_; intro W4 r4 hz4 hb4))
  refine bodyPost_ret (results_cell_tmp rfl _ _ w.heap.size 26 32 (fun _ => .int .u8 0) _ _ rfl rfl Tryd.underlying26 rfl hi32 (r4.congr fun i hi => ?_)) rfl ⟨rfl, (((Below.refl _ _).alloc (Nat.le_refl _) _).alloc (by simp) _).trans ((hb4.mono (by simp; omega)).below (Nat.le_refl _))⟩
  rw [if_pos (by omega)]

set_option maxHeartbeats 1000000 in
set_option maxRecDepth 100000 in
theorem rread_long (s : ByteArray) (w : World) (h : s.size = 64) :
    Calls Tryd.prog 22 #[.string s] w fun e w' => e = .returned (.tuple #[.agg (rowV 32 fun i => .int .u8 (readV s i)), .bool (readTo s 32)]) ∧ Below w.heap.size w w' := by
  have hi32 : (Tryd.prog.info? 26).map (·.size) = some 32 := by kernel_rfl
  have hne : ((s.size : Int) != 64) = false := by simp; omega
  have hz : ∀ w : World, (zeroValue 26).run Tryd.prog w = .ok (.agg (rowV 32 (fun _ => .int .u8 0))) w := fun w => by kernel_rfl
  have hs1 : s.size ≤ 64 := by omega
  have hs2 : 64 ≤ s.size := by omega
  clear h
  go_enter Tryd.func22, Tryd.ntmps22
  go_wp2
  go_loopw [5] (fun i wr => ∃ k : Nat, k ≤ 32 ∧ i = .int .i64 k ∧ Below w.heap.size w wr ∧ wr.heap.size = w.heap.size + 2 ∧ readTo s k = true ∧ wr.rowIs w.heap.size 26 32 (fun _ => .int .u8 0) ∧ wr.rowIs (w.heap.size + 1) 26 32 (fun j => .int .u8 (if j < k then readI s j else 0))) (fun i _ => 32 - (intOf i).toNat)
  case atStart =>
    refine ⟨0, by omega, rfl, ((Below.refl _ _).alloc (Nat.le_refl _) _).alloc (by simp) _, by simp, rfl, (rowIs_box w _ 32 _).alloc _, ?_⟩
    have := rowIs_box (w.alloc (.cells (rowV 32 fun _ => .int .u8 0) 26)) 26 32 (fun _ => .int .u8 0)
    simp only [nblk_alloc] at this
    exact this
  case round =>
    obtain ⟨k, hk, rfl, hb, hsz, hr, r0, r1⟩ := hrel
    have HR : Hid (readTo s k = true) := hr
    clear hr
    by_cases hlt : k < 32
    · have b0 : (0 : Int) ≤ (k : Int) := by omega
      have b1 : (k : Int) < 32 := by omega
      have e1 : IntKind.i64.wrap (2 * (k : Int)) = 2 * (k : Int) := IntWalk.i64_in _ (by omega)
      have e2 : IntKind.i64.wrap (2 * (k : Int) + 1) = 2 * (k : Int) + 1 := IntWalk.i64_in _ (by omega)
      have hx1 := sB_run s (2 * k) (2 * (k : Int)) (by omega) (by omega)
      have hx2 := sB_run s (2 * k + 1) (2 * (k : Int) + 1) (by omega) (by omega)
      have y1 := sB_byte s (2 * k)
      have y2 := sB_byte s (2 * k + 1)
      have g1 := halfI_range (sB s (2 * k))
      have g2 := halfI_range (sB s (2 * k + 1))
      have HX : Hid (readTo s (k + 1) = (decide (0 ≤ halfI (sB s (2 * k))) && decide (0 ≤ halfI (sB s (2 * k + 1))))) := by show readTo s (k + 1) = _; rw [readTo, HR.out]; rfl
      have HI : Hid (readI s k = halfI (sB s (2 * k)) * 16 + halfI (sB s (2 * k + 1))) := rfl
      have hA := halfR_eq (sB s (2 * k))
      have hB := halfR_eq (sB s (2 * k + 1))
      revert g1 g2 HX HI y1 y2 hA hB
      generalize hsa : sB s (2 * k) = ca at *
      generalize hsb : sB s (2 * k + 1) = cb at *
      clear hsa hsb
      intro y1 y2 g1 g2 HX HI hA hB
      have y10 := y1.1
      have y11 := y1.2
      have y20 := y2.1
      have y21 := y2.2
      have q1 := half_any ca y10 y11
      have q2 := half_any cb y20 y21
      have Q1 : Hid _ := q1
      have Q2 : Hid _ := q2
      clear q1 q2
      revert Q1 Q2 hA hB
      generalize halfR ca = x
      generalize halfR cb = y
      intro hA hB Q1 Q2
      have hx : 0 ≤ x ∧ x ≤ 16 ∧ (x ≤ 15 → x = halfI ca) ∧ (15 < x → halfI ca < 0) := by
        by_cases h : 0 ≤ halfI ca
        · have := hA.1 h; omega
        · have := hA.2 (by omega); omega
      have hy : 0 ≤ y ∧ y ≤ 16 ∧ (y ≤ 15 → y = halfI cb) ∧ (15 < y → halfI cb < 0) := by
        by_cases h : 0 ≤ halfI cb
        · have := hB.1 h; omega
        · have := hB.2 (by omega); omega
      have HY : Hid _ := hy
      have HXX : Hid _ := hx
      have x0 : 0 ≤ x := hx.1
      have x1 : x ≤ 16 := hx.2.1
      have yy0 : 0 ≤ y := hy.1
      have yy1 : y ≤ 16 := hy.2.1
      clear hx hy hA hB
      by_cases hX : 15 < x
      · go_wp2
        refine wp_region_noPanic ?_
        refine wp_region_held_drew (S := fun _ => True) (by kernel_rfl) trivial (fun hHeld => ?_)
        refine take_op (i := 0) (v := ?va0) rfl (by kernel_rfl) (by kernel_rfl) (by kernel_rfl) (fun _ _ _ h => h) rfl hHeld ?ya0 ?ra0
        case ya0 => (intro wz hz; go_simp; first | done | with_reducible rfl)
        try simp only [Act.put, List.setIfInBounds_toArray, List.set_cons_zero, List.set_cons_succ]
        refine take_op (i := 1) (v := ?va1) rfl (by kernel_rfl) (by kernel_rfl) (by kernel_rfl) (fun _ _ _ h => h) rfl hHeld ?ya1 ?ra1
        case ya1 => (intro wz hz; go_simp; first | done | with_reducible rfl)
        try simp only [Act.put, List.setIfInBounds_toArray, List.set_cons_zero, List.set_cons_succ]
        refine take_op (i := 2) (v := ?va2) rfl (by kernel_rfl) (by kernel_rfl) (by kernel_rfl) (fun _ _ _ h => h) rfl hHeld ?ya2 ?ra2
        case ya2 => (intro wz hz; go_simp; first | done | with_reducible rfl)
        try simp only [Act.put, List.setIfInBounds_toArray, List.set_cons_zero, List.set_cons_succ]
        refine take_op (i := 3) (v := ?va3) rfl (by kernel_rfl) (by kernel_rfl) (by kernel_rfl) (fun _ _ _ h => h) rfl hHeld ?ya3 ?ra3
        case ya3 => (intro wz hz; go_simp; first | done | with_reducible rfl)
        try simp only [Act.put, List.setIfInBounds_toArray, List.set_cons_zero, List.set_cons_succ]
        refine take_op (i := 5) (v := ?va5) rfl (by kernel_rfl) (by kernel_rfl) (by kernel_rfl) (fun _ _ _ h => h) rfl hHeld ?ya5 ?ra5
        case ya5 => (intro wz hz; go_simp; first | done | with_reducible rfl)
        try simp only [Act.put, List.setIfInBounds_toArray, List.set_cons_zero, List.set_cons_succ]
        refine take_op (i := 6) (v := ?va6) rfl (by kernel_rfl) (by kernel_rfl) (by kernel_rfl) (fun _ _ _ h => h) rfl hHeld ?ya6 ?ra6
        case ya6 => (intro wz hz; go_simp; first | done | with_reducible rfl)
        try simp only [Act.put, List.setIfInBounds_toArray, List.set_cons_zero, List.set_cons_succ]
        refine take_op (i := 7) (v := ?va7) rfl (by kernel_rfl) (by kernel_rfl) (by kernel_rfl) (fun _ _ _ h => h) rfl hHeld ?ya7 ?ra7
        case ya7 => (intro wz hz; go_simp; first | done | with_reducible rfl)
        try simp only [Act.put, List.setIfInBounds_toArray, List.set_cons_zero, List.set_cons_succ]
        refine take_op (i := 8) (v := ?va8) rfl (by kernel_rfl) (by kernel_rfl) (by kernel_rfl) (fun _ _ _ h => h) rfl hHeld ?ya8 ?ra8
        case ya8 => (intro wz hz; go_simp; first | done | with_reducible rfl)
        try simp only [Act.put, List.setIfInBounds_toArray, List.set_cons_zero, List.set_cons_succ]
        refine take_op (i := 9) (v := ?va9) rfl (by kernel_rfl) (by kernel_rfl) (by kernel_rfl) (fun _ _ _ h => h) rfl hHeld ?ya9 ?ra9
        case ya9 => (intro wz hz; go_simp; first | done | with_reducible rfl)
        try simp only [Act.put, List.setIfInBounds_toArray, List.set_cons_zero, List.set_cons_succ]
        refine take_one (i := 4) rfl (by kernel_rfl) rfl (fun K hK => ?_)
        go_simp
        refine (Q1.out _).mono ?_
        rintro e w' ⟨rfl, hww⟩
        obtain rfl := hww.symm
        clear hww
        refine hK.out _ _ trivial (fun hHeld => ?_)
        clear hK K
        try simp only [Act.put, List.setIfInBounds_toArray, List.set_cons_zero, List.set_cons_succ]
        refine take_one (i := 10) rfl (by kernel_rfl) rfl (fun K hK => ?_)
        go_simp
        refine (Q2.out _).mono ?_
        rintro e w' ⟨rfl, hww⟩
        obtain rfl := hww.symm
        clear hww
        refine hK.out _ _ trivial (fun hHeld => ?_)
        clear hK K
        try simp only [Act.put, List.setIfInBounds_toArray, List.set_cons_zero, List.set_cons_succ]
        refine take_op (i := 11) (v := ?va11) rfl (by kernel_rfl) (by kernel_rfl) (by kernel_rfl) (fun _ _ _ h => h) rfl hHeld ?ya11 ?ra11
        case ya11 => (intro wz hz; go_simp; first | done | with_reducible rfl)
        try simp only [Act.put, List.setIfInBounds_toArray, List.set_cons_zero, List.set_cons_succ]
        refine take_op (i := 12) (v := ?va12) rfl (by kernel_rfl) (by kernel_rfl) (by kernel_rfl) (fun _ _ _ h => h) rfl hHeld ?ya12 ?ra12
        case ya12 => (intro wz hz; go_simp; first | done | with_reducible rfl)
        try simp only [Act.put, List.setIfInBounds_toArray, List.set_cons_zero, List.set_cons_succ]
        refine wpAnyH_done (by kernel_rfl) ?_ _
        refine NoPanic.normal ?_
        clear hHeld
        go_wp2_with (first | (refine wpList_store_row rfl 26 _ _ rfl rfl w.heap.size 0 32 _ rfl rfl hi32 (fun _ _ => rfl) _ _ _ r0.drew (by omega) ?_; intro W4 r4 hz4 hb4))
        have hz1 := (HXX.out).2.2.2 hX
        have hno : readTo s 32 = false := readTo_no s (k + 1) 32 (by omega) (by rw [HX.out]; simp; omega)
        refine bodyPost_ret (results_cell_tmp rfl _ _ w.heap.size 26 32 (fun i => .int .u8 (readV s i)) _ _ rfl rfl Tryd.underlying26 rfl hi32 (r4.congr fun i hi => ?_)) rfl ⟨by rw [hno]; rfl, hb.drew.trans ((hb4.mono (by show _ ≤ wr.heap.size; omega)).below (Nat.le_refl _))⟩
        rw [if_pos (by omega), readV, hno, if_neg (by decide)]
      · have hX' : x ≤ 15 := by omega
        by_cases hY : 15 < y
        · go_wp2
          refine wp_region_noPanic ?_
          refine wp_region_held_drew (S := fun _ => True) (by kernel_rfl) trivial (fun hHeld => ?_)
          refine take_op (i := 0) (v := ?vb0) rfl (by kernel_rfl) (by kernel_rfl) (by kernel_rfl) (fun _ _ _ h => h) rfl hHeld ?yb0 ?rb0
          case yb0 => (intro wz hz; go_simp; first | done | with_reducible rfl)
          try simp only [Act.put, List.setIfInBounds_toArray, List.set_cons_zero, List.set_cons_succ]
          refine take_op (i := 1) (v := ?vb1) rfl (by kernel_rfl) (by kernel_rfl) (by kernel_rfl) (fun _ _ _ h => h) rfl hHeld ?yb1 ?rb1
          case yb1 => (intro wz hz; go_simp; first | done | with_reducible rfl)
          try simp only [Act.put, List.setIfInBounds_toArray, List.set_cons_zero, List.set_cons_succ]
          refine take_op (i := 2) (v := ?vb2) rfl (by kernel_rfl) (by kernel_rfl) (by kernel_rfl) (fun _ _ _ h => h) rfl hHeld ?yb2 ?rb2
          case yb2 => (intro wz hz; go_simp; first | done | with_reducible rfl)
          try simp only [Act.put, List.setIfInBounds_toArray, List.set_cons_zero, List.set_cons_succ]
          refine take_op (i := 3) (v := ?vb3) rfl (by kernel_rfl) (by kernel_rfl) (by kernel_rfl) (fun _ _ _ h => h) rfl hHeld ?yb3 ?rb3
          case yb3 => (intro wz hz; go_simp; first | done | with_reducible rfl)
          try simp only [Act.put, List.setIfInBounds_toArray, List.set_cons_zero, List.set_cons_succ]
          refine take_op (i := 5) (v := ?vb5) rfl (by kernel_rfl) (by kernel_rfl) (by kernel_rfl) (fun _ _ _ h => h) rfl hHeld ?yb5 ?rb5
          case yb5 => (intro wz hz; go_simp; first | done | with_reducible rfl)
          try simp only [Act.put, List.setIfInBounds_toArray, List.set_cons_zero, List.set_cons_succ]
          refine take_op (i := 6) (v := ?vb6) rfl (by kernel_rfl) (by kernel_rfl) (by kernel_rfl) (fun _ _ _ h => h) rfl hHeld ?yb6 ?rb6
          case yb6 => (intro wz hz; go_simp; first | done | with_reducible rfl)
          try simp only [Act.put, List.setIfInBounds_toArray, List.set_cons_zero, List.set_cons_succ]
          refine take_op (i := 7) (v := ?vb7) rfl (by kernel_rfl) (by kernel_rfl) (by kernel_rfl) (fun _ _ _ h => h) rfl hHeld ?yb7 ?rb7
          case yb7 => (intro wz hz; go_simp; first | done | with_reducible rfl)
          try simp only [Act.put, List.setIfInBounds_toArray, List.set_cons_zero, List.set_cons_succ]
          refine take_op (i := 8) (v := ?vb8) rfl (by kernel_rfl) (by kernel_rfl) (by kernel_rfl) (fun _ _ _ h => h) rfl hHeld ?yb8 ?rb8
          case yb8 => (intro wz hz; go_simp; first | done | with_reducible rfl)
          try simp only [Act.put, List.setIfInBounds_toArray, List.set_cons_zero, List.set_cons_succ]
          refine take_op (i := 9) (v := ?vb9) rfl (by kernel_rfl) (by kernel_rfl) (by kernel_rfl) (fun _ _ _ h => h) rfl hHeld ?yb9 ?rb9
          case yb9 => (intro wz hz; go_simp; first | done | with_reducible rfl)
          try simp only [Act.put, List.setIfInBounds_toArray, List.set_cons_zero, List.set_cons_succ]
          refine take_one (i := 4) rfl (by kernel_rfl) rfl (fun K hK => ?_)
          go_simp
          refine (Q1.out _).mono ?_
          rintro e w' ⟨rfl, hww⟩
          obtain rfl := hww.symm
          clear hww
          refine hK.out _ _ trivial (fun hHeld => ?_)
          clear hK K
          try simp only [Act.put, List.setIfInBounds_toArray, List.set_cons_zero, List.set_cons_succ]
          refine take_one (i := 10) rfl (by kernel_rfl) rfl (fun K hK => ?_)
          go_simp
          refine (Q2.out _).mono ?_
          rintro e w' ⟨rfl, hww⟩
          obtain rfl := hww.symm
          clear hww
          refine hK.out _ _ trivial (fun hHeld => ?_)
          clear hK K
          try simp only [Act.put, List.setIfInBounds_toArray, List.set_cons_zero, List.set_cons_succ]
          refine take_op (i := 11) (v := ?vb11) rfl (by kernel_rfl) (by kernel_rfl) (by kernel_rfl) (fun _ _ _ h => h) rfl hHeld ?yb11 ?rb11
          case yb11 => (intro wz hz; go_simp; first | done | with_reducible rfl)
          try simp only [Act.put, List.setIfInBounds_toArray, List.set_cons_zero, List.set_cons_succ]
          refine take_op (i := 12) (v := ?vb12) rfl (by kernel_rfl) (by kernel_rfl) (by kernel_rfl) (fun _ _ _ h => h) rfl hHeld ?yb12 ?rb12
          case yb12 => (intro wz hz; go_simp; first | done | with_reducible rfl)
          try simp only [Act.put, List.setIfInBounds_toArray, List.set_cons_zero, List.set_cons_succ]
          refine wpAnyH_done (by kernel_rfl) ?_ _
          refine NoPanic.normal ?_
          clear hHeld
          go_wp2_with (first | (refine wpList_store_row rfl 26 _ _ rfl rfl w.heap.size 0 32 _ rfl rfl hi32 (fun _ _ => rfl) _ _ _ r0.drew (by omega) ?_; intro W4 r4 hz4 hb4))
          have hz1 := (HY.out).2.2.2 hY
          have hno : readTo s 32 = false := readTo_no s (k + 1) 32 (by omega) (by rw [HX.out]; simp; omega)
          refine bodyPost_ret (results_cell_tmp rfl _ _ w.heap.size 26 32 (fun i => .int .u8 (readV s i)) _ _ rfl rfl Tryd.underlying26 rfl hi32 (r4.congr fun i hi => ?_)) rfl ⟨by rw [hno]; rfl, hb.drew.trans ((hb4.mono (by show _ ≤ wr.heap.size; omega)).below (Nat.le_refl _))⟩
          rw [if_pos (by omega), readV, hno, if_neg (by decide)]
        · have hY' : y ≤ 15 := by omega
          have c1 := r1.cell (i := k) (by omega)
          have z1 := r1.frozen k
          go_wp2
          refine wp_region_noPanic ?_
          refine wp_region_held_drew (S := fun _ => True) (by kernel_rfl) trivial (fun hHeld => ?_)
          refine take_op (i := 0) (v := ?vc0) rfl (by kernel_rfl) (by kernel_rfl) (by kernel_rfl) (fun _ _ _ h => h) rfl hHeld ?yc0 ?rc0
          case yc0 => (intro wz hz; go_simp; first | done | with_reducible rfl)
          try simp only [Act.put, List.setIfInBounds_toArray, List.set_cons_zero, List.set_cons_succ]
          refine take_op (i := 1) (v := ?vc1) rfl (by kernel_rfl) (by kernel_rfl) (by kernel_rfl) (fun _ _ _ h => h) rfl hHeld ?yc1 ?rc1
          case yc1 => (intro wz hz; go_simp; first | done | with_reducible rfl)
          try simp only [Act.put, List.setIfInBounds_toArray, List.set_cons_zero, List.set_cons_succ]
          refine take_op (i := 2) (v := ?vc2) rfl (by kernel_rfl) (by kernel_rfl) (by kernel_rfl) (fun _ _ _ h => h) rfl hHeld ?yc2 ?rc2
          case yc2 => (intro wz hz; go_simp; first | done | with_reducible rfl)
          try simp only [Act.put, List.setIfInBounds_toArray, List.set_cons_zero, List.set_cons_succ]
          refine take_op (i := 3) (v := ?vc3) rfl (by kernel_rfl) (by kernel_rfl) (by kernel_rfl) (fun _ _ _ h => h) rfl hHeld ?yc3 ?rc3
          case yc3 => (intro wz hz; go_simp; first | done | with_reducible rfl)
          try simp only [Act.put, List.setIfInBounds_toArray, List.set_cons_zero, List.set_cons_succ]
          refine take_op (i := 5) (v := ?vc5) rfl (by kernel_rfl) (by kernel_rfl) (by kernel_rfl) (fun _ _ _ h => h) rfl hHeld ?yc5 ?rc5
          case yc5 => (intro wz hz; go_simp; first | done | with_reducible rfl)
          try simp only [Act.put, List.setIfInBounds_toArray, List.set_cons_zero, List.set_cons_succ]
          refine take_op (i := 6) (v := ?vc6) rfl (by kernel_rfl) (by kernel_rfl) (by kernel_rfl) (fun _ _ _ h => h) rfl hHeld ?yc6 ?rc6
          case yc6 => (intro wz hz; go_simp; first | done | with_reducible rfl)
          try simp only [Act.put, List.setIfInBounds_toArray, List.set_cons_zero, List.set_cons_succ]
          refine take_op (i := 7) (v := ?vc7) rfl (by kernel_rfl) (by kernel_rfl) (by kernel_rfl) (fun _ _ _ h => h) rfl hHeld ?yc7 ?rc7
          case yc7 => (intro wz hz; go_simp; first | done | with_reducible rfl)
          try simp only [Act.put, List.setIfInBounds_toArray, List.set_cons_zero, List.set_cons_succ]
          refine take_op (i := 8) (v := ?vc8) rfl (by kernel_rfl) (by kernel_rfl) (by kernel_rfl) (fun _ _ _ h => h) rfl hHeld ?yc8 ?rc8
          case yc8 => (intro wz hz; go_simp; first | done | with_reducible rfl)
          try simp only [Act.put, List.setIfInBounds_toArray, List.set_cons_zero, List.set_cons_succ]
          refine take_op (i := 9) (v := ?vc9) rfl (by kernel_rfl) (by kernel_rfl) (by kernel_rfl) (fun _ _ _ h => h) rfl hHeld ?yc9 ?rc9
          case yc9 => (intro wz hz; go_simp; first | done | with_reducible rfl)
          try simp only [Act.put, List.setIfInBounds_toArray, List.set_cons_zero, List.set_cons_succ]
          refine take_one (i := 4) rfl (by kernel_rfl) rfl (fun K hK => ?_)
          go_simp
          refine (Q1.out _).mono ?_
          rintro e w' ⟨rfl, hww⟩
          obtain rfl := hww.symm
          clear hww
          refine hK.out _ _ trivial (fun hHeld => ?_)
          clear hK K
          try simp only [Act.put, List.setIfInBounds_toArray, List.set_cons_zero, List.set_cons_succ]
          refine take_one (i := 10) rfl (by kernel_rfl) rfl (fun K hK => ?_)
          go_simp
          refine (Q2.out _).mono ?_
          rintro e w' ⟨rfl, hww⟩
          obtain rfl := hww.symm
          clear hww
          refine hK.out _ _ trivial (fun hHeld => ?_)
          clear hK K
          try simp only [Act.put, List.setIfInBounds_toArray, List.set_cons_zero, List.set_cons_succ]
          refine take_op (i := 11) (v := ?vc11) rfl (by kernel_rfl) (by kernel_rfl) (by kernel_rfl) (fun _ _ _ h => h) rfl hHeld ?yc11 ?rc11
          case yc11 => (intro wz hz; go_simp; first | done | with_reducible rfl)
          try simp only [Act.put, List.setIfInBounds_toArray, List.set_cons_zero, List.set_cons_succ]
          refine take_op (i := 12) (v := ?vc12) rfl (by kernel_rfl) (by kernel_rfl) (by kernel_rfl) (fun _ _ _ h => h) rfl hHeld ?yc12 ?rc12
          case yc12 => (intro wz hz; go_simp; first | done | with_reducible rfl)
          try simp only [Act.put, List.setIfInBounds_toArray, List.set_cons_zero, List.set_cons_succ]
          refine wpAnyH_done (by kernel_rfl) ?_ _
          refine NoPanic.normal ?_
          clear hHeld
          go_wp2
          go_light
          have ex := (HXX.out).2.2.1 hX'
          have ey := (HY.out).2.2.1 hY'
          refine ⟨⟨k + 1, by omega, by go_num, (hb.setCell (by simp) _).drew, by simpa using hsz, by rw [HX.out]; simp; omega, (r0.setOther (by simp) _).drew, ((r1.set k _).drew).congr fun i _ => ?_⟩, by simp [intOf]; omega⟩
          by_cases e : i = k
          · subst e; rw [if_pos rfl, if_pos (by omega), HI.out, ← ex, ← ey, Int.mul_comm]
          · rw [if_neg e]
            by_cases e2 : i < k
            · rw [if_pos e2, if_pos (by omega)]
            · rw [if_neg e2, if_neg (by omega)]
    · obtain rfl : k = 32 := by omega
      have hyes := HR.out
      clear hlt hk
      go_wp2_with (first | (refine wpList_load_seg rfl 26 _ rfl (w.heap.size + 1) 0 32 _ rfl _ Tryd.underlying26 rfl hi32 (fun i hi => by rw [Nat.zero_add]; exact r1.cell hi) ?_) | (refine wpList_store_row rfl 26 _ _ rfl rfl w.heap.size 0 32 _ rfl rfl hi32 (fun _ _ => rfl) _ _ _ r0 (by omega) ?_; intro W4 r4 hz4 hb4))
      refine bodyPost_ret (results_cell_tmp rfl _ _ w.heap.size 26 32 (fun i => .int .u8 (readV s i)) _ _ rfl rfl Tryd.underlying26 rfl hi32 (r4.congr fun i hi => ?_)) rfl ⟨by rw [HR.out]; rfl, hb.trans ((hb4.mono (by omega)).below (Nat.le_refl _))⟩
      rw [if_pos (by omega), readV, if_pos HR.out, Nat.sub_zero, if_pos (by omega)]

/-- the document's Read, of any text, is sha's. -/
theorem rread_yF (s : ByteArray) (w : World) (hs : s.size ≤ maxLen) :
    Calls Tryd.prog 22 #[.string s] w fun e w' => e = .returned (.tuple #[.agg (rowV 32 fun i => .int .u8 (yF s i)), .bool (readOk s)]) ∧ Below w.heap.size w w' := by
  by_cases h : s.size = 64
  · have e : readOk s = readTo s 32 := by rw [readOk, h]; rfl
    have e2 : (rowV 32 fun i => Value.int .u8 (yF s i)) = rowV 32 fun i => .int .u8 (readV s i) := rowV_congr fun i hi => by rw [yF, readV, e, if_pos hi]
    rw [e2, e]
    exact rread_long s w h
  · have e : readOk s = false := by rw [readOk]; simp [h]
    have e2 : (rowV 32 fun i => Value.int .u8 (yF s i)) = rowV 32 fun _ => .int .u8 0 := rowV_congr fun i _ => by rw [yF, e]; rfl
    rw [e2, e]
    exact rread_short s w hs h

theorem strOf_append (l m : List Int) : strOf (l ++ m) = strOf l ++ strOf m := by
  apply ByteArray.ext
  rw [ByteArray.data_append]
  simp [strOf]
theorem printI_two (f : Nat → Int) (k : Nat) : (List.range (2 * (k + 1))).map (printI f) = (List.range (2 * k)).map (printI f) ++ [hexI (f k / 16), hexI (f k % 16)] := by
  rw [show 2 * (k + 1) = 2 * k + 1 + 1 by omega, List.range_succ, List.range_succ]
  simp only [List.map_append, List.map_cons, List.map_nil, List.append_assoc, List.cons_append, List.nil_append]
  rw [printI, printI, if_pos (by omega), if_neg (by omega), show 2 * k / 2 = k by omega, show (2 * k + 1) / 2 = k by omega]
set_option maxHeartbeats 1000000 in
set_option maxRecDepth 100000 in
theorem rprint_any (f : Nat → Int) (hf : ∀ i, 0 ≤ f i ∧ f i ≤ 255) (w : World) :
    Calls Tryd.prog 24 #[.agg (rowV 32 fun i => .int .u8 (f i))] w fun e w' => e = .returned (.string (hexS f)) ∧ Below w.heap.size w w' := by
  have rb := rowIs_box w 26 32 (fun i => .int .u8 (f i))
  go_enter Tryd.func24, Tryd.ntmps24
  go_wp2
  go_loopw [3, 4] (fun o i wr => ∃ k : Nat, k ≤ 32 ∧ i = .int .i64 k ∧ o = .string (strOf ((List.range (2 * k)).map (printI f))) ∧ Below w.heap.size w wr ∧ wr.rowIs w.heap.size 26 32 (fun i => .int .u8 (f i))) (fun _ i _ => 32 - (intOf i).toNat)
  case atStart => exact ⟨0, by omega, rfl, rfl, (Below.refl _ _).alloc (Nat.le_refl _) _, rb⟩
  case round =>
    obtain ⟨k, hk, rfl, rfl, hb, r⟩ := hrel
    by_cases hlt : k < 32
    · have b0 : (0 : Int) ≤ (k : Int) := by omega
      have b1 : (k : Int) < 32 := by omega
      have c0 := r.cell hlt
      have hfk := hf k
      have h0 := hfk.1
      have h1 := hfk.2
      have d1 := digit_run (f k / 16) (by omega) (by omega)
      have d2 := digit_run (f k % 16) (by omega) (by omega)
      have e1 : IntKind.u8.wrap ((f k).tdiv 16) = f k / 16 := IntWalk.u8_quo _ _ (by omega)
      have e2 : (f k).tmod 16 = f k % 16 := Int.tmod_eq_emod_of_nonneg h0
      have hcv := run_convert_row_string (P := Tryd.prog) (wr.alloc (.cells #[.int .u8 (hexI (f k / 16)), .int .u8 (hexI (f k % 16))] 5)).drew 28 9 5 wr.heap.size 0 2 2 (fun i => if i = 0 then hexI (f k / 16) else hexI (f k % 16)) Tryd.underlying28 Tryd.underlying5 Tryd.underlying9 (pair_cells wr _ _)
      have HP : Hid _ := printI_two f k
      have happ : strOf ((List.range (2 * k)).map (printI f)) ++ strOf ((List.range 2).map fun i => if i = 0 then hexI (f k / 16) else hexI (f k % 16)) = strOf ((List.range (2 * (k + 1))).map (printI f)) := by
        rw [HP.out, strOf_append]; rfl
      have HA : Hid _ := happ
      have hso : (strOf ((List.range (2 * k)).map (printI f))).size ≤ 64 := by rw [strOf_size]; simp; omega
      have hst : (strOf ((List.range 2).map fun i => if i = 0 then hexI (f k / 16) else hexI (f k % 16))).size ≤ 2 := by rw [strOf_size]; simp
      clear happ HP hfk
      revert HA d1 d2 hcv hso hst
      generalize strOf ((List.range (2 * k)).map (printI f)) = so
      generalize strOf ((List.range 2).map fun i => if i = 0 then hexI (f k / 16) else hexI (f k % 16)) = st
      intro d1 d2 hcv HA hso hst
      have hcat : ¬ (9223372036854775807 < so.size + st.size) := by omega
      go_wp2
      go_region
      clear hcat hcv d1 d2
      go_wp2
      go_light
      exact ⟨⟨k + 1, by omega, by go_num, by rw [← HA.out], (hb.alloc hb.size _).drew, (r.alloc _).drew⟩, by simp [intOf]; omega⟩
    · obtain rfl : k = 32 := by omega
      go_wp2
      go_ret
      exact ⟨rfl, hb⟩
end Go.Proofs.YtfgndamdhciaoaaDoor
