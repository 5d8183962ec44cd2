import Derived.Test.YtfgndamdhciaoaaDoorRefDigits
namespace Go.Proofs.YtfgndamdhciaoaaDoor
open Go.RowKit Go.Deep

set_option maxHeartbeats 2000000 in
set_option maxRecDepth 100000 in
theorem digits_any (f : Nat → Int) (hf : ∀ i, 0 ≤ f i ∧ f i ≤ 255) (s : ByteArray) (hs : s.size ≤ maxLen) (w : World) (ht : tabIs w) :
    Calls Tryd.prog 5 #[.agg (rowV 32 fun i => .int .u8 (f i)), .string s] w fun e w' => e = .returned (.bool true) ∧ Below w.heap.size w w' := by
  have hsm := hs
  unfold maxLen at hs
  have hi32 : (Tryd.prog.info? 26).map (·.size) = some 32 := by kernel_rfl
  have ht0 := ht.1
  have rA := rowIs_box w 26 32 (fun i => .int .u8 (f i))
  have hb0 : Below w.heap.size w (w.alloc (.cells (rowV 32 fun i => .int .u8 (f i)) 26)) := (Below.refl _ _).alloc (Nat.le_refl _) _
  have hz0 : (w.alloc (.cells (rowV 32 fun i => .int .u8 (f i)) 26)).heap.size = w.heap.size + 1 := by simp
  by_cases hbig : 1000 < s.size
  · have hb : (1000 : Int) < (s.size : Int) := by omega
    go_enter Tryd.func5, Tryd.ntmps5
    go_wp2_with fail
    refine (awake_any _ (ht.below hb0 ht0)).mono ?_
    rintro e w1 ⟨rfl, hb1⟩
    have hB1 : Below w.heap.size w w1 := hb0.trans (hb1.mono (by rw [hz0]; omega))
    go_wp2
    go_ret
    exact ⟨rfl, hB1⟩
  · have hb : (s.size : Int) ≤ 1000 := by omega
    go_enter Tryd.func5, Tryd.ntmps5
    go_wp2_with fail
    refine (read_yF s _ hsm).mono ?_
    rintro e w1 ⟨rfl, hb1⟩
    have hB1 : Below w.heap.size w w1 := hb0.trans (hb1.mono (by rw [hz0]; omega))
    have rA1 := hb1.row rA (by rw [hz0]; omega)
    have hs1 := hb1.size
    rw [hz0] at hs1
    clear rA hb0 hz0 hb1
    have z1 := rowIs_zero w1 (Array.replicate 32 (.int .u8 0)) 26 32 (.int .u8 0) rfl
    go_wp2_with (first | (refine wpList_store_row rfl 26 _ _ rfl rfl w1.heap.size 0 32 _ rfl rfl hi32 (fun _ _ => rfl) _ _ _ z1 (by omega) ?_; intro w2 r2 hz2 hb2))
    have hb2' : But w1.heap.size w1.heap.size w1 w2 := (But.of_below ((Below.refl w1.heap.size w1).alloc (Nat.le_refl _) _) _).trans (hb2.mono (by simp))
    have hB2 := hB1.trans ((hb2'.mono (by omega)).below (by omega))
    have rA2 := hb2'.row rA1 (by omega) (by omega)
    have r5 : w2.rowIs w1.heap.size 26 32 (fun i => .int .u8 (yF s i)) := r2.congr fun i hi => by rw [if_pos (by omega), Nat.sub_zero]
    have hs2 := r5.lt
    clear r2 hz2 hb2 hb2' z1 rA1 hB1
    refine (rread_yF s w2 hsm).mono ?_
    rintro e w3 ⟨rfl, hb3⟩
    have hB3 := hB2.trans (hb3.mono (by omega))
    have rA3 := hb3.row rA2 (by omega)
    have r53 := hb3.row r5 (by omega)
    have hs3 := hb3.size
    clear hb3 hB2 rA2 r5
    have z3 := rowIs_zero w3 (Array.replicate 32 (.int .u8 0)) 26 32 (.int .u8 0) rfl
    go_wp2_with (first | (refine wpList_store_row rfl 26 _ _ rfl rfl w3.heap.size 0 32 _ rfl rfl hi32 (fun _ _ => rfl) _ _ _ z3 (by omega) ?_; intro w4 r4 hz4 hb4))
    have hb4' : But w3.heap.size w3.heap.size w3 w4 := (But.of_below ((Below.refl w3.heap.size w3).alloc (Nat.le_refl _) _) _).trans (hb4.mono (by simp))
    have hB4 := hB3.trans ((hb4'.mono (by omega)).below (by omega))
    have rA4 := hb4'.row rA3 (by omega) (by omega)
    have r54 := hb4'.row r53 (by omega) (by omega)
    have r7 : w4.rowIs w3.heap.size 26 32 (fun i => .int .u8 (yF s i)) := r4.congr fun i hi => by rw [if_pos (by omega), Nat.sub_zero]
    have hs4 := r7.lt
    clear r4 hz4 hb4 hb4' z3 rA3 r53 hB3
    have heql : ∀ wx : World, (binOp .eql 26 (.agg (rowV 32 fun i => .int .u8 (yF s i))) (.agg (rowV 32 fun i => .int .u8 (yF s i)))).run Tryd.prog wx = .ok (.bool true) wx := fun wx => by
      rw [run_eql_arr wx 26 5 .u8 32 (yF s) (yF s) Tryd.underlying26 Tryd.underlying5 (by kernel_rfl) (by kernel_rfl), (arrEq_iff 32 _ _).2 (fun _ _ => rfl)]
    have hgd : Tryd.prog.eqGuardType Tryd.prog.depth 26 = false := by kernel_rfl
    refine wp_region_noPanic ?_
    refine wp_region_held_drew (S := fun w' => w'.rowIs w.heap.size 26 32 (fun i => .int .u8 (f i)) ∧ w'.rowIs w1.heap.size 26 32 (fun i => .int .u8 (yF s i)) ∧ w'.rowIs w3.heap.size 26 32 (fun i => .int .u8 (yF s i))) (by kernel_rfl) ⟨rA4.drew, r54.drew, r7.drew⟩ (fun hHeld => ?_)
    refine take_load (i := 0) rfl (by kernel_rfl) (by kernel_rfl) (by kernel_rfl) 26 _ rfl w.heap.size 0 32 _ rfl _ Tryd.underlying26 rfl hi32 (fun _ _ _ h => h) rfl hHeld (fun wz hz i hi => by rw [Nat.zero_add]; exact (hz.1).cell hi) ?_
    try simp only [Act.put, List.setIfInBounds_toArray, List.set_cons_zero, List.set_cons_succ]
    refine take_load (i := 2) rfl (by kernel_rfl) (by kernel_rfl) (by kernel_rfl) 26 _ rfl w.heap.size 0 32 _ rfl _ Tryd.underlying26 rfl hi32 (fun _ _ _ h => h) rfl hHeld (fun wz hz i hi => by rw [Nat.zero_add]; exact (hz.1).cell hi) ?_
    try simp only [Act.put, List.setIfInBounds_toArray, List.set_cons_zero, List.set_cons_succ]
    refine take_one (i := 1) rfl (by kernel_rfl) rfl (fun K hK => ?_)
    go_simp
    refine (print_any f hf _).mono ?_
    rintro e w5 ⟨rfl, hb5⟩
    rw [show strOf ((List.range 64).map (printI f)) = hexS f from rfl]
    have hs5 : w4.heap.size ≤ w5.heap.size := hb5.size
    refine hK.out _ _ ⟨hb5.row hHeld.1 (by show _ < w4.heap.size; omega), hb5.row hHeld.2.1 (by show _ < w4.heap.size; omega), hb5.row hHeld.2.2 (by show _ < w4.heap.size; omega)⟩ (fun hHeld => ?_)
    clear hK K
    try simp only [Act.put, List.setIfInBounds_toArray, List.set_cons_zero, List.set_cons_succ]
    refine take_one (i := 3) rfl (by kernel_rfl) rfl (fun K hK => ?_)
    go_simp
    refine (rprint_any f hf _).mono ?_
    rintro e w6 ⟨rfl, hb6⟩
    have hs6 := hb6.size
    refine hK.out _ _ ⟨hb6.row hHeld.1 (by show _ < w5.heap.size; omega), hb6.row hHeld.2.1 (by show _ < w5.heap.size; omega), hb6.row hHeld.2.2 (by show _ < w5.heap.size; omega)⟩ (fun hHeld => ?_)
    clear hK K
    try simp only [Act.put, List.setIfInBounds_toArray, List.set_cons_zero, List.set_cons_succ]
    refine take_op (i := 4) (v := ?v4) rfl (by kernel_rfl) (by kernel_rfl) (by kernel_rfl) (fun _ _ _ h => h) rfl hHeld ?y4 ?r4
    case y4 => (intro wz hz; go_simp; first | done | with_reducible rfl)
    try simp only [Act.put, List.setIfInBounds_toArray, List.set_cons_zero, List.set_cons_succ]
    refine take_op (i := 5) (v := ?v5) rfl (by kernel_rfl) (by kernel_rfl) (by kernel_rfl) (fun _ _ _ h => h) rfl hHeld ?y5 ?r5
    case y5 => (intro wz hz; go_simp; first | done | with_reducible rfl)
    try simp only [Act.put, List.setIfInBounds_toArray, List.set_cons_zero, List.set_cons_succ]
    refine take_load (i := 6) rfl (by kernel_rfl) (by kernel_rfl) (by kernel_rfl) 26 _ rfl w1.heap.size 0 32 _ rfl _ Tryd.underlying26 rfl hi32 (fun _ _ _ h => h) rfl hHeld (fun wz hz i hi => by rw [Nat.zero_add]; exact (hz.2.1).cell hi) ?_
    try simp only [Act.put, List.setIfInBounds_toArray, List.set_cons_zero, List.set_cons_succ]
    refine take_load (i := 7) rfl (by kernel_rfl) (by kernel_rfl) (by kernel_rfl) 26 _ rfl w3.heap.size 0 32 _ rfl _ Tryd.underlying26 rfl hi32 (fun _ _ _ h => h) rfl hHeld (fun wz hz i hi => by rw [Nat.zero_add]; exact (hz.2.2).cell hi) ?_
    try simp only [Act.put, List.setIfInBounds_toArray, List.set_cons_zero, List.set_cons_succ]
    refine take_op (i := 8) (v := ?v8) rfl (by kernel_rfl) (by kernel_rfl) (by kernel_rfl) (fun _ _ _ h => h) rfl hHeld ?y8 ?r8
    case y8 => (intro wz hz; go_simp; first | done | with_reducible rfl)
    try simp only [Act.put, List.setIfInBounds_toArray, List.set_cons_zero, List.set_cons_succ]
    refine take_op (i := 9) (v := ?v9) rfl (by kernel_rfl) (by kernel_rfl) (by kernel_rfl) (fun _ _ _ h => h) rfl hHeld ?y9 ?r9
    case y9 => (intro wz hz; go_simp; first | done | with_reducible rfl)
    try simp only [Act.put, List.setIfInBounds_toArray, List.set_cons_zero, List.set_cons_succ]
    refine take_op (i := 10) (v := ?v10) rfl (by kernel_rfl) (by kernel_rfl) (by kernel_rfl) (fun _ _ _ h => h) rfl hHeld ?y10 ?r10
    case y10 => (intro wz hz; go_simp; first | done | with_reducible rfl)
    try simp only [Act.put, List.setIfInBounds_toArray, List.set_cons_zero, List.set_cons_succ]
    refine take_op (i := 11) (v := ?v11) rfl (by kernel_rfl) (by kernel_rfl) (by kernel_rfl) (fun _ _ _ h => h) rfl hHeld ?y11 ?r11
    case y11 => (intro wz hz; go_simp; first | done | with_reducible rfl)
    try simp only [Act.put, List.setIfInBounds_toArray, List.set_cons_zero, List.set_cons_succ]
    refine take_op (i := 12) (v := ?v12) rfl (by kernel_rfl) (by kernel_rfl) (by kernel_rfl) (fun _ _ _ h => h) rfl hHeld ?y12 ?r12
    case y12 => (intro wz hz; go_simp; first | done | with_reducible rfl)
    try simp only [Act.put, List.setIfInBounds_toArray, List.set_cons_zero, List.set_cons_succ]
    refine take_op (i := 13) (v := ?v13) rfl (by kernel_rfl) (by kernel_rfl) (by kernel_rfl) (fun _ _ _ h => h) rfl hHeld ?y13 ?r13
    case y13 => (intro wz hz; go_simp; first | done | with_reducible rfl)
    try simp only [Act.put, List.setIfInBounds_toArray, List.set_cons_zero, List.set_cons_succ]
    refine take_op (i := 14) (v := ?v14) rfl (by kernel_rfl) (by kernel_rfl) (by kernel_rfl) (fun _ _ _ h => h) rfl hHeld ?y14 ?r14
    case y14 => (intro wz hz; go_simp; first | done | with_reducible rfl)
    try simp only [Act.put, List.setIfInBounds_toArray, List.set_cons_zero, List.set_cons_succ]
    refine take_op (i := 15) (v := ?v15) rfl (by kernel_rfl) (by kernel_rfl) (by kernel_rfl) (fun _ _ _ h => h) rfl hHeld ?y15 ?r15
    case y15 => (intro wz hz; go_simp; first | done | with_reducible rfl)
    try simp only [Act.put, List.setIfInBounds_toArray, List.set_cons_zero, List.set_cons_succ]
    have hB6 : Below w.heap.size w w6 := (hB4.drew.trans (hb5.mono (by show _ ≤ w4.heap.size; omega))).trans (hb6.mono (by omega))
    refine take_one (i := 16) rfl (by kernel_rfl) rfl (fun K hK => ?_)
    go_simp
    refine (awake_any w6 (ht.below hB6 ht0)).mono ?_
    rintro e w7 ⟨rfl, hb7⟩
    refine hK.out _ _ ⟨hb7.row hHeld.1 (by show _ < w6.heap.size; omega), hb7.row hHeld.2.1 (by show _ < w6.heap.size; omega), hb7.row hHeld.2.2 (by show _ < w6.heap.size; omega)⟩ (fun hHeld => ?_)
    clear hK K
    try simp only [Act.put, List.setIfInBounds_toArray, List.set_cons_zero, List.set_cons_succ]
    refine take_op (i := 17) (v := ?v17) rfl (by kernel_rfl) (by kernel_rfl) (by kernel_rfl) (fun _ _ _ h => h) rfl hHeld ?y17 ?r17
    case y17 => (intro wz hz; go_simp; first | done | with_reducible rfl)
    try simp only [Act.put, List.setIfInBounds_toArray, List.set_cons_zero, List.set_cons_succ]
    refine take_op (i := 18) (v := ?v18) rfl (by kernel_rfl) (by kernel_rfl) (by kernel_rfl) (fun _ _ _ h => h) rfl hHeld ?y18 ?r18
    case y18 => (intro wz hz; go_simp; first | done | with_reducible rfl)
    try simp only [Act.put, List.setIfInBounds_toArray, List.set_cons_zero, List.set_cons_succ]
    refine wpAnyH_done (by kernel_rfl) ?_ _
    refine NoPanic.normal ?_
    have hB7 := hB6.trans (hb7.mono hB6.size)
    go_wp2
    go_ret
    exact ⟨rfl, hB7⟩
end Go.Proofs.YtfgndamdhciaoaaDoor
