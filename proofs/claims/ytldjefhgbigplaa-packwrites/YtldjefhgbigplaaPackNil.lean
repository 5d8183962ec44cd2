import Derived.Test.YtldjefhgbigplaaPackStands
namespace Go.Proofs.Ytldjefhgbigplaa
open Go.RowKit Go.Deep

set_option maxRecDepth 100000 in
theorem csum_nil (w : World) :
    Calls Try.prog 25 #[.pointer none] w fun e w' => e = .returned (.agg (rowV 32 (arrV (List.replicate 32 0)))) ∧ Below w.heap.size w w' := by
  have r0 := rowIs_zero w #[.int .u8 0, .int .u8 0, .int .u8 0, .int .u8 0, .int .u8 0, .int .u8 0, .int .u8 0, .int .u8 0, .int .u8 0, .int .u8 0, .int .u8 0, .int .u8 0, .int .u8 0, .int .u8 0, .int .u8 0, .int .u8 0, .int .u8 0, .int .u8 0, .int .u8 0, .int .u8 0, .int .u8 0, .int .u8 0, .int .u8 0, .int .u8 0, .int .u8 0, .int .u8 0, .int .u8 0, .int .u8 0, .int .u8 0, .int .u8 0, .int .u8 0, .int .u8 0] 51 32 (.int .u8 0) rfl
  have hb0 : Below w.heap.size w (w.alloc (.cells #[.int .u8 0, .int .u8 0, .int .u8 0, .int .u8 0, .int .u8 0, .int .u8 0, .int .u8 0, .int .u8 0, .int .u8 0, .int .u8 0, .int .u8 0, .int .u8 0, .int .u8 0, .int .u8 0, .int .u8 0, .int .u8 0, .int .u8 0, .int .u8 0, .int .u8 0, .int .u8 0, .int .u8 0, .int .u8 0, .int .u8 0, .int .u8 0, .int .u8 0, .int .u8 0, .int .u8 0, .int .u8 0, .int .u8 0, .int .u8 0, .int .u8 0, .int .u8 0] 51)) := (Below.refl _ _).alloc (Nat.le_refl _) _
  revert r0 hb0
  generalize hwa : w.alloc (.cells #[.int .u8 0, .int .u8 0, .int .u8 0, .int .u8 0, .int .u8 0, .int .u8 0, .int .u8 0, .int .u8 0, .int .u8 0, .int .u8 0, .int .u8 0, .int .u8 0, .int .u8 0, .int .u8 0, .int .u8 0, .int .u8 0, .int .u8 0, .int .u8 0, .int .u8 0, .int .u8 0, .int .u8 0, .int .u8 0, .int .u8 0, .int .u8 0, .int .u8 0, .int .u8 0, .int .u8 0, .int .u8 0, .int .u8 0, .int .u8 0, .int .u8 0, .int .u8 0] 51) = wa
  intro r0 hb0
  go_enter Try.func25, Try.ntmps25
  go_wp2_with fail
  clear hwa
  refine (err_nil _).mono ?_
  rintro e w' ⟨rfl, hw⟩
  obtain rfl := hw.symm
  clear hw
  go_wp2_with fail
  refine (fail_nil _).mono ?_
  rintro e w' ⟨rfl, hw⟩
  obtain rfl := hw.symm
  clear hw
  go_wp2_with (first | (refine wpList_store_row rfl 51 _ _ rfl rfl w.heap.size 0 32 (fun _ => .int .u8 0) rfl (by rw [← rowV_zero]; rfl) hi32 (fun _ _ => rfl) _ _ _ r0 (by omega) ?_; intro w2 r2 hz2 hb2))
  refine bodyPost_ret (results_cell_seg rfl _ _ w.heap.size 51 32 (arrV (List.replicate 32 0)) _ rfl Try.underlying51 rfl hi32 (r2.congr fun i hi => ?_)) rfl ⟨rfl, hb0.trans ((hb2.mono hb0.size).below (Nat.le_refl _))⟩
  rw [if_pos (by omega), arrV, getD_zeros]
set_option maxHeartbeats 1000000 in
set_option maxRecDepth 100000 in
theorem bitten_nil (K N M : Int) (w : World) :
    Calls Try.prog 19 #[.pointer none, .agg #[.int .i64 K, .int .u64 N, .int .i64 M]] w fun e w' => e = .returned (.tuple #[.int .u64 (biteR (kindI K) N M [] true).1, .string (strOf (biteR (kindI K) N M [] true).2.1)]) ∧ Below w.heap.size w w' := by
  have hb0 : Below w.heap.size w (w.alloc (.cells #[.int .i64 K, .int .u64 N, .int .i64 M] 43)) := (Below.refl _ _).alloc (Nat.le_refl _) _
  have r0 := rowIs_new w #[.int .i64 K, .int .u64 N, .int .i64 M] 43 3 (fun i => if i = 0 then .int .i64 K else if i = 1 then .int .u64 N else .int .i64 M) rfl (fun i hi => by
    have : i = 0 ∨ i = 1 ∨ i = 2 := by omega
    rcases this with rfl | rfl | rfl <;> rfl)
  rcases kindI_is K with hk | hk | hk | hk | hk | hk
  · have hR : biteR (kindI K) N M [] true = (0, [], [], true) := by rw [hk]; rfl
    rw [hR]
    clear hR
    go_enter Try.func19, Try.ntmps19
    go_wp2_with fail
    refine (kind_any K N M _).mono ?_
    rintro e w1 ⟨rfl, hb1⟩
    have hB1 : Below w.heap.size w w1 := hb0.trans (hb1.mono (by simp))
    have r1 := hb1.row r0 (by simp)
    have cN : w1.cell? ⟨w.heap.size, 1, none⟩ = some (.int .u64 N) := r1.cell (i := 1) (by omega)
    have cM : w1.cell? ⟨w.heap.size, 2, none⟩ = some (.int .i64 M) := r1.cell (i := 2) (by omega)
    have HB1 : Hid _ := hB1
    clear r0 r1 hb0 hb1 hB1
    go_wp2_with fail
    refine (cnum_nil N _).mono ?_
    rintro e w' ⟨rfl, hw⟩
    obtain rfl := hw.symm
    clear hw
    go_wp2
    go_ret2
    exact ⟨rfl, HB1.out⟩
  · have hR : biteR (kindI K) N M [] true = (0, [], [], true) := by rw [hk]; rfl
    rw [hR]
    clear hR
    go_enter Try.func19, Try.ntmps19
    go_wp2_with fail
    refine (kind_any K N M _).mono ?_
    rintro e w1 ⟨rfl, hb1⟩
    have hB1 : Below w.heap.size w w1 := hb0.trans (hb1.mono (by simp))
    have r1 := hb1.row r0 (by simp)
    have cN : w1.cell? ⟨w.heap.size, 1, none⟩ = some (.int .u64 N) := r1.cell (i := 1) (by omega)
    have cM : w1.cell? ⟨w.heap.size, 2, none⟩ = some (.int .i64 M) := r1.cell (i := 2) (by omega)
    have HB1 : Hid _ := hB1
    clear r0 r1 hb0 hb1 hB1
    go_wp2_with fail
    refine (cblob_nil M _).mono ?_
    rintro e w' ⟨rfl, hw⟩
    obtain rfl := hw.symm
    clear hw
    have hcv := conv8 w1 _ _ (isBytes_nil w1)
    obtain ⟨w3, hclr, hb3, hz3⟩ := clear_run w1 w1.heap.size _ _ (newBytes.nil w1 w1.heap.size)
    have HB3 : Hid _ := Below.trans HB1.out (hb3.mono HB1.out.size)
    clear hb3
    go_wp2
    go_ret2
    exact ⟨rfl, HB3.out⟩
  · have hR : biteR (kindI K) N M [] true = (0, [], [], true) := by rw [hk]; rfl
    rw [hR]
    clear hR
    go_enter Try.func19, Try.ntmps19
    go_wp2_with fail
    refine (kind_any K N M _).mono ?_
    rintro e w1 ⟨rfl, hb1⟩
    have hB1 : Below w.heap.size w w1 := hb0.trans (hb1.mono (by simp))
    have r1 := hb1.row r0 (by simp)
    have cN : w1.cell? ⟨w.heap.size, 1, none⟩ = some (.int .u64 N) := r1.cell (i := 1) (by omega)
    have cM : w1.cell? ⟨w.heap.size, 2, none⟩ = some (.int .i64 M) := r1.cell (i := 2) (by omega)
    have HB1 : Hid _ := hB1
    clear r0 r1 hb0 hb1 hB1
    go_wp2_with fail
    refine (ctext_nil M _).mono ?_
    rintro e w' ⟨rfl, hw⟩
    obtain rfl := hw.symm
    clear hw
    go_wp2
    go_ret2
    exact ⟨rfl, HB1.out⟩
  · have hR : biteR (kindI K) N M [] true = (0, List.replicate 32 0, [], true) := by rw [hk]; rfl
    rw [hR]
    clear hR
    go_enter Try.func19, Try.ntmps19
    go_wp2_with fail
    refine (kind_any K N M _).mono ?_
    rintro e w1 ⟨rfl, hb1⟩
    have hB1 : Below w.heap.size w w1 := hb0.trans (hb1.mono (by simp))
    have r1 := hb1.row r0 (by simp)
    have cN : w1.cell? ⟨w.heap.size, 1, none⟩ = some (.int .u64 N) := r1.cell (i := 1) (by omega)
    have cM : w1.cell? ⟨w.heap.size, 2, none⟩ = some (.int .i64 M) := r1.cell (i := 2) (by omega)
    have HB1 : Hid _ := hB1
    clear r0 r1 hb0 hb1 hB1
    go_wp2_with fail
    refine (csum_nil _).mono ?_
    rintro e w2 ⟨rfl, hb2⟩
    have hz := rowIs_zero w2 #[.int .u8 0, .int .u8 0, .int .u8 0, .int .u8 0, .int .u8 0, .int .u8 0, .int .u8 0, .int .u8 0, .int .u8 0, .int .u8 0, .int .u8 0, .int .u8 0, .int .u8 0, .int .u8 0, .int .u8 0, .int .u8 0, .int .u8 0, .int .u8 0, .int .u8 0, .int .u8 0, .int .u8 0, .int .u8 0, .int .u8 0, .int .u8 0, .int .u8 0, .int .u8 0, .int .u8 0, .int .u8 0, .int .u8 0, .int .u8 0, .int .u8 0, .int .u8 0] 51 32 (.int .u8 0) rfl
    have hba : Below w2.heap.size w2 (w2.alloc (.cells #[.int .u8 0, .int .u8 0, .int .u8 0, .int .u8 0, .int .u8 0, .int .u8 0, .int .u8 0, .int .u8 0, .int .u8 0, .int .u8 0, .int .u8 0, .int .u8 0, .int .u8 0, .int .u8 0, .int .u8 0, .int .u8 0, .int .u8 0, .int .u8 0, .int .u8 0, .int .u8 0, .int .u8 0, .int .u8 0, .int .u8 0, .int .u8 0, .int .u8 0, .int .u8 0, .int .u8 0, .int .u8 0, .int .u8 0, .int .u8 0, .int .u8 0, .int .u8 0] 51)) := (Below.refl _ _).alloc (Nat.le_refl _) _
    have hsa : (w2.alloc (.cells #[.int .u8 0, .int .u8 0, .int .u8 0, .int .u8 0, .int .u8 0, .int .u8 0, .int .u8 0, .int .u8 0, .int .u8 0, .int .u8 0, .int .u8 0, .int .u8 0, .int .u8 0, .int .u8 0, .int .u8 0, .int .u8 0, .int .u8 0, .int .u8 0, .int .u8 0, .int .u8 0, .int .u8 0, .int .u8 0, .int .u8 0, .int .u8 0, .int .u8 0, .int .u8 0, .int .u8 0, .int .u8 0, .int .u8 0, .int .u8 0, .int .u8 0, .int .u8 0] 51)).heap.size = w2.heap.size + 1 := by simp
    go_wp2_with (first | (refine wpList_store_row rfl 51 _ _ rfl rfl w2.heap.size 0 32 _ rfl rfl hi32 (fun _ _ => rfl) _ _ _ hz (by omega) ?_; intro w3 r3 hz3 hb3))
    have R3 : Hid (w3.drew.rowIs w2.heap.size 51 32 (arrV (List.replicate 32 0))) := by
      have := r3.congr (g := arrV (List.replicate 32 0)) (fun i hi => by rw [if_pos (by omega)]; rfl)
      exact this
    have HB3 : Hid (Below w.heap.size w w3) := by
      have hs1 := HB1.out.size
      have hs2 := hb2.size
      have : Below w.heap.size w w3 := Below.trans HB1.out ((hb2.mono hs1).trans ((hba.mono (by omega)).trans ((hb3.mono (by omega)).below (by omega))))
      exact this
    clear hb3 hz3 r3 hz hba hsa hb2 HB1
    refine wp_region_noPanic ?_
    refine wp_region_held_drew (S := fun w' => w'.rowIs w2.heap.size 51 32 (arrV (List.replicate 32 0))) (by kernel_rfl) R3.out (fun hHeld => ?_)
    refine take_op (i := 0) (v := ?vs0) rfl (by kernel_rfl) (by kernel_rfl) (by kernel_rfl) (fun _ _ _ h => h) rfl hHeld ?ys0 ?rs0
    case ys0 => (intro wz hz; go_simp; first | done | with_reducible rfl)
    try simp only [Act.put, List.setIfInBounds_toArray, List.set_cons_zero, List.set_cons_succ]
    refine take_op (i := 1) (v := ?vs1) rfl (by kernel_rfl) (by kernel_rfl) (by kernel_rfl) (fun _ _ _ h => h) rfl hHeld ?ys1 ?rs1
    case ys1 => (intro wz hz; have hcv := conv8 wz _ _ (isBytes_row hz (by simp) (fun i => by rw [getD_zeros]; omega)); go_simp; first | done | with_reducible rfl)
    try simp only [Act.put, List.setIfInBounds_toArray, List.set_cons_zero, List.set_cons_succ]
    refine take_op (i := 2) (v := ?vs2) rfl (by kernel_rfl) (by kernel_rfl) (by kernel_rfl) (fun _ _ _ h => h) rfl hHeld ?ys2 ?rs2
    case ys2 => (intro wz hz; go_simp; first | done | with_reducible rfl)
    try simp only [Act.put, List.setIfInBounds_toArray, List.set_cons_zero, List.set_cons_succ]
    refine take_op (i := 3) (v := ?vs3) rfl (by kernel_rfl) (by kernel_rfl) (by kernel_rfl) (fun _ _ _ h => h) rfl hHeld ?ys3 ?rs3
    case ys3 => (intro wz hz; go_simp; first | done | with_reducible rfl)
    try simp only [Act.put, List.setIfInBounds_toArray, List.set_cons_zero, List.set_cons_succ]
    refine wpAnyH_done (by kernel_rfl) ?_ _
    refine NoPanic.normal ?_
    have hHeld : True := trivial
    go_wp2
    go_ret2
    exact ⟨rfl, HB3.out.drew⟩
  · have hR : biteR (kindI K) N M [] true = (0, [], [], true) := by rw [hk]; rfl
    rw [hR]
    clear hR
    go_enter Try.func19, Try.ntmps19
    go_wp2_with fail
    refine (kind_any K N M _).mono ?_
    rintro e w1 ⟨rfl, hb1⟩
    have hB1 : Below w.heap.size w w1 := hb0.trans (hb1.mono (by simp))
    have r1 := hb1.row r0 (by simp)
    have cN : w1.cell? ⟨w.heap.size, 1, none⟩ = some (.int .u64 N) := r1.cell (i := 1) (by omega)
    have cM : w1.cell? ⟨w.heap.size, 2, none⟩ = some (.int .i64 M) := r1.cell (i := 2) (by omega)
    have HB1 : Hid _ := hB1
    clear r0 r1 hb0 hb1 hB1
    go_wp2_with fail
    refine (fail_nil _).mono ?_
    rintro e w' ⟨rfl, hw⟩
    obtain rfl := hw.symm
    clear hw
    go_wp2
    go_ret2
    exact ⟨rfl, HB1.out⟩
  · have hR : biteR (kindI K) N M [] true = (2, [], [], true) := by rw [hk]; rfl
    rw [hR]
    clear hR
    go_enter Try.func19, Try.ntmps19
    go_wp2_with fail
    refine (kind_any K N M _).mono ?_
    rintro e w1 ⟨rfl, hb1⟩
    have hB1 : Below w.heap.size w w1 := hb0.trans (hb1.mono (by simp))
    have r1 := hb1.row r0 (by simp)
    have cN : w1.cell? ⟨w.heap.size, 1, none⟩ = some (.int .u64 N) := r1.cell (i := 1) (by omega)
    have cM : w1.cell? ⟨w.heap.size, 2, none⟩ = some (.int .i64 M) := r1.cell (i := 2) (by omega)
    have HB1 : Hid _ := hB1
    clear r0 r1 hb0 hb1 hB1
    go_wp2_with fail
    refine (done_nil _).mono ?_
    rintro e w' ⟨rfl, hw⟩
    obtain rfl := hw.symm
    clear hw
    go_wp2
    go_ret2
    exact ⟨rfl, HB1.out⟩
end Go.Proofs.Ytldjefhgbigplaa
