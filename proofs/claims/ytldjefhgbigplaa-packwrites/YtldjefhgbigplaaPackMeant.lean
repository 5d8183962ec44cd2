import Derived.Test.YtldjefhgbigplaaPackBite
namespace Go.Proofs.Ytldjefhgbigplaa
open Go.RowKit Go.Deep

set_option maxHeartbeats 1000000 in
set_option maxRecDepth 100000 in
theorem meant_any (c B : Nat) (l : List Int) (b : Bool) (K N M : Int) (hM : M ≤ 9223372036854775807) (w : World) (h : rcutOf w B c l b) (hl : l.length ≤ 1099511627776) :
    Calls Try.prog 20 #[.pointer (some ⟨c, 0, none⟩), .agg #[.int .i64 K, .int .u64 N, .int .i64 M]] w fun e w' => e = .returned (.tuple #[.int .u64 (biteR (kindI K) N M l b).1, .string (strOf (biteR (kindI K) N M l b).2.1)]) ∧ rcutOf w' B c (biteR (kindI K) N M l b).2.2.1 (biteR (kindI K) N M l b).2.2.2 ∧ But w.heap.size c w w' := by
  have hlt := h.lt
  have hge := h.ge
  have hb0 : Below w.heap.size w (w.alloc (.cells #[.int .i64 K, .int .u64 N, .int .i64 M] 43)) := (Below.refl _ _).alloc (Nat.le_refl _) _
  have r0 := rowIs_new w #[.int .i64 K, .int .u64 N, .int .i64 M] 43 3 (fun i => if i = 0 then .int .i64 K else if i = 1 then .int .u64 N else .int .i64 M) rfl (fun i hi => by
    have : i = 0 ∨ i = 1 ∨ i = 2 := by omega
    rcases this with rfl | rfl | rfl <;> rfl)
  have hby := h.byte
  rcases kindI_is K with hk | hk | hk | hk | hk | hk
  · have hR : biteR (kindI K) N M l b = ((numR l b N).1, [], (numR l b N).2.1, (numR l b N).2.2) := by unfold biteR; rw [if_pos hk]
    rw [hR]
    clear hR
    go_enter Try.func20, Try.ntmps20
    go_wp2_with fail
    refine (kind_any K N M _).mono ?_
    rintro e w1 ⟨rfl, hb1⟩
    have hB1 : Below w.heap.size w w1 := hb0.trans (hb1.mono (by simp))
    have r1 := hb1.row r0 (by simp)
    have cN : w1.cell? ⟨w.heap.size, 1, none⟩ = some (.int .u64 N) := r1.cell (i := 1) (by omega)
    have cM : w1.cell? ⟨w.heap.size, 2, none⟩ = some (.int .i64 M) := r1.cell (i := 2) (by omega)
    have HC : Hid _ := h.below hB1 (Nat.le_refl _)
    have HBu : Hid _ := But.of_below hB1 c
    have hs1 := hB1.size
    clear r0 r1 hb0 hb1 hB1 h
    go_wp2_with fail
    refine (rnum_any c B l b N _ HC.out hl).mono ?_
    rintro e w2 ⟨rfl, hc2, hb2⟩
    have HC2 : Hid _ := hc2
    clear hc2
    go_wp2
    go_ret2
    exact ⟨rfl, HC2.out, HBu.out.trans (hb2.mono hs1)⟩
  · have hR : biteR (kindI K) N M l b = (0, (partR l b M).1, (partR l b M).2.1, (partR l b M).2.2) := by unfold biteR; rw [if_neg (by omega), if_pos (by omega)]
    rw [hR]
    clear hR
    go_enter Try.func20, Try.ntmps20
    go_wp2_with fail
    refine (kind_any K N M _).mono ?_
    rintro e w1 ⟨rfl, hb1⟩
    have hB1 : Below w.heap.size w w1 := hb0.trans (hb1.mono (by simp))
    have r1 := hb1.row r0 (by simp)
    have cN : w1.cell? ⟨w.heap.size, 1, none⟩ = some (.int .u64 N) := r1.cell (i := 1) (by omega)
    have cM : w1.cell? ⟨w.heap.size, 2, none⟩ = some (.int .i64 M) := r1.cell (i := 2) (by omega)
    have HC : Hid _ := h.below hB1 (Nat.le_refl _)
    have HBu : Hid _ := But.of_below hB1 c
    have hs1 := hB1.size
    clear r0 r1 hb0 hb1 hB1 h
    go_wp2
    refine wp_region_noPanic ?_
    refine wp_region_held_drew (S := fun w' => w'.cell? ⟨w.heap.size, 2, none⟩ = some (.int .i64 M)) (by kernel_rfl) cM (fun hHeld => ?_)
    refine take_op (i := 0) (v := ?vp10) rfl (by kernel_rfl) (by kernel_rfl) (by kernel_rfl) (fun _ _ _ h => h) rfl hHeld ?yp10 ?rp10
    case yp10 => (intro wz hz; go_simp; first | done | with_reducible rfl)
    try simp only [Act.put, List.setIfInBounds_toArray, List.set_cons_zero, List.set_cons_succ]
    refine take_op (i := 1) (v := ?vp11) rfl (by kernel_rfl) (by kernel_rfl) (by kernel_rfl) (fun _ _ _ h => h) rfl hHeld ?yp11 ?rp11
    case yp11 => (intro wz hz; go_simp; first | done | with_reducible rfl)
    try simp only [Act.put, List.setIfInBounds_toArray, List.set_cons_zero, List.set_cons_succ]
    refine take_op (i := 2) (v := ?vp12) rfl (by kernel_rfl) (by kernel_rfl) (by kernel_rfl) (fun _ _ _ h => h) rfl hHeld ?yp12 ?rp12
    case yp12 => (intro wz hz; go_simp; first | done | with_reducible rfl)
    try simp only [Act.put, List.setIfInBounds_toArray, List.set_cons_zero, List.set_cons_succ]
    refine take_one (i := 3) rfl (by kernel_rfl) rfl (fun K hK => ?_)
    go_simp
    refine (rblob_any c B l b M hM w1.drew HC.out hl).mono ?_
    rintro e w2 ⟨v2, rfl, hv2, hc2, hb2⟩
    have hb2' : But w1.heap.size c w1 w2 := ⟨hb2.os, hb2.tape, hb2.output, hb2.size, hb2.block⟩
    refine hK.out _ _ (by rw [hb2'.cell (by have := World.block_lt_of_cell? _ _ cM; exact this) (by omega)]; exact cM) (fun hHeld => ?_)
    clear hK K
    try simp only [Act.put, List.setIfInBounds_toArray, List.set_cons_zero, List.set_cons_succ]
    refine wpAnyH_stronger (S' := fun w' => w'.cell? ⟨w.heap.size, 2, none⟩ = some (.int .i64 M) ∧ isBytes w' v2 (partR l b M).1) (fun _ h => h.1) _ _ _ _ ?_
    have hHeld : w2.cell? ⟨w.heap.size, 2, none⟩ = some (.int .i64 M) ∧ isBytes w2 v2 (partR l b M).1 := ⟨hHeld, hv2⟩
    refine take_op (i := 4) (v := ?vp14) rfl (by kernel_rfl) (by kernel_rfl) (by kernel_rfl) (fun _ _ _ h => h) rfl hHeld ?yp14 ?rp14
    case yp14 => (intro wz hz; have hcv := conv8 wz v2 _ hz.2; go_simp; first | done | with_reducible rfl)
    try simp only [Act.put, List.setIfInBounds_toArray, List.set_cons_zero, List.set_cons_succ]
    refine take_op (i := 5) (v := ?vp15) rfl (by kernel_rfl) (by kernel_rfl) (by kernel_rfl) (fun _ _ _ h => h) rfl hHeld ?yp15 ?rp15
    case yp15 => (intro wz hz; go_simp; first | done | with_reducible rfl)
    try simp only [Act.put, List.setIfInBounds_toArray, List.set_cons_zero, List.set_cons_succ]
    refine take_op (i := 6) (v := ?vp16) rfl (by kernel_rfl) (by kernel_rfl) (by kernel_rfl) (fun _ _ _ h => h) rfl hHeld ?yp16 ?rp16
    case yp16 => (intro wz hz; go_simp; first | done | with_reducible rfl)
    try simp only [Act.put, List.setIfInBounds_toArray, List.set_cons_zero, List.set_cons_succ]
    refine wpAnyH_done (by kernel_rfl) ?_ _
    refine NoPanic.normal ?_
    have HC2 : Hid _ := hc2
    have HB2 : Hid _ := HBu.out.trans (hb2'.mono hs1)
    clear hc2 hv2 hHeld hb2 hb2'
    go_wp2
    go_ret2
    exact ⟨rfl, HC2.out, HB2.out⟩
  · have hR : biteR (kindI K) N M l b = (0, (partR l b M).1, (partR l b M).2.1, (partR l b M).2.2) := by unfold biteR; rw [if_neg (by omega), if_pos (by omega)]
    rw [hR]
    clear hR
    go_enter Try.func20, Try.ntmps20
    go_wp2_with fail
    refine (kind_any K N M _).mono ?_
    rintro e w1 ⟨rfl, hb1⟩
    have hB1 : Below w.heap.size w w1 := hb0.trans (hb1.mono (by simp))
    have r1 := hb1.row r0 (by simp)
    have cN : w1.cell? ⟨w.heap.size, 1, none⟩ = some (.int .u64 N) := r1.cell (i := 1) (by omega)
    have cM : w1.cell? ⟨w.heap.size, 2, none⟩ = some (.int .i64 M) := r1.cell (i := 2) (by omega)
    have HC : Hid _ := h.below hB1 (Nat.le_refl _)
    have HBu : Hid _ := But.of_below hB1 c
    have hs1 := hB1.size
    clear r0 r1 hb0 hb1 hB1 h
    go_wp2
    refine wp_region_noPanic ?_
    refine wp_region_held_drew (S := fun w' => w'.cell? ⟨w.heap.size, 2, none⟩ = some (.int .i64 M)) (by kernel_rfl) cM (fun hHeld => ?_)
    refine take_op (i := 0) (v := ?vp20) rfl (by kernel_rfl) (by kernel_rfl) (by kernel_rfl) (fun _ _ _ h => h) rfl hHeld ?yp20 ?rp20
    case yp20 => (intro wz hz; go_simp; first | done | with_reducible rfl)
    try simp only [Act.put, List.setIfInBounds_toArray, List.set_cons_zero, List.set_cons_succ]
    refine take_op (i := 1) (v := ?vp21) rfl (by kernel_rfl) (by kernel_rfl) (by kernel_rfl) (fun _ _ _ h => h) rfl hHeld ?yp21 ?rp21
    case yp21 => (intro wz hz; go_simp; first | done | with_reducible rfl)
    try simp only [Act.put, List.setIfInBounds_toArray, List.set_cons_zero, List.set_cons_succ]
    refine take_op (i := 2) (v := ?vp22) rfl (by kernel_rfl) (by kernel_rfl) (by kernel_rfl) (fun _ _ _ h => h) rfl hHeld ?yp22 ?rp22
    case yp22 => (intro wz hz; go_simp; first | done | with_reducible rfl)
    try simp only [Act.put, List.setIfInBounds_toArray, List.set_cons_zero, List.set_cons_succ]
    refine take_one (i := 3) rfl (by kernel_rfl) rfl (fun K hK => ?_)
    go_simp
    refine (rblob_any c B l b M hM w1.drew HC.out hl).mono ?_
    rintro e w2 ⟨v2, rfl, hv2, hc2, hb2⟩
    have hb2' : But w1.heap.size c w1 w2 := ⟨hb2.os, hb2.tape, hb2.output, hb2.size, hb2.block⟩
    refine hK.out _ _ (by rw [hb2'.cell (by have := World.block_lt_of_cell? _ _ cM; exact this) (by omega)]; exact cM) (fun hHeld => ?_)
    clear hK K
    try simp only [Act.put, List.setIfInBounds_toArray, List.set_cons_zero, List.set_cons_succ]
    refine wpAnyH_stronger (S' := fun w' => w'.cell? ⟨w.heap.size, 2, none⟩ = some (.int .i64 M) ∧ isBytes w' v2 (partR l b M).1) (fun _ h => h.1) _ _ _ _ ?_
    have hHeld : w2.cell? ⟨w.heap.size, 2, none⟩ = some (.int .i64 M) ∧ isBytes w2 v2 (partR l b M).1 := ⟨hHeld, hv2⟩
    refine take_op (i := 4) (v := ?vp24) rfl (by kernel_rfl) (by kernel_rfl) (by kernel_rfl) (fun _ _ _ h => h) rfl hHeld ?yp24 ?rp24
    case yp24 => (intro wz hz; have hcv := conv8 wz v2 _ hz.2; go_simp; first | done | with_reducible rfl)
    try simp only [Act.put, List.setIfInBounds_toArray, List.set_cons_zero, List.set_cons_succ]
    refine take_op (i := 5) (v := ?vp25) rfl (by kernel_rfl) (by kernel_rfl) (by kernel_rfl) (fun _ _ _ h => h) rfl hHeld ?yp25 ?rp25
    case yp25 => (intro wz hz; go_simp; first | done | with_reducible rfl)
    try simp only [Act.put, List.setIfInBounds_toArray, List.set_cons_zero, List.set_cons_succ]
    refine take_op (i := 6) (v := ?vp26) rfl (by kernel_rfl) (by kernel_rfl) (by kernel_rfl) (fun _ _ _ h => h) rfl hHeld ?yp26 ?rp26
    case yp26 => (intro wz hz; go_simp; first | done | with_reducible rfl)
    try simp only [Act.put, List.setIfInBounds_toArray, List.set_cons_zero, List.set_cons_succ]
    refine wpAnyH_done (by kernel_rfl) ?_ _
    refine NoPanic.normal ?_
    have HC2 : Hid _ := hc2
    have HB2 : Hid _ := HBu.out.trans (hb2'.mono hs1)
    clear hc2 hv2 hHeld hb2 hb2'
    go_wp2
    go_ret2
    exact ⟨rfl, HC2.out, HB2.out⟩
  · have hR : biteR (kindI K) N M l b = (0, (sumR l b).1, (sumR l b).2.1, (sumR l b).2.2) := by unfold biteR; rw [if_neg (by omega), if_neg (by omega), if_pos hk]
    rw [hR]
    clear hR
    have HQ : Hid _ := sumR_length l b
    have HQB : Hid _ := sumR_byte b hby
    go_enter Try.func20, Try.ntmps20
    go_wp2_with fail
    refine (kind_any K N M _).mono ?_
    rintro e w1 ⟨rfl, hb1⟩
    have hB1 : Below w.heap.size w w1 := hb0.trans (hb1.mono (by simp))
    have r1 := hb1.row r0 (by simp)
    have cN : w1.cell? ⟨w.heap.size, 1, none⟩ = some (.int .u64 N) := r1.cell (i := 1) (by omega)
    have cM : w1.cell? ⟨w.heap.size, 2, none⟩ = some (.int .i64 M) := r1.cell (i := 2) (by omega)
    have HC : Hid _ := h.below hB1 (Nat.le_refl _)
    have HBu : Hid _ := But.of_below hB1 c
    have hs1 := hB1.size
    clear r0 r1 hb0 hb1 hB1 h
    go_wp2_with fail
    refine (rsum_any c B l b _ HC.out hl).mono ?_
    rintro e w2 ⟨rfl, hc2, hb2⟩
    have HC2 : Hid _ := hc2
    clear hc2
    have hz := rowIs_zero w2 #[.int .u8 0, .int .u8 0, .int .u8 0, .int .u8 0, .int .u8 0, .int .u8 0, .int .u8 0, .int .u8 0, .int .u8 0, .int .u8 0, .int .u8 0, .int .u8 0, .int .u8 0, .int .u8 0, .int .u8 0, .int .u8 0, .int .u8 0, .int .u8 0, .int .u8 0, .int .u8 0, .int .u8 0, .int .u8 0, .int .u8 0, .int .u8 0, .int .u8 0, .int .u8 0, .int .u8 0, .int .u8 0, .int .u8 0, .int .u8 0, .int .u8 0, .int .u8 0] 51 32 (.int .u8 0) rfl
    have hba : Below w2.heap.size w2 (w2.alloc (.cells #[.int .u8 0, .int .u8 0, .int .u8 0, .int .u8 0, .int .u8 0, .int .u8 0, .int .u8 0, .int .u8 0, .int .u8 0, .int .u8 0, .int .u8 0, .int .u8 0, .int .u8 0, .int .u8 0, .int .u8 0, .int .u8 0, .int .u8 0, .int .u8 0, .int .u8 0, .int .u8 0, .int .u8 0, .int .u8 0, .int .u8 0, .int .u8 0, .int .u8 0, .int .u8 0, .int .u8 0, .int .u8 0, .int .u8 0, .int .u8 0, .int .u8 0, .int .u8 0] 51)) := (Below.refl _ _).alloc (Nat.le_refl _) _
    have hsa : (w2.alloc (.cells #[.int .u8 0, .int .u8 0, .int .u8 0, .int .u8 0, .int .u8 0, .int .u8 0, .int .u8 0, .int .u8 0, .int .u8 0, .int .u8 0, .int .u8 0, .int .u8 0, .int .u8 0, .int .u8 0, .int .u8 0, .int .u8 0, .int .u8 0, .int .u8 0, .int .u8 0, .int .u8 0, .int .u8 0, .int .u8 0, .int .u8 0, .int .u8 0, .int .u8 0, .int .u8 0, .int .u8 0, .int .u8 0, .int .u8 0, .int .u8 0, .int .u8 0, .int .u8 0] 51)).heap.size = w2.heap.size + 1 := by simp
    go_wp2_with (first | (refine wpList_store_row rfl 51 _ _ rfl rfl w2.heap.size 0 32 _ rfl rfl hi32 (fun _ _ => rfl) _ _ _ hz (by omega) ?_; intro w3 r3 hz3 hb3))
    have R3 : Hid (w3.drew.rowIs w2.heap.size 51 32 (arrV (sumR l b).1)) := by
      have := r3.congr (g := arrV (sumR l b).1) (fun i hi => by rw [if_pos (by omega)]; rfl)
      exact this
    have HB3 : Hid (But w.heap.size c w w3) := by
      have hs2 := hb2.size
      have : But w.heap.size c w w3 := HBu.out.trans ((hb2.mono hs1).trans ((But.of_below (hba.mono (by omega)) c).trans ⟨hb3.os, hb3.tape, hb3.output, hb3.size, fun k hk _ => hb3.block k (by omega) (by omega)⟩))
      exact this
    have HC4 : Hid _ := rcutOf.far HC2.out (w' := w3) (fun k hk _ => (hb3.block k (by omega) (by omega)).trans (hba.block k hk)) (by omega)
    clear hb3 hz3 r3 hz hba hsa hb2 HC2 HBu
    refine wp_region_noPanic ?_
    refine wp_region_held_drew (S := fun w' => w'.rowIs w2.heap.size 51 32 (arrV (sumR l b).1)) (by kernel_rfl) R3.out (fun hHeld => ?_)
    refine take_op (i := 0) (v := ?vs0) rfl (by kernel_rfl) (by kernel_rfl) (by kernel_rfl) (fun _ _ _ h => h) rfl hHeld ?ys0 ?rs0
    case ys0 => (intro wz hz; go_simp; first | done | with_reducible rfl)
    try simp only [Act.put, List.setIfInBounds_toArray, List.set_cons_zero, List.set_cons_succ]
    refine take_op (i := 1) (v := ?vs1) rfl (by kernel_rfl) (by kernel_rfl) (by kernel_rfl) (fun _ _ _ h => h) rfl hHeld ?ys1 ?rs1
    case ys1 => (intro wz hz; have hcv := conv8 wz _ _ (isBytes_row hz HQ.out HQB.out); go_simp; first | done | with_reducible rfl)
    try simp only [Act.put, List.setIfInBounds_toArray, List.set_cons_zero, List.set_cons_succ]
    refine take_op (i := 2) (v := ?vs2) rfl (by kernel_rfl) (by kernel_rfl) (by kernel_rfl) (fun _ _ _ h => h) rfl hHeld ?ys2 ?rs2
    case ys2 => (intro wz hz; go_simp; first | done | with_reducible rfl)
    try simp only [Act.put, List.setIfInBounds_toArray, List.set_cons_zero, List.set_cons_succ]
    refine take_op (i := 3) (v := ?vs3) rfl (by kernel_rfl) (by kernel_rfl) (by kernel_rfl) (fun _ _ _ h => h) rfl hHeld ?ys3 ?rs3
    case ys3 => (intro wz hz; go_simp; first | done | with_reducible rfl)
    try simp only [Act.put, List.setIfInBounds_toArray, List.set_cons_zero, List.set_cons_succ]
    refine wpAnyH_done (by kernel_rfl) ?_ _
    refine NoPanic.normal ?_
    have hHeld : True := trivial
    go_wp2
    go_ret2
    exact ⟨rfl, HC4.out, HB3.out.drew⟩
  · have hR : biteR (kindI K) N M l b = (0, [], l, true) := by unfold biteR; rw [if_neg (by omega), if_neg (by omega), if_neg (by omega), if_pos hk]
    rw [hR]
    clear hR
    go_enter Try.func20, Try.ntmps20
    go_wp2_with fail
    refine (kind_any K N M _).mono ?_
    rintro e w1 ⟨rfl, hb1⟩
    have hB1 : Below w.heap.size w w1 := hb0.trans (hb1.mono (by simp))
    have r1 := hb1.row r0 (by simp)
    have cN : w1.cell? ⟨w.heap.size, 1, none⟩ = some (.int .u64 N) := r1.cell (i := 1) (by omega)
    have cM : w1.cell? ⟨w.heap.size, 2, none⟩ = some (.int .i64 M) := r1.cell (i := 2) (by omega)
    have HC : Hid _ := h.below hB1 (Nat.le_refl _)
    have HBu : Hid _ := But.of_below hB1 c
    have hs1 := hB1.size
    clear r0 r1 hb0 hb1 hB1 h
    have HS : Hid _ := rcutOf.set HC.out true
    have HX : Hid _ := HBu.out.set 1 (.bool true)
    obtain ⟨v, k1, _⟩ := HC.out
    have c1 := rcutIs.c1 k1
    have z1 := World.rowIs.frozen k1 1
    clear k1
    go_wp2
    go_ret2
    exact ⟨rfl, HS.out, HX.out⟩
  · have hR : biteR (kindI K) N M l b = (errI (doneB l b), [], l, doneB l b) := by unfold biteR; rw [if_neg (by omega), if_neg (by omega), if_neg (by omega), if_neg (by omega)]
    rw [hR]
    clear hR
    go_enter Try.func20, Try.ntmps20
    go_wp2_with fail
    refine (kind_any K N M _).mono ?_
    rintro e w1 ⟨rfl, hb1⟩
    have hB1 : Below w.heap.size w w1 := hb0.trans (hb1.mono (by simp))
    have r1 := hb1.row r0 (by simp)
    have cN : w1.cell? ⟨w.heap.size, 1, none⟩ = some (.int .u64 N) := r1.cell (i := 1) (by omega)
    have cM : w1.cell? ⟨w.heap.size, 2, none⟩ = some (.int .i64 M) := r1.cell (i := 2) (by omega)
    have HC : Hid _ := h.below hB1 (Nat.le_refl _)
    have HBu : Hid _ := But.of_below hB1 c
    have hs1 := hB1.size
    clear r0 r1 hb0 hb1 hB1 h
    have K := rdone_any c B l b _ HC.out
    cases hd : doneB l b with
    | true =>
      rw [hd] at K
      go_wp2_with fail
      refine K.mono ?_
      rintro e w2 ⟨rfl, hc2, hb2⟩
      have HC2 : Hid _ := hc2
      clear hc2 K
      go_wp2
      go_ret2
      rw [hd]
      exact ⟨rfl, HC2.out, HBu.out.trans (hb2.mono hs1)⟩
    | false =>
      rw [hd] at K
      go_wp2_with fail
      refine K.mono ?_
      rintro e w2 ⟨rfl, hc2, hb2⟩
      have HC2 : Hid _ := hc2
      clear hc2 K
      go_wp2
      go_ret2
      rw [hd]
      exact ⟨rfl, HC2.out, HBu.out.trans (hb2.mono hs1)⟩
end Go.Proofs.Ytldjefhgbigplaa
