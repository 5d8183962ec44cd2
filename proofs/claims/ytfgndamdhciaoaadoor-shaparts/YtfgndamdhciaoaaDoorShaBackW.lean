import Derived.Test.YtfgndamdhciaoaaDoorShaBackP
import Derived.Test.YtfgndamdhciaoaaDoorDrawn
namespace Go.Proofs.YtfgndamdhciaoaaDoor
open Go.RowKit Go.Deep

theorem hexS_beq {f g : Nat → Int} (hf : ∀ i, 0 ≤ f i ∧ f i ≤ 255) (hg : ∀ i, 0 ≤ g i ∧ g i ≤ 255) : ((hexS f).toList == (hexS g).toList) = arrEq 32 f g := by
  rw [Bool.eq_iff_iff, arrEq_iff, ← hexS_inj hf hg, beq_iff_eq]
  refine ⟨fun h => ?_, fun h => by rw [h]⟩
  rw [ByteArray.toList_eq, ByteArray.toList_eq] at h
  exact ByteArray.ext (Array.toList_inj.1 h)
theorem hexS_more (f : Nat → Int) : (hexS f ++ { data := #[48] }).size = 65 := by rw [ByteArray.size_append, hexS_size]; rfl
theorem hexS_less (f : Nat → Int) : ((hexS f).extract 1 64).size = 63 := by rw [ByteArray.size_extract, hexS_size]; rfl
theorem read_more (f : Nat → Int) (w : World) : Calls Tryd.prog 21 #[.string (hexS f ++ { data := #[48] })] w fun e w' => e = .returned (.tuple #[.agg (rowV 32 fun _ => .int .u8 0), .bool false]) ∧ Below w.heap.size w w' :=
  read_short _ w (by rw [hexS_more]; unfold maxLen; omega) (by rw [hexS_more]; omega)
theorem read_less (f : Nat → Int) (w : World) : Calls Tryd.prog 21 #[.string ((hexS f).extract 1 64)] w fun e w' => e = .returned (.tuple #[.agg (rowV 32 fun _ => .int .u8 0), .bool false]) ∧ Below w.heap.size w w' :=
  read_short _ w (by rw [hexS_less]; unfold maxLen; omega) (by rw [hexS_less]; omega)
/-- what is read of a text, as bytes. -/
def yF (s : ByteArray) (i : Nat) : Int := if readOk s = true then (if i < 32 then readI s i else 0) else 0
theorem yF_byte (s : ByteArray) (i : Nat) : 0 ≤ yF s i ∧ yF s i ≤ 255 := by
  unfold yF
  by_cases h : readOk s = true
  · rw [if_pos h]
    by_cases hi : i < 32
    · rw [if_pos hi]; exact readI_byte s h i hi
    · rw [if_neg hi]; omega
  · rw [if_neg h]; omega
theorem hexS_yF (s : ByteArray) (h : readOk s = true) : hexS (yF s) = s := by
  have e : yF s = fun i => if i < 32 then readI s i else 0 := by funext i; rw [yF, if_pos h]
  rw [e, hexS_read s h]
theorem read_yF (s : ByteArray) (w : World) (hs : s.size ≤ maxLen) :
    Calls Tryd.prog 21 #[.string s] w fun e w' => e = .returned (.tuple #[.agg (rowV 32 fun i => .int .u8 (yF s i)), .bool (readOk s)]) ∧ Below w.heap.size w w' := by
  have e : (rowV 32 fun i => Value.int .u8 (yF s i)) = rowV 32 fun i => .int .u8 (if readOk s = true then readI s i else 0) := rowV_congr fun i hi => by rw [yF, if_pos hi]
  rw [e]
  exact read_any s w hs
theorem row_range {w : World} {b t n : Nat} {f : Nat → Value} (h : w.rowIs b t n f) : ∃ cs : List Value, cs.length = n ∧ w.rangeAt b 0 cs ∧ Hid (cs.toArray = rowV n f) :=
  ⟨(rowV n f).toList, by rw [Array.length_toList, rowV_size], range_of_cells fun i hi => by rw [Nat.zero_add, h.cell hi], by rw [Hid, Array.toArray_toList]⟩
theorem row_range_at {w : World} {b t n : Nat} {f : Nat → Value} {cs : List Value} (h : w.rowIs b t n f) (H : Hid (cs.toArray = rowV n f)) : w.rangeAt b 0 cs := by
  have e : cs = (rowV n f).toList := by rw [← H.out]
  rw [e]; exact range_of_cells fun i hi => by rw [Nat.zero_add, h.cell hi]
theorem range_below {w w' : World} {B b o : Nat} {cs : List Value} (hb : Below B w w') (h : w.rangeAt b o cs) (hlt : b < B) : w'.rangeAt b o cs := fun j v hv => by
  rw [hb.cell (p := ⟨b, o + j, none⟩) hlt]; exact h j v hv
set_option maxHeartbeats 2000000 in
set_option maxRecDepth 100000 in
theorem back_any (f g : Nat → Int) (hf : ∀ i, 0 ≤ f i ∧ f i ≤ 255) (hg : ∀ i, 0 ≤ g i ∧ g i ≤ 255) (s : ByteArray) (hs : s.size ≤ maxLen) (w : World) (ht : tabIs w) :
    Calls Tryd.prog 8 #[.agg (rowV 32 fun i => .int .u8 (f i)), .agg (rowV 32 fun i => .int .u8 (g i)), .string s] w fun e w' => e = .returned (.bool true) ∧ Below w.heap.size w w' := by
  have hsm := hs
  unfold maxLen at hs
  have hi32 : (Tryd.prog.info? 26).map (·.size) = some 32 := by kernel_rfl
  have ht0 := ht.1
  have rA : ((w.alloc (.cells (rowV 32 fun i => .int .u8 (f i)) 26)).alloc (.cells (rowV 32 fun i => .int .u8 (g i)) 26)).rowIs w.heap.size 26 32 (fun i => .int .u8 (f i)) := (rowIs_box w _ 32 _).alloc _
  have rB : ((w.alloc (.cells (rowV 32 fun i => .int .u8 (f i)) 26)).alloc (.cells (rowV 32 fun i => .int .u8 (g i)) 26)).rowIs (w.heap.size + 1) 26 32 (fun i => .int .u8 (g i)) := by
    have := rowIs_box (w.alloc (.cells (rowV 32 fun i => .int .u8 (f i)) 26)) 26 32 (fun i => .int .u8 (g i))
    simp only [nblk_alloc] at this
    exact this
  have hb0 : Below w.heap.size w ((w.alloc (.cells (rowV 32 fun i => .int .u8 (f i)) 26)).alloc (.cells (rowV 32 fun i => .int .u8 (g i)) 26)) := ((Below.refl _ _).alloc (Nat.le_refl _) _).alloc (by simp) _
  have hz0 : ((w.alloc (.cells (rowV 32 fun i => .int .u8 (f i)) 26)).alloc (.cells (rowV 32 fun i => .int .u8 (g i)) 26)).heap.size = w.heap.size + 2 := by simp
  by_cases hbig : 1000 < s.size
  · have hb : (1000 : Int) < (s.size : Int) := by omega
    go_enter Tryd.func8, Tryd.ntmps8
    go_wp2_with fail
    refine (awake_any _ (ht.below hb0 ht0)).mono ?_
    rintro e w1 ⟨rfl, hb1⟩
    have hB1 : Below w.heap.size w w1 := hb0.trans (hb1.mono (by rw [hz0]; omega))
    go_wp2
    go_ret
    exact ⟨rfl, hB1⟩
  · have hb : (s.size : Int) ≤ 1000 := by omega
    go_enter Tryd.func8, Tryd.ntmps8
    go_wp2_with (first | (refine wpList_load_seg rfl 26 _ rfl w.heap.size 0 32 _ rfl _ Tryd.underlying26 rfl hi32 (fun i hi => by rw [Nat.zero_add]; exact rA.cell hi) ?_))
    refine (print_any f hf _).mono ?_
    rintro e w1 ⟨rfl, hb1⟩
    have hB1 : Below w.heap.size w w1 := hb0.trans (hb1.mono (by rw [hz0]; omega))
    have rA1 := hb1.row rA (by rw [hz0]; omega)
    have rB1 := hb1.row rB (by rw [hz0]; omega)
    have hs1 := hb1.size
    rw [hz0] at hs1
    clear rA rB hb0 hz0 hb1
    rw [show strOf ((List.range 64).map (printI f)) = hexS f from rfl]
    go_wp2_with fail
    refine (read_long (hexS f) w1 (hexS_size f)).mono ?_
    rintro e w2 ⟨rfl, hb2⟩
    have hB2 := hB1.trans (hb2.mono (by omega))
    have rA2 := hb2.row rA1 (by omega)
    have rB2 := hb2.row rB1 (by omega)
    have hs2 := hb2.size
    clear rA1 rB1 hB1 hb2
    rw [show readTo (hexS f) 32 = true from readTo_hexS hf 32 (Nat.le_refl _)]
    have z2 := rowIs_zero w2 (Array.replicate 32 (.int .u8 0)) 26 32 (.int .u8 0) rfl
    go_wp2_with (first | (refine wpList_store_row rfl 26 _ _ rfl rfl w2.heap.size 0 32 _ rfl rfl hi32 (fun _ _ => rfl) _ _ _ z2 (by omega) ?_; intro w3 r3 hz3 hb3))
    have hb3' : But w2.heap.size w2.heap.size w2 w3 := (But.of_below ((Below.refl w2.heap.size w2).alloc (Nat.le_refl _) _) _).trans (hb3.mono (by simp))
    have hB3 := hB2.trans ((hb3'.mono (by omega)).below (by omega))
    have rA3 := hb3'.row rA2 (by omega) (by omega)
    have rB3 := hb3'.row rB2 (by omega) (by omega)
    have hs3 := hb3'.size
    have r8 : w3.rowIs w2.heap.size 26 32 (fun i => .int .u8 (f i)) := r3.congr fun i hi => by
      rw [if_pos (by omega), Nat.sub_zero, readV, if_pos (readTo_hexS hf 32 (Nat.le_refl _)), readI_hexS hf i hi]
    clear r3 hz3 hb3 hb3' z2 rA2 rB2 hB2
    have hneq : ∀ wx : World, (binOp .neq 26 (.agg (rowV 32 fun i => .int .u8 (f i))) (.agg (rowV 32 fun i => .int .u8 (f i)))).run Tryd.prog wx = .ok (.bool false) wx := fun wx => by
      rw [run_neq_arr wx 26 5 .u8 32 f f Tryd.underlying26 Tryd.underlying5 (by kernel_rfl) (by kernel_rfl), (arrEq_iff 32 f f).2 (fun _ _ => rfl)]; rfl
    have heql : ∀ wx : World, (binOp .eql 26 (.agg (rowV 32 fun i => .int .u8 (g i))) (.agg (rowV 32 fun i => .int .u8 (f i)))).run Tryd.prog wx = .ok (.bool (arrEq 32 g f)) wx := fun wx => run_eql_arr wx 26 5 .u8 32 g f Tryd.underlying26 Tryd.underlying5 (by kernel_rfl) (by kernel_rfl)
    have hgd : Tryd.prog.eqGuardType Tryd.prog.depth 26 = false := by kernel_rfl
    have hlen : (hexS f).size = 64 := hexS_size f
    have h8lt := r8.lt
    have hE : ((hexS g).toList == (hexS f).toList) = arrEq 32 g f := hexS_beq hg hf
    refine wp_region_noPanic ?_
    refine wp_region_held_drew (S := fun w' => w'.rowIs w2.heap.size 26 32 (fun i => .int .u8 (f i)) ∧ w'.rowIs w.heap.size 26 32 (fun i => .int .u8 (f i)) ∧ w'.rowIs (w.heap.size + 1) 26 32 (fun i => .int .u8 (g i))) (by kernel_rfl) ⟨r8.drew, rA3.drew, rB3.drew⟩ (fun hHeld => ?_)
    refine take_op (i := 0) (v := ?v0) rfl (by kernel_rfl) (by kernel_rfl) (by kernel_rfl) (fun _ _ _ h => h) rfl hHeld ?y0 ?r0
    case y0 => (intro wz hz; go_simp; first | done | with_reducible rfl)
    try simp only [Act.put, List.setIfInBounds_toArray, List.set_cons_zero, List.set_cons_succ]
    refine take_op (i := 1) (v := ?v1) rfl (by kernel_rfl) (by kernel_rfl) (by kernel_rfl) (fun _ _ _ h => h) rfl hHeld ?y1 ?r1
    case y1 => (intro wz hz; go_simp; first | done | with_reducible rfl)
    try simp only [Act.put, List.setIfInBounds_toArray, List.set_cons_zero, List.set_cons_succ]
    refine take_op (i := 2) (v := ?v2) rfl (by kernel_rfl) (by kernel_rfl) (by kernel_rfl) (fun _ _ _ h => h) rfl hHeld ?y2 ?r2
    case y2 => (intro wz hz; go_simp; first | done | with_reducible rfl)
    try simp only [Act.put, List.setIfInBounds_toArray, List.set_cons_zero, List.set_cons_succ]
    refine take_load (i := 3) rfl (by kernel_rfl) (by kernel_rfl) (by kernel_rfl) 26 _ rfl w2.heap.size 0 32 _ rfl _ Tryd.underlying26 rfl hi32 (fun _ _ _ h => h) rfl hHeld (fun wz hz i hi => by rw [Nat.zero_add]; exact (hz.1).cell hi) ?_
    try simp only [Act.put, List.setIfInBounds_toArray, List.set_cons_zero, List.set_cons_succ]
    refine take_load (i := 4) rfl (by kernel_rfl) (by kernel_rfl) (by kernel_rfl) 26 _ rfl w.heap.size 0 32 _ rfl _ Tryd.underlying26 rfl hi32 (fun _ _ _ h => h) rfl hHeld (fun wz hz i hi => by rw [Nat.zero_add]; exact (hz.2.1).cell hi) ?_
    try simp only [Act.put, List.setIfInBounds_toArray, List.set_cons_zero, List.set_cons_succ]
    refine take_op (i := 5) (v := ?v5) rfl (by kernel_rfl) (by kernel_rfl) (by kernel_rfl) (fun _ _ _ h => h) rfl hHeld ?y5 ?r5
    case y5 => (intro wz hz; go_simp; first | done | with_reducible rfl)
    try simp only [Act.put, List.setIfInBounds_toArray, List.set_cons_zero, List.set_cons_succ]
    refine take_op (i := 6) (v := ?v6) rfl (by kernel_rfl) (by kernel_rfl) (by kernel_rfl) (fun _ _ _ h => h) rfl hHeld ?y6 ?r6
    case y6 => (intro wz hz; go_simp; first | done | with_reducible rfl)
    try simp only [Act.put, List.setIfInBounds_toArray, List.set_cons_zero, List.set_cons_succ]
    refine take_op (i := 7) (v := ?v7) rfl (by kernel_rfl) (by kernel_rfl) (by kernel_rfl) (fun _ _ _ h => h) rfl hHeld ?y7 ?r7
    case y7 => (intro wz hz; go_simp; first | done | with_reducible rfl)
    try simp only [Act.put, List.setIfInBounds_toArray, List.set_cons_zero, List.set_cons_succ]
    refine take_op (i := 8) (v := ?v8) rfl (by kernel_rfl) (by kernel_rfl) (by kernel_rfl) (fun _ _ _ h => h) rfl hHeld ?y8 ?r8
    case y8 => (intro wz hz; go_simp; first | done | with_reducible rfl)
    try simp only [Act.put, List.setIfInBounds_toArray, List.set_cons_zero, List.set_cons_succ]
    refine take_op (i := 9) (v := ?v9) rfl (by kernel_rfl) (by kernel_rfl) (by kernel_rfl) (fun _ _ _ h => h) rfl hHeld ?y9 ?r9
    case y9 => (intro wz hz; go_simp; first | done | with_reducible rfl)
    try simp only [Act.put, List.setIfInBounds_toArray, List.set_cons_zero, List.set_cons_succ]
    refine take_op (i := 10) (v := ?v10) rfl (by kernel_rfl) (by kernel_rfl) (by kernel_rfl) (fun _ _ _ h => h) rfl hHeld ?y10 ?r10
    case y10 => (intro wz hz; go_simp; first | done | with_reducible rfl)
    try simp only [Act.put, List.setIfInBounds_toArray, List.set_cons_zero, List.set_cons_succ]
    refine take_op (i := 11) (v := ?v11) rfl (by kernel_rfl) (by kernel_rfl) (by kernel_rfl) (fun _ _ _ h => h) rfl hHeld ?y11 ?r11
    case y11 => (intro wz hz; go_simp; first | done | with_reducible rfl)
    try simp only [Act.put, List.setIfInBounds_toArray, List.set_cons_zero, List.set_cons_succ]
    refine take_op (i := 12) (v := ?v12) rfl (by kernel_rfl) (by kernel_rfl) (by kernel_rfl) (fun _ _ _ h => h) rfl hHeld ?y12 ?r12
    case y12 => (intro wz hz; go_simp; first | done | with_reducible rfl)
    try simp only [Act.put, List.setIfInBounds_toArray, List.set_cons_zero, List.set_cons_succ]
    refine take_load (i := 13) rfl (by kernel_rfl) (by kernel_rfl) (by kernel_rfl) 26 _ rfl (w.heap.size + 1) 0 32 _ rfl _ Tryd.underlying26 rfl hi32 (fun _ _ _ h => h) rfl hHeld (fun wz hz i hi => by rw [Nat.zero_add]; exact (hz.2.2).cell hi) ?_
    try simp only [Act.put, List.setIfInBounds_toArray, List.set_cons_zero, List.set_cons_succ]
    refine take_op (i := 15) (v := ?v15) rfl (by kernel_rfl) (by kernel_rfl) (by kernel_rfl) (fun _ _ _ h => h) rfl hHeld ?y15 ?r15
    case y15 => (intro wz hz; go_simp; first | done | with_reducible rfl)
    try simp only [Act.put, List.setIfInBounds_toArray, List.set_cons_zero, List.set_cons_succ]
    refine take_load (i := 17) rfl (by kernel_rfl) (by kernel_rfl) (by kernel_rfl) 26 _ rfl (w.heap.size + 1) 0 32 _ rfl _ Tryd.underlying26 rfl hi32 (fun _ _ _ h => h) rfl hHeld (fun wz hz i hi => by rw [Nat.zero_add]; exact (hz.2.2).cell hi) ?_
    try simp only [Act.put, List.setIfInBounds_toArray, List.set_cons_zero, List.set_cons_succ]
    refine take_load (i := 18) rfl (by kernel_rfl) (by kernel_rfl) (by kernel_rfl) 26 _ rfl w.heap.size 0 32 _ rfl _ Tryd.underlying26 rfl hi32 (fun _ _ _ h => h) rfl hHeld (fun wz hz i hi => by rw [Nat.zero_add]; exact (hz.2.1).cell hi) ?_
    try simp only [Act.put, List.setIfInBounds_toArray, List.set_cons_zero, List.set_cons_succ]
    refine take_op (i := 19) (v := ?v19) rfl (by kernel_rfl) (by kernel_rfl) (by kernel_rfl) (fun _ _ _ h => h) rfl hHeld ?y19 ?r19
    case y19 => (intro wz hz; go_simp; first | done | with_reducible rfl)
    try simp only [Act.put, List.setIfInBounds_toArray, List.set_cons_zero, List.set_cons_succ]
    refine take_one (i := 14) rfl (by kernel_rfl) rfl (fun K hK => ?_)
    go_simp
    refine (print_any g hg _).mono ?_
    rintro e w4 ⟨rfl, hb4⟩
    rw [show strOf ((List.range 64).map (printI g)) = hexS g from rfl]
    refine hK.out _ _ ⟨hb4.row hHeld.1 (by show _ < w3.heap.size; omega), hb4.row hHeld.2.1 (by show _ < w3.heap.size; omega), hb4.row hHeld.2.2 (by show _ < w3.heap.size; omega)⟩ (fun hHeld => ?_)
    clear hK K
    try simp only [Act.put, List.setIfInBounds_toArray, List.set_cons_zero, List.set_cons_succ]
    refine take_op (i := 16) (v := ?v16) rfl (by kernel_rfl) (by kernel_rfl) (by kernel_rfl) (fun _ _ _ h => h) rfl hHeld ?y16 ?r16
    case y16 => (intro wz hz; go_simp; first | done | with_reducible rfl)
    try simp only [Act.put, List.setIfInBounds_toArray, List.set_cons_zero, List.set_cons_succ]
    refine take_op (i := 20) (v := ?v20) rfl (by kernel_rfl) (by kernel_rfl) (by kernel_rfl) (fun _ _ _ h => h) rfl hHeld ?y20 ?r20
    case y20 => (intro wz hz; go_simp; first | done | with_reducible rfl)
    try simp only [Act.put, List.setIfInBounds_toArray, List.set_cons_zero, List.set_cons_succ]
    refine take_op (i := 21) (v := ?v21) rfl (by kernel_rfl) (by kernel_rfl) (by kernel_rfl) (fun _ _ _ h => h) rfl hHeld ?y21 ?r21
    case y21 => (intro wz hz; go_simp; first | done | with_reducible rfl)
    try simp only [Act.put, List.setIfInBounds_toArray, List.set_cons_zero, List.set_cons_succ]
    refine wpAnyH_done (by kernel_rfl) ?_ _
    refine NoPanic.normal ?_
    have hB4 : Below w.heap.size w w4 := hB3.drew.trans (hb4.mono (by show _ ≤ w3.heap.size; omega))
    clear hHeld hb4 hneq heql hgd hE r8 rA3 rB3 hB3
    clear h8lt
    have hu32 := Tryd.underlying26
    have hsz : (hexS f).size = 64 := hexS_size f
    have hs4 := hB4.size
    go_wp2_with fail
    refine (read_more f w4).mono ?_
    rintro e w5 ⟨rfl, hb5⟩
    have z5 := rowIs_zero w5 (Array.replicate 32 (.int .u8 0)) 26 32 (.int .u8 0) rfl
    have hB5 := hB4.trans (hb5.mono hs4)
    have hs5 := hB5.size
    go_wp2_with (first | (refine wpList_store_row rfl 26 _ _ rfl rfl w5.heap.size 0 32 _ rfl rfl hi32 (fun _ _ => rfl) _ _ _ z5 (by omega) ?_; intro w6 r6 hz6 hb6))
    have hB6 : Below w.heap.size w w6 := (hB5.alloc hs5 _).trans ((hb6.mono (by rw [nblk_alloc]; omega)).below hs5)
    have hs6 := hB6.size
    clear r6 hz6 hb6 z5 hb5 hB5 hB4
    refine (read_less f w6).mono ?_
    rintro e w7 ⟨rfl, hb7⟩
    have z7 := rowIs_zero w7 (Array.replicate 32 (.int .u8 0)) 26 32 (.int .u8 0) rfl
    have hB7 := hB6.trans (hb7.mono hs6)
    have hs7 := hB7.size
    clear hb7 hB6
    go_wp2_with (first | (refine wpList_store_row rfl 26 _ _ rfl rfl w7.heap.size 0 32 _ rfl rfl hi32 (fun _ _ => rfl) _ _ _ z7 (by omega) ?_; intro w8 r8 hz8 hb8))
    have hB8 : Below w.heap.size w w8 := (hB7.alloc hs7 _).trans ((hb8.mono (by rw [nblk_alloc]; omega)).below hs7)
    have hs8 := hB8.size
    clear r8 hz8 hb8 z7 hB7
    refine (read_yF s w8 hsm).mono ?_
    rintro e w9 ⟨rfl, hb9⟩
    have z9 := rowIs_zero w9 (Array.replicate 32 (.int .u8 0)) 26 32 (.int .u8 0) rfl
    have hB9 := hB8.trans (hb9.mono hs8)
    have hs9 := hB9.size
    clear hb9 hB8
    have hz0 : ∀ w : World, (zeroValue 26).run Tryd.prog w = .ok (.agg (rowV 32 (fun _ => .int .u8 0))) w := fun w => by kernel_rfl
    have hgd : Tryd.prog.eqGuardType Tryd.prog.depth 26 = false := by kernel_rfl
    have z9' := rowIs_box w9 26 32 (fun _ => .int .u8 0)
    clear z9
    cases hrk : readOk s
    · have hy0 : ∀ i, yF s i = 0 := fun i => by rw [yF, if_neg (by rw [hrk]; decide)]
      have heq0 : ∀ wx : World, (binOp .eql 26 (.agg (rowV 32 fun i => .int .u8 (yF s i))) (.agg (rowV 32 fun _ => .int .u8 0))).run Tryd.prog wx = .ok (.bool true) wx := fun wx => by
        rw [run_eql_arr wx 26 5 .u8 32 (yF s) (fun _ => 0) Tryd.underlying26 Tryd.underlying5 (by kernel_rfl) (by kernel_rfl), (arrEq_iff 32 _ _).2 (fun i _ => hy0 i)]
      clear hy0
      go_wp2_with (first | (refine wpList_store_row rfl 26 _ _ rfl rfl w9.heap.size 0 32 _ rfl rfl hi32 (fun _ _ => rfl) _ _ _ z9' (by omega) ?_; intro wa ra hza hba) | (refine wpList_load_w 26 _ rfl rfl w9.heap.size 0 32 _ rfl _ Tryd.underlying26 rfl hi32 (fun i hi => by rw [Nat.zero_add, ra.cell hi, if_pos (by omega), Nat.sub_zero]) ?_))
      have hBa : Below w.heap.size w wa := (hB9.alloc hs9 _).trans ((hba.mono (by rw [nblk_alloc]; omega)).below hs9)
      refine (awake_any wa (ht.below hBa ht0)).mono ?_
      rintro e wb ⟨rfl, hbb⟩
      have hBb := hBa.trans (hbb.mono hBa.size)
      clear hbb hBa hba ra hza heq0
      go_wp2
      go_ret
      exact ⟨rfl, hBb⟩
    · go_wp2_with (first | (refine wpList_store_row rfl 26 _ _ rfl rfl w9.heap.size 0 32 _ rfl rfl hi32 (fun _ _ => rfl) _ _ _ z9' (by omega) ?_; intro wa ra hza hba) | (refine wpList_load_w 26 _ rfl rfl w9.heap.size 0 32 (fun i => .int .u8 (yF s i)) rfl _ Tryd.underlying26 rfl hi32 (fun i hi => by rw [Nat.zero_add, ra.cell hi, if_pos (by omega), Nat.sub_zero]) ?_))
      have hBa : Below w.heap.size w wa := (hB9.alloc hs9 _).trans ((hba.mono (by rw [nblk_alloc]; omega)).below hs9)
      refine (print_any (yF s) (yF_byte s) wa).mono ?_
      rintro e wb ⟨rfl, hbb⟩
      have hBb := hBa.trans (hbb.mono hBa.size)
      rw [show strOf ((List.range 64).map (printI (yF s))) = s from hexS_yF s hrk]
      clear hbb hBa hba ra hza
      go_wp2_with fail
      refine (awake_any wb (ht.below hBb ht0)).mono ?_
      rintro e wc ⟨rfl, hbc⟩
      have hBc := hBb.trans (hbc.mono hBb.size)
      clear hbc hBb
      go_wp2
      go_ret
      exact ⟨rfl, hBc⟩
end Go.Proofs.YtfgndamdhciaoaaDoor
