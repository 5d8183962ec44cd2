import Derived.Test.YtnjjlmkmkphbeaaPackRisP
import Derived.Test.YtnjjlmkmkphbeaaDrawnS
import Derived.BigQuiet
import Derived.Deep.Light
namespace Go.Proofs.Ytnjjlmkmkphbeaa
open Go.RowKit Go.Deep

theorem isRow_cell {W : World} {k : Nat} {u : Value} (h : W.cell? ⟨k, 0, none⟩ = some u) : isRow W (.slice (some ⟨k, 0, none⟩) 1 1) 1 (fun _ => u) :=
  Or.inr ⟨k, 0, 1, rfl, World.block_lt_of_cell? _ _ h, by unfold maxLen; omega, fun i hi => by
    obtain rfl : i = 0 := by omega
    exact h⟩
/-- pack.Num(nil, x). -/
theorem num1_any (k : Nat) (x : Int) (hx : 0 ≤ x ∧ x < 18446744073709551616) (W : World) (h : W.cell? ⟨k, 0, none⟩ = some (.int .u64 x)) :
    Calls Try.prog 10 #[.slice none 0 0, .slice (some ⟨k, 0, none⟩) 1 1] W fun e w' => ∃ v', e = .returned v' ∧ newBytes w' W.heap.size v' (numB x) ∧ Below W.heap.size W w' :=
  (num_any [] (.slice none 0 0) _ 1 (fun _ => x) W (isBytes_nil W) (isRow_cell h) (fun _ _ => hx) (by simp)).mono fun _ _ h => h
theorem cell_alloc {W : World} {p : Addr} {v : Value} (o : Obj) (h : W.cell? p = some v) : (W.alloc o).cell? p = some v := Go.Lib.cell?_alloc_some o h
theorem conv8 (w : World) (v : Value) (l : List Int) (h : isBytes w v l) : (convert 22 9 v).run Try.prog w = .ok (.string (strOf l)) w :=
  run_convert_bytes (P := Try.prog) w 22 9 5 v l Try.underlying22 Try.underlying5 Try.underlying9 h
section
variable {P : Program}
/-- s[:n], of a string. -/
theorem run_slice_str (t : TypeId) (s : ByteArray) (n : Nat) (hu : P.underlying t = some .string) (hn : n ≤ s.size) (w : World) :
    (Instr.slice t (.string s) none (some (.int .i64 n)) none).run P w = .ok (.string (s.extract 0 n)) w := by
  have h0 : (0 : Int) ≤ (n : Int) ∧ (n : Int) ≤ (s.size : Int) := by omega
  simp [Instr.slice, Instr.sliceBounds, Instr.sliceBound, asIntOf, run_underlying hu, h0, hn]
end
set_option maxHeartbeats 2000000 in
set_option maxRecDepth 100000 in
theorem rises_any (x y : Int) (hx : 0 ≤ x ∧ x < 18446744073709551616) (hy : 0 ≤ y ∧ y < 18446744073709551616) (w : World) :
    Calls Try.prog 8 #[.int .u64 x, .int .u64 y] w fun e w' => e = .returned (.bool true) ∧ Below w.heap.size w w' := by
  have HX : Hid _ := hx
  have HY : Hid _ := hy
  clear hx hy
  go_enter Try.func8, Try.ntmps8
  go_wp2
  refine Code.wp_mono (Q := fun e a' w' => ∃ j10 j11 j12 j13 j14 j15 j16 j17 : Value, e = .normal ∧ a' = { tmps := #[.int .u64 x, .int .u64 y, undef, undef, .bool false, .string (strOf (numB x)), .string (strOf (numB y)), undef, undef, undef, j10, j11, j12, j13, j14, j15, j16, j17, undef, undef, undef, undef, undef, undef, undef, undef, undef, undef, undef, undef, undef, undef, undef, undef, undef, undef, undef, undef, undef, undef, undef, undef, undef, undef, undef, undef, undef, undef, undef, undef, undef, undef, undef, undef, undef, undef, undef, undef, undef, undef, undef, undef, undef, undef, undef, undef, undef, undef, undef], defers := [] } ∧ Below w.heap.size w w') ?rest ?region
  case region =>
    refine wp_region_noPanic ?_
    refine wp_region_held_drew (S := fun w' => Below w.heap.size w w') (by kernel_rfl) ((Below.refl w.heap.size w).drew) (fun hHeld => ?_)
    refine take_op (i := 0) (v := ?v0) rfl (by kernel_rfl) (by kernel_rfl) (by kernel_rfl) (fun _ _ _ h => h) rfl hHeld ?y0 ?r0
    case y0 => (intro wz hz; go_simp; first | done | with_reducible rfl)
    try simp only [Act.put, List.setIfInBounds_toArray, List.set_cons_zero, List.set_cons_succ]
    refine take_op (i := 4) (v := ?v4) rfl (by kernel_rfl) (by kernel_rfl) (by kernel_rfl) (fun _ _ _ h => h) rfl hHeld ?y4 ?r4
    case y4 => (intro wz hz; go_simp; first | done | with_reducible rfl)
    try simp only [Act.put, List.setIfInBounds_toArray, List.set_cons_zero, List.set_cons_succ]
    refine take_pair (i := 1) (j := 5) rfl rfl (by kernel_rfl) rfl rfl (fun K hK => ?_) (fun K hK => ?_)
    · go_simp
      refine hK.out _ _ (hHeld.alloc hHeld.size _) (fun hHeld => ?_)
      clear hK K
      try simp only [Act.put, List.setIfInBounds_toArray, List.set_cons_zero, List.set_cons_succ]
      have c1 : (w.alloc (.cells #[.int .u64 x] 39)).drew.cell? ⟨w.heap.size, 0, none⟩ = some (.int .u64 x) := one_cell w _ _

      revert c1 hHeld
      generalize (w.alloc (.cells #[.int .u64 x] 39)).drew = wa
      intro hHeld c1
      refine take_pair (i := 2) (j := 5) rfl rfl (by kernel_rfl) rfl rfl (fun K hK => ?_) (fun K hK => ?_)
      · go_simp
        refine (num1_any _ x HX.out _ c1).mono ?_
        rintro e w1 ⟨v1, rfl, hn1, hb1⟩
        refine hK.out _ _ (hHeld.trans (hb1.mono hHeld.size)) (fun hHeld => ?_)
        clear hK K
        try simp only [Act.put, List.setIfInBounds_toArray, List.set_cons_zero, List.set_cons_succ]
        refine wpAnyH_stronger (S' := fun w' => Below w.heap.size w w' ∧ isBytes w' v1 (numB x)) (fun _ h => h.1) _ _ _ _ ?_
        have hHeld : Below w.heap.size w w1 ∧ isBytes w1 v1 (numB x) := ⟨hHeld, hn1.is⟩
        refine take_op (i := 3) (v := ?va3) rfl (by kernel_rfl) (by kernel_rfl) (by kernel_rfl) (fun _ _ _ h => h) rfl hHeld ?ya3 ?ra3
        case ya3 => (intro wz hz; have hcv := conv8 wz v1 _ hz.2; go_simp; first | done | with_reducible rfl)
        try simp only [Act.put, List.setIfInBounds_toArray, List.set_cons_zero, List.set_cons_succ]
        refine take_one (i := 5) rfl (by kernel_rfl) rfl (fun K hK => ?_)
        go_simp
        refine hK.out _ _ ⟨hHeld.1.alloc hHeld.1.size _, hHeld.2.below ((Below.refl _ _).alloc (Nat.le_refl _) _) (Nat.le_refl _)⟩ (fun hHeld => ?_)
        clear hK K
        try simp only [Act.put, List.setIfInBounds_toArray, List.set_cons_zero, List.set_cons_succ]
        have c2 := one_cell w1 (.int .u64 y) 39
        refine take_one (i := 6) rfl (by kernel_rfl) rfl (fun K hK => ?_)
        go_simp
        refine (num1_any _ y HY.out _ c2).mono ?_
        rintro e w2 ⟨v2, rfl, hn2, hb2⟩
        refine hK.out _ _ ⟨hHeld.1.trans (hb2.mono hHeld.1.size), hHeld.2.below hb2 (Nat.le_refl _)⟩ (fun hHeld => ?_)
        clear hK K
        try simp only [Act.put, List.setIfInBounds_toArray, List.set_cons_zero, List.set_cons_succ]
        refine wpAnyH_stronger (S' := fun w' => Below w.heap.size w w' ∧ isBytes w' v1 (numB x) ∧ isBytes w' v2 (numB y)) (fun _ h => ⟨h.1, h.2.1⟩) _ _ _ _ ?_
        have hHeld : Below w.heap.size w w2 ∧ isBytes w2 v1 (numB x) ∧ isBytes w2 v2 (numB y) := ⟨hHeld.1, hHeld.2, hn2.is⟩
        refine take_op (i := 8) (v := ?va8) rfl (by kernel_rfl) (by kernel_rfl) (by kernel_rfl) (fun _ _ _ h => h) rfl hHeld ?ya8 ?ra8
        case ya8 => (intro wz hz; go_simp; first | done | with_reducible rfl)
        try simp only [Act.put, List.setIfInBounds_toArray, List.set_cons_zero, List.set_cons_succ]
        refine take_op (i := 7) (v := ?va7) rfl (by kernel_rfl) (by kernel_rfl) (by kernel_rfl) (fun _ _ _ h => h) rfl hHeld ?ya7 ?ra7
        case ya7 => (intro wz hz; have hcv := conv8 wz v2 _ hz.2.2; go_simp; first | done | with_reducible rfl)
        try simp only [Act.put, List.setIfInBounds_toArray, List.set_cons_zero, List.set_cons_succ]
        refine take_op (i := 9) (v := ?va9) rfl (by kernel_rfl) (by kernel_rfl) (by kernel_rfl) (fun _ _ _ h => h) rfl hHeld ?ya9 ?ra9
        case ya9 => (intro wz hz; go_simp; first | done | with_reducible rfl)
        try simp only [Act.put, List.setIfInBounds_toArray, List.set_cons_zero, List.set_cons_succ]
        refine wpAnyH_done (by kernel_rfl) ?_ _
        exact NoPanic.normal ⟨_, _, _, _, _, _, _, _, rfl, rfl, hHeld.1⟩
      · go_simp
        refine hK.out _ _ (hHeld.alloc hHeld.size _) (fun hHeld => ?_)
        clear hK K
        try simp only [Act.put, List.setIfInBounds_toArray, List.set_cons_zero, List.set_cons_succ]
        have c2 := one_cell wa (.int .u64 y) 39
        have c1' := cell_alloc (.cells #[.int .u64 y] 39) c1
        refine take_one (i := 2) rfl (by kernel_rfl) rfl (fun K hK => ?_)
        go_simp
        refine (num1_any _ x HX.out _ c1').mono ?_
        rintro e w1 ⟨v1, rfl, hn1, hb1⟩
        refine hK.out _ _ (hHeld.trans (hb1.mono hHeld.size)) (fun hHeld => ?_)
        clear hK K
        try simp only [Act.put, List.setIfInBounds_toArray, List.set_cons_zero, List.set_cons_succ]
        refine wpAnyH_stronger (S' := fun w' => Below w.heap.size w w' ∧ isBytes w' v1 (numB x)) (fun _ h => h.1) _ _ _ _ ?_
        have hHeld : Below w.heap.size w w1 ∧ isBytes w1 v1 (numB x) := ⟨hHeld, hn1.is⟩
        have c2 := (hb1.cell (p := ⟨_, 0, none⟩) (World.block_lt_of_cell? _ _ c2)).trans c2
        refine take_op (i := 3) (v := ?vb3) rfl (by kernel_rfl) (by kernel_rfl) (by kernel_rfl) (fun _ _ _ h => h) rfl hHeld ?yb3 ?rb3
        case yb3 => (intro wz hz; have hcv := conv8 wz v1 _ hz.2; go_simp; first | done | with_reducible rfl)
        try simp only [Act.put, List.setIfInBounds_toArray, List.set_cons_zero, List.set_cons_succ]
        refine take_one (i := 6) rfl (by kernel_rfl) rfl (fun K hK => ?_)
        go_simp
        refine (num1_any _ y HY.out _ c2).mono ?_
        rintro e w2 ⟨v2, rfl, hn2, hb2⟩
        refine hK.out _ _ ⟨hHeld.1.trans (hb2.mono hHeld.1.size), hHeld.2.below hb2 (Nat.le_refl _)⟩ (fun hHeld => ?_)
        clear hK K
        try simp only [Act.put, List.setIfInBounds_toArray, List.set_cons_zero, List.set_cons_succ]
        refine wpAnyH_stronger (S' := fun w' => Below w.heap.size w w' ∧ isBytes w' v1 (numB x) ∧ isBytes w' v2 (numB y)) (fun _ h => ⟨h.1, h.2.1⟩) _ _ _ _ ?_
        have hHeld : Below w.heap.size w w2 ∧ isBytes w2 v1 (numB x) ∧ isBytes w2 v2 (numB y) := ⟨hHeld.1, hHeld.2, hn2.is⟩
        refine take_op (i := 8) (v := ?vb8) rfl (by kernel_rfl) (by kernel_rfl) (by kernel_rfl) (fun _ _ _ h => h) rfl hHeld ?yb8 ?rb8
        case yb8 => (intro wz hz; go_simp; first | done | with_reducible rfl)
        try simp only [Act.put, List.setIfInBounds_toArray, List.set_cons_zero, List.set_cons_succ]
        refine take_op (i := 7) (v := ?vb7) rfl (by kernel_rfl) (by kernel_rfl) (by kernel_rfl) (fun _ _ _ h => h) rfl hHeld ?yb7 ?rb7
        case yb7 => (intro wz hz; have hcv := conv8 wz v2 _ hz.2.2; go_simp; first | done | with_reducible rfl)
        try simp only [Act.put, List.setIfInBounds_toArray, List.set_cons_zero, List.set_cons_succ]
        refine take_op (i := 9) (v := ?vb9) rfl (by kernel_rfl) (by kernel_rfl) (by kernel_rfl) (fun _ _ _ h => h) rfl hHeld ?yb9 ?rb9
        case yb9 => (intro wz hz; go_simp; first | done | with_reducible rfl)
        try simp only [Act.put, List.setIfInBounds_toArray, List.set_cons_zero, List.set_cons_succ]
        refine wpAnyH_done (by kernel_rfl) ?_ _
        exact NoPanic.normal ⟨_, _, _, _, _, _, _, _, rfl, rfl, hHeld.1⟩
    · go_simp
      refine hK.out _ _ (hHeld.alloc hHeld.size _) (fun hHeld => ?_)
      clear hK K
      try simp only [Act.put, List.setIfInBounds_toArray, List.set_cons_zero, List.set_cons_succ]
      have c2 : (w.alloc (.cells #[.int .u64 y] 39)).drew.cell? ⟨w.heap.size, 0, none⟩ = some (.int .u64 y) := one_cell w _ _

      revert c2 hHeld
      generalize (w.alloc (.cells #[.int .u64 y] 39)).drew = wa
      intro hHeld c2
      refine take_one (i := 1) rfl (by kernel_rfl) rfl (fun K hK => ?_)
      go_simp
      refine hK.out _ _ (hHeld.alloc hHeld.size _) (fun hHeld => ?_)
      clear hK K
      try simp only [Act.put, List.setIfInBounds_toArray, List.set_cons_zero, List.set_cons_succ]
      have c1 := one_cell wa (.int .u64 x) 39
      have c2 := cell_alloc (.cells #[.int .u64 x] 39) c2
      refine take_one (i := 2) rfl (by kernel_rfl) rfl (fun K hK => ?_)
      go_simp
      refine (num1_any _ x HX.out _ c1).mono ?_
      rintro e w1 ⟨v1, rfl, hn1, hb1⟩
      refine hK.out _ _ (hHeld.trans (hb1.mono hHeld.size)) (fun hHeld => ?_)
      clear hK K
      try simp only [Act.put, List.setIfInBounds_toArray, List.set_cons_zero, List.set_cons_succ]
      refine wpAnyH_stronger (S' := fun w' => Below w.heap.size w w' ∧ isBytes w' v1 (numB x)) (fun _ h => h.1) _ _ _ _ ?_
      have hHeld : Below w.heap.size w w1 ∧ isBytes w1 v1 (numB x) := ⟨hHeld, hn1.is⟩
      have c2 := (hb1.cell (p := ⟨_, 0, none⟩) (World.block_lt_of_cell? _ _ c2)).trans c2
      refine take_op (i := 3) (v := ?vc3) rfl (by kernel_rfl) (by kernel_rfl) (by kernel_rfl) (fun _ _ _ h => h) rfl hHeld ?yc3 ?rc3
      case yc3 => (intro wz hz; have hcv := conv8 wz v1 _ hz.2; go_simp; first | done | with_reducible rfl)
      try simp only [Act.put, List.setIfInBounds_toArray, List.set_cons_zero, List.set_cons_succ]
      refine take_one (i := 6) rfl (by kernel_rfl) rfl (fun K hK => ?_)
      go_simp
      refine (num1_any _ y HY.out _ c2).mono ?_
      rintro e w2 ⟨v2, rfl, hn2, hb2⟩
      refine hK.out _ _ ⟨hHeld.1.trans (hb2.mono hHeld.1.size), hHeld.2.below hb2 (Nat.le_refl _)⟩ (fun hHeld => ?_)
      clear hK K
      try simp only [Act.put, List.setIfInBounds_toArray, List.set_cons_zero, List.set_cons_succ]
      refine wpAnyH_stronger (S' := fun w' => Below w.heap.size w w' ∧ isBytes w' v1 (numB x) ∧ isBytes w' v2 (numB y)) (fun _ h => ⟨h.1, h.2.1⟩) _ _ _ _ ?_
      have hHeld : Below w.heap.size w w2 ∧ isBytes w2 v1 (numB x) ∧ isBytes w2 v2 (numB y) := ⟨hHeld.1, hHeld.2, hn2.is⟩
      refine take_op (i := 8) (v := ?vc8) rfl (by kernel_rfl) (by kernel_rfl) (by kernel_rfl) (fun _ _ _ h => h) rfl hHeld ?yc8 ?rc8
      case yc8 => (intro wz hz; go_simp; first | done | with_reducible rfl)
      try simp only [Act.put, List.setIfInBounds_toArray, List.set_cons_zero, List.set_cons_succ]
      refine take_op (i := 7) (v := ?vc7) rfl (by kernel_rfl) (by kernel_rfl) (by kernel_rfl) (fun _ _ _ h => h) rfl hHeld ?yc7 ?rc7
      case yc7 => (intro wz hz; have hcv := conv8 wz v2 _ hz.2.2; go_simp; first | done | with_reducible rfl)
      try simp only [Act.put, List.setIfInBounds_toArray, List.set_cons_zero, List.set_cons_succ]
      refine take_op (i := 9) (v := ?vc9) rfl (by kernel_rfl) (by kernel_rfl) (by kernel_rfl) (fun _ _ _ h => h) rfl hHeld ?yc9 ?rc9
      case yc9 => (intro wz hz; go_simp; first | done | with_reducible rfl)
      try simp only [Act.put, List.setIfInBounds_toArray, List.set_cons_zero, List.set_cons_succ]
      refine wpAnyH_done (by kernel_rfl) ?_ _
      exact NoPanic.normal ⟨_, _, _, _, _, _, _, _, rfl, rfl, hHeld.1⟩
  case rest =>
    rintro e a' w1 ⟨j10, j11, j12, j13, j14, j15, j16, j17, rfl, rfl, hb1⟩
    have hs1 : (strOf (numB x)).size = 1 + szI x := by rw [strOf_size, numB_length]
    have hs2 : (strOf (numB y)).size = 1 + szI y := by rw [strOf_size, numB_length]
    have hL : Op.bytesLess (strOf (numB x)).toList (strOf (numB y)).toList = decide (x < y) := by rw [strOf_less (numB_byte x) (numB_byte y), num_lex x y HX.out HY.out]
    have hE : ((strOf (numB x)).toList == (strOf (numB y)).toList) = decide (x = y) := by
      rw [Bool.eq_iff_iff, beq_iff_eq, decide_eq_true_iff, ← num_str_eq HX.out HY.out]
      exact ⟨fun h => ByteArray.ext (Array.ext' (by rw [← Go.Lib.toList_data, ← Go.Lib.toList_data]; exact h)), fun h => by rw [h]⟩
    have HA : Hid (∀ n, n = min (1 + szI x) (1 + szI y) → x ≠ y → (((strOf (numB x)).extract 0 n).toList == ((strOf (numB y)).extract 0 n).toList) = false) := by
      refine show ∀ n, _ from fun n hn hne => ?_
      rw [beq_eq_false_iff_ne]
      intro h
      refine num_apart HX.out HY.out hne n hn ?_
      rw [← strOf_extract, ← strOf_extract]
      exact ByteArray.ext (Array.ext' (by rw [← Go.Lib.toList_data, ← Go.Lib.toList_data]; exact h))
    have hzx := szI_le x
    have hzy := szI_le y
    have HL : Hid _ := hL
    have HE : Hid _ := hE
    clear hL hE
    generalize strOf (numB x) = sx at *
    generalize strOf (numB y) = sy at *
    go_wp2
    go_loopw [7, 8] (fun k z wr => ∃ t : Int, 0 ≤ t ∧ t ≤ x ∧ k = .int .i64 (1 + (szI x : Int) - (szI t : Int)) ∧ z = .int .u64 t ∧ wr = w1) (fun _ z _ => szI (intOf z))
    case atStart => exact ⟨x, HX.out.1, Int.le_refl _, by congr 1; omega, rfl, rfl⟩
    case round =>
      obtain ⟨t, t0, t1, rfl, rfl, hwr⟩ := hrel
      obtain rfl := hwr.symm
      clear hwr
      have hzt := szI_le t
      have hzm := szI_mono t1
      by_cases hlt : 0 < t
      · have hd := szI_div t (by omega) (by have := HX.out.2; omega)
        have HD : Hid _ := hd
        clear hd
        go_wp2
        go_light
        exact ⟨⟨t / 256, by omega, by omega, by have := HD.out; congr 1; omega, rfl, trivial⟩, by have := HD.out; simp [intOf]; omega⟩
      · obtain rfl : t = 0 := by omega
        have hz0 : szI 0 = 0 := rfl
        rw [hz0]
        have hk : 1 + (szI x : Int) - ((0 : Nat) : Int) = 1 + (szI x : Int) := by omega
        rw [hk]
        clear hk hz0
        rcases Int.lt_trichotomy x y with hxy | hxy | hxy
        · have hmn := szI_mono (Int.le_of_lt hxy)
          have HL2 := HL.out
          have HE2 := HE.out
          have hdx : decide (x < y) = true := by simp; omega
          have hdq : decide (x = y) = false := by simp; omega
          have hbq : (x == y) = false := by rw [Bool.eq_iff_iff]; simp; omega
          rw [hdx] at HL2
          rw [hdq] at HE2
          have hmin : min (szI x : Int) (szI y : Int) = (szI x : Int) := by omega
          have hap := HA.out (1 + szI x) (by omega) (by omega)
          have hsl1 := run_slice_str (P := Try.prog) 9 sx (1 + szI x) Try.underlying9 (by omega)
          have hsl2 := run_slice_str (P := Try.prog) 9 sy (1 + szI x) Try.underlying9 (by omega)
          simp only [show ((1 + szI x : Nat) : Int) = 1 + (szI x : Int) by omega] at hsl1 hsl2
          generalize sx.extract 0 (1 + szI x) = p1 at *
          generalize sy.extract 0 (1 + szI x) = p2 at *
          go_wp2
          go_region_held3 (fun _ => True) (trivial) (first | (go_at_call 9; refine (awake_any _).mono ?_; rintro e w2 ⟨rfl, hb2⟩))
          go_wp2
          go_ret
          exact ⟨rfl, hb1.drew.trans (hb2.mono hb1.size)⟩
        · have hmin : min (szI x : Int) (szI y : Int) = (szI x : Int) := by rw [hxy]; omega
          have HL2 := HL.out
          have HE2 := HE.out
          have hdx : decide (x < y) = false := by simp; omega
          have hdq : decide (x = y) = true := by simp; omega
          have hbq : (x == y) = true := by rw [Bool.eq_iff_iff]; simp; omega
          rw [hdx] at HL2
          rw [hdq] at HE2
          go_wp2
          refine wp_region_noPanic ?_
          refine wp_region_held_drew (S := fun _ => True) (by kernel_rfl) trivial (fun hHeld => ?_)
          refine take_op (i := 0) (v := ?vm0) rfl (by kernel_rfl) (by kernel_rfl) (by kernel_rfl) (fun _ _ _ h => h) rfl hHeld ?ym0 ?rm0
          case ym0 => (intro wz hz; go_simp; first | done | with_reducible rfl)
          try simp only [Act.put, List.setIfInBounds_toArray, List.set_cons_zero, List.set_cons_succ]
          refine take_op (i := 1) (v := ?vm1) rfl (by kernel_rfl) (by kernel_rfl) (by kernel_rfl) (fun _ _ _ h => h) rfl hHeld ?ym1 ?rm1
          case ym1 => (intro wz hz; go_simp; first | done | with_reducible rfl)
          try simp only [Act.put, List.setIfInBounds_toArray, List.set_cons_zero, List.set_cons_succ]
          refine take_op (i := 2) (v := ?vm2) rfl (by kernel_rfl) (by kernel_rfl) (by kernel_rfl) (fun _ _ _ h => h) rfl hHeld ?ym2 ?rm2
          case ym2 => (intro wz hz; go_simp; first | done | with_reducible rfl)
          try simp only [Act.put, List.setIfInBounds_toArray, List.set_cons_zero, List.set_cons_succ]
          refine take_op (i := 3) (v := ?vm3) rfl (by kernel_rfl) (by kernel_rfl) (by kernel_rfl) (fun _ _ _ h => h) rfl hHeld ?ym3 ?rm3
          case ym3 => (intro wz hz; go_simp; first | done | with_reducible rfl)
          try simp only [Act.put, List.setIfInBounds_toArray, List.set_cons_zero, List.set_cons_succ]
          refine take_op (i := 4) (v := ?vm4) rfl (by kernel_rfl) (by kernel_rfl) (by kernel_rfl) (fun _ _ _ h => h) rfl hHeld ?ym4 ?rm4
          case ym4 => (intro wz hz; go_simp; first | done | with_reducible rfl)
          try simp only [Act.put, List.setIfInBounds_toArray, List.set_cons_zero, List.set_cons_succ]
          refine take_op (i := 5) (v := ?vm5) rfl (by kernel_rfl) (by kernel_rfl) (by kernel_rfl) (fun _ _ _ h => h) rfl hHeld ?ym5 ?rm5
          case ym5 => (intro wz hz; go_simp; first | done | with_reducible rfl)
          try simp only [Act.put, List.setIfInBounds_toArray, List.set_cons_zero, List.set_cons_succ]
          refine take_op (i := 6) (v := ?vm6) rfl (by kernel_rfl) (by kernel_rfl) (by kernel_rfl) (fun _ _ _ h => h) rfl hHeld ?ym6 ?rm6
          case ym6 => (intro wz hz; go_simp; first | done | with_reducible rfl)
          try simp only [Act.put, List.setIfInBounds_toArray, List.set_cons_zero, List.set_cons_succ]
          refine take_op (i := 7) (v := ?vm7) rfl (by kernel_rfl) (by kernel_rfl) (by kernel_rfl) (fun _ _ _ h => h) rfl hHeld ?ym7 ?rm7
          case ym7 => (intro wz hz; go_simp; first | done | with_reducible rfl)
          try simp only [Act.put, List.setIfInBounds_toArray, List.set_cons_zero, List.set_cons_succ]
          refine take_op (i := 8) (v := ?vm8) rfl (by kernel_rfl) (by kernel_rfl) (by kernel_rfl) (fun _ _ _ h => h) rfl hHeld ?ym8 ?rm8
          case ym8 => (intro wz hz; go_simp; first | done | with_reducible rfl)
          try simp only [Act.put, List.setIfInBounds_toArray, List.set_cons_zero, List.set_cons_succ]
          refine take_op (i := 9) (v := ?vm9) rfl (by kernel_rfl) (by kernel_rfl) (by kernel_rfl) (fun _ _ _ h => h) rfl hHeld ?ym9 ?rm9
          case ym9 => (intro wz hz; go_simp; first | done | with_reducible rfl)
          try simp only [Act.put, List.setIfInBounds_toArray, List.set_cons_zero, List.set_cons_succ]
          refine take_op (i := 10) (v := ?vm10) rfl (by kernel_rfl) (by kernel_rfl) (by kernel_rfl) (fun _ _ _ h => h) rfl hHeld ?ym10 ?rm10
          case ym10 => (intro wz hz; go_simp; first | done | with_reducible rfl)
          try simp only [Act.put, List.setIfInBounds_toArray, List.set_cons_zero, List.set_cons_succ]
          refine take_op (i := 11) (v := ?vm11) rfl (by kernel_rfl) (by kernel_rfl) (by kernel_rfl) (fun _ _ _ h => h) rfl hHeld ?ym11 ?rm11
          case ym11 => (intro wz hz; go_simp; first | done | with_reducible rfl)
          try simp only [Act.put, List.setIfInBounds_toArray, List.set_cons_zero, List.set_cons_succ]
          refine take_op (i := 12) (v := ?vm12) rfl (by kernel_rfl) (by kernel_rfl) (by kernel_rfl) (fun _ _ _ h => h) rfl hHeld ?ym12 ?rm12
          case ym12 => (intro wz hz; go_simp; first | done | with_reducible rfl)
          try simp only [Act.put, List.setIfInBounds_toArray, List.set_cons_zero, List.set_cons_succ]
          refine take_op (i := 13) (v := ?vm13) rfl (by kernel_rfl) (by kernel_rfl) (by kernel_rfl) (fun _ _ _ h => h) rfl hHeld ?ym13 ?rm13
          case ym13 => (intro wz hz; go_simp; first | done | with_reducible rfl)
          try simp only [Act.put, List.setIfInBounds_toArray, List.set_cons_zero, List.set_cons_succ]
          refine take_op (i := 14) (v := ?vm14) rfl (by kernel_rfl) (by kernel_rfl) (by kernel_rfl) (fun _ _ _ h => h) rfl hHeld ?ym14 ?rm14
          case ym14 => (intro wz hz; go_simp; first | done | with_reducible rfl)
          try simp only [Act.put, List.setIfInBounds_toArray, List.set_cons_zero, List.set_cons_succ]
          refine take_op (i := 15) (v := ?vm15) rfl (by kernel_rfl) (by kernel_rfl) (by kernel_rfl) (fun _ _ _ h => h) rfl hHeld ?ym15 ?rm15
          case ym15 => (intro wz hz; go_simp; first | done | with_reducible rfl)
          try simp only [Act.put, List.setIfInBounds_toArray, List.set_cons_zero, List.set_cons_succ]
          refine take_op (i := 16) (v := ?vm16) rfl (by kernel_rfl) (by kernel_rfl) (by kernel_rfl) (fun _ _ _ h => h) rfl hHeld ?ym16 ?rm16
          case ym16 => (intro wz hz; go_simp; first | done | with_reducible rfl)
          try simp only [Act.put, List.setIfInBounds_toArray, List.set_cons_zero, List.set_cons_succ]
          refine take_op (i := 17) (v := ?vm17) rfl (by kernel_rfl) (by kernel_rfl) (by kernel_rfl) (fun _ _ _ h => h) rfl hHeld ?ym17 ?rm17
          case ym17 => (intro wz hz; go_simp; first | done | with_reducible rfl)
          try simp only [Act.put, List.setIfInBounds_toArray, List.set_cons_zero, List.set_cons_succ]
          refine take_op (i := 18) (v := ?vm18) rfl (by kernel_rfl) (by kernel_rfl) (by kernel_rfl) (fun _ _ _ h => h) rfl hHeld ?ym18 ?rm18
          case ym18 => (intro wz hz; go_simp; first | done | with_reducible rfl)
          try simp only [Act.put, List.setIfInBounds_toArray, List.set_cons_zero, List.set_cons_succ]
          refine take_op (i := 19) (v := ?vm19) rfl (by kernel_rfl) (by kernel_rfl) (by kernel_rfl) (fun _ _ _ h => h) rfl hHeld ?ym19 ?rm19
          case ym19 => (intro wz hz; go_simp; first | done | with_reducible rfl)
          try simp only [Act.put, List.setIfInBounds_toArray, List.set_cons_zero, List.set_cons_succ]
          refine take_op (i := 20) (v := ?vm20) rfl (by kernel_rfl) (by kernel_rfl) (by kernel_rfl) (fun _ _ _ h => h) rfl hHeld ?ym20 ?rm20
          case ym20 => (intro wz hz; go_simp; first | done | with_reducible rfl)
          try simp only [Act.put, List.setIfInBounds_toArray, List.set_cons_zero, List.set_cons_succ]
          refine take_not (i := 21) rfl (by kernel_rfl) (by kernel_rfl) (by kernel_rfl) (fun _ _ _ h => h) rfl hHeld ?_
          try simp only [Act.put, List.setIfInBounds_toArray, List.set_cons_zero, List.set_cons_succ]
          refine take_not (i := 22) rfl (by kernel_rfl) (by kernel_rfl) (by kernel_rfl) (fun _ _ _ h => h) rfl hHeld ?_
          try simp only [Act.put, List.setIfInBounds_toArray, List.set_cons_zero, List.set_cons_succ]
          refine take_not (i := 23) rfl (by kernel_rfl) (by kernel_rfl) (by kernel_rfl) (fun _ _ _ h => h) rfl hHeld ?_
          try simp only [Act.put, List.setIfInBounds_toArray, List.set_cons_zero, List.set_cons_succ]
          refine take_not (i := 24) rfl (by kernel_rfl) (by kernel_rfl) (by kernel_rfl) (fun _ _ _ h => h) rfl hHeld ?_
          try simp only [Act.put, List.setIfInBounds_toArray, List.set_cons_zero, List.set_cons_succ]
          refine take_not (i := 25) rfl (by kernel_rfl) (by kernel_rfl) (by kernel_rfl) (fun _ _ _ h => h) rfl hHeld ?_
          try simp only [Act.put, List.setIfInBounds_toArray, List.set_cons_zero, List.set_cons_succ]
          refine take_not (i := 26) rfl (by kernel_rfl) (by kernel_rfl) (by kernel_rfl) (fun _ _ _ h => h) rfl hHeld ?_
          try simp only [Act.put, List.setIfInBounds_toArray, List.set_cons_zero, List.set_cons_succ]
          refine take_not (i := 27) rfl (by kernel_rfl) (by kernel_rfl) (by kernel_rfl) (fun _ _ _ h => h) rfl hHeld ?_
          try simp only [Act.put, List.setIfInBounds_toArray, List.set_cons_zero, List.set_cons_succ]
          refine take_op (i := 28) (v := ?vm28) rfl (by kernel_rfl) (by kernel_rfl) (by kernel_rfl) (fun _ _ _ h => h) rfl hHeld ?ym28 ?rm28
          case ym28 => (intro wz hz; go_simp; first | done | with_reducible rfl)
          try simp only [Act.put, List.setIfInBounds_toArray, List.set_cons_zero, List.set_cons_succ]
          refine take_op (i := 29) (v := ?vm29) rfl (by kernel_rfl) (by kernel_rfl) (by kernel_rfl) (fun _ _ _ h => h) rfl hHeld ?ym29 ?rm29
          case ym29 => (intro wz hz; go_simp; first | done | with_reducible rfl)
          try simp only [Act.put, List.setIfInBounds_toArray, List.set_cons_zero, List.set_cons_succ]
          refine take_op (i := 30) (v := ?vm30) rfl (by kernel_rfl) (by kernel_rfl) (by kernel_rfl) (fun _ _ _ h => h) rfl hHeld ?ym30 ?rm30
          case ym30 => (intro wz hz; go_simp; first | done | with_reducible rfl)
          try simp only [Act.put, List.setIfInBounds_toArray, List.set_cons_zero, List.set_cons_succ]
          refine take_op (i := 31) (v := ?vm31) rfl (by kernel_rfl) (by kernel_rfl) (by kernel_rfl) (fun _ _ _ h => h) rfl hHeld ?ym31 ?rm31
          case ym31 => (intro wz hz; go_simp; first | done | with_reducible rfl)
          try simp only [Act.put, List.setIfInBounds_toArray, List.set_cons_zero, List.set_cons_succ]
          refine take_op (i := 32) (v := ?vm32) rfl (by kernel_rfl) (by kernel_rfl) (by kernel_rfl) (fun _ _ _ h => h) rfl hHeld ?ym32 ?rm32
          case ym32 => (intro wz hz; go_simp; first | done | with_reducible rfl)
          try simp only [Act.put, List.setIfInBounds_toArray, List.set_cons_zero, List.set_cons_succ]
          refine take_op (i := 33) (v := ?vm33) rfl (by kernel_rfl) (by kernel_rfl) (by kernel_rfl) (fun _ _ _ h => h) rfl hHeld ?ym33 ?rm33
          case ym33 => (intro wz hz; go_simp; first | done | with_reducible rfl)
          try simp only [Act.put, List.setIfInBounds_toArray, List.set_cons_zero, List.set_cons_succ]
          refine take_op (i := 34) (v := ?vm34) rfl (by kernel_rfl) (by kernel_rfl) (by kernel_rfl) (fun _ _ _ h => h) rfl hHeld ?ym34 ?rm34
          case ym34 => (intro wz hz; go_simp; first | done | with_reducible rfl)
          try simp only [Act.put, List.setIfInBounds_toArray, List.set_cons_zero, List.set_cons_succ]
          refine take_op (i := 35) (v := ?vm35) rfl (by kernel_rfl) (by kernel_rfl) (by kernel_rfl) (fun _ _ _ h => h) rfl hHeld ?ym35 ?rm35
          case ym35 => (intro wz hz; go_simp; first | done | with_reducible rfl)
          try simp only [Act.put, List.setIfInBounds_toArray, List.set_cons_zero, List.set_cons_succ]
          refine take_op (i := 36) (v := ?vm36) rfl (by kernel_rfl) (by kernel_rfl) (by kernel_rfl) (fun _ _ _ h => h) rfl hHeld ?ym36 ?rm36
          case ym36 => (intro wz hz; go_simp; first | done | with_reducible rfl)
          try simp only [Act.put, List.setIfInBounds_toArray, List.set_cons_zero, List.set_cons_succ]
          refine take_one (i := 37) rfl (by kernel_rfl) rfl (fun K hK => ?_)
          go_simp
          refine (awake_any _).mono ?_
          rintro e w2 ⟨rfl, hb2⟩
          refine hK.out _ _ trivial (fun hHeld => ?_)
          clear hK K
          try simp only [Act.put, List.setIfInBounds_toArray, List.set_cons_zero, List.set_cons_succ]
          refine take_op (i := 38) (v := ?vm38) rfl (by kernel_rfl) (by kernel_rfl) (by kernel_rfl) (fun _ _ _ h => h) rfl hHeld ?ym38 ?rm38
          case ym38 => (intro wz hz; go_simp; first | done | with_reducible rfl)
          try simp only [Act.put, List.setIfInBounds_toArray, List.set_cons_zero, List.set_cons_succ]
          refine take_op (i := 39) (v := ?vm39) rfl (by kernel_rfl) (by kernel_rfl) (by kernel_rfl) (fun _ _ _ h => h) rfl hHeld ?ym39 ?rm39
          case ym39 => (intro wz hz; go_simp; first | done | with_reducible rfl)
          try simp only [Act.put, List.setIfInBounds_toArray, List.set_cons_zero, List.set_cons_succ]
          refine wpAnyH_done (by kernel_rfl) ?_ _
          refine NoPanic.normal ?_
          go_wp2
          go_ret
          exact ⟨rfl, hb1.drew.trans (hb2.mono hb1.size)⟩
        · have hmn := szI_mono (Int.le_of_lt hxy)
          have HL2 := HL.out
          have HE2 := HE.out
          have hdx : decide (x < y) = false := by simp; omega
          have hdq : decide (x = y) = false := by simp; omega
          have hbq : (x == y) = false := by rw [Bool.eq_iff_iff]; simp; omega
          rw [hdx] at HL2
          rw [hdq] at HE2
          have hmin : min (szI x : Int) (szI y : Int) = (szI y : Int) := by omega
          have hap := HA.out (1 + szI y) (by omega) (by omega)
          have hsl1 := run_slice_str (P := Try.prog) 9 sx (1 + szI y) Try.underlying9 (by omega)
          have hsl2 := run_slice_str (P := Try.prog) 9 sy (1 + szI y) Try.underlying9 (by omega)
          simp only [show ((1 + szI y : Nat) : Int) = 1 + (szI y : Int) by omega] at hsl1 hsl2
          generalize sx.extract 0 (1 + szI y) = p1 at *
          generalize sy.extract 0 (1 + szI y) = p2 at *
          go_wp2
          go_region_held3 (fun _ => True) (trivial) (first | (go_at_call 9; refine (awake_any _).mono ?_; rintro e w2 ⟨rfl, hb2⟩))
          go_wp2
          go_ret
          exact ⟨rfl, hb1.drew.trans (hb2.mono hb1.size)⟩
end Go.Proofs.Ytnjjlmkmkphbeaa
