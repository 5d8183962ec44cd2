import Derived.Test.YtcfbaijibghcaaaDoorSealPre
import Derived.Laws.BitsLemmas
/- SealApart's walk. -/
namespace Go.Proofs.YtcfbaijibghcaaaDoor
set_option linter.unusedSimpArgs false
set_option linter.unusedVariables false
open Go.RowKit Go.Deep

theorem i64_and255 (n : Int) : bits .and .i64 n 255 = n % 256 := by
  have h255 : (BitVec.ofInt 64 255).toNat = 2 ^ 8 - 1 := by decide
  have key : (BitVec.ofInt 64 n &&& BitVec.ofInt 64 255).toNat = (n % ((2 ^ 64 : Nat) : Int)).toNat % 2 ^ 8 := by
    rw [BitVec.toNat_and, BitVec.toNat_ofInt, h255, Nat.and_two_pow_sub_one_eq_mod]
  show IntKind.i64.wrap ((BitVec.ofInt 64 n &&& BitVec.ofInt 64 255).toNat : Nat) = n % 256
  rw [key, IntKind.wrap_i64]
  omega
theorem i64_and1 (n : Int) : bits .and .i64 n 1 = n % 2 := by
  have h1 : (BitVec.ofInt 64 1).toNat = 2 ^ 1 - 1 := by decide
  have key : (BitVec.ofInt 64 n &&& BitVec.ofInt 64 1).toNat = (n % ((2 ^ 64 : Nat) : Int)).toNat % 2 ^ 1 := by
    rw [BitVec.toNat_and, BitVec.toNat_ofInt, h1, Nat.and_two_pow_sub_one_eq_mod]
  show IntKind.i64.wrap ((BitVec.ofInt 64 n &&& BitVec.ofInt 64 1).toNat : Nat) = n % 2
  rw [key, IntKind.wrap_i64]
  omega
section
variable {P : Program}
theorem wpList_run {ops : Array Oper} {rest : List Oper} {o : Oper} {a : Act} {w w' : World} {Q : Exit → Act → World → Prop} {v : Value} (hgd : o.guard = none) (hr : (execOp a.eval o).run P w = .ok (.value v) w') (h : wpList P ops Q rest (a.put o.dst v) w') : wpList P ops Q (o :: rest) a w :=
  wpList_plain hgd fun _ hK => wp_of_run hr (hK _ _ h)
theorem exec_build1 {o : Oper} {ev : Operand → Value} {w w' : World} {v : Value} (t : TypeId) (i : Nat) (x : Operand) (a : Value) (ho : o.op = .build t #[(i, x)]) (hx : ev x = a)
    (hr : (Instr.build t #[(i, a)]).run P w = .ok v w') : (execOp ev o).run P w = .ok (.value v) w' := by
  unfold execOp
  simp only [ho, List.map_toArray, List.map_cons, List.map_nil, hx, Sem.run_bind, hr, Result.andThen_ok, Sem.run_pure]
theorem exec_bslice1 {o : Oper} {ev : Operand → Value} {w w' : World} {v : Value} (t : TypeId) (n i : Nat) (x : Operand) (a : Value) (ho : o.op = .buildSlice t n #[(i, x)]) (hx : ev x = a)
    (hr : (Instr.buildSlice t n #[(i, a)]).run P w = .ok v w') : (execOp ev o).run P w = .ok (.value v) w' := by
  unfold execOp
  simp only [ho, List.map_toArray, List.map_cons, List.map_nil, hx, Sem.run_bind, hr, Result.andThen_ok, Sem.run_pure]
theorem exec_bslice2 {o : Oper} {ev : Operand → Value} {w w' : World} {v : Value} (t : TypeId) (n i j : Nat) (x y : Operand) (a b : Value) (ho : o.op = .buildSlice t n #[(i, x), (j, y)]) (hx : ev x = a) (hy : ev y = b)
    (hr : (Instr.buildSlice t n #[(i, a), (j, b)]).run P w = .ok v w') : (execOp ev o).run P w = .ok (.value v) w' := by
  unfold execOp
  simp only [ho, List.map_toArray, List.map_cons, List.map_nil, hx, hy, Sem.run_bind, hr, Result.andThen_ok, Sem.run_pure]
end
def zq : List Int := List.replicate 32 0
theorem zq_sum : isSum zq := zeroN_sum
theorem build_act (a : Option Addr) (n c : Nat) (w : World) : (Instr.build 38 #[(2, .slice a n c)]).run Tryd.prog w = .ok (.agg (rowV 36 (actV 0 0 (.slice a n c) (.slice none 0 0) zq))) w := by
  show (_ : Result Value) = _
  kernel_rfl
theorem build_acts (f g : Nat → Value) (w : World) : (Instr.buildSlice 22 2 #[(0, .agg (rowV 36 f)), (1, .agg (rowV 36 g))]).run Tryd.prog w = .ok (.slice (some ⟨w.heap.size, 0, none⟩) 2 2) (w.alloc (.cells (rowV 72 (fun j => if j < 36 then f j else g (j - 36))) 38)) := by
  show (_ : Result Value) = _
  kernel_rfl
/-- an act of parts alone. -/
def partsA (n : Nat) (ps : Nat → List Int) : AR := ⟨0, 0, n, ps, zq, []⟩
theorem two_acts (w : World) (v u : Value) (n m : Nat) (ps qs : Nat → List Int) (hv : isParts w v n ps) (hu : isParts w u m qs) :
    isActs (w.alloc (.cells (rowV 72 (fun j => if j < 36 then actV 0 0 v (.slice none 0 0) zq j else actV 0 0 u (.slice none 0 0) zq (j - 36))) 38)) (.slice (some ⟨w.heap.size, 0, none⟩) 2 2) 2 (fun i => if i = 0 then partsA n ps else partsA m qs) := by
  have hb : Below w.heap.size w (w.alloc (.cells (rowV 72 (fun j => if j < 36 then actV 0 0 v (.slice none 0 0) zq j else actV 0 0 u (.slice none 0 0) zq (j - 36))) 38)) := (Below.refl _ _).alloc (Nat.le_refl _) _
  have hr := rowIs_box w 38 72 (fun j => if j < 36 then actV 0 0 v (.slice none 0 0) zq j else actV 0 0 u (.slice none 0 0) zq (j - 36))
  refine Or.inr ⟨w.heap.size, 0, 2, rfl, by simp, Nat.le_refl _, by unfold maxLen; omega, fun i hi => ?_⟩
  have : i = 0 ∨ i = 1 := by omega
  rcases this with rfl | rfl
  · refine ⟨v, .slice none 0 0, fun j hj => ?_, (hv.below hb (Nat.le_refl _)).any, Or.inl (Or.inl ⟨rfl, rfl⟩), zq_sum⟩
    rw [show 0 + 0 * 36 + j = j by omega, hr.cell (show j < 72 by omega), if_pos hj]; rfl
  · refine ⟨u, .slice none 0 0, fun j hj => ?_, (hu.below hb (Nat.le_refl _)).any, Or.inl (Or.inl ⟨rfl, rfl⟩), zq_sum⟩
    rw [show 0 + 1 * 36 + j = 36 + j by omega, hr.cell (show 36 + j < 72 by omega), if_neg (by omega), show 36 + j - 36 = j by omega]; rfl
set_option maxHeartbeats 4000000 in
set_option maxRecDepth 100000 in
theorem sealApart_any (kind other : Int) (hk : -9223372036854775808 ≤ kind ∧ kind ≤ 9223372036854775807) (ho : -9223372036854775808 ≤ other ∧ other ≤ 9223372036854775807) (n m : Nat) (v u : Value) (ps qs : Nat → List Int) (w : World) (ht : tabIs w) (hv : isParts w v n ps) (hu : isParts w u m qs) :
    Calls Tryd.prog 6 #[.int .i64 kind, .int .i64 other, v, u] w fun e w' => e = .returned (.bool true) ∧ Below w.heap.size w w' := by
  have ht0 := ht.1
  obtain ⟨w1, hw1⟩ : ∃ w1, w1 = w.alloc (.cells (rowV 72 (fun j => if j < 36 then actV 0 0 v (.slice none 0 0) zq j else actV 0 0 u (.slice none 0 0) zq (j - 36))) 38) := ⟨_, rfl⟩
  have A1 := two_acts w v u n m ps qs hv hu
  have b1 : Below w.heap.size w w1 := by rw [hw1]; exact (Below.refl _ _).alloc (Nat.le_refl _) _
  have bs := build_acts (actV 0 0 v (.slice none 0 0) zq) (actV 0 0 u (.slice none 0 0) zq) w
  rw [← hw1] at A1 bs
  have HV := heavy_any 2 _ _ w1 A1
  have v1 := hv.below b1 (Nat.le_refl _)
  have u1 := hu.below b1 (Nat.le_refl _)
  have HB1 : Hid (Below w.heap.size w w1) := (show Below w.heap.size w w1 from b1)
  have HV1 : Hid (isParts w1 v n ps) := (show isParts w1 v n ps from v1)
  have HU1 : Hid (isParts w1 u m qs) := (show isParts w1 u m qs from u1)
  have T1 : tabIs w1 := ht.below b1 ht0
  obtain ⟨va, vc, rfl, _, _⟩ := hv.open
  obtain ⟨ua, uc, rfl, _, _⟩ := hu.open
  have bu := build_act va n vc
  have bv := build_act ua m uc
  clear hw1 A1 b1 v1 u1 hv hu
  go_enter Tryd.func6, Tryd.ntmps6
  go_wp2_with (first | (refine wpList_run rfl (exec_build1 38 2 (.tmp 11) (.slice va n vc) rfl rfl (bu _)) ?_; try simp only [Act.put, List.setIfInBounds_toArray, List.set_cons_zero, List.set_cons_succ]) | (refine wpList_run rfl (exec_build1 38 2 (.tmp 13) (.slice ua m uc) rfl rfl (bv _)) ?_; try simp only [Act.put, List.setIfInBounds_toArray, List.set_cons_zero, List.set_cons_succ]) | (refine wpList_run rfl (exec_bslice2 22 2 0 1 (.tmp 12) (.tmp 14) (.agg (rowV 36 (actV 0 0 (.slice va n vc) (.slice none 0 0) zq))) (.agg (rowV 36 (actV 0 0 (.slice ua m uc) (.slice none 0 0) zq))) rfl rfl rfl bs) ?_; try simp only [Act.put, List.setIfInBounds_toArray, List.set_cons_zero, List.set_cons_succ]; clear bs bu bv))
  refine HV.mono ?_
  rintro e w' ⟨r, rfl, hw, hl⟩
  obtain rfl := hw.symm
  clear hw HV
  cases r with
  | true =>
    clear hl
    go_wp2_with fail
    refine (awake_any w1 T1).mono ?_
    rintro e w2 ⟨rfl, b2⟩
    go_wp2
    go_ret
    exact ⟨rfl, HB1.out.trans (b2.mono HB1.out.size)⟩
  | false =>
    obtain ⟨_, h500, hwt⟩ := hl rfl
    have n500 : n ≤ 500 := h500 0 (by omega)
    have m500 : m ≤ 500 := h500 1 (by omega)
    have wn : (flatTo ps n).length ≤ 60000 := by
      have := wtA_one (fun i => if i = 0 then partsA n ps else partsA m qs) 2 0 (by omega)
      have e : (flatTo (partsA n ps).ps (partsA n ps).n).length = (flatTo ps n).length := rfl
      simp only [if_pos] at this
      omega
    have wm : (flatTo qs m).length ≤ 60000 := by
      have := wtA_one (fun i => if i = 0 then partsA n ps else partsA m qs) 2 1 (by omega)
      have e : (flatTo (partsA m qs).ps (partsA m qs).n).length = (flatTo qs m).length := rfl
      simp only [show ¬ (1 = 0) by omega, if_neg, if_false] at this
      omega
    have hap := @preB_apart kind other n m ps qs (fun j hj => by have := part_le ps n j hj; omega) (fun j hj => by have := part_le qs m j hj; omega)
    have P1 := pre_any kind n _ ps w1 (isParts.any HV1.out) (fun i hi => by have := blobs_le ps i; have := flatTo_mono ps n i hi; omega)
    clear h500 hwt hl
    go_wp2_with fail
    refine P1.mono ?_
    rintro e w2 ⟨x, rfl, x2, b2⟩
    have P2 := pre_any other m _ qs w2 (isParts.below HU1.out b2 (Nat.le_refl _)).any (fun i hi => by have := blobs_le qs i; have := flatTo_mono qs m i hi; omega)
    have HX : Hid (isBytes w2 x (preB kind n ps)) := (show isBytes w2 x (preB kind n ps) from x2.is)
    have HB2 : Hid (Below w1.heap.size w1 w2) := (show Below w1.heap.size w1 w2 from b2)
    obtain ⟨xa, xc, rfl, _⟩ := x2.is.slice
    clear P1 x2 b2
    go_wp2_with fail
    refine P2.mono ?_
    rintro e w3 ⟨y, rfl, y3, b3⟩
    obtain ⟨ya, yc, rfl, _⟩ := y3.is.slice
    have x3 : isBytes w3 (.slice xa (preB kind n ps).length xc) (preB kind n ps) := isBytes.below HX.out b3 (Nat.le_refl _)
    have b13 : Below w1.heap.size w1 w3 := HB2.out.trans (b3.mono HB2.out.size)
    have CX : Hid (∀ wz, Below w3.heap.size w3 wz → (convert 36 9 (.slice xa (preB kind n ps).length xc)).run Tryd.prog wz = .ok (.string (strOf (preB kind n ps))) wz) := (show ∀ wz, Below w3.heap.size w3 wz → (convert 36 9 (.slice xa (preB kind n ps).length xc)).run Tryd.prog wz = .ok (.string (strOf (preB kind n ps))) wz from fun wz hz => conv8 wz _ _ (x3.below hz (Nat.le_refl _)))
    have CY : Hid (∀ wz, Below w3.heap.size w3 wz → (convert 36 9 (.slice ya (preB other m qs).length yc)).run Tryd.prog wz = .ok (.string (strOf (preB other m qs))) wz) := (show ∀ wz, Below w3.heap.size w3 wz → (convert 36 9 (.slice ya (preB other m qs).length yc)).run Tryd.prog wz = .ok (.string (strOf (preB other m qs))) wz from fun wz hz => conv8 wz _ _ (y3.is.below hz (Nat.le_refl _)))
    have hse : strOf (preB kind n ps) = strOf (preB other m qs) ↔ preB kind n ps = preB other m qs := strOf_eq (Or.inl x3) (Or.inl y3.is)
    have HE : Hid (strOf (preB kind n ps) = strOf (preB other m qs) ↔ kind % 256 = other % 256 ∧ n = m ∧ ∀ j, j < n → ps j = qs j) := (show strOf (preB kind n ps) = strOf (preB other m qs) ↔ kind % 256 = other % 256 ∧ n = m ∧ ∀ j, j < n → ps j = qs j from hse.trans hap)
    have AL : Hid (∀ wz, Below w3.heap.size w3 wz → Calls Tryd.prog 23 #[.slice va n vc, .slice ua m uc] wz fun e w' => alikePost wz n m ps qs e w') := (show ∀ wz, Below w3.heap.size w3 wz → Calls Tryd.prog 23 #[.slice va n vc, .slice ua m uc] wz fun e w' => alikePost wz n m ps qs e w' from fun wz hz =>
      alike_any n m _ _ ps qs wz ((isParts.below HV1.out b13 (Nat.le_refl _)).below hz (Nat.le_refl _)).any ((isParts.below HU1.out b13 (Nat.le_refl _)).below hz (Nat.le_refl _)).any)
    have AW : Hid (∀ wz, Below w3.heap.size w3 wz → Calls Tryd.prog 10 #[] wz fun e w' => e = .returned (.bool true) ∧ Below wz.heap.size wz w') := (show ∀ wz, Below w3.heap.size w3 wz → Calls Tryd.prog 10 #[] wz fun e w' => e = .returned (.bool true) ∧ Below wz.heap.size wz w' from fun wz hz =>
      awake_any wz ((T1.below b13 T1.1).below hz (by have := T1.1; have := b13.size; omega)))
    have HB3 : Hid (Below w.heap.size w w3) := (show Below w.heap.size w w3 from HB1.out.trans (b13.mono HB1.out.size))
    clear P2 y3 b3 x3 b13 hse hap HX HB2 HV1 HU1 n500 m500 wn wm
    obtain ⟨px, hpx⟩ : ∃ px, px = preB kind n ps := ⟨_, rfl⟩
    obtain ⟨py, hpy⟩ : ∃ py, py = preB other m qs := ⟨_, rfl⟩
    rw [← hpx, ← hpy] at HE
    rw [← hpx] at CX ⊢
    rw [← hpy] at CY ⊢
    clear hpx hpy
    go_upto_region 4 with fail
    refine wp_region_noPanic ?_
    refine wp_region_held_drew (S := fun w' => Below w3.heap.size w3 w') (by kernel_rfl) ((Below.refl _ _).drew) (fun hHeld => ?_)
    refine take_op (i := 0) (v := ?va0) rfl (by kernel_rfl) (by kernel_rfl) (by kernel_rfl) (fun _ _ _ h => h) rfl hHeld ?ya0 ?ra0
    case ya0 => (intro wz hz; go_simp; first | done | with_reducible rfl)
    try simp only [Act.put, List.setIfInBounds_toArray, List.set_cons_zero, List.set_cons_succ]
    refine take_op (i := 1) (v := ?va1) rfl (by kernel_rfl) (by kernel_rfl) (by kernel_rfl) (fun _ _ _ h => h) rfl hHeld ?ya1 ?ra1
    case ya1 => (intro wz hz; have hcz := CX.out wz hz; go_simp; first | done | with_reducible rfl)
    try simp only [Act.put, List.setIfInBounds_toArray, List.set_cons_zero, List.set_cons_succ]
    refine take_op (i := 2) (v := ?va2) rfl (by kernel_rfl) (by kernel_rfl) (by kernel_rfl) (fun _ _ _ h => h) rfl hHeld ?ya2 ?ra2
    case ya2 => (intro wz hz; go_simp; first | done | with_reducible rfl)
    try simp only [Act.put, List.setIfInBounds_toArray, List.set_cons_zero, List.set_cons_succ]
    refine take_op (i := 3) (v := ?va3) rfl (by kernel_rfl) (by kernel_rfl) (by kernel_rfl) (fun _ _ _ h => h) rfl hHeld ?ya3 ?ra3
    case ya3 => (intro wz hz; have hcz := CY.out wz hz; go_simp; first | done | with_reducible rfl)
    try simp only [Act.put, List.setIfInBounds_toArray, List.set_cons_zero, List.set_cons_succ]
    refine take_op (i := 4) (v := ?va4) rfl (by kernel_rfl) (by kernel_rfl) (by kernel_rfl) (fun _ _ _ h => h) rfl hHeld ?ya4 ?ra4
    case ya4 => (intro wz hz; go_simp; first | done | with_reducible rfl)
    try simp only [Act.put, List.setIfInBounds_toArray, List.set_cons_zero, List.set_cons_succ]
    refine take_op (i := 5) (v := ?va5) rfl (by kernel_rfl) (by kernel_rfl) (by kernel_rfl) (fun _ _ _ h => h) rfl hHeld ?ya5 ?ra5
    case ya5 => (intro wz hz; go_simp; first | done | with_reducible rfl)
    try simp only [Act.put, List.setIfInBounds_toArray, List.set_cons_zero, List.set_cons_succ]
    refine take_op (i := 6) (v := ?va6) rfl (by kernel_rfl) (by kernel_rfl) (by kernel_rfl) (fun _ _ _ h => h) rfl hHeld ?ya6 ?ra6
    case ya6 => (intro wz hz; have hcz := i64_and255 kind; go_simp; first | done | with_reducible rfl)
    try simp only [Act.put, List.setIfInBounds_toArray, List.set_cons_zero, List.set_cons_succ]
    refine take_op (i := 7) (v := ?va7) rfl (by kernel_rfl) (by kernel_rfl) (by kernel_rfl) (fun _ _ _ h => h) rfl hHeld ?ya7 ?ra7
    case ya7 => (intro wz hz; go_simp; first | done | with_reducible rfl)
    try simp only [Act.put, List.setIfInBounds_toArray, List.set_cons_zero, List.set_cons_succ]
    refine take_op (i := 8) (v := ?va8) rfl (by kernel_rfl) (by kernel_rfl) (by kernel_rfl) (fun _ _ _ h => h) rfl hHeld ?ya8 ?ra8
    case ya8 => (intro wz hz; have hcz := i64_and255 other; go_simp; first | done | with_reducible rfl)
    try simp only [Act.put, List.setIfInBounds_toArray, List.set_cons_zero, List.set_cons_succ]
    refine take_op (i := 9) (v := ?va9) rfl (by kernel_rfl) (by kernel_rfl) (by kernel_rfl) (fun _ _ _ h => h) rfl hHeld ?ya9 ?ra9
    case ya9 => (intro wz hz; go_simp; first | done | with_reducible rfl)
    try simp only [Act.put, List.setIfInBounds_toArray, List.set_cons_zero, List.set_cons_succ]
    refine take_op (i := 10) (v := ?va10) rfl (by kernel_rfl) (by kernel_rfl) (by kernel_rfl) (fun _ _ _ h => h) rfl hHeld ?ya10 ?ra10
    case ya10 => (intro wz hz; go_simp; first | done | with_reducible rfl)
    try simp only [Act.put, List.setIfInBounds_toArray, List.set_cons_zero, List.set_cons_succ]
    by_cases hkk : kind % 256 = other % 256
    · have hkb : (kind % 256 == other % 256) = true := by rw [beq_iff_eq]; exact hkk
      rw [hkb]
      clear hkb
      refine take_op (i := 11) (v := ?vb11) rfl (by kernel_rfl) (by kernel_rfl) (by kernel_rfl) (fun _ _ _ h => h) rfl hHeld ?yb11 ?rb11
      case yb11 => (intro wz hz; go_simp; first | done | with_reducible rfl)
      try simp only [Act.put, List.setIfInBounds_toArray, List.set_cons_zero, List.set_cons_succ]
      refine take_op (i := 12) (v := ?vb12) rfl (by kernel_rfl) (by kernel_rfl) (by kernel_rfl) (fun _ _ _ h => h) rfl hHeld ?yb12 ?rb12
      case yb12 => (intro wz hz; go_simp; first | done | with_reducible rfl)
      try simp only [Act.put, List.setIfInBounds_toArray, List.set_cons_zero, List.set_cons_succ]
      refine take_one (i := 13) rfl (by kernel_rfl) rfl (fun K hK => ?_)
      go_simp
      refine Calls.mono (AL.out _ hHeld) ?_
      rintro e w8 ⟨r, rfl, hr, hbw⟩
      refine hK.out _ _ (hHeld.trans (hbw.mono hHeld.size)) (fun hHeld => ?_)
      clear hK K
      try simp only [Act.put, List.setIfInBounds_toArray, List.set_cons_zero, List.set_cons_succ]
      have hre : ((strOf px).toList == (strOf py).toList) = r := by
        rw [str_beq, Bool.eq_iff_iff, decide_eq_true_iff, hr]
        exact ⟨fun h => (HE.out.1 h).2, fun h => HE.out.2 ⟨hkk, h⟩⟩
      rw [hre]
      clear hre hr hkk HE
      cases r with
      | true =>
        refine take_op (i := 14) (v := ?vct14) rfl (by kernel_rfl) (by kernel_rfl) (by kernel_rfl) (fun _ _ _ h => h) rfl hHeld ?yct14 ?rct14
        case yct14 => (intro wz hz; go_simp; first | done | with_reducible rfl)
        try simp only [Act.put, List.setIfInBounds_toArray, List.set_cons_zero, List.set_cons_succ]
        refine take_op (i := 15) (v := ?vct15) rfl (by kernel_rfl) (by kernel_rfl) (by kernel_rfl) (fun _ _ _ h => h) rfl hHeld ?yct15 ?rct15
        case yct15 => (intro wz hz; go_simp; first | done | with_reducible rfl)
        try simp only [Act.put, List.setIfInBounds_toArray, List.set_cons_zero, List.set_cons_succ]
        refine take_op (i := 16) (v := ?vct16) rfl (by kernel_rfl) (by kernel_rfl) (by kernel_rfl) (fun _ _ _ h => h) rfl hHeld ?yct16 ?rct16
        case yct16 => (intro wz hz; go_simp; first | done | with_reducible rfl)
        try simp only [Act.put, List.setIfInBounds_toArray, List.set_cons_zero, List.set_cons_succ]
        refine take_one (i := 17) rfl (by kernel_rfl) rfl (fun K hK => ?_)
        go_simp
        refine Calls.mono (AW.out _ hHeld) ?_
        rintro e w9 ⟨rfl, hbw9⟩
        refine hK.out _ _ (hHeld.trans (hbw9.mono hHeld.size)) (fun hHeld => ?_)
        clear hK K
        try simp only [Act.put, List.setIfInBounds_toArray, List.set_cons_zero, List.set_cons_succ]
        refine take_op (i := 18) (v := ?vct18) rfl (by kernel_rfl) (by kernel_rfl) (by kernel_rfl) (fun _ _ _ h => h) rfl hHeld ?yct18 ?rct18
        case yct18 => (intro wz hz; go_simp; first | done | with_reducible rfl)
        try simp only [Act.put, List.setIfInBounds_toArray, List.set_cons_zero, List.set_cons_succ]
        refine take_op (i := 19) (v := ?vct19) rfl (by kernel_rfl) (by kernel_rfl) (by kernel_rfl) (fun _ _ _ h => h) rfl hHeld ?yct19 ?rct19
        case yct19 => (intro wz hz; go_simp; first | done | with_reducible rfl)
        try simp only [Act.put, List.setIfInBounds_toArray, List.set_cons_zero, List.set_cons_succ]
        refine wpAnyH_done (by kernel_rfl) ?_ _
        refine NoPanic.normal ?_
        have HB9 : Hid (Below w3.heap.size w3 w9) := (show Below w3.heap.size w3 w9 from hHeld)
        clear hHeld
        go_wp2
        go_ret
        exact ⟨rfl, HB3.out.trans (HB9.out.mono HB3.out.size)⟩
      | false =>
        refine take_op (i := 14) (v := ?vcf14) rfl (by kernel_rfl) (by kernel_rfl) (by kernel_rfl) (fun _ _ _ h => h) rfl hHeld ?ycf14 ?rcf14
        case ycf14 => (intro wz hz; go_simp; first | done | with_reducible rfl)
        try simp only [Act.put, List.setIfInBounds_toArray, List.set_cons_zero, List.set_cons_succ]
        refine take_op (i := 15) (v := ?vcf15) rfl (by kernel_rfl) (by kernel_rfl) (by kernel_rfl) (fun _ _ _ h => h) rfl hHeld ?ycf15 ?rcf15
        case ycf15 => (intro wz hz; go_simp; first | done | with_reducible rfl)
        try simp only [Act.put, List.setIfInBounds_toArray, List.set_cons_zero, List.set_cons_succ]
        refine take_op (i := 16) (v := ?vcf16) rfl (by kernel_rfl) (by kernel_rfl) (by kernel_rfl) (fun _ _ _ h => h) rfl hHeld ?ycf16 ?rcf16
        case ycf16 => (intro wz hz; go_simp; first | done | with_reducible rfl)
        try simp only [Act.put, List.setIfInBounds_toArray, List.set_cons_zero, List.set_cons_succ]
        refine take_one (i := 17) rfl (by kernel_rfl) rfl (fun K hK => ?_)
        go_simp
        refine Calls.mono (AW.out _ hHeld) ?_
        rintro e w9 ⟨rfl, hbw9⟩
        refine hK.out _ _ (hHeld.trans (hbw9.mono hHeld.size)) (fun hHeld => ?_)
        clear hK K
        try simp only [Act.put, List.setIfInBounds_toArray, List.set_cons_zero, List.set_cons_succ]
        refine take_op (i := 18) (v := ?vcf18) rfl (by kernel_rfl) (by kernel_rfl) (by kernel_rfl) (fun _ _ _ h => h) rfl hHeld ?ycf18 ?rcf18
        case ycf18 => (intro wz hz; go_simp; first | done | with_reducible rfl)
        try simp only [Act.put, List.setIfInBounds_toArray, List.set_cons_zero, List.set_cons_succ]
        refine take_op (i := 19) (v := ?vcf19) rfl (by kernel_rfl) (by kernel_rfl) (by kernel_rfl) (fun _ _ _ h => h) rfl hHeld ?ycf19 ?rcf19
        case ycf19 => (intro wz hz; go_simp; first | done | with_reducible rfl)
        try simp only [Act.put, List.setIfInBounds_toArray, List.set_cons_zero, List.set_cons_succ]
        refine wpAnyH_done (by kernel_rfl) ?_ _
        refine NoPanic.normal ?_
        have HB9 : Hid (Below w3.heap.size w3 w9) := (show Below w3.heap.size w3 w9 from hHeld)
        clear hHeld
        go_wp2
        go_ret
        exact ⟨rfl, HB3.out.trans (HB9.out.mono HB3.out.size)⟩
    · have hkb : (kind % 256 == other % 256) = false := by rw [beq_eq_false_iff_ne]; exact hkk
      have hre : ((strOf px).toList == (strOf py).toList) = false := by
        rw [str_beq]
        exact decide_eq_false fun h => hkk (HE.out.1 h).1
      rw [hkb, hre]
      clear hkb hre hkk HE
      refine take_not (i := 11) rfl (by kernel_rfl) (by kernel_rfl) (by kernel_rfl) (fun _ _ _ h => h) rfl hHeld ?_
      try simp only [Act.put, List.setIfInBounds_toArray, List.set_cons_zero, List.set_cons_succ]
      refine take_not (i := 12) rfl (by kernel_rfl) (by kernel_rfl) (by kernel_rfl) (fun _ _ _ h => h) rfl hHeld ?_
      try simp only [Act.put, List.setIfInBounds_toArray, List.set_cons_zero, List.set_cons_succ]
      refine take_not (i := 13) rfl (by kernel_rfl) (by kernel_rfl) (by kernel_rfl) (fun _ _ _ h => h) rfl hHeld ?_
      try simp only [Act.put, List.setIfInBounds_toArray, List.set_cons_zero, List.set_cons_succ]
      refine take_op (i := 14) (v := ?vd14) rfl (by kernel_rfl) (by kernel_rfl) (by kernel_rfl) (fun _ _ _ h => h) rfl hHeld ?yd14 ?rd14
      case yd14 => (intro wz hz; go_simp; first | done | with_reducible rfl)
      try simp only [Act.put, List.setIfInBounds_toArray, List.set_cons_zero, List.set_cons_succ]
      refine take_op (i := 15) (v := ?vd15) rfl (by kernel_rfl) (by kernel_rfl) (by kernel_rfl) (fun _ _ _ h => h) rfl hHeld ?yd15 ?rd15
      case yd15 => (intro wz hz; go_simp; first | done | with_reducible rfl)
      try simp only [Act.put, List.setIfInBounds_toArray, List.set_cons_zero, List.set_cons_succ]
      refine take_op (i := 16) (v := ?vd16) rfl (by kernel_rfl) (by kernel_rfl) (by kernel_rfl) (fun _ _ _ h => h) rfl hHeld ?yd16 ?rd16
      case yd16 => (intro wz hz; go_simp; first | done | with_reducible rfl)
      try simp only [Act.put, List.setIfInBounds_toArray, List.set_cons_zero, List.set_cons_succ]
      refine take_one (i := 17) rfl (by kernel_rfl) rfl (fun K hK => ?_)
      go_simp
      refine Calls.mono (AW.out _ hHeld) ?_
      rintro e w9 ⟨rfl, hbw9⟩
      refine hK.out _ _ (hHeld.trans (hbw9.mono hHeld.size)) (fun hHeld => ?_)
      clear hK K
      try simp only [Act.put, List.setIfInBounds_toArray, List.set_cons_zero, List.set_cons_succ]
      refine take_op (i := 18) (v := ?vd18) rfl (by kernel_rfl) (by kernel_rfl) (by kernel_rfl) (fun _ _ _ h => h) rfl hHeld ?yd18 ?rd18
      case yd18 => (intro wz hz; go_simp; first | done | with_reducible rfl)
      try simp only [Act.put, List.setIfInBounds_toArray, List.set_cons_zero, List.set_cons_succ]
      refine take_op (i := 19) (v := ?vd19) rfl (by kernel_rfl) (by kernel_rfl) (by kernel_rfl) (fun _ _ _ h => h) rfl hHeld ?yd19 ?rd19
      case yd19 => (intro wz hz; go_simp; first | done | with_reducible rfl)
      try simp only [Act.put, List.setIfInBounds_toArray, List.set_cons_zero, List.set_cons_succ]
      refine wpAnyH_done (by kernel_rfl) ?_ _
      refine NoPanic.normal ?_
      have HB9 : Hid (Below w3.heap.size w3 w9) := (show Below w3.heap.size w3 w9 from hHeld)
      clear hHeld
      go_wp2
      go_ret
      exact ⟨rfl, HB3.out.trans (HB9.out.mono HB3.out.size)⟩
end Go.Proofs.YtcfbaijibghcaaaDoor
