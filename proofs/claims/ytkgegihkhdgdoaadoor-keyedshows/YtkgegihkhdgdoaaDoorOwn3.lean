import Derived.Test.YtkgegihkhdgdoaaDoorRows
import Derived.WalkLawsBesides
import Derived.RegionTactic
import Derived.BigRegion
import Derived.Deep.QuietTactic
import Derived.BigQuiet
import Derived.Deep.Light
import Derived.Deep.Cut
import Derived.Deep.CutRange
import Derived.Test.YtkgegihkhdgdoaaDoorOwn1
import Derived.Test.YtkgegihkhdgdoaaDoorOwn2
set_option linter.unusedVariables false
set_option linter.unusedSimpArgs false
namespace Go.Proofs.YtkgegihkhdgdoaaDoor
open Go.RowKit Go.Deep

theorem pow_step (k : Nat) : 2 * (2 ^ k % 4294967296 : Int) % 4294967296 = 2 ^ (k + 1) % 4294967296 := by
  rw [Int.pow_succ]; omega
set_option maxHeartbeats 1000000 in
theorem power_any (n : Nat) (hn : n ≤ 64) (w : World) :
    Calls Tryd.prog 110 #[.int .i64 n] w fun e w' => e = .returned (.int .u32 (2 ^ n % 4294967296)) ∧ w' = w := by
  go_enter Tryd.func110, Tryd.ntmps110
  go_wp2
  go_loop [3, 4] (fun x i => ∃ k : Nat, k ≤ n ∧ i = .int .i64 k ∧ x = .int .u32 (2 ^ k % 4294967296)) (fun _ i => n - (intOf i).toNat)
  case atStart => exact ⟨0, by omega, rfl, rfl⟩
  case round =>
    obtain ⟨k, hk, rfl, rfl⟩ := hrel
    by_cases hlt : k < n
    · have HS : Hid _ := pow_step k
      have p0 : (0 : Int) ≤ 2 ^ k % 4294967296 := by omega
      have p1 : (2 ^ k % 4294967296 : Int) < 4294967296 := by omega
      revert HS p0 p1
      generalize (2 ^ k % 4294967296 : Int) = x
      intro HS p0 p1
      go_wp2
      go_round
      case rel => exact ⟨k + 1, by omega, by go_num, by rw [← HS.out]⟩
      case measure => simp [intOf]; omega
    · obtain rfl : k = n := by omega
      go_wp2
      go_ret
      exact ⟨rfl, rfl⟩

theorem pow_small (n : Nat) (h : n < 32) : (2 ^ n % 4294967296 : Int) = 2 ^ n := by
  have h1 : (2 : Int) ^ n < 2 ^ 32 := by
    have : (2 : Nat) ^ n < 2 ^ 32 := Nat.pow_lt_pow_right (by omega) h
    exact_mod_cast this
  have h0 : (0 : Int) ≤ 2 ^ n := Int.pow_nonneg (by omega)
  omega
/-- a word turned to the right, as the document's answer has it. -/
def turnR (x : Int) (n : Nat) : Int := (x / 2 ^ n + x % 2 ^ n * 2 ^ (32 - n) % 4294967296) % 4294967296
set_option maxHeartbeats 1000000 in
set_option maxRecDepth 100000 in
theorem rturn_nat (x : Int) (hx0 : 0 ≤ x) (hx1 : x < 4294967296) (n : Nat) (h0 : 0 < n) (h1 : n < 32) (w : World) :
    Calls Tryd.prog 119 #[.int .u32 x, .int .i64 n] w fun e w' => e = .returned (.int .u32 (turnR x n)) ∧ w' = w.drew := by
  have P1 := power_any n (by omega)
  have P2 := power_any (32 - n) (by omega)
  rw [pow_small n h1] at P1
  rw [pow_small (32 - n) (by omega)] at P2
  have hT : turnR x n = (x / 2 ^ n + x % 2 ^ n * 2 ^ (32 - n) % 4294967296) % 4294967296 := rfl
  rw [hT]; clear hT
  have e32 : ((32 - n : Nat) : Int) = 32 - (n : Int) := by omega
  rw [e32] at P2
  clear e32
  have a0 : (1 : Int) ≤ 2 ^ n := by have := Nat.pow_pos (n := n) (show 0 < 2 by omega); exact_mod_cast this
  have b0 : (1 : Int) ≤ 2 ^ (32 - n) := by have := Nat.pow_pos (n := 32 - n) (show 0 < 2 by omega); exact_mod_cast this
  have a1 : (2 : Int) ^ n < 4294967296 := by have := pow_small n h1; omega
  have b1 : (2 : Int) ^ (32 - n) < 4294967296 := by have := pow_small (32 - n) (by omega); omega
  revert P1 P2 a0 a1 b0 b1
  generalize (2 : Int) ^ n = a
  generalize (2 : Int) ^ (32 - n) = b
  intro P1 P2 a0 b0 a1 b1
  have q1 : IntKind.u32.wrap (x.tdiv a) = x / a := IntWalk.u32_quo _ _ (by omega)
  have q2 : x.tmod a = x % a := Int.tmod_eq_emod_of_nonneg hx0
  have qz : ¬ a = 0 := by omega
  have qw : IntKind.i64.wrap (32 - (n : Int)) = 32 - (n : Int) := IntWalk.i64_in _ (by omega)
  go_enter Tryd.func119, Tryd.ntmps119
  go_wp2
  refine wp_region_noPanic ?_
  refine wp_region_held_drew (S := fun _ => True) (by kernel_rfl) trivial (fun hHeld => ?_)
  refine take_op (i := 0) (v := ?v0) rfl (by kernel_rfl) (by kernel_rfl) (by kernel_rfl) (fun _ _ _ h => h) rfl hHeld ?y0 ?r0
  case y0 => (intro wz hz; go_simp; first | done | with_reducible rfl)
  try simp only [Act.put, List.setIfInBounds_toArray, List.set_cons_zero, List.set_cons_succ]
  refine take_op (i := 1) (v := ?v1) rfl (by kernel_rfl) (by kernel_rfl) (by kernel_rfl) (fun _ _ _ h => h) rfl hHeld ?y1 ?r1
  case y1 => (intro wz hz; go_simp; first | done | with_reducible rfl)
  try simp only [Act.put, List.setIfInBounds_toArray, List.set_cons_zero, List.set_cons_succ]
  refine take_op (i := 4) (v := ?v4) rfl (by kernel_rfl) (by kernel_rfl) (by kernel_rfl) (fun _ _ _ h => h) rfl hHeld ?y4 ?r4
  case y4 => (intro wz hz; go_simp; first | done | with_reducible rfl)
  try simp only [Act.put, List.setIfInBounds_toArray, List.set_cons_zero, List.set_cons_succ]
  refine take_op (i := 5) (v := ?v5) rfl (by kernel_rfl) (by kernel_rfl) (by kernel_rfl) (fun _ _ _ h => h) rfl hHeld ?y5 ?r5
  case y5 => (intro wz hz; go_simp; first | done | with_reducible rfl)
  try simp only [Act.put, List.setIfInBounds_toArray, List.set_cons_zero, List.set_cons_succ]
  refine take_op (i := 8) (v := ?v8) rfl (by kernel_rfl) (by kernel_rfl) (by kernel_rfl) (fun _ _ _ h => h) rfl hHeld ?y8 ?r8
  case y8 => (intro wz hz; go_simp; first | done | with_reducible rfl)
  try simp only [Act.put, List.setIfInBounds_toArray, List.set_cons_zero, List.set_cons_succ]
  refine take_op (i := 9) (v := ?v9) rfl (by kernel_rfl) (by kernel_rfl) (by kernel_rfl) (fun _ _ _ h => h) rfl hHeld ?y9 ?r9
  case y9 => (intro wz hz; go_simp; first | done | with_reducible rfl)
  try simp only [Act.put, List.setIfInBounds_toArray, List.set_cons_zero, List.set_cons_succ]
  refine take_one (i := 2) rfl (by kernel_rfl) rfl (fun K hK => ?_)
  go_simp
  refine (P1 _).mono ?_
  rintro e w' ⟨rfl, hww⟩
  obtain rfl := hww.symm
  clear hww
  refine hK.out _ _ trivial (fun hHeld => ?_)
  clear hK K
  try simp only [Act.put, List.setIfInBounds_toArray, List.set_cons_zero, List.set_cons_succ]
  refine take_op (i := 3) (v := ?v3) rfl (by kernel_rfl) (by kernel_rfl) (by kernel_rfl) (fun _ _ _ h => h) rfl hHeld ?y3 ?r3
  case y3 => (intro wz hz; go_simp; first | done | with_reducible rfl)
  try simp only [Act.put, List.setIfInBounds_toArray, List.set_cons_zero, List.set_cons_succ]
  refine take_one (i := 6) rfl (by kernel_rfl) rfl (fun K hK => ?_)
  go_simp
  refine (P1 _).mono ?_
  rintro e w' ⟨rfl, hww⟩
  obtain rfl := hww.symm
  clear hww
  refine hK.out _ _ trivial (fun hHeld => ?_)
  clear hK K
  try simp only [Act.put, List.setIfInBounds_toArray, List.set_cons_zero, List.set_cons_succ]
  refine take_op (i := 7) (v := ?v7) rfl (by kernel_rfl) (by kernel_rfl) (by kernel_rfl) (fun _ _ _ h => h) rfl hHeld ?y7 ?r7
  case y7 => (intro wz hz; go_simp; first | done | with_reducible rfl)
  try simp only [Act.put, List.setIfInBounds_toArray, List.set_cons_zero, List.set_cons_succ]
  refine take_one (i := 10) rfl (by kernel_rfl) rfl (fun K hK => ?_)
  go_simp
  refine (P2 _).mono ?_
  rintro e w' ⟨rfl, hww⟩
  obtain rfl := hww.symm
  clear hww
  refine hK.out _ _ trivial (fun hHeld => ?_)
  clear hK K
  try simp only [Act.put, List.setIfInBounds_toArray, List.set_cons_zero, List.set_cons_succ]
  refine take_op (i := 11) (v := ?v11) rfl (by kernel_rfl) (by kernel_rfl) (by kernel_rfl) (fun _ _ _ h => h) rfl hHeld ?y11 ?r11
  case y11 => (intro wz hz; go_simp; first | done | with_reducible rfl)
  try simp only [Act.put, List.setIfInBounds_toArray, List.set_cons_zero, List.set_cons_succ]
  refine take_op (i := 12) (v := ?v12) rfl (by kernel_rfl) (by kernel_rfl) (by kernel_rfl) (fun _ _ _ h => h) rfl hHeld ?y12 ?r12
  case y12 => (intro wz hz; go_simp; first | done | with_reducible rfl)
  try simp only [Act.put, List.setIfInBounds_toArray, List.set_cons_zero, List.set_cons_succ]
  refine take_op (i := 13) (v := ?v13) rfl (by kernel_rfl) (by kernel_rfl) (by kernel_rfl) (fun _ _ _ h => h) rfl hHeld ?y13 ?r13
  case y13 => (intro wz hz; go_simp; first | done | with_reducible rfl)
  try simp only [Act.put, List.setIfInBounds_toArray, List.set_cons_zero, List.set_cons_succ]
  refine wpAnyH_done (by kernel_rfl) ?_ _
  refine NoPanic.normal ?_
  clear hHeld
  go_wp2
  go_ret
  exact ⟨rfl, rfl⟩

theorem rot_turn (x : Int) (hx0 : 0 ≤ x) (hx1 : x < 4294967296) (n : Nat) (h0 : 0 < n) (h1 : n < 32) : turnR x n = rotI x n := by
  obtain ⟨X, rfl⟩ := Int.eq_ofNat_of_zero_le hx0
  have hM : (4294967296 : Nat) = 2 ^ n * 2 ^ (32 - n) := by rw [← Nat.pow_add, show n + (32 - n) = 32 by omega]
  have hX : X < 4294967296 := by omega
  have hpn : 0 < 2 ^ n := Nat.pow_pos (by omega)
  have hpm : 0 < 2 ^ (32 - n) := Nat.pow_pos (by omega)
  have hmul : X * 2 ^ (32 - n) % 4294967296 = X % 2 ^ n * 2 ^ (32 - n) := by rw [hM, Nat.mul_mod_mul_right]
  have hlow : X / 2 ^ n < 2 ^ (32 - n) := by rw [Nat.div_lt_iff_lt_mul hpn, Nat.mul_comm, ← hM]; exact hX
  have hhigh : X % 2 ^ n * 2 ^ (32 - n) ≤ (2 ^ n - 1) * 2 ^ (32 - n) := Nat.mul_le_mul_right _ (by have := Nat.mod_lt X hpn; omega)
  have hsub : (2 ^ n - 1) * 2 ^ (32 - n) + 2 ^ (32 - n) = 4294967296 := by rw [hM, Nat.sub_mul, Nat.one_mul]; have : 2 ^ (32 - n) ≤ 2 ^ n * 2 ^ (32 - n) := Nat.le_mul_of_pos_left _ hpn; omega
  have e1 : rotI (X : Int) n = ((X % 2 ^ n * 2 ^ (32 - n) + X / 2 ^ n : Nat) : Int) := by
    unfold rotI
    have c1 : (X : Int) * 2 ^ (32 - n) % 4294967296 = ((X * 2 ^ (32 - n) % 4294967296 : Nat) : Int) := by rw [Int.natCast_emod, Int.natCast_mul, Int.natCast_pow]; rfl
    have c2 : (X : Int) / 2 ^ n = ((X / 2 ^ n : Nat) : Int) := by push_cast; rfl
    rw [c1, c2, hmul, u32_or_nat _ _ (by omega) (by omega), nat_join (32 - n) _ _ (Nat.mul_mod_left _ _) hlow]
  have e2 : turnR (X : Int) n = ((X % 2 ^ n * 2 ^ (32 - n) + X / 2 ^ n : Nat) : Int) := by
    unfold turnR
    have c1 : (X : Int) % 2 ^ n * 2 ^ (32 - n) = ((X % 2 ^ n * 2 ^ (32 - n) : Nat) : Int) := by push_cast; rfl
    have c2 : (X : Int) / 2 ^ n = ((X / 2 ^ n : Nat) : Int) := by push_cast; rfl
    rw [c1, c2]
    generalize X % 2 ^ n * 2 ^ (32 - n) = A at *
    generalize X / 2 ^ n = B at *
    generalize (2 ^ n - 1) * 2 ^ (32 - n) = C at *
    generalize 2 ^ (32 - n) = D at *
    omega
  rw [e1, e2]
theorem rturn_any (x : Int) (n : Int) (hx0 : 0 ≤ x) (hx1 : x < 4294967296) (h0 : 0 < n) (h1 : n < 32) (w : World) :
    Calls Tryd.prog 119 #[.int .u32 x, .int .i64 n] w fun e w' => e = .returned (.int .u32 (rotI x n.toNat)) ∧ w' = w.drew := by
  obtain ⟨m, rfl⟩ := Int.eq_ofNat_of_zero_le (show 0 ≤ n by omega)
  rw [Int.toNat_natCast, ← rot_turn x hx0 hx1 m (by omega) (by omega)]
  exact rturn_nat x hx0 hx1 m (by omega) (by omega) w
set_option maxHeartbeats 1000000 in
theorem three_any (a b c : Int) (w : World) :
    Calls Tryd.prog 118 #[.int .u32 a, .int .u32 b, .int .u32 c] w fun e w' => e = .returned (.int .u32 (bits .xor .u32 (bits .xor .u32 a b) c)) ∧ w' = w := by
  go_enter Tryd.func118, Tryd.ntmps118
  go_wp2
  go_ret
  exact ⟨rfl, rfl⟩
set_option maxHeartbeats 2000000 in
set_option maxRecDepth 100000 in
theorem constants_any (w : World) :
    Calls Tryd.prog 117 #[] w fun e w' => e = .returned (.slice (some ⟨w.heap.size, 0, none⟩) 64 64) ∧ w' = w.alloc (.cells (rowV 64 fun i => .int .u32 (kAt i)) 152) := by
  have hk : ∀ c : Array Value, c = (rowV 64 fun i => .int .u32 (kAt i)) → w.alloc (.cells c 152) = w.alloc (.cells (rowV 64 fun i => .int .u32 (kAt i)) 152) := fun c h => by rw [h]
  have HK : Hid _ := hk
  clear hk
  go_enter Tryd.func117, Tryd.ntmps117
  go_wp2
  go_ret
  exact ⟨rfl, HK.out _ (by kernel_rfl)⟩
end Go.Proofs.YtkgegihkhdgdoaaDoor

namespace Go.Proofs.YtkgegihkhdgdoaaDoor
open Go.RowKit Go.Deep

/-- a word of bytes, byte by byte. -/
def hornerI (f : Nat → Int) (k : Nat) : Nat → Int
  | 0 => 0
  | j + 1 => (256 * hornerI f k j % 4294967296 + f (4 * k + j) % 4294967296) % 4294967296
theorem or_add (i : Nat) (a b : Int) (ha0 : 0 ≤ a) (ha1 : a < 4294967296) (hb0 : 0 ≤ b) (hb1 : b < 2 ^ i) (hi : i < 32) (ham : a % 2 ^ i = 0) : bits .or .u32 a b = a + b := by
  obtain ⟨A, rfl⟩ := Int.eq_ofNat_of_zero_le ha0
  obtain ⟨B, rfl⟩ := Int.eq_ofNat_of_zero_le hb0
  have hB : B < 2 ^ i := by exact_mod_cast hb1
  have hp : 2 ^ i ≤ 2 ^ 31 := Nat.pow_le_pow_right (by omega) (by omega)
  have hA : A % 2 ^ i = 0 := by exact_mod_cast ham
  rw [u32_or_nat _ _ (by omega) (by omega), nat_join i A B hA hB]; rfl
theorem wFirst_horner (f : Nat → Int) (hf : ∀ i, 0 ≤ f i ∧ f i ≤ 255) (k : Nat) : wFirst f k = hornerI f k 4 := by
  have h0 := hf (4 * k)
  have h1 := hf (4 * k + 1)
  have h2 := hf (4 * k + 2)
  have h3 := hf (4 * k + 3)
  simp only [hornerI, wFirst, Nat.add_zero]
  generalize f (4 * k) = a at *
  generalize f (4 * k + 1) = b at *
  generalize f (4 * k + 2) = c at *
  generalize f (4 * k + 3) = d at *
  have e1 : a % 4294967296 * 16777216 % 4294967296 = a * 16777216 := by omega
  have e2 : b % 4294967296 * 65536 % 4294967296 = b * 65536 := by omega
  have e3 : c % 4294967296 * 256 % 4294967296 = c * 256 := by omega
  have e4 : d % 4294967296 = d := by omega
  have o1 : bits .or .u32 (a * 16777216) (b * 65536) = a * 16777216 + b * 65536 := or_add 24 _ _ (by omega) (by omega) (by omega) (by omega) (by omega) (by omega)
  have o2 : bits .or .u32 (a * 16777216 + b * 65536) (c * 256) = a * 16777216 + b * 65536 + c * 256 := or_add 16 _ _ (by omega) (by omega) (by omega) (by omega) (by omega) (by omega)
  have o3 : bits .or .u32 (a * 16777216 + b * 65536 + c * 256) d = a * 16777216 + b * 65536 + c * 256 + d := or_add 8 _ _ (by omega) (by omega) (by omega) (by omega) (by omega) (by omega)
  rw [e1, e2, e3, e4, o1, o2, o3]
  omega

theorem sched_cell {w : World} {g : Nat} (f : Nat → Int) (k i : Nat) (hi : i < k) (h : ∀ j u, ((wTo f k).map (Value.int .u32))[j]? = some u → w.cell? ⟨g, j, none⟩ = some u) : w.cell? ⟨g, i, none⟩ = some (.int .u32 (wAt f k i)) := by
  refine h i _ ?_
  have hl := wTo_length f k
  rw [List.getElem?_map, List.getElem?_eq_getElem (by omega), wAt, List.getD_eq_getElem?_getD, List.getElem?_eq_getElem (by omega)]; rfl
theorem bits_range (op : BinOp) (x y : Int) : 0 ≤ bits op .u32 x y ∧ bits op .u32 x y < 4294967296 := by
  unfold bits
  simp only [IntKind.wrap_u32']
  omega
theorem wFirst_range (f : Nat → Int) (k : Nat) : 0 ≤ wFirst f k ∧ wFirst f k < 4294967296 := bits_range _ _ _
theorem wAt_range (f : Nat → Int) : ∀ k j, 0 ≤ wAt f k j ∧ wAt f k j < 4294967296
  | 0, j => by rw [wAt_zero]; omega
  | k + 1, j => by
    rw [wAt_succ]
    by_cases h : j = k
    · rw [if_pos h]
      by_cases h2 : k < 16
      · rw [if_pos h2]; exact wFirst_range f k
      · rw [if_neg h2, wNext_at]; omega
    · rw [if_neg h]; exact wAt_range f k j
theorem one_cellW (w : World) (x : Value) (j : Nat) (u : Value) (hu : ([x] : List Value)[j]? = some u) : (w.alloc (.cells #[x] 152)).cell? ⟨w.heap.size, 0 + j, none⟩ = some u := by
  have hb : (w.alloc (.cells #[x] 152)).heap[w.heap.size]? = some (.cells #[x] 152) := blk_alloc_new _ _
  rw [cell_of_row _ _ _ _ _ _ hb, Nat.zero_add]
  simpa using hu
set_option maxHeartbeats 2000000 in
set_option maxRecDepth 100000 in
theorem sched_any (f : Nat → Int) (hf : ∀ i, 0 ≤ f i ∧ f i ≤ 255) (sb so cap : Nat) (w : World) (hsb : sb < w.heap.size) (hc : ∀ i, i < 64 → w.cell? ⟨sb, so + i, none⟩ = some (.int .u8 (f i))) :
    Calls Tryd.prog 116 #[.slice (some ⟨sb, so, none⟩) 64 cap] w fun e w' => ∃ v, e = .returned v ∧ owns w' w.heap.size 152 v ((wTo f 64).map (Value.int .u32)) ∧ Below w.heap.size w w' := by
  have hiW : (Tryd.prog.info? 152).map (fun i => (i.zero, i.size, i.bytes)) = some (some (.int .u32 0), 1, 4) := by kernel_rfl
  go_enter Tryd.func116, Tryd.ntmps116
  go_wp2
  go_loopw [3, 4] (fun v i wr => ∃ k : Nat, k ≤ 16 ∧ i = .int .i64 k ∧ owns wr w.heap.size 152 v ((wTo f k).map (Value.int .u32)) ∧ Below w.heap.size w wr) (fun _ i _ => 16 - (intOf i).toNat)
  case atStart => exact ⟨0, by omega, rfl, owns_nil _ _ _, Below.refl _ _⟩
  case round =>
    obtain ⟨k, hk, rfl, ho, hb⟩ := hrel
    by_cases hlt : k < 16
    · go_wp2
      go_loopw [5, 6] (fun x i wq => ∃ j : Nat, j ≤ 4 ∧ i = .int .i64 j ∧ x = .int .u32 (hornerI f k j) ∧ wq = wr) (fun _ i _ => 4 - (intOf i).toNat)
      case atStart => exact ⟨0, by omega, rfl, rfl, rfl⟩
      case round =>
        obtain ⟨j, hj, rfl, rfl, rfl⟩ := hrel
        by_cases hltj : j < 4
        · have b0 : (0 : Int) ≤ 4 * (k : Int) + (j : Int) := by omega
          have b1 : 4 * (k : Int) + (j : Int) < 64 := by omega
          have c0 := hc (4 * k + j) (by omega)
          rw [← hb.cell (p := ⟨sb, so + (4 * k + j), none⟩) hsb] at c0
          go_wp2
          go_light
          exact ⟨⟨j + 1, by omega, by go_num, rfl, trivial⟩, by simp [intOf]; omega⟩
        · obtain rfl : j = 4 := by omega
          have hw1 := wFirst_horner f hf k
          have hlk : ((wTo f k).map (Value.int .u32)).length = k := by rw [List.length_map, wTo_length]
          obtain ⟨g, cp, w2, hr, ho2, hg2, hat, hlt2⟩ := run_append (P := Tryd.prog) (wr.alloc (.cells #[.int .u32 (hornerI f k 4)] 152)) 153 153 w.heap.size 152 (.int .u32 0) 4 Tryd.underlying153 hiW rfl u3 _ (ho.alloc _) wr.heap.size 0 1 1 [.int .u32 (hornerI f k 4)] rfl (fun j u hu => one_cellW wr _ j u hu) (fun u hu => by rw [List.mem_singleton.1 hu]; rfl) (by omega) (by rw [hlk]; unfold maxLen; omega) (by rw [hlk]; omega) (by have := hb.size; simp; omega)
          have hB2 : Below w.heap.size w w2 := (hb.alloc hb.size _).grown hg2 (by have := hb.size; simp; omega) (fun j hj => (ho.block j hj).1)
          rw [hlk] at hr ho2
          have HW : Hid _ := hw1
          have HO : Hid _ := ho2
          clear hw1 ho2 hlk hat hlt2 hg2
          go_wp2_with (first | (at_builtin; refine wpList_append_run rfl _ _ _ rfl rfl rfl hr ?_))
          clear hr ho
          go_wp2
          go_roundw
          case rel => exact ⟨k + 1, by omega, by go_num, by rw [wTo, if_pos hlt, HW.out, List.map_append]; exact HO.out, hB2⟩
          case measure => simp [intOf]; omega
    · obtain rfl : k = 16 := by omega
      clear hlt hk
      go_wp2
      simp only [show ((16 : Nat) : Int) = 16 from rfl]
      go_loopw [3, 7] (fun v i wr => ∃ k : Nat, 16 ≤ k ∧ k ≤ 64 ∧ i = .int .i64 k ∧ owns wr w.heap.size 152 v ((wTo f k).map (Value.int .u32)) ∧ Below w.heap.size w wr) (fun _ i _ => 64 - (intOf i).toNat)
      case atStart => exact ⟨16, by omega, by omega, rfl, ho, hb⟩
      case round =>
        clear ho hb
        obtain ⟨k, hk0, hk, rfl, ho, hb⟩ := hrel
        have hlk : ((wTo f k).map (Value.int .u32)).length = k := by rw [List.length_map, wTo_length]
        obtain ⟨g, cp, hv, hg0, hg1, hc1, hm1, hcell, hfz⟩ := ho.shape (by rw [hlk]; omega)
        rw [hlk] at hv hc1
        subst hv
        unfold maxLen at hm1
        by_cases hlt : k < 64
        · have d0 := sched_cell f k (k - 15) (by omega) hcell
          have d1 := sched_cell f k (k - 2) (by omega) hcell
          have d2 := sched_cell f k (k - 16) (by omega) hcell
          have d3 := sched_cell f k (k - 7) (by omega) hcell
          have n0 := wAt_range f k (k - 15)
          have n1 := wAt_range f k (k - 2)
          have g0 : (15 : Int) ≤ (k : Int) := by omega
          have g1 : (2 : Int) ≤ (k : Int) := by omega
          have g2 : (16 : Int) ≤ (k : Int) := by omega
          have g3 : (7 : Int) ≤ (k : Int) := by omega
          have g4 : (k : Int) < 64 := by omega
          have HN : Hid _ := wNext_at f k
          have e0 : (0 : Int) ≤ wAt f k (k - 15) ∧ wAt f k (k - 15) < 4294967296 := n0
          clear hcell hfz
          go_wp2
          go_quiet (fail)
          go_wp2_with fail
          refine (rturn_any _ _ n0.1 n0.2 (by decide) (by decide) _).mono ?_
          rintro e wa ⟨rfl, rfl⟩
          go_wp2_with fail
          refine (rturn_any _ _ n0.1 n0.2 (by decide) (by decide) _).mono ?_
          rintro e wa ⟨rfl, rfl⟩
          go_wp2_with fail
          refine (three_any _ _ _ _).mono ?_
          rintro e wa ⟨rfl, rfl⟩
          go_wp2_with fail
          refine (rturn_any _ _ n1.1 n1.2 (by decide) (by decide) _).mono ?_
          rintro e wa ⟨rfl, rfl⟩
          go_wp2_with fail
          refine (rturn_any _ _ n1.1 n1.2 (by decide) (by decide) _).mono ?_
          rintro e wa ⟨rfl, rfl⟩
          go_wp2_with fail
          refine (three_any _ _ _ _).mono ?_
          rintro e wa ⟨rfl, rfl⟩
          simp only [show (7 : Int).toNat = 7 from rfl, show (18 : Int).toNat = 18 from rfl, show (17 : Int).toNat = 17 from rfl, show (19 : Int).toNat = 19 from rfl]
          go_wp2_with fail
          have ho' : owns (wr.drewN (nq + 1 + 1 + 1 + 1)).drew w.heap.size 152 (.slice (some ⟨g, 0, none⟩) k cp) ((wTo f k).map (Value.int .u32)) := ho
          have hb' : Below w.heap.size w (wr.drewN (nq + 1 + 1 + 1 + 1)).drew := (hb.drewN _).drew
          have d2' : (wr.drewN (nq + 1 + 1 + 1 + 1)).drew.cell? ⟨g, k - 16, none⟩ = some (.int .u32 (wAt f k (k - 16))) := d2
          have d3' : (wr.drewN (nq + 1 + 1 + 1 + 1)).drew.cell? ⟨g, k - 7, none⟩ = some (.int .u32 (wAt f k (k - 7))) := d3
          have i16 : IntKind.i64.wrap ((k : Int) - 16) = (k : Int) - 16 := IntWalk.i64_in _ (by omega)
          have i7 : IntKind.i64.wrap ((k : Int) - 7) = (k : Int) - 7 := IntWalk.i64_in _ (by omega)
          have l16 : (k : Int) - 16 < (k : Int) := by omega
          have l7 : (k : Int) - 7 < (k : Int) := by omega
          have t16 : ((k : Int) - 16).toNat = k - 16 := by omega
          have t7 : ((k : Int) - 7).toNat = k - 7 := by omega
          have hX : IntKind.u32.wrap (IntKind.u32.wrap (IntKind.u32.wrap (wAt f k (k - 16) + bits .xor .u32 (bits .xor .u32 (rotI (wAt f k (k - 15)) 7) (rotI (wAt f k (k - 15)) 18)) (wAt f k (k - 15) / 8)) + wAt f k (k - 7)) + bits .xor .u32 (bits .xor .u32 (rotI (wAt f k (k - 2)) 17) (rotI (wAt f k (k - 2)) 19)) (wAt f k (k - 2) / 1024)) = wNext (wTo f k) k := by
            rw [HN.out]; simp only [IntKind.wrap_u32']
          have HX : Hid _ := hX
          clear hX HN
          clear d0 d1 d2 d3 ho hb
          refine wp_region_noPanic ?_
          refine wp_region_held_drew (S := fun _ => True) (by kernel_rfl) trivial (fun hHeld => ?_)
          generalize (wr.drewN (nq + 1 + 1 + 1 + 1)).drew = wy at *
          obtain ⟨g', cp', w2, hr, ho2, hg2, hat, hlt2⟩ := run_append (P := Tryd.prog) (wy.alloc (.cells #[.int .u32 (wNext (wTo f k) k)] 152)) 153 153 w.heap.size 152 (.int .u32 0) 4 Tryd.underlying153 hiW rfl _ _ (ho'.alloc _) wy.heap.size 0 1 1 [.int .u32 (wNext (wTo f k) k)] rfl (fun j u hu => one_cellW wy _ j u hu) (fun u hu => by rw [List.mem_singleton.1 hu]; rfl) (by omega) (by rw [hlk]; unfold maxLen; omega) (by rw [hlk]; omega) (by have := hb'.size; simp; omega)
          have hB2 : Below w.heap.size w w2 := (hb'.alloc hb'.size _).grown hg2 (by have := hb'.size; simp; omega) (fun j hj => (ho'.block j hj).1)
          rw [hlk] at hr ho2
          have HO : Hid _ := ho2
          have HB : Hid _ := hB2
          clear ho2 hB2 hat hlt2 hg2 ho' hb'
          refine take_op (i := 0) (v := ?v0) rfl (by kernel_rfl) (by kernel_rfl) (by kernel_rfl) (fun _ _ _ h => h) rfl hHeld ?y0 ?r0
          case y0 => (intro wz hz; go_simp; first | done | with_reducible rfl)
          try simp only [Act.put, List.setIfInBounds_toArray, List.set_cons_zero, List.set_cons_succ]
          refine take_op (i := 1) (v := ?v1) rfl (by kernel_rfl) (by kernel_rfl) (by kernel_rfl) (fun _ _ _ h => h) rfl hHeld ?y1 ?r1
          case y1 => (intro wz hz; go_simp; first | done | with_reducible rfl)
          try simp only [Act.put, List.setIfInBounds_toArray, List.set_cons_zero, List.set_cons_succ]
          refine take_op (i := 2) (v := ?v2) rfl (by kernel_rfl) (by kernel_rfl) (by kernel_rfl) (fun _ _ _ h => h) rfl hHeld ?y2 ?r2
          case y2 => (intro wz hz; go_simp; first | done | with_reducible rfl)
          try simp only [Act.put, List.setIfInBounds_toArray, List.set_cons_zero, List.set_cons_succ]
          refine take_op (i := 3) (v := ?v3) rfl (by kernel_rfl) (by kernel_rfl) (by kernel_rfl) (fun _ _ _ h => h) rfl hHeld ?y3 ?r3
          case y3 => (intro wz hz; go_simp; first | done | with_reducible rfl)
          try simp only [Act.put, List.setIfInBounds_toArray, List.set_cons_zero, List.set_cons_succ]
          refine take_op (i := 4) (v := ?v4) rfl (by kernel_rfl) (by kernel_rfl) (by kernel_rfl) (fun _ _ _ h => h) rfl hHeld ?y4 ?r4
          case y4 => (intro wz hz; go_simp; first | done | with_reducible rfl)
          try simp only [Act.put, List.setIfInBounds_toArray, List.set_cons_zero, List.set_cons_succ]
          refine take_op (i := 6) (v := ?v6) rfl (by kernel_rfl) (by kernel_rfl) (by kernel_rfl) (fun _ _ _ h => h) rfl hHeld ?y6 ?r6
          case y6 => (intro wz hz; go_simp; first | done | with_reducible rfl)
          try simp only [Act.put, List.setIfInBounds_toArray, List.set_cons_zero, List.set_cons_succ]
          refine take_op (i := 8) (v := ?v8) rfl (by kernel_rfl) (by kernel_rfl) (by kernel_rfl) (fun _ _ _ h => h) rfl hHeld ?y8 ?r8
          case y8 => (intro wz hz; go_simp; first | done | with_reducible rfl)
          try simp only [Act.put, List.setIfInBounds_toArray, List.set_cons_zero, List.set_cons_succ]
          refine take_op (i := 9) (v := ?v9) rfl (by kernel_rfl) (by kernel_rfl) (by kernel_rfl) (fun _ _ _ h => h) rfl hHeld ?y9 ?r9
          case y9 => (intro wz hz; go_simp; first | done | with_reducible rfl)
          try simp only [Act.put, List.setIfInBounds_toArray, List.set_cons_zero, List.set_cons_succ]
          refine take_op (i := 10) (v := ?v10) rfl (by kernel_rfl) (by kernel_rfl) (by kernel_rfl) (fun _ _ _ h => h) rfl hHeld ?y10 ?r10
          case y10 => (intro wz hz; go_simp; first | done | with_reducible rfl)
          try simp only [Act.put, List.setIfInBounds_toArray, List.set_cons_zero, List.set_cons_succ]
          refine take_op (i := 11) (v := ?v11) rfl (by kernel_rfl) (by kernel_rfl) (by kernel_rfl) (fun _ _ _ h => h) rfl hHeld ?y11 ?r11
          case y11 => (intro wz hz; go_simp; first | done | with_reducible rfl)
          try simp only [Act.put, List.setIfInBounds_toArray, List.set_cons_zero, List.set_cons_succ]
          refine take_op (i := 14) (v := ?v14) rfl (by kernel_rfl) (by kernel_rfl) (by kernel_rfl) (fun _ _ _ h => h) rfl hHeld ?y14 ?r14
          case y14 => (intro wz hz; go_simp; first | done | with_reducible rfl)
          try simp only [Act.put, List.setIfInBounds_toArray, List.set_cons_zero, List.set_cons_succ]
          refine take_two (i := 5) (j := 12) (u := ?vu) (v := ?vv) rfl rfl (by kernel_rfl) rfl rfl trivial ?yu ?yv ?ru ?rv
          case yu => (go_simp; first | done | with_reducible rfl)
          case yv => (go_simp; first | done | with_reducible rfl)
          case ru =>
            try simp only [Act.put, List.setIfInBounds_toArray, List.set_cons_zero, List.set_cons_succ]
            refine take_op (i := 7) (v := ?va7) rfl (by kernel_rfl) (by kernel_rfl) (by kernel_rfl) (fun _ _ _ h => h) rfl hHeld ?ya7 ?ra7
            case ya7 => (intro wz hz; go_simp; first | done | with_reducible rfl)
            try simp only [Act.put, List.setIfInBounds_toArray, List.set_cons_zero, List.set_cons_succ]
            refine take_run (i := 12) (v := ?va12) (w' := wy) rfl (by kernel_rfl) rfl ?ya12 trivial ?ra12
            case ya12 => (go_simp; first | done | with_reducible rfl)
            try simp only [Act.put, List.setIfInBounds_toArray, List.set_cons_zero, List.set_cons_succ]
            refine take_op (i := 13) (v := ?va13) rfl (by kernel_rfl) (by kernel_rfl) (by kernel_rfl) (fun _ _ _ h => h) rfl hHeld ?ya13 ?ra13
            case ya13 => (intro wz hz; go_simp; first | done | with_reducible rfl)
            try simp only [Act.put, List.setIfInBounds_toArray, List.set_cons_zero, List.set_cons_succ]
            refine take_op (i := 15) (v := ?va15) rfl (by kernel_rfl) (by kernel_rfl) (by kernel_rfl) (fun _ _ _ h => h) rfl hHeld ?ya15 ?ra15
            case ya15 => (intro wz hz; go_simp; first | done | with_reducible rfl)
            try simp only [Act.put, List.setIfInBounds_toArray, List.set_cons_zero, List.set_cons_succ]
            refine take_one (i := 16) rfl (by kernel_rfl) rfl (fun K hK => ?_)
            go_simp
            refine hK.out _ _ trivial (fun hHeld => ?_)
            clear hK K
            try simp only [Act.put, List.setIfInBounds_toArray, List.set_cons_zero, List.set_cons_succ]
            rw [HX.out]
            refine take_one (i := 17) rfl (by kernel_rfl) rfl (fun K hK => ?_)
            refine wp_append_run _ _ _ rfl rfl rfl hr ?_
            refine hK.out _ _ trivial (fun hHeld => ?_)
            clear hK K hr d2' d3'
            try simp only [Act.put, List.setIfInBounds_toArray, List.set_cons_zero, List.set_cons_succ]
            refine take_op (i := 18) (v := ?va18) rfl (by kernel_rfl) (by kernel_rfl) (by kernel_rfl) (fun _ _ _ h => h) rfl hHeld ?ya18 ?ra18
            case ya18 => (intro wz hz; go_simp; first | done | with_reducible rfl)
            try simp only [Act.put, List.setIfInBounds_toArray, List.set_cons_zero, List.set_cons_succ]
            refine wpAnyH_done (by kernel_rfl) ?_ _
            refine NoPanic.normal ?_
            clear hHeld
            go_wp2
            go_light
            exact ⟨⟨k + 1, by omega, by omega, by go_num, by rw [wTo, if_neg (by omega), List.map_append]; exact HO.out, HB.out⟩, by simp [intOf]; omega⟩
          case rv =>
            try simp only [Act.put, List.setIfInBounds_toArray, List.set_cons_zero, List.set_cons_succ]
            refine take_run (i := 5) (v := ?vb5) (w' := wy) rfl (by kernel_rfl) rfl ?yb5 trivial ?rb5
            case yb5 => (go_simp; first | done | with_reducible rfl)
            try simp only [Act.put, List.setIfInBounds_toArray, List.set_cons_zero, List.set_cons_succ]
            refine take_op (i := 7) (v := ?vb7) rfl (by kernel_rfl) (by kernel_rfl) (by kernel_rfl) (fun _ _ _ h => h) rfl hHeld ?yb7 ?rb7
            case yb7 => (intro wz hz; go_simp; first | done | with_reducible rfl)
            try simp only [Act.put, List.setIfInBounds_toArray, List.set_cons_zero, List.set_cons_succ]
            refine take_op (i := 13) (v := ?vb13) rfl (by kernel_rfl) (by kernel_rfl) (by kernel_rfl) (fun _ _ _ h => h) rfl hHeld ?yb13 ?rb13
            case yb13 => (intro wz hz; go_simp; first | done | with_reducible rfl)
            try simp only [Act.put, List.setIfInBounds_toArray, List.set_cons_zero, List.set_cons_succ]
            refine take_op (i := 15) (v := ?vb15) rfl (by kernel_rfl) (by kernel_rfl) (by kernel_rfl) (fun _ _ _ h => h) rfl hHeld ?yb15 ?rb15
            case yb15 => (intro wz hz; go_simp; first | done | with_reducible rfl)
            try simp only [Act.put, List.setIfInBounds_toArray, List.set_cons_zero, List.set_cons_succ]
            refine take_one (i := 16) rfl (by kernel_rfl) rfl (fun K hK => ?_)
            go_simp
            refine hK.out _ _ trivial (fun hHeld => ?_)
            clear hK K
            try simp only [Act.put, List.setIfInBounds_toArray, List.set_cons_zero, List.set_cons_succ]
            rw [HX.out]
            refine take_one (i := 17) rfl (by kernel_rfl) rfl (fun K hK => ?_)
            refine wp_append_run _ _ _ rfl rfl rfl hr ?_
            refine hK.out _ _ trivial (fun hHeld => ?_)
            clear hK K hr d2' d3'
            try simp only [Act.put, List.setIfInBounds_toArray, List.set_cons_zero, List.set_cons_succ]
            refine take_op (i := 18) (v := ?vb18) rfl (by kernel_rfl) (by kernel_rfl) (by kernel_rfl) (fun _ _ _ h => h) rfl hHeld ?yb18 ?rb18
            case yb18 => (intro wz hz; go_simp; first | done | with_reducible rfl)
            try simp only [Act.put, List.setIfInBounds_toArray, List.set_cons_zero, List.set_cons_succ]
            refine wpAnyH_done (by kernel_rfl) ?_ _
            refine NoPanic.normal ?_
            clear hHeld
            go_wp2
            go_light
            exact ⟨⟨k + 1, by omega, by omega, by go_num, by rw [wTo, if_neg (by omega), List.map_append]; exact HO.out, HB.out⟩, by simp [intOf]; omega⟩
        · obtain rfl : k = 64 := by omega
          clear hcell hfz
          go_wp2
          go_ret
          exact ⟨_, rfl, ho, hb⟩
end Go.Proofs.YtkgegihkhdgdoaaDoor

/- The document's Ch and Maj are the program's. Plain mathematics. -/
namespace Go.Proofs.YtkgegihkhdgdoaaDoor
set_option linter.unusedSimpArgs false

def bv (x : Int) : BitVec 32 := BitVec.ofInt 32 x
theorem bits_bv_and (x y : Int) : bits .and .u32 x y = ((bv x &&& bv y).toNat : Int) := by
  show IntKind.u32.wrap ((BitVec.ofInt 32 x &&& BitVec.ofInt 32 y).toNat : Int) = _
  rw [IntKind.wrap_u32']
  have := (BitVec.ofInt 32 x &&& BitVec.ofInt 32 y).isLt
  unfold bv; omega
theorem bits_bv_or (x y : Int) : bits .or .u32 x y = ((bv x ||| bv y).toNat : Int) := by
  show IntKind.u32.wrap ((BitVec.ofInt 32 x ||| BitVec.ofInt 32 y).toNat : Int) = _
  rw [IntKind.wrap_u32']
  have := (BitVec.ofInt 32 x ||| BitVec.ofInt 32 y).isLt
  unfold bv; omega
theorem bits_bv_xor (x y : Int) : bits .xor .u32 x y = ((bv x ^^^ bv y).toNat : Int) := by
  show IntKind.u32.wrap ((BitVec.ofInt 32 x ^^^ BitVec.ofInt 32 y).toNat : Int) = _
  rw [IntKind.wrap_u32']
  have := (BitVec.ofInt 32 x ^^^ BitVec.ofInt 32 y).isLt
  unfold bv; omega
theorem bv_nat (a : BitVec 32) : bv (a.toNat : Int) = a := by unfold bv; simp
/-- e & f | (not e) & g. -/
theorem ch_same (e f g : Int) : bits .or .u32 (bits .and .u32 e f) (bits .and .u32 (bits .xor .u32 4294967295 e) g) = bits .xor .u32 (bits .and .u32 e f) (bits .and .u32 (notI e) g) := by
  have hn : notI e = bits .xor .u32 4294967295 e := rfl
  rw [hn]
  simp only [bits_bv_and, bits_bv_or, bits_bv_xor, bv_nat]
  congr 2
  have h1 : bv 4294967295 = BitVec.allOnes 32 := by decide
  rw [h1]
  generalize bv e = a
  generalize bv f = b
  generalize bv g = c
  apply BitVec.eq_of_getLsbD_eq
  intro i hi
  simp only [BitVec.getLsbD_or, BitVec.getLsbD_and, BitVec.getLsbD_xor, BitVec.getLsbD_allOnes, hi, decide_true]
  cases a.getLsbD i <;> cases b.getLsbD i <;> cases c.getLsbD i <;> rfl
/-- a & b | a & c | b & c. -/
theorem maj_same (x y z : Int) : bits .or .u32 (bits .or .u32 (bits .and .u32 x y) (bits .and .u32 x z)) (bits .and .u32 y z) = bits .xor .u32 (bits .xor .u32 (bits .and .u32 x y) (bits .and .u32 x z)) (bits .and .u32 y z) := by
  simp only [bits_bv_and, bits_bv_or, bits_bv_xor, bv_nat]
  congr 2
  generalize bv x = a
  generalize bv y = b
  generalize bv z = c
  apply BitVec.eq_of_getLsbD_eq
  intro i hi
  simp only [BitVec.getLsbD_or, BitVec.getLsbD_and, BitVec.getLsbD_xor]
  cases a.getLsbD i <;> cases b.getLsbD i <;> cases c.getLsbD i <;> rfl
/-- the document's round is the program's. -/
theorem rndT_doc (s : S8) (k w : Int) : ((((s.h + bits .xor .u32 (bits .xor .u32 (rotI s.e 6) (rotI s.e 11)) (rotI s.e 25)) % 4294967296 + bits .or .u32 (bits .and .u32 s.e s.f) (bits .and .u32 (bits .xor .u32 4294967295 s.e) s.g)) % 4294967296 + k) % 4294967296 + w) % 4294967296 = rndT s k w := by
  rw [ch_same, rndT]
  omega
theorem rndU_doc (s : S8) : (bits .xor .u32 (bits .xor .u32 (rotI s.a 2) (rotI s.a 13)) (rotI s.a 22) + bits .or .u32 (bits .or .u32 (bits .and .u32 s.a s.b) (bits .and .u32 s.a s.c)) (bits .and .u32 s.b s.c)) % 4294967296 = rndU s := by
  rw [maj_same, rndU]
end Go.Proofs.YtkgegihkhdgdoaaDoor

/- The document's Block. -/
namespace Go.Proofs.YtkgegihkhdgdoaaDoor
set_option linter.unusedSimpArgs false
set_option linter.unusedVariables false
open Go.RowKit Go.Deep

/-- eight words as values. -/
def s8L (s : S8) : List Value := [.int .u32 s.a, .int .u32 s.b, .int .u32 s.c, .int .u32 s.d, .int .u32 s.e, .int .u32 s.f, .int .u32 s.g, .int .u32 s.h]
def okW (x : Int) : Prop := 0 ≤ x ∧ x < 4294967296
def okS (s : S8) : Prop := okW s.a ∧ okW s.b ∧ okW s.c ∧ okW s.d ∧ okW s.e ∧ okW s.f ∧ okW s.g ∧ okW s.h
theorem okS_rnd (s : S8) (k w : Int) (h : okS s) : okS (rnd s k w) := by
  obtain ⟨h1, h2, h3, h4, h5, h6, h7, h8⟩ := h
  exact ⟨by unfold okW rnd; simp only; omega, h1, h2, h3, by unfold okW rnd; simp only; omega, h5, h6, h7⟩
theorem hi32w : (Tryd.prog.info? 152).map (fun i => (i.zero, i.size, i.bytes)) = some (some (.int .u32 0), 1, 4) := by kernel_rfl
/-- append(v, u...), v of the call's own, u words somewhere. -/
theorem words_append_run (w : World) (B : Nat) (v : Value) (xs : List Value) (hv : owns w B 152 v xs) (sb so m c : Nat) (news : List Value) (hl : news.length = m) (hc : ∀ (j : Nat) (u : Value), news[j]? = some u → w.cell? ⟨sb, so + j, none⟩ = some u) (h1 : ∀ u ∈ news, u.oneCell' = true) (hm : 0 < m) (hs : xs.length + m ≤ 1000) (hB : B ≤ w.heap.size) :
    ∃ v' w', (Builtin.append_ #[153, 153] 153 #[v, .slice (some ⟨sb, so, none⟩) m c]).run Tryd.prog w = .ok v' w' ∧ owns w' B 152 v' (xs ++ news) ∧ w.grownBy w' v.ownBlock ∧ (v'.ownBlock = v.ownBlock ∨ v'.ownBlock = some w.heap.size) := by
  obtain ⟨g, cap, w', hr, ho, hg, hat, hlt⟩ := run_append (P := Tryd.prog) w 153 153 B 152 (.int .u32 0) 4 Tryd.underlying153 hi32w rfl v xs hv sb so m c news hl hc h1 hm (by unfold maxLen; omega) (by omega) hB
  refine ⟨_, w', hr, ho, hg, ?_⟩
  rcases hat with h | h
  · exact Or.inl h.symm
  · exact Or.inr (by rw [h]; rfl)
theorem run_slice_to7 (g cg : Nat) (h : 8 ≤ cg) (w : World) : (Instr.slice 153 (.slice (some ⟨g, 0, none⟩) 8 cg) none (some (.int .i64 7)) none).run Tryd.prog w = .ok (.slice (some ⟨g, 0, none⟩) 7 cg) w := by
  cases hq : Tryd.prog.info? 152 with
  | none => have := hi32w; simp [hq] at this
  | some i =>
    have hi : i.size = 1 := by have := hi32w; simp [hq] at this; exact this.2.1
    have h0 : (7 : Int) ≤ (cg : Int) := by omega
    have h1 : 7 ≤ cg := by omega
    simp [Instr.slice, Instr.sliceBounds, Instr.sliceBound, asIntOf, run_underlying Tryd.underlying153, sizeOf, typeInfo, hq, hi, h0, h1, Addr.add_mid]
theorem owns_row {w : World} {B e g n cap : Nat} {xs : List Value} (h : owns w B e (.slice (some ⟨g, 0, none⟩) n cap) xs) : ∃ F : Nat → Value, w.rowIs g e cap F ∧ (∀ (i : Nat) (u : Value), xs[i]? = some u → F i = u) ∧ n ≤ cap ∧ cap ≤ maxLen ∧ B ≤ g := by
  obtain ⟨hl, h | ⟨g', cap', cur, he, hB, hb, hc, hm, hs, ht⟩⟩ := h
  · cases h.1
  · have he' : g = g' ∧ n = xs.length ∧ cap = cap' := by simpa using he
    obtain ⟨rfl, rfl, rfl⟩ := he'
    refine ⟨fun i => cur.getD i undef, ⟨cur, hb, by omega, fun i hi => ?_⟩, fun i u hu => ?_, hc, hm, hB⟩
    · rw [Array.getElem?_eq_getElem (by omega)]; simp [Array.getD, show i < cur.size by omega]
    · rw [← ht, List.getElem?_take] at hu
      split at hu
      · rw [Array.getElem?_toList] at hu; simp [Array.getD_eq_getD_getElem?, hu]
      · cases hu
theorem owns_of_row {w : World} {B e g n cap : Nat} {F : Nat → Value} (h : w.rowIs g e cap F) (hn : n ≤ cap) (hm : cap ≤ maxLen) (hB : B ≤ g) : owns w B e (.slice (some ⟨g, 0, none⟩) n cap) ((List.range n).map F) := by
  obtain ⟨cur, hb, hs, hc⟩ := h
  refine ⟨by simp, Or.inr ⟨g, cap, cur, by simp, hB, hb, by simpa using hn, hm, by omega, ?_⟩⟩
  apply List.ext_getElem?
  intro i
  rw [List.getElem?_take]
  simp only [List.length_map, List.length_range, Nat.mul_one]
  by_cases hi : i < n
  · rw [if_pos hi, Array.getElem?_toList, hc i (by omega), List.getElem?_map, List.getElem?_range hi]; rfl
  · rw [if_neg hi, List.getElem?_eq_none (by simp; omega)]
/-- the eight words behind k rounds, and what is read besides. -/
def blkAt (w w3 wr : World) (g2 gk : Nat) (xv : Value) (f : Nat → Int) (s0 : S8) (k : Nat) : Prop :=
  owns wr w.heap.size 152 xv (s8L (rndTo (wAt f 64) s0 k)) ∧ (∀ j, xv.ownBlock = some j → j ≠ g2 ∧ j ≠ gk) ∧ (∀ i, i < 64 → wr.cell? ⟨g2, i, none⟩ = some (.int .u32 (wAt f 64 i))) ∧ (∀ i, i < 64 → wr.cell? ⟨gk, i, none⟩ = some (.int .u32 (kAt i))) ∧ Below w.heap.size w wr ∧ w3.heap.size ≤ wr.heap.size
theorem okS_to (wd : Nat → Int) (s : S8) (h : okS s) : ∀ k, okS (rndTo wd s k)
  | 0 => h
  | k + 1 => okS_rnd _ _ _ (okS_to wd s h k)
set_option maxHeartbeats 4000000 in
set_option maxRecDepth 100000 in
theorem block_any (s0 : S8) (h0 : okS s0) (f : Nat → Int) (hf : ∀ i, 0 ≤ f i ∧ f i ≤ 255) (ob oo oc sb so cap : Nat) (w : World) (hob : ob < w.heap.size) (ho : ∀ (j : Nat) (u : Value), (s8L s0)[j]? = some u → w.cell? ⟨ob, oo + j, none⟩ = some u) (hsb : sb < w.heap.size) (hs : ∀ i, i < 64 → w.cell? ⟨sb, so + i, none⟩ = some (.int .u8 (f i))) :
    Calls Tryd.prog 109 #[.slice (some ⟨ob, oo, none⟩) 8 oc, .slice (some ⟨sb, so, none⟩) 64 cap] w fun e w' => ∃ v, e = .returned v ∧ owns w' w.heap.size 152 v ((List.range 8).map fun i => .int .u32 ((s0.at i + (rndTo (wAt f 64) s0 64).at i) % 4294967296)) ∧ Below w.heap.size w w' := by
  have hO : owns (w.alloc (.cells #[] 152)) w.heap.size 152 (.slice (some ⟨w.heap.size, 0, none⟩) 0 0) [] :=
    ⟨rfl, Or.inr ⟨w.heap.size, 0, #[], rfl, Nat.le_refl _, blk_alloc_new _ _, Nat.le_refl _, by unfold maxLen; omega, rfl, rfl⟩⟩
  have b0 : Below w.heap.size w (w.alloc (.cells #[] 152)) := (Below.refl _ _).alloc (Nat.le_refl _) _
  obtain ⟨v1, w1, r1, o1, g1, a1⟩ := words_append_run _ w.heap.size _ [] hO ob oo 8 oc (s8L s0) rfl (fun j u hu => (b0.cell (p := ⟨ob, oo + j, none⟩) hob).trans (ho j u hu)) (fun u hu => by
    simp only [s8L, List.mem_cons, List.not_mem_nil, or_false] at hu
    rcases hu with rfl | rfl | rfl | rfl | rfl | rfl | rfl | rfl <;> rfl) (by omega) (by simp) (by simp)
  have b1 : Below w.heap.size w w1 := b0.trans ⟨g1.os, g1.tape, g1.output, g1.size, fun k hk => g1.block k (by simp; omega) (fun e => by have := (hO.block k e.symm).1; omega)⟩
  obtain ⟨gx, cx, hv1, hgx, hgx1, _, _, _, _⟩ := o1.shape (by simp [s8L])
  have SC := sched_any f hf sb so cap w1 (Nat.lt_of_lt_of_le hsb b1.size) (fun i hi => (b1.cell (p := ⟨sb, so + i, none⟩) hsb).trans (hs i hi))
  subst hv1
  have O1 : Hid (owns w1 w.heap.size 152 (.slice (some ⟨gx, 0, none⟩) (([] : List Value) ++ s8L s0).length cx) ([] ++ s8L s0)) := (show owns w1 w.heap.size 152 (.slice (some ⟨gx, 0, none⟩) (([] : List Value) ++ s8L s0).length cx) ([] ++ s8L s0) from o1)
  have B1 : Hid (Below w.heap.size w w1) := (show Below w.heap.size w w1 from b1)
  have R1 : Hid ((Builtin.append_ #[153, 153] 153 #[.slice (some ⟨w.heap.size, 0, none⟩) 0 0, .slice (some ⟨ob, oo, none⟩) 8 oc]).run Tryd.prog (w.alloc (.cells #[] 152)) = .ok (.slice (some ⟨gx, 0, none⟩) (([] : List Value) ++ s8L s0).length cx) w1) := (show (Builtin.append_ #[153, 153] 153 #[.slice (some ⟨w.heap.size, 0, none⟩) 0 0, .slice (some ⟨ob, oo, none⟩) 8 oc]).run Tryd.prog (w.alloc (.cells #[] 152)) = .ok (.slice (some ⟨gx, 0, none⟩) (([] : List Value) ++ s8L s0).length cx) w1 from r1)
  clear hO b0 r1 o1 g1 a1 b1
  go_enter Tryd.func109, Tryd.ntmps109
  go_wp2_with (first | (at_builtin; refine wpList_append_run rfl (.tmp 15) (.tmp 16) _ rfl rfl rfl R1.out ?_; try simp only [Act.put, List.setIfInBounds_toArray, List.set_cons_zero, List.set_cons_succ]; clear R1))
  refine SC.mono ?_
  rintro e w2 ⟨v2, rfl, o2, b2⟩
  obtain ⟨g2, c2, rfl, hg2, hg2l, _, _, hc2, _⟩ := o2.shape (by simp [wTo_length])
  have KO := constants_any w2
  have l8 : (([] : List Value) ++ s8L s0).length = 8 := rfl
  have l64 : (List.map (Value.int IntKind.u32) (wTo f 64)).length = 64 := by simp [wTo_length]
  simp only [l8, l64]
  clear SC
  go_wp2_with fail
  refine KO.mono ?_
  rintro e w3 ⟨rfl, hw3⟩
  have rk : w3.rowIs w2.heap.size 152 64 (fun i => .int .u32 (kAt i)) := by rw [hw3]; exact rowIs_box w2 _ _ _
  have b3 : Below w2.heap.size w2 w3 := by rw [hw3]; exact (Below.refl _ _).alloc (Nat.le_refl _) _
  have BL : Hid (blkAt w w3 w3 g2 w2.heap.size (.slice (some ⟨gx, 0, none⟩) 8 cx) f s0 0) := (show blkAt w w3 w3 g2 w2.heap.size (.slice (some ⟨gx, 0, none⟩) 8 cx) f s0 0 from
    ⟨(owns.below O1.out b2 (Nat.le_refl _)).below b3 (Nat.le_refl _), fun j hj => by
      obtain rfl : gx = j := by simpa [Value.ownBlock] using hj
      exact ⟨by omega, by omega⟩, fun i hi => (b3.cell (p := ⟨g2, i, none⟩) hg2l).trans (sched_cell f 64 i hi hc2), fun i hi => rk.cell hi, (B1.out.trans (b2.mono B1.out.size)).trans (b3.mono (Nat.le_trans B1.out.size b2.size)), Nat.le_refl _⟩)
  have S3 : Hid (w3.heap.size = w2.heap.size + 1) := (show w3.heap.size = w2.heap.size + 1 by rw [hw3]; simp)
  clear KO rk b3 hw3 o2 hc2 b2 l8 l64
  go_wp2
  go_loopw [5, 8] (fun xv i wr => ∃ k : Nat, k ≤ 64 ∧ i = .int .i64 k ∧ blkAt w w3 wr g2 w2.heap.size xv f s0 k) (fun _ i _ => 64 - (intOf i).toNat)
  case atStart => exact ⟨0, by omega, rfl, BL.out⟩
  case round =>
    obtain ⟨k, hk, rfl, hox, hne, hcw, hck, hbw, hsz⟩ := hrel
    clear BL
    have s3 := S3.out
    by_cases hlt : k < 64
    · have p0 : (0 : Int) ≤ (k : Int) := by omega
      have p1 : (k : Int) < 64 := by omega
      obtain ⟨sx, hsx⟩ : ∃ sx, sx = rndTo (wAt f 64) s0 k := ⟨_, rfl⟩
      have hok : okS sx := hsx ▸ okS_to _ _ h0 k
      rw [← hsx] at hox
      have HSX : Hid (sx = rndTo (wAt f 64) s0 k) := (show sx = rndTo (wAt f 64) s0 k from hsx)
      clear hsx
      obtain ⟨g, cg, rfl, hgB, hgl, hcg, _, hcx, hfr⟩ := hox.shape (by simp [s8L])
      have CX : Hid (∀ wz, Below wr.heap.size wr wz → ∀ (i : Nat) (u : Value), (s8L sx)[i]? = some u → wz.cell? ⟨g, i, none⟩ = some u) := (show ∀ wz, Below wr.heap.size wr wz → ∀ (i : Nat) (u : Value), (s8L sx)[i]? = some u → wz.cell? ⟨g, i, none⟩ = some u from fun wz hz i u hu => (hz.cell (p := ⟨g, i, none⟩) hgl).trans (hcx i u hu))
      have CW : Hid (∀ wz, Below wr.heap.size wr wz → wz.cell? ⟨g2, k, none⟩ = some (.int .u32 (wAt f 64 k))) := (show ∀ wz, Below wr.heap.size wr wz → wz.cell? ⟨g2, k, none⟩ = some (.int .u32 (wAt f 64 k)) from fun wz hz => (hz.cell (p := ⟨g2, k, none⟩) (show g2 < wr.heap.size by omega)).trans (hcw k hlt))
      have CK : Hid (∀ wz, Below wr.heap.size wr wz → wz.cell? ⟨w2.heap.size, k, none⟩ = some (.int .u32 (kAt k))) := (show ∀ wz, Below wr.heap.size wr wz → wz.cell? ⟨w2.heap.size, k, none⟩ = some (.int .u32 (kAt k)) from fun wz hz => (hz.cell (p := ⟨w2.heap.size, k, none⟩) (show w2.heap.size < wr.heap.size by omega)).trans (hck k hlt))
      have l8 : (s8L sx).length = 8 := rfl
      rw [l8]
      have HCW : Hid (∀ i, i < 64 → wr.cell? ⟨g2, i, none⟩ = some (.int .u32 (wAt f 64 i))) := (show ∀ i, i < 64 → wr.cell? ⟨g2, i, none⟩ = some (.int .u32 (wAt f 64 i)) from hcw)
      have HCK : Hid (∀ i, i < 64 → wr.cell? ⟨w2.heap.size, i, none⟩ = some (.int .u32 (kAt i))) := (show ∀ i, i < 64 → wr.cell? ⟨w2.heap.size, i, none⟩ = some (.int .u32 (kAt i)) from hck)
      clear s3 l8 hcx hcw hck
      go_upto_region 6 with fail
      go_cut [5, 8, 9, 10] from 21 to 30 (fun x i a e wx => x = .slice (some ⟨g, 0, none⟩) 8 cg ∧ i = .int .i64 (k : Int) ∧ a = .int .u32 sx.a ∧ e = .int .u32 sx.e ∧ Below wr.heap.size wr wx)
      case first =>
        refine wp_region_noPanic ?_
        refine wp_region_held_drew (S := fun w' => Below wr.heap.size wr w') (by kernel_rfl) ((Below.refl _ _).drew) (fun hHeld => ?_)
        refine take_op (i := 0) (v := ?va0) rfl (by kernel_rfl) (by kernel_rfl) (by kernel_rfl) (fun _ _ _ h => h) rfl hHeld ?ya0 ?ra0
        case ya0 => (intro wz hz; go_simp; first | done | with_reducible rfl)
        try simp only [Act.put, List.setIfInBounds_toArray, List.set_cons_zero, List.set_cons_succ]
        refine take_op (i := 1) (v := ?va1) rfl (by kernel_rfl) (by kernel_rfl) (by kernel_rfl) (fun _ _ _ h => h) rfl hHeld ?ya1 ?ra1
        case ya1 => (intro wz hz; go_simp; first | done | with_reducible rfl)
        try simp only [Act.put, List.setIfInBounds_toArray, List.set_cons_zero, List.set_cons_succ]
        refine take_op (i := 2) (v := ?va2) rfl (by kernel_rfl) (by kernel_rfl) (by kernel_rfl) (fun _ _ _ h => h) rfl hHeld ?ya2 ?ra2
        case ya2 => (intro wz hz; have hcz := CX.out wz hz 0 _ rfl; go_simp; first | done | with_reducible rfl)
        try simp only [Act.put, List.setIfInBounds_toArray, List.set_cons_zero, List.set_cons_succ]
        refine take_op (i := 3) (v := ?va3) rfl (by kernel_rfl) (by kernel_rfl) (by kernel_rfl) (fun _ _ _ h => h) rfl hHeld ?ya3 ?ra3
        case ya3 => (intro wz hz; go_simp; first | done | with_reducible rfl)
        try simp only [Act.put, List.setIfInBounds_toArray, List.set_cons_zero, List.set_cons_succ]
        refine take_op (i := 4) (v := ?va4) rfl (by kernel_rfl) (by kernel_rfl) (by kernel_rfl) (fun _ _ _ h => h) rfl hHeld ?ya4 ?ra4
        case ya4 => (intro wz hz; go_simp; first | done | with_reducible rfl)
        try simp only [Act.put, List.setIfInBounds_toArray, List.set_cons_zero, List.set_cons_succ]
        refine take_op (i := 5) (v := ?va5) rfl (by kernel_rfl) (by kernel_rfl) (by kernel_rfl) (fun _ _ _ h => h) rfl hHeld ?ya5 ?ra5
        case ya5 => (intro wz hz; have hcz := CX.out wz hz 4 _ rfl; go_simp; first | done | with_reducible rfl)
        try simp only [Act.put, List.setIfInBounds_toArray, List.set_cons_zero, List.set_cons_succ]
        refine take_op (i := 6) (v := ?va6) rfl (by kernel_rfl) (by kernel_rfl) (by kernel_rfl) (fun _ _ _ h => h) rfl hHeld ?ya6 ?ra6
        case ya6 => (intro wz hz; go_simp; first | done | with_reducible rfl)
        try simp only [Act.put, List.setIfInBounds_toArray, List.set_cons_zero, List.set_cons_succ]
        refine take_op (i := 7) (v := ?va7) rfl (by kernel_rfl) (by kernel_rfl) (by kernel_rfl) (fun _ _ _ h => h) rfl hHeld ?ya7 ?ra7
        case ya7 => (intro wz hz; go_simp; first | done | with_reducible rfl)
        try simp only [Act.put, List.setIfInBounds_toArray, List.set_cons_zero, List.set_cons_succ]
        refine wpAnyH_done (by kernel_rfl) ?_ _
        refine NoPanic.normal ?_
        have HB2 : Hid (Below wr.heap.size wr _) := hHeld
        clear hHeld
        go_wp2_with fail
        go_meet
        case rel => exact ⟨rfl, rfl, rfl, rfl, HB2.out⟩
      case rest =>
        obtain ⟨rfl, rfl, rfl, rfl, hb6⟩ := hcut
        have HB6 : Hid (Below wr.heap.size wr wc) := (show Below wr.heap.size wr wc from hb6)
        clear hb6
        have oke : okW sx.e := hok.2.2.2.2.1
        have oka : okW sx.a := hok.1
        unfold okW at oke oka
        go_upto_region 7 with fail
        go_cut [5, 8, 9, 10, 11] from 21 to 64 (fun x i a e t wx => x = .slice (some ⟨g, 0, none⟩) 8 cg ∧ i = .int .i64 (k : Int) ∧ a = .int .u32 sx.a ∧ e = .int .u32 sx.e ∧ t = .int .u32 (rndT sx (kAt k) (wAt f 64 k)) ∧ Below wr.heap.size wr wx)
        case first =>
          refine wp_region_noPanic ?_
          refine wp_region_held_drew (S := fun w' => Below wr.heap.size wr w') (by kernel_rfl) (HB6.out.drew) (fun hHeld => ?_)
          refine take_op (i := 0) (v := ?vb0) rfl (by kernel_rfl) (by kernel_rfl) (by kernel_rfl) (fun _ _ _ h => h) rfl hHeld ?yb0 ?rb0
          case yb0 => (intro wz hz; go_simp; first | done | with_reducible rfl)
          try simp only [Act.put, List.setIfInBounds_toArray, List.set_cons_zero, List.set_cons_succ]
          refine take_op (i := 1) (v := ?vb1) rfl (by kernel_rfl) (by kernel_rfl) (by kernel_rfl) (fun _ _ _ h => h) rfl hHeld ?yb1 ?rb1
          case yb1 => (intro wz hz; go_simp; first | done | with_reducible rfl)
          try simp only [Act.put, List.setIfInBounds_toArray, List.set_cons_zero, List.set_cons_succ]
          refine take_op (i := 2) (v := ?vb2) rfl (by kernel_rfl) (by kernel_rfl) (by kernel_rfl) (fun _ _ _ h => h) rfl hHeld ?yb2 ?rb2
          case yb2 => (intro wz hz; have hcz := CX.out wz hz 7 _ rfl; go_simp; first | done | with_reducible rfl)
          try simp only [Act.put, List.setIfInBounds_toArray, List.set_cons_zero, List.set_cons_succ]
          refine take_op (i := 3) (v := ?vb3) rfl (by kernel_rfl) (by kernel_rfl) (by kernel_rfl) (fun _ _ _ h => h) rfl hHeld ?yb3 ?rb3
          case yb3 => (intro wz hz; go_simp; first | done | with_reducible rfl)
          try simp only [Act.put, List.setIfInBounds_toArray, List.set_cons_zero, List.set_cons_succ]
          refine take_op (i := 5) (v := ?vb5) rfl (by kernel_rfl) (by kernel_rfl) (by kernel_rfl) (fun _ _ _ h => h) rfl hHeld ?yb5 ?rb5
          case yb5 => (intro wz hz; go_simp; first | done | with_reducible rfl)
          try simp only [Act.put, List.setIfInBounds_toArray, List.set_cons_zero, List.set_cons_succ]
          refine take_op (i := 7) (v := ?vb7) rfl (by kernel_rfl) (by kernel_rfl) (by kernel_rfl) (fun _ _ _ h => h) rfl hHeld ?yb7 ?rb7
          case yb7 => (intro wz hz; go_simp; first | done | with_reducible rfl)
          try simp only [Act.put, List.setIfInBounds_toArray, List.set_cons_zero, List.set_cons_succ]
          refine take_op (i := 11) (v := ?vb11) rfl (by kernel_rfl) (by kernel_rfl) (by kernel_rfl) (fun _ _ _ h => h) rfl hHeld ?yb11 ?rb11
          case yb11 => (intro wz hz; go_simp; first | done | with_reducible rfl)
          try simp only [Act.put, List.setIfInBounds_toArray, List.set_cons_zero, List.set_cons_succ]
          refine take_op (i := 12) (v := ?vb12) rfl (by kernel_rfl) (by kernel_rfl) (by kernel_rfl) (fun _ _ _ h => h) rfl hHeld ?yb12 ?rb12
          case yb12 => (intro wz hz; go_simp; first | done | with_reducible rfl)
          try simp only [Act.put, List.setIfInBounds_toArray, List.set_cons_zero, List.set_cons_succ]
          refine take_op (i := 13) (v := ?vb13) rfl (by kernel_rfl) (by kernel_rfl) (by kernel_rfl) (fun _ _ _ h => h) rfl hHeld ?yb13 ?rb13
          case yb13 => (intro wz hz; go_simp; first | done | with_reducible rfl)
          try simp only [Act.put, List.setIfInBounds_toArray, List.set_cons_zero, List.set_cons_succ]
          refine take_op (i := 14) (v := ?vb14) rfl (by kernel_rfl) (by kernel_rfl) (by kernel_rfl) (fun _ _ _ h => h) rfl hHeld ?yb14 ?rb14
          case yb14 => (intro wz hz; have hcz := CX.out wz hz 5 _ rfl; go_simp; first | done | with_reducible rfl)
          try simp only [Act.put, List.setIfInBounds_toArray, List.set_cons_zero, List.set_cons_succ]
          refine take_op (i := 15) (v := ?vb15) rfl (by kernel_rfl) (by kernel_rfl) (by kernel_rfl) (fun _ _ _ h => h) rfl hHeld ?yb15 ?rb15
          case yb15 => (intro wz hz; go_simp; first | done | with_reducible rfl)
          try simp only [Act.put, List.setIfInBounds_toArray, List.set_cons_zero, List.set_cons_succ]
          refine take_op (i := 16) (v := ?vb16) rfl (by kernel_rfl) (by kernel_rfl) (by kernel_rfl) (fun _ _ _ h => h) rfl hHeld ?yb16 ?rb16
          case yb16 => (intro wz hz; go_simp; first | done | with_reducible rfl)
          try simp only [Act.put, List.setIfInBounds_toArray, List.set_cons_zero, List.set_cons_succ]
          refine take_op (i := 17) (v := ?vb17) rfl (by kernel_rfl) (by kernel_rfl) (by kernel_rfl) (fun _ _ _ h => h) rfl hHeld ?yb17 ?rb17
          case yb17 => (intro wz hz; go_simp; first | done | with_reducible rfl)
          try simp only [Act.put, List.setIfInBounds_toArray, List.set_cons_zero, List.set_cons_succ]
          refine take_op (i := 18) (v := ?vb18) rfl (by kernel_rfl) (by kernel_rfl) (by kernel_rfl) (fun _ _ _ h => h) rfl hHeld ?yb18 ?rb18
          case yb18 => (intro wz hz; go_simp; first | done | with_reducible rfl)
          try simp only [Act.put, List.setIfInBounds_toArray, List.set_cons_zero, List.set_cons_succ]
          refine take_op (i := 19) (v := ?vb19) rfl (by kernel_rfl) (by kernel_rfl) (by kernel_rfl) (fun _ _ _ h => h) rfl hHeld ?yb19 ?rb19
          case yb19 => (intro wz hz; go_simp; first | done | with_reducible rfl)
          try simp only [Act.put, List.setIfInBounds_toArray, List.set_cons_zero, List.set_cons_succ]
          refine take_op (i := 20) (v := ?vb20) rfl (by kernel_rfl) (by kernel_rfl) (by kernel_rfl) (fun _ _ _ h => h) rfl hHeld ?yb20 ?rb20
          case yb20 => (intro wz hz; have hcz := CX.out wz hz 6 _ rfl; go_simp; first | done | with_reducible rfl)
          try simp only [Act.put, List.setIfInBounds_toArray, List.set_cons_zero, List.set_cons_succ]
          refine take_op (i := 21) (v := ?vb21) rfl (by kernel_rfl) (by kernel_rfl) (by kernel_rfl) (fun _ _ _ h => h) rfl hHeld ?yb21 ?rb21
          case yb21 => (intro wz hz; go_simp; first | done | with_reducible rfl)
          try simp only [Act.put, List.setIfInBounds_toArray, List.set_cons_zero, List.set_cons_succ]
          refine take_op (i := 22) (v := ?vb22) rfl (by kernel_rfl) (by kernel_rfl) (by kernel_rfl) (fun _ _ _ h => h) rfl hHeld ?yb22 ?rb22
          case yb22 => (intro wz hz; go_simp; first | done | with_reducible rfl)
          try simp only [Act.put, List.setIfInBounds_toArray, List.set_cons_zero, List.set_cons_succ]
          refine take_op (i := 24) (v := ?vb24) rfl (by kernel_rfl) (by kernel_rfl) (by kernel_rfl) (fun _ _ _ h => h) rfl hHeld ?yb24 ?rb24
          case yb24 => (intro wz hz; go_simp; first | done | with_reducible rfl)
          try simp only [Act.put, List.setIfInBounds_toArray, List.set_cons_zero, List.set_cons_succ]
          refine take_op (i := 25) (v := ?vb25) rfl (by kernel_rfl) (by kernel_rfl) (by kernel_rfl) (fun _ _ _ h => h) rfl hHeld ?yb25 ?rb25
          case yb25 => (intro wz hz; go_simp; first | done | with_reducible rfl)
          try simp only [Act.put, List.setIfInBounds_toArray, List.set_cons_zero, List.set_cons_succ]
          refine take_op (i := 26) (v := ?vb26) rfl (by kernel_rfl) (by kernel_rfl) (by kernel_rfl) (fun _ _ _ h => h) rfl hHeld ?yb26 ?rb26
          case yb26 => (intro wz hz; go_simp; first | done | with_reducible rfl)
          try simp only [Act.put, List.setIfInBounds_toArray, List.set_cons_zero, List.set_cons_succ]
          refine take_op (i := 27) (v := ?vb27) rfl (by kernel_rfl) (by kernel_rfl) (by kernel_rfl) (fun _ _ _ h => h) rfl hHeld ?yb27 ?rb27
          case yb27 => (intro wz hz; have hcz := CK.out wz hz; go_simp; first | done | with_reducible rfl)
          try simp only [Act.put, List.setIfInBounds_toArray, List.set_cons_zero, List.set_cons_succ]
          refine take_op (i := 29) (v := ?vb29) rfl (by kernel_rfl) (by kernel_rfl) (by kernel_rfl) (fun _ _ _ h => h) rfl hHeld ?yb29 ?rb29
          case yb29 => (intro wz hz; go_simp; first | done | with_reducible rfl)
          try simp only [Act.put, List.setIfInBounds_toArray, List.set_cons_zero, List.set_cons_succ]
          refine take_op (i := 30) (v := ?vb30) rfl (by kernel_rfl) (by kernel_rfl) (by kernel_rfl) (fun _ _ _ h => h) rfl hHeld ?yb30 ?rb30
          case yb30 => (intro wz hz; go_simp; first | done | with_reducible rfl)
          try simp only [Act.put, List.setIfInBounds_toArray, List.set_cons_zero, List.set_cons_succ]
          refine take_op (i := 31) (v := ?vb31) rfl (by kernel_rfl) (by kernel_rfl) (by kernel_rfl) (fun _ _ _ h => h) rfl hHeld ?yb31 ?rb31
          case yb31 => (intro wz hz; go_simp; first | done | with_reducible rfl)
          try simp only [Act.put, List.setIfInBounds_toArray, List.set_cons_zero, List.set_cons_succ]
          refine take_op (i := 32) (v := ?vb32) rfl (by kernel_rfl) (by kernel_rfl) (by kernel_rfl) (fun _ _ _ h => h) rfl hHeld ?yb32 ?rb32
          case yb32 => (intro wz hz; have hcz := CW.out wz hz; go_simp; first | done | with_reducible rfl)
          try simp only [Act.put, List.setIfInBounds_toArray, List.set_cons_zero, List.set_cons_succ]
          refine take_one (i := 4) rfl (by kernel_rfl) rfl (fun K hK => ?_)
          go_simp
          refine Calls.mono (rturn_any sx.e 6 oke.1 oke.2 (by omega) (by omega) _) ?_
          rintro e w' ⟨rfl, rfl⟩
          simp only [Int.reduceToNat]
          refine hK.out _ _ hHeld.drew (fun hHeld => ?_)
          clear hK K
          try simp only [Act.put, List.setIfInBounds_toArray, List.set_cons_zero, List.set_cons_succ]
          refine take_one (i := 6) rfl (by kernel_rfl) rfl (fun K hK => ?_)
          go_simp
          refine Calls.mono (rturn_any sx.e 11 oke.1 oke.2 (by omega) (by omega) _) ?_
          rintro e w' ⟨rfl, rfl⟩
          simp only [Int.reduceToNat]
          refine hK.out _ _ hHeld.drew (fun hHeld => ?_)
          clear hK K
          try simp only [Act.put, List.setIfInBounds_toArray, List.set_cons_zero, List.set_cons_succ]
          refine take_one (i := 8) rfl (by kernel_rfl) rfl (fun K hK => ?_)
          go_simp
          refine Calls.mono (rturn_any sx.e 25 oke.1 oke.2 (by omega) (by omega) _) ?_
          rintro e w' ⟨rfl, rfl⟩
          simp only [Int.reduceToNat]
          refine hK.out _ _ hHeld.drew (fun hHeld => ?_)
          clear hK K
          try simp only [Act.put, List.setIfInBounds_toArray, List.set_cons_zero, List.set_cons_succ]
          refine take_one (i := 9) rfl (by kernel_rfl) rfl (fun K hK => ?_)
          go_simp
          refine Calls.mono (three_any _ _ _ _) ?_
          rintro e w' ⟨rfl, rfl⟩
          refine hK.out _ _ hHeld (fun hHeld => ?_)
          clear hK K
          try simp only [Act.put, List.setIfInBounds_toArray, List.set_cons_zero, List.set_cons_succ]
          refine take_op (i := 10) (v := ?vb10) rfl (by kernel_rfl) (by kernel_rfl) (by kernel_rfl) (fun _ _ _ h => h) rfl hHeld ?yb10 ?rb10
          case yb10 => (intro wz hz; go_simp; first | done | with_reducible rfl)
          try simp only [Act.put, List.setIfInBounds_toArray, List.set_cons_zero, List.set_cons_succ]
          refine take_op (i := 23) (v := ?vb23) rfl (by kernel_rfl) (by kernel_rfl) (by kernel_rfl) (fun _ _ _ h => h) rfl hHeld ?yb23 ?rb23
          case yb23 => (intro wz hz; go_simp; first | done | with_reducible rfl)
          try simp only [Act.put, List.setIfInBounds_toArray, List.set_cons_zero, List.set_cons_succ]
          refine take_op (i := 28) (v := ?vb28) rfl (by kernel_rfl) (by kernel_rfl) (by kernel_rfl) (fun _ _ _ h => h) rfl hHeld ?yb28 ?rb28
          case yb28 => (intro wz hz; go_simp; first | done | with_reducible rfl)
          try simp only [Act.put, List.setIfInBounds_toArray, List.set_cons_zero, List.set_cons_succ]
          refine take_op (i := 33) (v := ?vb33) rfl (by kernel_rfl) (by kernel_rfl) (by kernel_rfl) (fun _ _ _ h => h) rfl hHeld ?yb33 ?rb33
          case yb33 => (intro wz hz; go_simp; first | done | with_reducible rfl)
          try simp only [Act.put, List.setIfInBounds_toArray, List.set_cons_zero, List.set_cons_succ]
          refine take_op (i := 34) (v := ?vb34) rfl (by kernel_rfl) (by kernel_rfl) (by kernel_rfl) (fun _ _ _ h => h) rfl hHeld ?yb34 ?rb34
          case yb34 => (intro wz hz; go_simp; first | done | with_reducible rfl)
          try simp only [Act.put, List.setIfInBounds_toArray, List.set_cons_zero, List.set_cons_succ]
          refine wpAnyH_done (by kernel_rfl) ?_ _
          refine NoPanic.normal ?_
          have HB7 : Hid (Below wr.heap.size wr _) := hHeld
          clear hHeld
          go_wp2_with fail
          go_meet
          case rel => exact ⟨rfl, rfl, rfl, rfl, congrArg (Value.int IntKind.u32) (rndT_doc sx (kAt k) (wAt f 64 k)), HB7.out⟩
        case rest =>
          obtain ⟨rfl, rfl, rfl, rfl, rfl, hb7⟩ := hcut
          have HB7 : Hid (Below wr.heap.size wr wc) := (show Below wr.heap.size wr wc from hb7)
          clear hb7 HB6
          obtain ⟨tt, htt⟩ : ∃ tt, tt = rndT sx (kAt k) (wAt f 64 k) := ⟨_, rfl⟩
          rw [← htt]
          have HTT : Hid (tt = rndT sx (kAt k) (wAt f 64 k)) := (show tt = rndT sx (kAt k) (wAt f 64 k) from htt)
          clear htt
          go_upto_region 8 with fail
          go_cut [5, 8, 9, 10, 11, 12] from 21 to 83 (fun x i a e t y wx => x = .slice (some ⟨g, 0, none⟩) 8 cg ∧ i = .int .i64 (k : Int) ∧ a = .int .u32 sx.a ∧ e = .int .u32 sx.e ∧ t = .int .u32 tt ∧ y = .int .u32 (bits .or .u32 (bits .or .u32 (bits .and .u32 sx.a sx.b) (bits .and .u32 sx.a sx.c)) (bits .and .u32 sx.b sx.c)) ∧ Below wr.heap.size wr wx)
          case first =>
            refine wp_region_noPanic ?_
            refine wp_region_held_drew (S := fun w' => Below wr.heap.size wr w') (by kernel_rfl) (HB7.out.drew) (fun hHeld => ?_)
            refine take_op (i := 0) (v := ?vc0) rfl (by kernel_rfl) (by kernel_rfl) (by kernel_rfl) (fun _ _ _ h => h) rfl hHeld ?yc0 ?rc0
            case yc0 => (intro wz hz; go_simp; first | done | with_reducible rfl)
            try simp only [Act.put, List.setIfInBounds_toArray, List.set_cons_zero, List.set_cons_succ]
            refine take_op (i := 1) (v := ?vc1) rfl (by kernel_rfl) (by kernel_rfl) (by kernel_rfl) (fun _ _ _ h => h) rfl hHeld ?yc1 ?rc1
            case yc1 => (intro wz hz; go_simp; first | done | with_reducible rfl)
            try simp only [Act.put, List.setIfInBounds_toArray, List.set_cons_zero, List.set_cons_succ]
            refine take_op (i := 2) (v := ?vc2) rfl (by kernel_rfl) (by kernel_rfl) (by kernel_rfl) (fun _ _ _ h => h) rfl hHeld ?yc2 ?rc2
            case yc2 => (intro wz hz; go_simp; first | done | with_reducible rfl)
            try simp only [Act.put, List.setIfInBounds_toArray, List.set_cons_zero, List.set_cons_succ]
            refine take_op (i := 3) (v := ?vc3) rfl (by kernel_rfl) (by kernel_rfl) (by kernel_rfl) (fun _ _ _ h => h) rfl hHeld ?yc3 ?rc3
            case yc3 => (intro wz hz; have hcz := CX.out wz hz 1 _ rfl; go_simp; first | done | with_reducible rfl)
            try simp only [Act.put, List.setIfInBounds_toArray, List.set_cons_zero, List.set_cons_succ]
            refine take_op (i := 4) (v := ?vc4) rfl (by kernel_rfl) (by kernel_rfl) (by kernel_rfl) (fun _ _ _ h => h) rfl hHeld ?yc4 ?rc4
            case yc4 => (intro wz hz; go_simp; first | done | with_reducible rfl)
            try simp only [Act.put, List.setIfInBounds_toArray, List.set_cons_zero, List.set_cons_succ]
            refine take_op (i := 5) (v := ?vc5) rfl (by kernel_rfl) (by kernel_rfl) (by kernel_rfl) (fun _ _ _ h => h) rfl hHeld ?yc5 ?rc5
            case yc5 => (intro wz hz; go_simp; first | done | with_reducible rfl)
            try simp only [Act.put, List.setIfInBounds_toArray, List.set_cons_zero, List.set_cons_succ]
            refine take_op (i := 6) (v := ?vc6) rfl (by kernel_rfl) (by kernel_rfl) (by kernel_rfl) (fun _ _ _ h => h) rfl hHeld ?yc6 ?rc6
            case yc6 => (intro wz hz; go_simp; first | done | with_reducible rfl)
            try simp only [Act.put, List.setIfInBounds_toArray, List.set_cons_zero, List.set_cons_succ]
            refine take_op (i := 7) (v := ?vc7) rfl (by kernel_rfl) (by kernel_rfl) (by kernel_rfl) (fun _ _ _ h => h) rfl hHeld ?yc7 ?rc7
            case yc7 => (intro wz hz; go_simp; first | done | with_reducible rfl)
            try simp only [Act.put, List.setIfInBounds_toArray, List.set_cons_zero, List.set_cons_succ]
            refine take_op (i := 8) (v := ?vc8) rfl (by kernel_rfl) (by kernel_rfl) (by kernel_rfl) (fun _ _ _ h => h) rfl hHeld ?yc8 ?rc8
            case yc8 => (intro wz hz; have hcz := CX.out wz hz 2 _ rfl; go_simp; first | done | with_reducible rfl)
            try simp only [Act.put, List.setIfInBounds_toArray, List.set_cons_zero, List.set_cons_succ]
            refine take_op (i := 9) (v := ?vc9) rfl (by kernel_rfl) (by kernel_rfl) (by kernel_rfl) (fun _ _ _ h => h) rfl hHeld ?yc9 ?rc9
            case yc9 => (intro wz hz; go_simp; first | done | with_reducible rfl)
            try simp only [Act.put, List.setIfInBounds_toArray, List.set_cons_zero, List.set_cons_succ]
            refine take_op (i := 10) (v := ?vc10) rfl (by kernel_rfl) (by kernel_rfl) (by kernel_rfl) (fun _ _ _ h => h) rfl hHeld ?yc10 ?rc10
            case yc10 => (intro wz hz; go_simp; first | done | with_reducible rfl)
            try simp only [Act.put, List.setIfInBounds_toArray, List.set_cons_zero, List.set_cons_succ]
            refine take_op (i := 11) (v := ?vc11) rfl (by kernel_rfl) (by kernel_rfl) (by kernel_rfl) (fun _ _ _ h => h) rfl hHeld ?yc11 ?rc11
            case yc11 => (intro wz hz; go_simp; first | done | with_reducible rfl)
            try simp only [Act.put, List.setIfInBounds_toArray, List.set_cons_zero, List.set_cons_succ]
            refine take_op (i := 12) (v := ?vc12) rfl (by kernel_rfl) (by kernel_rfl) (by kernel_rfl) (fun _ _ _ h => h) rfl hHeld ?yc12 ?rc12
            case yc12 => (intro wz hz; go_simp; first | done | with_reducible rfl)
            try simp only [Act.put, List.setIfInBounds_toArray, List.set_cons_zero, List.set_cons_succ]
            refine take_op (i := 13) (v := ?vc13) rfl (by kernel_rfl) (by kernel_rfl) (by kernel_rfl) (fun _ _ _ h => h) rfl hHeld ?yc13 ?rc13
            case yc13 => (intro wz hz; have hcz := CX.out wz hz 1 _ rfl; go_simp; first | done | with_reducible rfl)
            try simp only [Act.put, List.setIfInBounds_toArray, List.set_cons_zero, List.set_cons_succ]
            refine take_op (i := 14) (v := ?vc14) rfl (by kernel_rfl) (by kernel_rfl) (by kernel_rfl) (fun _ _ _ h => h) rfl hHeld ?yc14 ?rc14
            case yc14 => (intro wz hz; go_simp; first | done | with_reducible rfl)
            try simp only [Act.put, List.setIfInBounds_toArray, List.set_cons_zero, List.set_cons_succ]
            refine take_op (i := 15) (v := ?vc15) rfl (by kernel_rfl) (by kernel_rfl) (by kernel_rfl) (fun _ _ _ h => h) rfl hHeld ?yc15 ?rc15
            case yc15 => (intro wz hz; go_simp; first | done | with_reducible rfl)
            try simp only [Act.put, List.setIfInBounds_toArray, List.set_cons_zero, List.set_cons_succ]
            refine take_op (i := 16) (v := ?vc16) rfl (by kernel_rfl) (by kernel_rfl) (by kernel_rfl) (fun _ _ _ h => h) rfl hHeld ?yc16 ?rc16
            case yc16 => (intro wz hz; have hcz := CX.out wz hz 2 _ rfl; go_simp; first | done | with_reducible rfl)
            try simp only [Act.put, List.setIfInBounds_toArray, List.set_cons_zero, List.set_cons_succ]
            refine take_op (i := 17) (v := ?vc17) rfl (by kernel_rfl) (by kernel_rfl) (by kernel_rfl) (fun _ _ _ h => h) rfl hHeld ?yc17 ?rc17
            case yc17 => (intro wz hz; go_simp; first | done | with_reducible rfl)
            try simp only [Act.put, List.setIfInBounds_toArray, List.set_cons_zero, List.set_cons_succ]
            refine take_op (i := 18) (v := ?vc18) rfl (by kernel_rfl) (by kernel_rfl) (by kernel_rfl) (fun _ _ _ h => h) rfl hHeld ?yc18 ?rc18
            case yc18 => (intro wz hz; go_simp; first | done | with_reducible rfl)
            try simp only [Act.put, List.setIfInBounds_toArray, List.set_cons_zero, List.set_cons_succ]
            refine take_op (i := 19) (v := ?vc19) rfl (by kernel_rfl) (by kernel_rfl) (by kernel_rfl) (fun _ _ _ h => h) rfl hHeld ?yc19 ?rc19
            case yc19 => (intro wz hz; go_simp; first | done | with_reducible rfl)
            try simp only [Act.put, List.setIfInBounds_toArray, List.set_cons_zero, List.set_cons_succ]
            refine wpAnyH_done (by kernel_rfl) ?_ _
            refine NoPanic.normal ?_
            have HB8 : Hid (Below wr.heap.size wr _) := hHeld
            clear hHeld
            go_wp2_with fail
            go_meet
            case rel => exact ⟨rfl, rfl, rfl, rfl, rfl, rfl, HB8.out⟩
          case rest =>
            obtain ⟨rfl, rfl, rfl, rfl, rfl, rfl, hb8⟩ := hcut
            have hb9 : Below wr.heap.size wr wc.drew.drew.drew := hb8.drew.drew.drew
            clear hb8 HB7
            go_wp2_with fail
            refine (rturn_any sx.a 2 oka.1 oka.2 (by omega) (by omega) _).mono ?_
            rintro e w' ⟨rfl, rfl⟩
            simp only [Int.reduceToNat]
            go_wp2_with fail
            refine (rturn_any sx.a 13 oka.1 oka.2 (by omega) (by omega) _).mono ?_
            rintro e w' ⟨rfl, rfl⟩
            simp only [Int.reduceToNat]
            go_wp2_with fail
            refine (rturn_any sx.a 22 oka.1 oka.2 (by omega) (by omega) _).mono ?_
            rintro e w' ⟨rfl, rfl⟩
            simp only [Int.reduceToNat]
            go_wp2_with fail
            refine (three_any _ _ _ _).mono ?_
            rintro e w' ⟨rfl, rfl⟩
            generalize wc.drew.drew.drew = w9 at hb9 ⊢
            have c3 : w9.cell? ⟨g, 3, none⟩ = some (.int .u32 sx.d) := CX.out w9 hb9 3 _ rfl
            have z3 : w9.frozen? ⟨g, 3, none⟩ = false := (World.frozen?_of_block (w := wr) (hb9.block g hgl)).trans (hfr 3)
            go_upto_region 11 with fail
            rw [rndU_doc sx]
            obtain ⟨w10, hw10⟩ : ∃ w10, w10 = w9.setCell ⟨g, 3, none⟩ (.int .u32 ((sx.d + tt) % 4294967296)) := ⟨_, rfl⟩
            have s10 : w10.heap.size = w9.heap.size := by rw [hw10]; exact nblk_setCell _ _ _
            have hoth : ∀ (j : Nat) (u : Value), j ≠ 3 → (s8L sx)[j]? = some u → w10.cell? ⟨g, j, none⟩ = some u := fun j u hj hu => by
              rw [hw10, World.cell?_setCell_other]
              · exact CX.out w9 hb9 j u hu
              · intro e; injection e with _ e; exact hj e.symm
            have c10 : ∀ (j : Nat) (u : Value), ([.int .u32 sx.a, .int .u32 sx.b, .int .u32 sx.c, .int .u32 ((sx.d + tt) % 4294967296), .int .u32 sx.e, .int .u32 sx.f, .int .u32 sx.g] : List Value)[j]? = some u → w10.cell? ⟨g, 0 + j, none⟩ = some u := fun j u hu => by
              rw [Nat.zero_add]
              match j, hu with
              | 0, hu => exact hoth 0 u (by omega) hu
              | 1, hu => exact hoth 1 u (by omega) hu
              | 2, hu => exact hoth 2 u (by omega) hu
              | 3, hu =>
                have : Value.int .u32 ((sx.d + tt) % 4294967296) = u := by simpa using hu
                rw [hw10, ← this]; exact World.cell?_setCell_same' _ _ _ (by rw [c3]; rfl)
              | 4, hu => exact hoth 4 u (by omega) hu
              | 5, hu => exact hoth 5 u (by omega) hu
              | 6, hu => exact hoth 6 u (by omega) hu
              | j + 7, hu => simp at hu
            have hng : g ≠ g2 ∧ g ≠ w2.heap.size := hne g rfl
            have hwr9 := hb9.size
            have hk10 : ∀ j, j < wr.heap.size → j ≠ g → w10.heap[j]? = wr.heap[j]? := fun j hj hjg => by
              rw [hw10]; exact (blk_setCell_other _ _ _ _ hjg).trans (hb9.block j hj)
            have hbw10 : Below w.heap.size w w10 := hbw.trans ⟨by rw [hw10]; exact hb9.os, by rw [hw10]; exact hb9.tape, by rw [hw10]; exact hb9.output, by omega, fun j hj => hk10 j (by have := hbw.size; omega) (by omega)⟩
            rw [← hw10]
            clear hw10 c3 z3 hoth
            have hO : owns (w10.alloc (.cells #[.int .u32 ((tt + rndU sx) % 4294967296)] 152)) w.heap.size 152 (.slice (some ⟨w10.heap.size, 0, none⟩) 1 1) [.int .u32 ((tt + rndU sx) % 4294967296)] :=
              ⟨rfl, Or.inr ⟨w10.heap.size, 1, _, rfl, by have := hbw10.size; omega, blk_alloc_new _ _, Nat.le_refl _, by unfold maxLen; omega, rfl, rfl⟩⟩
            have b11 : Below w10.heap.size w10 (w10.alloc (.cells #[.int .u32 ((tt + rndU sx) % 4294967296)] 152)) := (Below.refl _ _).alloc (Nat.le_refl _) _
            obtain ⟨v12, w12, r12, o12, g12, a12⟩ := words_append_run _ w.heap.size _ _ hO g 0 7 cg _ rfl (fun j u hu => (b11.cell (p := ⟨g, 0 + j, none⟩) (show g < w10.heap.size by omega)).trans (c10 j u hu)) (fun u hu => by
              simp only [List.mem_cons, List.not_mem_nil, or_false] at hu
              rcases hu with rfl | rfl | rfl | rfl | rfl | rfl | rfl <;> rfl) (by omega) (by simp) (by simp; have := hbw10.size; omega)
            have hsl : ∀ wz : World, (Instr.slice 153 (.slice (some ⟨g, 0, none⟩) 8 cg) none (some (.int .i64 7)) none).run Tryd.prog wz = .ok (.slice (some ⟨g, 0, none⟩) 7 cg) wz := fun wz => run_slice_to7 g cg (by have : (s8L sx).length ≤ cg := hcg; have l8 : (s8L sx).length = 8 := rfl; omega) wz
            have hk12 : ∀ j, j < w10.heap.size → w12.heap[j]? = w10.heap[j]? := fun j hj => (g12.block j (by simp; omega) (fun e => absurd e (by simp [Value.ownBlock]; omega))).trans (blk_alloc_lt _ _ _ hj)
            have s12 : w10.heap.size < w12.heap.size := by have := g12.size; simp at this; omega
            have BL : Hid (blkAt w w3 w12 g2 w2.heap.size v12 f s0 (k + 1)) := (show blkAt w w3 w12 g2 w2.heap.size v12 f s0 (k + 1) from by
              have s3 := S3.out
              have e1 : rndTo (wAt f 64) s0 (k + 1) = rnd sx (kAt k) (wAt f 64 k) := by rw [rndTo, ← HSX.out]
              rw [HTT.out] at o12
              refine ⟨by rw [e1]; exact o12, fun j hj => ?_, fun i hi => ?_, fun i hi => ?_, hbw10.trans ⟨g12.os, g12.tape, g12.output, by omega, fun j hj => hk12 j (by have := hbw10.size; omega)⟩, by omega⟩
              · have hj2 : w10.heap.size ≤ j := by
                  rcases a12 with h | h
                  · rw [hj] at h
                    have : j = w10.heap.size := by simpa [Value.ownBlock] using h
                    omega
                  · rw [hj] at h
                    have : j = w10.heap.size + 1 := by simpa using h
                    omega
                exact ⟨by omega, by omega⟩
              · rw [World.cell?_of_block (w := wr) ((hk12 g2 (by omega)).trans (hk10 g2 (by omega) (fun h => hng.1 h.symm)))]; exact HCW.out i hi
              · rw [World.cell?_of_block (w := wr) ((hk12 w2.heap.size (by omega)).trans (hk10 w2.heap.size (by omega) (fun h => hng.2 h.symm)))]; exact HCK.out i hi)
            have hv12 : ∃ g c, v12 = .slice (some ⟨g, 0, none⟩) 8 c := by
              obtain ⟨g, c, h, _⟩ := o12.shape (by simp)
              exact ⟨g, c, h⟩
            obtain ⟨g', c', rfl⟩ := hv12
            have R12 : Hid _ := r12
            clear hO b11 r12 o12 g12 a12 hk12 s12 c10 hng hk10 hbw10 s10
            go_wp2_with (first | (at_builtin; refine wpList_append_run rfl (.tmp 103) (.tmp 105) _ rfl rfl rfl R12.out ?_; try simp only [Act.put, List.setIfInBounds_toArray, List.set_cons_zero, List.set_cons_succ]; clear R12))
            go_light
            exact ⟨⟨k + 1, by omega, by go_num, BL.out⟩, by simp [intOf]; omega⟩
    · obtain rfl : k = 64 := by omega
      have p1 : ¬ ((64 : Nat) : Int) < 64 := by omega
      obtain ⟨S, hS⟩ : ∃ S, S = rndTo (wAt f 64) s0 64 := ⟨_, rfl⟩
      rw [← hS] at hox
      have HS : Hid (S = rndTo (wAt f 64) s0 64) := (show S = rndTo (wAt f 64) s0 64 from hS)
      clear hS
      obtain ⟨g, cg, rfl, hgB, hgl, hcg, _, hcx, hfr⟩ := hox.shape (by simp [s8L])
      have l8 : (s8L S).length = 8 := rfl
      rw [l8] at hox ⊢
      obtain ⟨F, hrow, hF, hn8, hmx, _⟩ := owns_row hox
      have hFi : ∀ i, i < 8 → F i = .int .u32 (S.at i) := fun i hi => by
        have : i = 0 ∨ i = 1 ∨ i = 2 ∨ i = 3 ∨ i = 4 ∨ i = 5 ∨ i = 6 ∨ i = 7 := by omega
        rcases this with rfl | rfl | rfl | rfl | rfl | rfl | rfl | rfl <;> exact hF _ _ rfl
      have hold : ∀ i, i < 8 → w.cell? ⟨ob, oo + i, none⟩ = some (.int .u32 (s0.at i)) := fun i hi => by
        have : i = 0 ∨ i = 1 ∨ i = 2 ∨ i = 3 ∨ i = 4 ∨ i = 5 ∨ i = 6 ∨ i = 7 := by omega
        rcases this with rfl | rfl | rfl | rfl | rfl | rfl | rfl | rfl <;> exact ho _ _ rfl
      have HR : Hid (wr.rowIs g 152 cg F) := (show wr.rowIs g 152 cg F from hrow)
      have HW : Hid (Below w.heap.size w wr) := (show Below w.heap.size w wr from hbw)
      clear hrow hbw hox hcx hfr hF s3 hcw hck hne hsz
      go_wp2
      go_loopw [14] (fun i wq => ∃ j : Nat, j ≤ 8 ∧ i = .int .i64 j ∧ wq.rowIs g 152 cg (fun i => if i < j then .int .u32 ((s0.at i + S.at i) % 4294967296) else F i) ∧ Below w.heap.size w wq) (fun i _ => 8 - (intOf i).toNat)
      case atStart => exact ⟨0, by omega, rfl, HR.out.congr (fun i _ => by rw [if_neg (by omega)]), HW.out⟩
      case round =>
        obtain ⟨j, hj, rfl, hrow, hbq⟩ := hrel
        clear HR HW
        have p0 : (0 : Int) ≤ (j : Int) := by omega
        by_cases hlt2 : j < 8
        · have p2 : (j : Int) < 8 := by omega
          have hjg : j < cg := by omega
          have cj : wr.cell? ⟨g, j, none⟩ = some (.int .u32 (S.at j)) := by rw [hrow.cell hjg, if_neg (by omega), hFi j hlt2]
          have zj := World.rowIs.frozen hrow j
          have oj : wr.cell? ⟨ob, oo + j, none⟩ = some (.int .u32 (s0.at j)) := (hbq.cell (p := ⟨ob, oo + j, none⟩) hob).trans (hold j hlt2)
          have cjd : wr.drew.cell? ⟨g, j, none⟩ = some (.int .u32 (S.at j)) := cj
          have zjd : wr.drew.frozen? ⟨g, j, none⟩ = false := zj
          have ojd : wr.drew.cell? ⟨ob, oo + j, none⟩ = some (.int .u32 (s0.at j)) := oj
          have p3 : (j : Int) < (cg : Int) := by omega
          have NX : Hid (∀ x : Int, x = (s0.at j + S.at j) % 4294967296 → (wr.drew.setCell ⟨g, j, none⟩ (.int .u32 x)).rowIs g 152 cg (fun i => if i < j + 1 then .int .u32 ((s0.at i + S.at i) % 4294967296) else F i) ∧ Below w.heap.size w (wr.drew.setCell ⟨g, j, none⟩ (.int .u32 x))) := (show ∀ x : Int, x = (s0.at j + S.at j) % 4294967296 → (wr.drew.setCell ⟨g, j, none⟩ (.int .u32 x)).rowIs g 152 cg (fun i => if i < j + 1 then .int .u32 ((s0.at i + S.at i) % 4294967296) else F i) ∧ Below w.heap.size w (wr.drew.setCell ⟨g, j, none⟩ (.int .u32 x)) from fun x hx => by
            refine ⟨(World.rowIs.set (w := wr.drew) hrow j _).congr fun i hi => ?_, hbq.drew.setCell hgB _⟩
            subst hx
            by_cases e : i = j
            · subst e; simp
            · by_cases e2 : i < j
              · rw [if_neg e, if_pos e2, if_pos (by omega)]
              · rw [if_neg e, if_neg e2, if_neg (by omega)])
          clear hrow cj zj oj hbq
          go_upto_region 15 with fail
          refine wp_region_noPanic ?_
          refine wp_region_held_drew (S := fun w' => True) (by kernel_rfl) trivial (fun hHeld => ?_)
          refine take_op (i := 0) (v := ?vz0) rfl (by kernel_rfl) (by kernel_rfl) (by kernel_rfl) (fun _ _ _ h => h) rfl hHeld ?yz0 ?rz0
          case yz0 => (intro wz hz; go_simp; first | done | with_reducible rfl)
          try simp only [Act.put, List.setIfInBounds_toArray, List.set_cons_zero, List.set_cons_succ]
          refine take_op (i := 1) (v := ?vz1) rfl (by kernel_rfl) (by kernel_rfl) (by kernel_rfl) (fun _ _ _ h => h) rfl hHeld ?yz1 ?rz1
          case yz1 => (intro wz hz; go_simp; first | done | with_reducible rfl)
          try simp only [Act.put, List.setIfInBounds_toArray, List.set_cons_zero, List.set_cons_succ]
          refine take_op (i := 2) (v := ?vz2) rfl (by kernel_rfl) (by kernel_rfl) (by kernel_rfl) (fun _ _ _ h => h) rfl hHeld ?yz2 ?rz2
          case yz2 => (intro wz hz; go_simp; first | done | with_reducible rfl)
          try simp only [Act.put, List.setIfInBounds_toArray, List.set_cons_zero, List.set_cons_succ]
          refine take_op (i := 3) (v := ?vz3) rfl (by kernel_rfl) (by kernel_rfl) (by kernel_rfl) (fun _ _ _ h => h) rfl hHeld ?yz3 ?rz3
          case yz3 => (intro wz hz; go_simp; first | done | with_reducible rfl)
          try simp only [Act.put, List.setIfInBounds_toArray, List.set_cons_zero, List.set_cons_succ]
          refine take_op (i := 4) (v := ?vz4) rfl (by kernel_rfl) (by kernel_rfl) (by kernel_rfl) (fun _ _ _ h => h) rfl hHeld ?yz4 ?rz4
          case yz4 => (intro wz hz; go_simp; first | done | with_reducible rfl)
          try simp only [Act.put, List.setIfInBounds_toArray, List.set_cons_zero, List.set_cons_succ]
          refine take_op (i := 6) (v := ?vz6) rfl (by kernel_rfl) (by kernel_rfl) (by kernel_rfl) (fun _ _ _ h => h) rfl hHeld ?yz6 ?rz6
          case yz6 => (intro wz hz; go_simp; first | done | with_reducible rfl)
          try simp only [Act.put, List.setIfInBounds_toArray, List.set_cons_zero, List.set_cons_succ]
          refine take_op (i := 7) (v := ?vz7) rfl (by kernel_rfl) (by kernel_rfl) (by kernel_rfl) (fun _ _ _ h => h) rfl hHeld ?yz7 ?rz7
          case yz7 => (intro wz hz; go_simp; first | done | with_reducible rfl)
          try simp only [Act.put, List.setIfInBounds_toArray, List.set_cons_zero, List.set_cons_succ]
          refine take_op (i := 8) (v := ?vz8) rfl (by kernel_rfl) (by kernel_rfl) (by kernel_rfl) (fun _ _ _ h => h) rfl hHeld ?yz8 ?rz8
          case yz8 => (intro wz hz; go_simp; first | done | with_reducible rfl)
          try simp only [Act.put, List.setIfInBounds_toArray, List.set_cons_zero, List.set_cons_succ]
          refine take_two (i := 5) (j := 9) (u := .int .u32 (S.at j)) (v := .int .u32 (s0.at j)) rfl rfl (by kernel_rfl) rfl rfl trivial (by go_simp; first | done | with_reducible rfl) (by go_simp; first | done | with_reducible rfl) ?_ ?_
          · try simp only [Act.put, List.setIfInBounds_toArray, List.set_cons_zero, List.set_cons_succ]
            refine take_run (i := 9) (v := .int .u32 (s0.at j)) rfl (by kernel_rfl) rfl (by go_simp; first | done | with_reducible rfl) trivial ?_
            try simp only [Act.put, List.setIfInBounds_toArray, List.set_cons_zero, List.set_cons_succ]
            refine take_op (i := 10) (v := ?vya10) rfl (by kernel_rfl) (by kernel_rfl) (by kernel_rfl) (fun _ _ _ h => h) rfl hHeld ?yya10 ?rya10
            case yya10 => (intro wz hz; go_simp; first | done | with_reducible rfl)
            try simp only [Act.put, List.setIfInBounds_toArray, List.set_cons_zero, List.set_cons_succ]
            refine take_op (i := 11) (v := ?vya11) rfl (by kernel_rfl) (by kernel_rfl) (by kernel_rfl) (fun _ _ _ h => h) rfl hHeld ?yya11 ?rya11
            case yya11 => (intro wz hz; go_simp; first | done | with_reducible rfl)
            try simp only [Act.put, List.setIfInBounds_toArray, List.set_cons_zero, List.set_cons_succ]
            refine take_one (i := 12) rfl (by kernel_rfl) rfl (fun K hK => ?_)
            go_simp
            refine hK.out _ _ trivial (fun hHeld => ?_)
            clear hK K hHeld
            try simp only [Act.put, List.setIfInBounds_toArray, List.set_cons_zero, List.set_cons_succ]
            refine wpAnyH_done (by kernel_rfl) ?_ _
            refine NoPanic.normal ?_
            go_wp2
            go_light
            exact ⟨⟨j + 1, by omega, by go_num, (NX.out _ (by rw [Int.add_comm])).1, (NX.out _ (by rw [Int.add_comm])).2⟩, by simp [intOf]; omega⟩
          · try simp only [Act.put, List.setIfInBounds_toArray, List.set_cons_zero, List.set_cons_succ]
            refine take_run (i := 5) (v := .int .u32 (S.at j)) rfl (by kernel_rfl) rfl (by go_simp; first | done | with_reducible rfl) trivial ?_
            try simp only [Act.put, List.setIfInBounds_toArray, List.set_cons_zero, List.set_cons_succ]
            refine take_op (i := 10) (v := ?vyb10) rfl (by kernel_rfl) (by kernel_rfl) (by kernel_rfl) (fun _ _ _ h => h) rfl hHeld ?yyb10 ?ryb10
            case yyb10 => (intro wz hz; go_simp; first | done | with_reducible rfl)
            try simp only [Act.put, List.setIfInBounds_toArray, List.set_cons_zero, List.set_cons_succ]
            refine take_op (i := 11) (v := ?vyb11) rfl (by kernel_rfl) (by kernel_rfl) (by kernel_rfl) (fun _ _ _ h => h) rfl hHeld ?yyb11 ?ryb11
            case yyb11 => (intro wz hz; go_simp; first | done | with_reducible rfl)
            try simp only [Act.put, List.setIfInBounds_toArray, List.set_cons_zero, List.set_cons_succ]
            refine take_one (i := 12) rfl (by kernel_rfl) rfl (fun K hK => ?_)
            go_simp
            refine hK.out _ _ trivial (fun hHeld => ?_)
            clear hK K hHeld
            try simp only [Act.put, List.setIfInBounds_toArray, List.set_cons_zero, List.set_cons_succ]
            refine wpAnyH_done (by kernel_rfl) ?_ _
            refine NoPanic.normal ?_
            go_wp2
            go_light
            exact ⟨⟨j + 1, by omega, by go_num, (NX.out _ (by rw [Int.add_comm])).1, (NX.out _ (by rw [Int.add_comm])).2⟩, by simp [intOf]; omega⟩
        · obtain rfl : j = 8 := by omega
          have p2 : ¬ ((8 : Nat) : Int) < 8 := by omega
          have OW : Hid (owns wr w.heap.size 152 (.slice (some ⟨g, 0, none⟩) 8 cg) ((List.range 8).map fun i => .int .u32 ((s0.at i + S.at i) % 4294967296))) := (show owns wr w.heap.size 152 (.slice (some ⟨g, 0, none⟩) 8 cg) ((List.range 8).map fun i => .int .u32 ((s0.at i + S.at i) % 4294967296)) from by
            have := owns_of_row (n := 8) hrow hn8 hmx hgB
            exact this)
          have HQ : Hid (Below w.heap.size w wr) := (show Below w.heap.size w wr from hbq)
          clear hrow hbq
          go_wp2
          go_ret
          exact ⟨_, rfl, by rw [← HS.out]; exact OW.out, HQ.out⟩
end Go.Proofs.YtkgegihkhdgdoaaDoor

/- The document's answer: All parts, one behind the other. -/
namespace Go.Proofs.YtkgegihkhdgdoaaDoor
set_option linter.unusedSimpArgs false
set_option linter.unusedVariables false
open Go.RowKit Go.Deep

set_option maxHeartbeats 1000000 in
theorem rall_any (n : Nat) (v : Value) (ps : Nat → List Int) (w : World) (hp : anyParts w v n ps) (hl : ∀ i, i ≤ n → (flatTo ps i).length ≤ 1000000000) :
    Calls Tryd.prog 108 #[v] w fun e w' => ∃ v', e = .returned v' ∧ newBytes w' w.heap.size v' (flatTo ps n) ∧ Below w.heap.size w w' := by
  obtain ⟨a, cap, rfl, hnm, hcell⟩ := hp.open
  clear hp
  have hn' : (n : Int) ≤ 9223372036854775807 := by unfold maxLen at hnm; omega
  go_enter Tryd.func108, Tryd.ntmps108
  go_wp2
  go_loopw [3, 4] (fun v i wr => ∃ k : Nat, k ≤ n ∧ i = .int .i64 k ∧ newBytes wr w.heap.size v (flatTo ps k) ∧ Below w.heap.size w wr) (fun _ i _ => n - (intOf i).toNat)
  case atStart => exact ⟨0, by omega, rfl, newBytes.nil _ _, Below.refl _ _⟩
  case round =>
    obtain ⟨k, hk, rfl, hown, hb⟩ := hrel
    have hsz := hb.size
    by_cases hlt : k < n
    · obtain ⟨qb, qo, u, rfl, hq, hc, hu⟩ := hcell k hlt
      have b0 : (0 : Int) ≤ (k : Int) := by omega
      have b1 : (k : Int) < (n : Int) := by omega
      have hlk := hl (k + 1) (by omega)
      rw [flatTo, List.length_append] at hlk
      rw [← hb.cell (p := ⟨qb, qo + k, none⟩) hq] at hc
      obtain ⟨r, w2, hr, ho2, hg2, _⟩ := any_append_run wr w.heap.size u3 u _ (ps k) hown (hu.below hb (Nat.le_refl _)) (by omega) hsz
      have hB2 : Below w.heap.size w w2 := hb.trans (below_grown hg2 (fun j hj => (hown.block j hj).1) hsz)
      obtain ⟨ua, uc, rfl, hum⟩ := hu.slice
      have HO : Hid _ := ho2
      clear hu hown ho2 hl hg2 hcell
      go_wp2_with (first | (at_builtin; refine wpList_append_run rfl _ _ _ rfl rfl rfl hr ?_))
      exact ⟨⟨k + 1, by omega, by simp, by rw [flatTo]; exact HO.out, hB2⟩, by simp only [intOf]; omega⟩
    · obtain rfl : k = n := by omega
      clear hl hcell
      have HO : Hid _ := hown
      clear hown
      go_wp2
      go_ret
      exact ⟨_, rfl, HO.out, hb⟩
end Go.Proofs.YtkgegihkhdgdoaaDoor

/- The document's answer: the message of some bytes. -/
namespace Go.Proofs.YtkgegihkhdgdoaaDoor
set_option linter.unusedSimpArgs false
set_option linter.unusedVariables false
open Go.RowKit Go.Deep

/-- the bytes of a number, the lowest k of them, the highest first. -/
def lastI (N : Int) : Nat → List Int
  | 0 => []
  | k + 1 => (N / 256 ^ k % 256) :: lastI N k
theorem lastI_length (N : Int) : ∀ k, (lastI N k).length = k
  | 0 => rfl
  | k + 1 => by rw [lastI, List.length_cons, lastI_length N k]
theorem lastI_len (n : Nat) : lastI (8 * (n : Int)) 8 = lenBytes n := by
  simp [lastI, lenBytes, List.range, List.range.loop]
def slen : Value → Nat
  | .slice _ n _ => n
  | _ => 0
theorem newBytes.slen {w : World} {B : Nat} {v : Value} {l : List Int} (h : newBytes w B v l) : ∃ a c, v = .slice a l.length c := by
  obtain ⟨a, c, h, _⟩ := h.is.slice; exact ⟨a, c, h⟩
theorem newBytes.fresh1 (w : World) (B : Nat) (x : Int) (h0 : 0 ≤ x) (h1 : x ≤ 255) (hB : B ≤ w.heap.size) : newBytes (w.alloc (.cells #[.int .u8 x] 5)) B (.slice (some ⟨w.heap.size, 0, none⟩) 1 1) [x] :=
  ⟨⟨rfl, Or.inr ⟨w.heap.size, 1, #[.int .u8 x], rfl, hB, blk_alloc_new _ _, Nat.le_refl _, by unfold maxLen; omega, rfl, rfl⟩⟩, fun i => by cases i <;> simp <;> omega⟩
theorem pad_rem (L j : Nat) (h : j < (119 - L % 64) % 64) : (L + 1 + j) % 64 ≠ 56 := by omega
def padTo (l : List Int) (j : Nat) : List Int := l ++ [128] ++ List.replicate j 0
theorem padTo_length (l : List Int) (j : Nat) : (padTo l j).length = l.length + 1 + j := by simp [padTo]; omega
theorem padTo_succ (l : List Int) (j : Nat) : padTo l (j + 1) = padTo l j ++ [0] := by rw [padTo, padTo, List.replicate_succ', ← List.append_assoc]
set_option maxHeartbeats 1000000 in
set_option maxRecDepth 100000 in
theorem rmsg_any (u : Value) (l : List Int) (w : World) (hu : isBytes w u l) (hl : l.length ≤ 1000000000) :
    Calls Tryd.prog 107 #[u] w fun e w' => ∃ v', e = .returned v' ∧ newBytes w' w.heap.size v' (msg l) ∧ Below w.heap.size w w' := by
  obtain ⟨r, w2, hr, ho2, hb2⟩ := bytes_copy_run w u l hu (by omega)
  have hs2 := hb2.size
  obtain ⟨v3, w3, hr3, ho3, hb3⟩ := byte_append_run w2 w.heap.size r l 128 (by omega) (by omega) ho2 (by omega) hs2
  obtain ⟨ua, uc, rfl, hum⟩ := hu.slice
  have HO3 : Hid (newBytes w3 w.heap.size v3 (padTo l 0)) := (show newBytes w3 w.heap.size v3 (padTo l 0) from by rw [padTo, List.replicate_zero, List.append_nil]; exact ho3)
  have HB3 : Hid (Below w.heap.size w w3) := (show Below w.heap.size w w3 from hb2.trans hb3)
  clear ho3 hb3 hb2 ho2 hu hs2
  have hl' : (l.length : Int) ≤ 1000000000 := by omega
  go_enter Tryd.func107, Tryd.ntmps107
  go_wp2_with (first | (at_builtin; refine wpList_append_run rfl _ _ _ rfl rfl rfl hr ?_) | (at_builtin; refine wpList_append_run rfl _ _ _ rfl rfl rfl hr3 ?_))
  clear hr hr3
  go_loopw [3] (fun v wr => ∃ j : Nat, j ≤ (119 - l.length % 64) % 64 ∧ newBytes wr w.heap.size v (padTo l j) ∧ Below w.heap.size w wr) (fun v _ => l.length + 1 + (119 - l.length % 64) % 64 - slen v)
  case atStart => exact ⟨0, by omega, HO3.out, HB3.out⟩
  case round =>
    obtain ⟨j, hj, hown, hb⟩ := hrel
    have hs := hb.size
    have hj2 : (j : Int) ≤ 64 := by omega
    by_cases hlt : j < (119 - l.length % 64) % 64
    · have hne := pad_rem l.length j hlt
      have hne' : ((l.length : Int) + 1 + (j : Int)) % 64 ≠ 56 := by omega
      obtain ⟨v4, w4, hr4, ho4, hb4⟩ := byte_append_run wr w.heap.size _ _ 0 (by omega) (by omega) hown (by rw [padTo_length]; omega) hs
      rw [← padTo_succ] at ho4
      obtain ⟨a3, c3, rfl⟩ := hown.slen
      obtain ⟨a4, c4, rfl⟩ := ho4.slen
      have HO4 : Hid _ := ho4
      clear ho4 hown hne
      rw [padTo_length] at hr4 ⊢
      go_wp2_with (first | (at_builtin; refine wpList_append_run rfl _ _ _ rfl rfl rfl hr4 ?_))
      exact ⟨⟨j + 1, by omega, HO4.out, hb.trans hb4⟩, by simp only [slen, padTo_length]; omega⟩
    · have hje : j = (119 - l.length % 64) % 64 := by omega
      have hne : ((l.length : Int) + 1 + (j : Int)) % 64 = 56 := by omega
      have HJ : Hid (j = (119 - l.length % 64) % 64) := hje
      clear hje hlt hj
      obtain ⟨a3, c3, rfl⟩ := hown.slen
      have HM : Hid _ := hown
      clear hown HO3 HB3
      rw [padTo_length] at HM ⊢
      go_wp2
      clear hne
      go_loopw [4, 5, 6] (fun nv lv i wq => ∃ k : Nat, k ≤ 8 ∧ i = .int .i64 k ∧ nv = .int .u64 (8 * (l.length : Int) / 256 ^ k) ∧ isBytes wq lv (lastI (8 * (l.length : Int)) k) ∧ newBytes wq w.heap.size (.slice a3 (l.length + 1 + j) c3) (padTo l j) ∧ Below w.heap.size w wq) (fun _ _ i _ => 8 - (intOf i).toNat)
      case atStart => exact ⟨0, by omega, rfl, by simp, Or.inl ⟨rfl, rfl⟩, HM.out, hb⟩
      case round =>
        clear hb hs HM
        obtain ⟨k, hk, rfl, rfl, hlast, hown, hb⟩ := hrel
        have hs := hb.size
        by_cases hltk : k < 8
        · have hL1 : lastI (8 * (l.length : Int)) (k + 1) = [8 * (l.length : Int) / 256 ^ k % 256] ++ lastI (8 * (l.length : Int)) k := rfl
          have hN1 : 8 * (l.length : Int) / 256 ^ (k + 1) = 8 * (l.length : Int) / 256 ^ k / 256 := by
            rw [Int.pow_succ, Int.ediv_ediv_of_nonneg (Int.pow_nonneg (by omega))]
          have hN0 : 0 ≤ 8 * (l.length : Int) / 256 ^ k := Int.ediv_nonneg (by omega) (Int.pow_nonneg (by omega))
          have hN2 : 8 * (l.length : Int) / 256 ^ k ≤ 8000000000 := Int.le_trans (Int.ediv_le_self _ (by omega)) (by omega)
          have HL1 : Hid _ := hL1
          have HN1 : Hid _ := hN1
          clear hL1 hN1
          generalize 8 * (l.length : Int) / 256 ^ k = N at *
          have hba : Below wr.heap.size wr (wr.alloc (.cells #[.int .u8 (N % 256)] 5)) := (Below.refl _ _).alloc (Nat.le_refl _) _
          obtain ⟨q, w5, hr5, ho5, hg5, _⟩ := bytes_append_run (wr.alloc (.cells #[.int .u8 (N % 256)] 5)) wr.heap.size _ u5 [N % 256] _ (newBytes.fresh1 wr wr.heap.size (N % 256) (by omega) (by omega) (Nat.le_refl _)) (hlast.below hba (Nat.le_refl _)) (by rw [lastI_length]; simp; omega) (by simp)
          have hb5 : Below wr.heap.size wr w5 := hba.trans (below_grown hg5 (fun j hj => by have : wr.heap.size = j := by simpa [Value.ownBlock] using hj
                                                                                            omega) (by simp))
          have HO5 : Hid (isBytes w5 q (lastI (8 * (l.length : Int)) (k + 1))) := by
            rw [HL1.out]
            exact ho5.is
          have HM5 : Hid (newBytes w5 w.heap.size (.slice a3 (l.length + 1 + j) c3) (padTo l j)) := hown.below hb5 (Nat.le_refl _)
          have HB5 : Hid (Below w.heap.size w w5) := hb.trans (hb5.mono hs)
          obtain ⟨la, lc, rfl, _⟩ := hlast.slice
          clear ho5 hg5 hlast hown hb hba hb5
          go_wp2_with (first | (at_builtin; refine wpList_append_run rfl _ _ _ rfl rfl rfl hr5 ?_))
          exact ⟨⟨k + 1, by omega, by simp, by rw [HN1.out], HO5.out, HM5.out, HB5.out⟩, by simp only [intOf]; omega⟩
        · obtain rfl : k = 8 := by omega
          obtain ⟨q, w5, hr5, ho5, hg5, _⟩ := bytes_append_run wr w.heap.size _ u5 _ _ hown hlast (by rw [lastI_length, padTo_length]; have := HJ.out; omega) hs
          have HB5 : Hid (Below w.heap.size w w5) := hb.trans (below_grown hg5 (fun j hj => (hown.block j hj).1) hs)
          have HO5 : Hid (newBytes w5 w.heap.size q (msg l)) := by
            rw [lastI_len] at ho5
            have e : msg l = padTo l j ++ lenBytes l.length := by
              rw [msg, ← HJ.out, padTo]; simp
            rw [e]; exact ho5
          obtain ⟨la, lc, rfl, _⟩ := hlast.slice
          clear ho5 hg5 hlast hown hb
          go_wp2_with (first | (at_builtin; refine wpList_append_run rfl _ _ _ rfl rfl rfl hr5 ?_))
          go_ret
          exact ⟨_, rfl, HO5.out, HB5.out⟩
end Go.Proofs.YtkgegihkhdgdoaaDoor

/- The document's SHA-256: Sum. -/
namespace Go.Proofs.YtkgegihkhdgdoaaDoor
set_option linter.unusedSimpArgs false
set_option linter.unusedVariables false
open Go.RowKit Go.Deep

def s8V (v : Nat → Int) : S8 := ⟨v 0, v 1, v 2, v 3, v 4, v 5, v 6, v 7⟩
def wordsL (v : Nat → Int) : List Value := (List.range 8).map fun i => .int .u32 (v i)
theorem s8L_V (v : Nat → Int) : s8L (s8V v) = wordsL v := rfl
theorem s8V_at (v : Nat → Int) (i : Nat) (h : i < 8) : (s8V v).at i = v i := by
  have : i = 0 ∨ i = 1 ∨ i = 2 ∨ i = 3 ∨ i = 4 ∨ i = 5 ∨ i = 6 ∨ i = 7 := by omega
  rcases this with rfl | rfl | rfl | rfl | rfl | rfl | rfl | rfl <;> rfl
theorem wordsAt_ok (l : List Int) : ∀ k i, i < 8 → okW (wordsAt l k i)
  | 0, i, h => by
    have : i = 0 ∨ i = 1 ∨ i = 2 ∨ i = 3 ∨ i = 4 ∨ i = 5 ∨ i = 6 ∨ i = 7 := by omega
    rcases this with rfl | rfl | rfl | rfl | rfl | rfl | rfl | rfl <;> (unfold okW wordsAt firstI S8.at; decide)
  | k + 1, i, h => by
    unfold okW; rw [wordsAt, takeI]; omega
theorem okS_words (l : List Int) (k : Nat) : okS (s8V (wordsAt l k)) :=
  ⟨wordsAt_ok l k 0 (by omega), wordsAt_ok l k 1 (by omega), wordsAt_ok l k 2 (by omega), wordsAt_ok l k 3 (by omega), wordsAt_ok l k 4 (by omega), wordsAt_ok l k 5 (by omega), wordsAt_ok l k 6 (by omega), wordsAt_ok l k 7 (by omega)⟩
theorem words_next (l : List Int) (k : Nat) : ((List.range 8).map fun i => Value.int .u32 (((s8V (wordsAt l k)).at i + (rndTo (wAt (fun i => l.getD (64 * k + i) 0) 64) (s8V (wordsAt l k)) 64).at i) % 4294967296)) = wordsL (wordsAt l (k + 1)) := by
  unfold wordsL
  refine List.map_congr_left fun i hi => ?_
  have h8 : i < 8 := List.mem_range.1 hi
  rw [wordsAt, takeI, s8V_at _ i h8]; rfl
theorem words_cell {w : World} {B g c : Nat} {v : Nat → Int} (h : owns w B 152 (.slice (some ⟨g, 0, none⟩) 8 c) (wordsL v)) (i : Nat) (hi : i < 8) : w.cell? ⟨g, i, none⟩ = some (.int .u32 (v i)) := by
  obtain ⟨g', c', he, _, _, _, _, hc, _⟩ := h.shape (by simp [wordsL])
  obtain ⟨rfl, _⟩ : g = g' ∧ True := by
    have : g = g' := by simp at he; exact he.1
    exact ⟨this, trivial⟩
  refine hc i _ ?_
  unfold wordsL
  rw [List.getElem?_map, List.getElem?_range hi]; rfl
section
variable {P : Program}
/-- x[m:n]. -/
theorem run_slice_two (t e : TypeId) (b o len cap m n : Nat) (hu : P.underlying t = some (.slice e)) (hs : (P.info? e).map (·.size) = some 1) (hmn : m < n) (hm : n ≤ cap) (x y : Int) (hx : x = m) (hy : y = n) (w : World) :
    (Instr.slice t (.slice (some ⟨b, o, none⟩) len cap) (some (.int .i64 x)) (some (.int .i64 y)) none).run P w = .ok (.slice (some ⟨b, o + m, none⟩) (n - m) (cap - m)) w := by
  subst hx hy
  cases hq : P.info? e with
  | none => simp [hq] at hs
  | some i =>
    have hi : i.size = 1 := by simpa [hq] using hs
    have h0 : (0 : Int) ≤ (n : Int) ∧ (n : Int) ≤ (cap : Int) := by omega
    have h1 : (0 : Int) ≤ (m : Int) ∧ (m : Int) ≤ (n : Int) := by omega
    have h2 : m ≤ n := by omega
    have h3 : ¬ cap = m := by omega
    simp [Instr.slice, Instr.sliceBounds, Instr.sliceBound, asIntOf, run_underlying hu, sizeOf, typeInfo, hq, hi, h0, h1, h2, h3, hm, Addr.add_mid]
end
theorem owns_lower {w : World} {B C e : Nat} {v : Value} {xs : List Value} (h : owns w B e v xs) (hC : C ≤ B) : owns w C e v xs := by
  obtain ⟨hl, h | ⟨g, cap, cur, he, hB, hb, hc, hm, hs, ht⟩⟩ := h
  · exact ⟨hl, Or.inl h⟩
  · exact ⟨hl, Or.inr ⟨g, cap, cur, he, by omega, hb, hc, hm, hs, ht⟩⟩
set_option maxHeartbeats 4000000 in
set_option maxRecDepth 100000 in
/-- THE DOCUMENT'S Sum, OF ANY PARTS. -/
theorem rsum_any (n : Nat) (v : Value) (ps : Nat → List Int) (w : World) (hp : anyParts w v n ps) (hl : ∀ i, i ≤ n → (flatTo ps i).length ≤ 1000000000) :
    Calls Tryd.prog 92 #[v] w fun e w' => e = .returned (.agg (rowV 32 fun i => .int .u8 (sumI (flatTo ps n) i))) ∧ Below w.heap.size w w' := by
  have hi32 : (Tryd.prog.info? 32).map (·.size) = some 32 := by kernel_rfl
  have r0 : (w.alloc (.cells (Array.replicate 32 (.int .u8 0)) 32)).rowIs w.heap.size 32 32 (fun _ => .int .u8 0) := rowIs_zero w (Array.replicate 32 (.int .u8 0)) 32 32 (.int .u8 0) rfl
  obtain ⟨wb, hwb⟩ : ∃ wb, wb = (w.alloc (.cells (Array.replicate 32 (.int .u8 0)) 32)).alloc (.cells #[.int .u32 1779033703, .int .u32 3144134277, .int .u32 1013904242, .int .u32 2773480762, .int .u32 1359893119, .int .u32 2600822924, .int .u32 528734635, .int .u32 1541459225] 152) := ⟨_, rfl⟩
  have bb : Below w.heap.size w wb := by rw [hwb]; exact ((Below.refl _ _).alloc (Nat.le_refl _) _).alloc (by simp) _
  have rb : wb.rowIs w.heap.size 32 32 (fun _ => .int .u8 0) := by rw [hwb]; exact r0.alloc _
  have sb : wb.heap.size = w.heap.size + 2 := by rw [hwb]; simp
  have ob : owns wb w.heap.size 152 (.slice (some ⟨w.heap.size + 1, 0, none⟩) 8 8) (wordsL (wordsAt (msg (flatTo ps n)) 0)) := by
    refine ⟨rfl, Or.inr ⟨w.heap.size + 1, 8, #[.int .u32 1779033703, .int .u32 3144134277, .int .u32 1013904242, .int .u32 2773480762, .int .u32 1359893119, .int .u32 2600822924, .int .u32 528734635, .int .u32 1541459225], rfl, by omega, ?_, Nat.le_refl _, by unfold maxLen; omega, rfl, rfl⟩⟩
    rw [hwb]
    have := blk_alloc_new (w.alloc (.cells (Array.replicate 32 (.int .u8 0)) 32)) (.cells #[.int .u32 1779033703, .int .u32 3144134277, .int .u32 1013904242, .int .u32 2773480762, .int .u32 1359893119, .int .u32 2600822924, .int .u32 528734635, .int .u32 1541459225] 152)
    rw [nblk_alloc] at this; exact this
  have AL := rall_any n v ps wb (hp.below bb (Nat.le_refl _)) hl
  have hn := hl n (Nat.le_refl _)
  obtain ⟨l, hl'⟩ : ∃ l, l = flatTo ps n := ⟨_, rfl⟩
  rw [← hl'] at AL ob hn
  rw [← hl']
  have OB : Hid (owns wb w.heap.size 152 (.slice (some ⟨w.heap.size + 1, 0, none⟩) 8 8) (wordsL (wordsAt (msg l) 0))) := (show owns wb w.heap.size 152 (.slice (some ⟨w.heap.size + 1, 0, none⟩) 8 8) (wordsL (wordsAt (msg l) 0)) from ob)
  have RB : Hid (wb.rowIs w.heap.size 32 32 (fun _ => .int .u8 0)) := (show wb.rowIs w.heap.size 32 32 (fun _ => .int .u8 0) from rb)
  have BB : Hid (Below w.heap.size w wb) := (show Below w.heap.size w wb from bb)
  have SB : Hid (wb.heap.size = w.heap.size + 2) := (show wb.heap.size = w.heap.size + 2 from sb)
  obtain ⟨va, vc, rfl, _, _⟩ := hp.open
  clear ob rb bb sb r0 hl hl' hp
  go_enter Tryd.func92, Tryd.ntmps92
  go_wp2_with fail
  rw [hwb] at AL
  refine AL.mono ?_
  rintro e w1 ⟨v1, rfl, n1, b1⟩
  rw [← hwb] at n1 b1
  have MS := rmsg_any v1 l w1 n1.is hn
  obtain ⟨a1, c1, rfl⟩ := n1.slen
  clear AL hwb n1
  go_wp2_with fail
  refine MS.mono ?_
  rintro e w2 ⟨v2, rfl, n2, b2⟩
  clear MS
  have s1 := b1.size
  have s2 := b2.size
  obtain ⟨M, hM⟩ : ∃ M, M = msg l := ⟨_, rfl⟩
  have hML : M.length % 64 = 0 ∧ M.length ≤ 2000000000 ∧ 0 < M.length := by rw [hM, msg_length]; omega
  rw [← hM] at OB n2
  have m2 : isBytes w2 v2 M := n2.is
  obtain ⟨mb, mo, mc, rfl, hmc, hmm, hmb, hmcell, hbyte⟩ : ∃ mb mo mc : Nat, v2 = .slice (some ⟨mb, mo, none⟩) M.length mc ∧ M.length ≤ mc ∧ mc ≤ maxLen ∧ mb < w2.heap.size ∧ (∀ i, i < M.length → w2.cell? ⟨mb, mo + i, none⟩ = some (.int .u8 (M.getD i 0))) ∧ ∀ i, 0 ≤ M.getD i 0 ∧ M.getD i 0 ≤ 255 := by
    rcases m2 with ⟨_, h⟩ | h
    · rw [h] at hML; simp at hML
    · exact h
  have B2 : Hid (Below w.heap.size w w2 ∧ w2.rowIs w.heap.size 32 32 (fun _ => .int .u8 0) ∧ owns w2 w.heap.size 152 (.slice (some ⟨w.heap.size + 1, 0, none⟩) 8 8) (wordsL (wordsAt M 0))) := (show Below w.heap.size w w2 ∧ w2.rowIs w.heap.size 32 32 (fun _ => .int .u8 0) ∧ owns w2 w.heap.size 152 (.slice (some ⟨w.heap.size + 1, 0, none⟩) 8 8) (wordsL (wordsAt M 0)) from by
    have s0 := SB.out
    exact ⟨(BB.out.trans (b1.mono (by omega))).trans (b2.mono (by omega)), b2.row (b1.row RB.out (by omega)) (by omega), (OB.out.below b1 (Nat.le_refl _)).below b2 (Nat.le_refl _)⟩)
  have HM : Hid (M = msg l) := (show M = msg l from hM)
  have CL : Hid (∀ i, i < M.length → w2.cell? ⟨mb, mo + i, none⟩ = some (.int .u8 (M.getD i 0))) := (show ∀ i, i < M.length → w2.cell? ⟨mb, mo + i, none⟩ = some (.int .u8 (M.getD i 0)) from hmcell)
  have HB : Hid (∀ i, 0 ≤ M.getD i 0 ∧ M.getD i 0 ≤ 255) := (show ∀ i, 0 ≤ M.getD i 0 ∧ M.getD i 0 ≤ 255 from hbyte)
  have q0 : (M.length : Int) ≤ 2000000000 := by omega
  have q1 : (M.length : Int) ≤ (mc : Int) := by omega
  have S2 : Hid (wb.heap.size ≤ w1.heap.size ∧ w1.heap.size ≤ w2.heap.size ∧ mb < w2.heap.size) := (show wb.heap.size ≤ w1.heap.size ∧ w1.heap.size ≤ w2.heap.size ∧ mb < w2.heap.size from ⟨s1, s2, hmb⟩)
  clear hM OB n2 m2 hmcell hbyte b1 b2 s1 s2 RB BB hmb
  go_wp2
  go_loopw [3, 5] (fun x i wr => ∃ k : Nat, 64 * k ≤ M.length ∧ i = .int .i64 (64 * (k : Int)) ∧ owns wr w.heap.size 152 x (wordsL (wordsAt M k)) ∧ Below w.heap.size w wr ∧ Below w2.heap.size w2 wr ∧ wr.rowIs w.heap.size 32 32 (fun _ => .int .u8 0)) (fun _ i _ => M.length - (intOf i).toNat)
  case atStart => exact ⟨0, by omega, rfl, B2.out.2.2, B2.out.1, Below.refl _ _, B2.out.2.1⟩
  case round =>
    obtain ⟨k, hk, rfl, hx, hb, hb2, hr0⟩ := hrel
    clear B2
    obtain ⟨gx, cx, rfl, hgx, hgl, hcx, _, _, _⟩ := hx.shape (by simp [wordsL])
    have l8 : (wordsL (wordsAt M k)).length = 8 := by simp [wordsL]
    rw [l8] at hx hcx ⊢
    have s2 := S2.out
    have sr := hb2.size
    by_cases hlt : 64 * k < M.length
    · have hk1 : 64 * k + 64 ≤ M.length := by omega
      have p0 : (64 * (k : Int)) < (M.length : Int) := by omega
      have p1 : (64 * (k : Int)) + 64 ≤ (mc : Int) := by omega
      have p2 : (64 * (k : Int)) ≤ (64 * (k : Int)) + 64 := by omega
      have p3 : (0 : Int) ≤ (64 * (k : Int)) := by omega
      have SL : ∀ wz, (Instr.slice 23 (.slice (some ⟨mb, mo, none⟩) M.length mc) (some (.int .i64 (64 * (k : Int)))) (some (.int .i64 (64 * (k : Int) + 64))) none).run Tryd.prog wz = .ok (.slice (some ⟨mb, mo + 64 * k, none⟩) 64 (mc - 64 * k)) wz := fun wz => by
        have := run_slice_two (P := Tryd.prog) 23 5 mb mo M.length mc (64 * k) (64 * k + 64) Tryd.underlying23 (by kernel_rfl) (by omega) (by omega) (64 * (k : Int)) (64 * (k : Int) + 64) (by omega) (by omega) wz
        rw [this, show 64 * k + 64 - 64 * k = 64 by omega]
      have BL := block_any (s8V (wordsAt M k)) (okS_words M k) (fun i => M.getD (64 * k + i) 0) (fun i => HB.out _) gx 0 cx mb (mo + 64 * k) (mc - 64 * k) wr hgl (fun j u hu => by
        rw [s8L_V] at hu
        have hj : j < 8 := by
          by_cases hj : j < 8
          · exact hj
          · rw [List.getElem?_eq_none (by rw [l8]; omega)] at hu; cases hu
        have := words_cell hx j hj
        unfold wordsL at hu
        rw [List.getElem?_map, List.getElem?_range hj] at hu
        rw [Nat.zero_add, this]; exact hu) (by omega) (fun i hi => by
        rw [Nat.add_assoc, hb2.cell (p := ⟨mb, mo + (64 * k + i), none⟩) s2.2.2]
        exact CL.out (64 * k + i) (by omega))
      rw [words_next] at BL
      have HBe : Hid (Below w.heap.size w wr ∧ Below w2.heap.size w2 wr ∧ wr.rowIs w.heap.size 32 32 (fun _ => .int .u8 0)) := (show Below w.heap.size w wr ∧ Below w2.heap.size w2 wr ∧ wr.rowIs w.heap.size 32 32 (fun _ => .int .u8 0) from ⟨hb, hb2, hr0⟩)
      have BL' : Hid _ := BL
      clear BL hx hb hb2 hr0 CL HB
      go_wp2_with fail
      refine Calls.mono BL'.out ?_
      rintro e w3 ⟨v3, rfl, o3, b3⟩
      have NX : Hid (owns w3 w.heap.size 152 v3 (wordsL (wordsAt M (k + 1))) ∧ Below w.heap.size w w3 ∧ Below w2.heap.size w2 w3 ∧ w3.rowIs w.heap.size 32 32 (fun _ => .int .u8 0)) := (show owns w3 w.heap.size 152 v3 (wordsL (wordsAt M (k + 1))) ∧ Below w.heap.size w w3 ∧ Below w2.heap.size w2 w3 ∧ w3.rowIs w.heap.size 32 32 (fun _ => .int .u8 0) from by
        have hh := HBe.out
        have s3 := hh.1.size
        exact ⟨owns_lower o3 s3, hh.1.trans (b3.mono s3), hh.2.1.trans (b3.mono sr), b3.row hh.2.2 (by have := hh.2.2.lt; omega)⟩)
      clear o3 b3 BL' HBe SL p0 p1 p2 p3
      go_wp2
      go_light
      exact ⟨⟨k + 1, by omega, by go_num, NX.out.1, NX.out.2.1, NX.out.2.2.1, NX.out.2.2.2⟩, by simp [intOf]; omega⟩
    · have hke : k = M.length / 64 := by omega
      have p0 : ¬ (64 * (k : Int)) < (M.length : Int) := by omega
      have CW : Hid (∀ i, i < 8 → wr.cell? ⟨gx, i, none⟩ = some (.int .u32 (wordsAt M k i))) := (show ∀ i, i < 8 → wr.cell? ⟨gx, i, none⟩ = some (.int .u32 (wordsAt M k i)) from fun i hi => words_cell hx i hi)
      have FW : Hid (wordsAt M k = finalW l) := (show wordsAt M k = finalW l from by rw [hke, HM.out]; rfl)
      have HBe : Hid (Below w.heap.size w wr ∧ wr.rowIs w.heap.size 32 32 (fun _ => .int .u8 0) ∧ gx < wr.heap.size ∧ w.heap.size < wr.heap.size) := (show Below w.heap.size w wr ∧ wr.rowIs w.heap.size 32 32 (fun _ => .int .u8 0) ∧ gx < wr.heap.size ∧ w.heap.size < wr.heap.size from ⟨hb, hr0, hgl, hr0.lt⟩)
      have W8 : Hid (∀ i, i < 8 → okW (wordsAt M k i)) := (show ∀ i, i < 8 → okW (wordsAt M k i) from wordsAt_ok M k)
      clear hx hb hb2 hr0 CL HB hke s2 sr hgl
      obtain ⟨wv, hwv⟩ : ∃ wv, wv = wordsAt M k := ⟨_, rfl⟩
      rw [← hwv] at CW FW W8
      clear hwv
      obtain ⟨G, hG⟩ : ∃ G, G = wr.heap.size := ⟨_, rfl⟩
      have HG : Hid (G = wr.heap.size) := (show G = wr.heap.size from hG)
      clear hG
      go_wp2
      rw [← HG.out]
      go_loopw [7] (fun i wq => ∃ j : Nat, j ≤ 32 ∧ i = .int .i64 j ∧ wq.rowIs G 32 32 (fun i => .int .u8 (if i < j then sumByte wv i else 0)) ∧ wq.rowIs w.heap.size 32 32 (fun _ => .int .u8 0) ∧ Below w.heap.size w wq ∧ ∀ i, i < 8 → wq.cell? ⟨gx, i, none⟩ = some (.int .u32 (wv i))) (fun i _ => 32 - (intOf i).toNat)
      case atStart =>
        have hh := HBe.out
        have b1 : Below wr.heap.size wr (wr.alloc (.cells (Array.replicate 32 (.int .u8 0)) 32)) := (Below.refl _ _).alloc (Nat.le_refl _) _
        rw [HG.out]
        exact ⟨0, by omega, rfl, (rowIs_zero wr (Array.replicate 32 (.int .u8 0)) 32 32 (.int .u8 0) rfl).congr (fun i _ => by rw [if_neg (by omega)]), b1.row hh.2.1 hh.2.2.2, hh.1.trans (b1.mono hh.1.size), fun i hi => (b1.cell (p := ⟨gx, i, none⟩) hh.2.2.1).trans (CW.out i hi)⟩
      case round =>
        obtain ⟨j, hj, rfl, hro, hr0, hb, hcx8⟩ := hrel
        have hh : gx < G ∧ w.heap.size < G := by have := HBe.out; have := HG.out; omega
        clear CW HBe HG
        have g0 : (0 : Int) ≤ (j : Int) := by omega
        by_cases hlt2 : j < 32
        · have g1 : (j : Int) < 32 := by omega
          obtain ⟨q, hq⟩ : ∃ q, q = j / 4 := ⟨_, rfl⟩
          obtain ⟨r, hr⟩ : ∃ r, r = j % 4 := ⟨_, rfl⟩
          have hjq : j = 4 * q + r := by omega
          have e1 : (j : Int) / 4 = (q : Int) := by omega
          have e2 : (j : Int) % 4 = (r : Int) := by omega
          have e2' : (j : Int).tmod 4 = (r : Int) := by rw [Int.tmod_eq_emod_of_nonneg g0]; exact e2
          have g2 : (q : Int) < 8 := by omega
          have g3 : (0 : Int) ≤ (q : Int) := by omega
          have g4 : (r : Int) < 4 := by omega
          have cq := hcx8 q (by omega)
          have wq1 : IntKind.i64.wrap (q : Int) = q := IntWalk.i64_in _ (by omega)
          have wq2 : IntKind.i64.wrap (r : Int) = r := IntWalk.i64_in _ (by omega)
          have wq3 : IntKind.i64.wrap (j : Int) = j := IntWalk.i64_in _ (by omega)
          have wq4 : IntKind.i64.wrap ((r : Int) * 8) = (r : Int) * 8 := IntWalk.i64_in _ (by omega)
          have wq5 : IntKind.i64.wrap (24 - (r : Int) * 8) = 24 - (r : Int) * 8 := IntWalk.i64_in _ (by omega)
          have ok := W8.out q (by omega)
          have ok0 := ok.1
          have ok1 := ok.2
          have zo := hro.frozen j
          have co := hro.cell (i := j) hlt2
          have PW := power_any (24 - 8 * r) (by omega)
          have e3 : (24 - (r : Int) * 8) = ((24 - 8 * r : Nat) : Int) := by omega
          have hpow : (2 ^ (24 - 8 * r) % 4294967296 : Int) = 2 ^ (24 - 8 * r) := pow_small _ (by omega)
          have hpos : (0 : Int) < 2 ^ (24 - 8 * r) := Int.pow_pos (by omega)
          obtain ⟨D, hD⟩ : ∃ D : Int, D = 2 ^ (24 - 8 * r) := ⟨_, rfl⟩
          rw [hpow, ← hD] at PW
          rw [← hD] at hpos
          have hDne : D ≠ 0 := by omega
          have dv0 : 0 ≤ wv q / D := Int.ediv_nonneg ok0 (by omega)
          have dv1 : wv q / D < 4294967296 := Int.lt_of_le_of_lt (Int.ediv_le_self _ ok0) ok1
          have wq6 : IntKind.i64.wrap ((24 - 8 * r : Nat) : Int) = ((24 - 8 * r : Nat) : Int) := IntWalk.i64_in _ (by omega)
          have HV : Hid (IntKind.u8.wrap ((IntKind.u32.wrap ((wv q).tdiv D)).tmod 256) = wv q / D % 256) := (show IntKind.u8.wrap ((IntKind.u32.wrap ((wv q).tdiv D)).tmod 256) = wv q / D % 256 from by
            rw [Int.tdiv_eq_ediv_of_nonneg ok0, IntWalk.u32_in _ ⟨dv0, by omega⟩, Int.tmod_eq_emod_of_nonneg dv0, IntWalk.u8_in _ (by omega)])
          have SBy : Hid (wv q / D % 256 = sumByte wv j) := (show wv q / D % 256 = sumByte wv j from by rw [sumByte, hD, ← hq, ← hr])
          have PW' : Hid (∀ w : World, Calls Tryd.prog 110 #[.int .i64 ((24 - 8 * r : Nat) : Int)] w fun e w' => e = .returned (.int .u32 D) ∧ w' = w) := (show ∀ w : World, Calls Tryd.prog 110 #[.int .i64 ((24 - 8 * r : Nat) : Int)] w fun e w' => e = .returned (.int .u32 D) ∧ w' = w from PW)
          have NX : Hid (∀ x : Int, x = wv q / D % 256 → (wr.drew.setCell ⟨G, j, none⟩ (.int .u8 x)).rowIs G 32 32 (fun i => .int .u8 (if i < j + 1 then sumByte wv i else 0)) ∧ (wr.drew.setCell ⟨G, j, none⟩ (.int .u8 x)).rowIs w.heap.size 32 32 (fun _ => .int .u8 0) ∧ Below w.heap.size w (wr.drew.setCell ⟨G, j, none⟩ (.int .u8 x)) ∧ ∀ i, i < 8 → (wr.drew.setCell ⟨G, j, none⟩ (.int .u8 x)).cell? ⟨gx, i, none⟩ = some (.int .u32 (wv i))) := (show ∀ x : Int, x = wv q / D % 256 → (wr.drew.setCell ⟨G, j, none⟩ (.int .u8 x)).rowIs G 32 32 (fun i => .int .u8 (if i < j + 1 then sumByte wv i else 0)) ∧ (wr.drew.setCell ⟨G, j, none⟩ (.int .u8 x)).rowIs w.heap.size 32 32 (fun _ => .int .u8 0) ∧ Below w.heap.size w (wr.drew.setCell ⟨G, j, none⟩ (.int .u8 x)) ∧ ∀ i, i < 8 → (wr.drew.setCell ⟨G, j, none⟩ (.int .u8 x)).cell? ⟨gx, i, none⟩ = some (.int .u32 (wv i)) from fun x hx => by
            have bG : Below G wr (wr.drew.setCell ⟨G, j, none⟩ (.int .u8 x)) := (Below.refl G wr).drew.setCell (Nat.le_refl _) _
            refine ⟨(World.rowIs.set (w := wr.drew) hro j _).congr fun i hi => ?_, bG.row hr0 hh.2, hb.trans (bG.mono (by omega)), fun i hi => (bG.cell (p := ⟨gx, i, none⟩) hh.1).trans (hcx8 i hi)⟩
            subst hx
            by_cases e : i = j
            · subst e; rw [if_pos rfl, SBy.out, if_pos (by omega)]
            · rw [if_neg e]
              by_cases e2 : i < j
              · rw [if_pos e2, if_pos (by omega)]
              · rw [if_neg e2, if_neg (by omega)])
          clear PW hpow hD hro hr0 hb hcx8 ok hq hr hjq
          go_upto_region 11 with fail
          refine wp_region_noPanic ?_
          refine wp_region_held_drew (S := fun w' => w'.cell? ⟨gx, q, none⟩ = some (.int .u32 (wv q))) (by kernel_rfl) cq (fun hHeld => ?_)
          refine take_op (i := 0) (v := ?va0) rfl (by kernel_rfl) (by kernel_rfl) (by kernel_rfl) (fun _ _ _ h => h) rfl hHeld ?ya0 ?ra0
          case ya0 => (intro wz hz; go_simp; first | done | with_reducible rfl)
          try simp only [Act.put, List.setIfInBounds_toArray, List.set_cons_zero, List.set_cons_succ]
          refine take_op (i := 1) (v := ?va1) rfl (by kernel_rfl) (by kernel_rfl) (by kernel_rfl) (fun _ _ _ h => h) rfl hHeld ?ya1 ?ra1
          case ya1 => (intro wz hz; go_simp; first | done | with_reducible rfl)
          try simp only [Act.put, List.setIfInBounds_toArray, List.set_cons_zero, List.set_cons_succ]
          refine take_op (i := 2) (v := ?va2) rfl (by kernel_rfl) (by kernel_rfl) (by kernel_rfl) (fun _ _ _ h => h) rfl hHeld ?ya2 ?ra2
          case ya2 => (intro wz hz; go_simp; first | done | with_reducible rfl)
          try simp only [Act.put, List.setIfInBounds_toArray, List.set_cons_zero, List.set_cons_succ]
          refine take_op (i := 3) (v := ?va3) rfl (by kernel_rfl) (by kernel_rfl) (by kernel_rfl) (fun _ _ _ h => h) rfl hHeld ?ya3 ?ra3
          case ya3 => (intro wz hz; go_simp; first | done | with_reducible rfl)
          try simp only [Act.put, List.setIfInBounds_toArray, List.set_cons_zero, List.set_cons_succ]
          refine take_op (i := 4) (v := ?va4) rfl (by kernel_rfl) (by kernel_rfl) (by kernel_rfl) (fun _ _ _ h => h) rfl hHeld ?ya4 ?ra4
          case ya4 => (intro wz hz; go_simp; first | done | with_reducible rfl)
          try simp only [Act.put, List.setIfInBounds_toArray, List.set_cons_zero, List.set_cons_succ]
          refine take_op (i := 5) (v := ?va5) rfl (by kernel_rfl) (by kernel_rfl) (by kernel_rfl) (fun _ _ _ h => h) rfl hHeld ?ya5 ?ra5
          case ya5 => (intro wz hz; have hcz := hz; go_simp; first | done | with_reducible rfl)
          try simp only [Act.put, List.setIfInBounds_toArray, List.set_cons_zero, List.set_cons_succ]
          refine take_op (i := 6) (v := ?va6) rfl (by kernel_rfl) (by kernel_rfl) (by kernel_rfl) (fun _ _ _ h => h) rfl hHeld ?ya6 ?ra6
          case ya6 => (intro wz hz; go_simp; first | done | with_reducible rfl)
          try simp only [Act.put, List.setIfInBounds_toArray, List.set_cons_zero, List.set_cons_succ]
          refine take_op (i := 7) (v := ?va7) rfl (by kernel_rfl) (by kernel_rfl) (by kernel_rfl) (fun _ _ _ h => h) rfl hHeld ?ya7 ?ra7
          case ya7 => (intro wz hz; go_simp; first | done | with_reducible rfl)
          try simp only [Act.put, List.setIfInBounds_toArray, List.set_cons_zero, List.set_cons_succ]
          refine take_op (i := 8) (v := ?va8) rfl (by kernel_rfl) (by kernel_rfl) (by kernel_rfl) (fun _ _ _ h => h) rfl hHeld ?ya8 ?ra8
          case ya8 => (intro wz hz; go_simp; first | done | with_reducible rfl)
          try simp only [Act.put, List.setIfInBounds_toArray, List.set_cons_zero, List.set_cons_succ]
          refine take_op (i := 9) (v := ?va9) rfl (by kernel_rfl) (by kernel_rfl) (by kernel_rfl) (fun _ _ _ h => h) rfl hHeld ?ya9 ?ra9
          case ya9 => (intro wz hz; go_simp; first | done | with_reducible rfl)
          try simp only [Act.put, List.setIfInBounds_toArray, List.set_cons_zero, List.set_cons_succ]
          refine take_one (i := 10) rfl (by kernel_rfl) rfl (fun K hK => ?_)
          go_simp
          refine Calls.mono (PW'.out _) ?_
          rintro e w' ⟨rfl, rfl⟩
          refine hK.out _ _ hHeld (fun hHeld => ?_)
          clear hK K
          try simp only [Act.put, List.setIfInBounds_toArray, List.set_cons_zero, List.set_cons_succ]
          refine take_op (i := 11) (v := ?vb11) rfl (by kernel_rfl) (by kernel_rfl) (by kernel_rfl) (fun _ _ _ h => h) rfl hHeld ?yb11 ?rb11
          case yb11 => (intro wz hz; go_simp; first | done | with_reducible rfl)
          try simp only [Act.put, List.setIfInBounds_toArray, List.set_cons_zero, List.set_cons_succ]
          refine take_op (i := 12) (v := ?vb12) rfl (by kernel_rfl) (by kernel_rfl) (by kernel_rfl) (fun _ _ _ h => h) rfl hHeld ?yb12 ?rb12
          case yb12 => (intro wz hz; go_simp; first | done | with_reducible rfl)
          try simp only [Act.put, List.setIfInBounds_toArray, List.set_cons_zero, List.set_cons_succ]
          refine take_op (i := 13) (v := ?vb13) rfl (by kernel_rfl) (by kernel_rfl) (by kernel_rfl) (fun _ _ _ h => h) rfl hHeld ?yb13 ?rb13
          case yb13 => (intro wz hz; go_simp; first | done | with_reducible rfl)
          try simp only [Act.put, List.setIfInBounds_toArray, List.set_cons_zero, List.set_cons_succ]
          refine take_op (i := 14) (v := ?vb14) rfl (by kernel_rfl) (by kernel_rfl) (by kernel_rfl) (fun _ _ _ h => h) rfl hHeld ?yb14 ?rb14
          case yb14 => (intro wz hz; go_simp; first | done | with_reducible rfl)
          try simp only [Act.put, List.setIfInBounds_toArray, List.set_cons_zero, List.set_cons_succ]
          refine take_one (i := 15) rfl (by kernel_rfl) rfl (fun K hK => ?_)
          go_simp
          refine hK.out _ _ ?hSS (fun hHeld => ?_)
          case hSS => exact (NX.out _ HV.out).2.2.2 q (by omega)
          clear hK K hHeld
          try simp only [Act.put, List.setIfInBounds_toArray, List.set_cons_zero, List.set_cons_succ]
          refine wpAnyH_done (by kernel_rfl) ?_ _
          refine NoPanic.normal ?_
          go_wp2
          go_light
          exact ⟨⟨j + 1, by omega, by go_num, NX.out _ rfl⟩, by simp [intOf]; omega⟩

        · obtain rfl : j = 32 := by omega
          have g1 : ¬ ((32 : Nat) : Int) < 32 := by omega
          rw [FW.out] at hro
          clear hlt2 hj hcx8 W8
          go_wp2_with (first | (refine wpList_load_seg rfl 32 _ rfl G 0 32 _ rfl _ Tryd.underlying32 rfl hi32 (fun i hi => by rw [Nat.zero_add]; exact hro.cell hi) ?_) | (refine wpList_store_row rfl 32 _ _ rfl rfl w.heap.size 0 32 _ rfl rfl hi32 (fun _ _ => rfl) _ _ _ hr0 (by omega) ?_; intro W rW hzW hbut))
          exact bodyPost_ret (results_cell_seg rfl _ _ w.heap.size 32 32 _ _ rfl Tryd.underlying32 rfl hi32 (rW.congr fun i hi => by rw [if_pos (by omega), Nat.sub_zero, if_pos (by omega)]; rfl)) rfl ⟨rfl, hb.trans ((hbut.mono (by have := hb.size; omega)).below (Nat.le_refl _))⟩
end Go.Proofs.YtkgegihkhdgdoaaDoor

namespace Go.Proofs.YtkgegihkhdgdoaaDoor
open Go.RowKit Go.Deep

theorem szI_is1 (x : Int) : (szI x = 0 ∧ x < 1) ∨ (szI x = 1 ∧ 1 ≤ x ∧ x < 256) ∨ (szI x = 2 ∧ 256 ≤ x ∧ x < 65536) ∨ (szI x = 3 ∧ 65536 ≤ x ∧ x < 16777216) ∨ (szI x = 4 ∧ 16777216 ≤ x ∧ x < 4294967296) ∨ (szI x = 5 ∧ 4294967296 ≤ x ∧ x < 1099511627776) ∨ (szI x = 6 ∧ 1099511627776 ≤ x ∧ x < 281474976710656) ∨ (szI x = 7 ∧ 281474976710656 ≤ x ∧ x < 72057594037927936) ∨ (szI x = 8 ∧ 72057594037927936 ≤ x) := by
  unfold szI
  repeat' split
  all_goals omega
theorem szI_div1 (z : Int) (h0 : 1 ≤ z) (h1 : z < 18446744073709551616) : szI (z / 256) + 1 = szI z := by
  have h2 := szI_is1 (z / 256)
  have h3 := szI_is1 z
  omega

theorem newBytes_one (w : World) (b : Int) (h0 : 0 ≤ b) (h1 : b ≤ 255) : newBytes (w.alloc (.cells #[.int .u8 b] 5)) w.heap.size (.slice (some ⟨w.heap.size, 0, none⟩) 1 1) [b] :=
  ⟨⟨rfl, Or.inr ⟨w.heap.size, 1, _, rfl, Nat.le_refl _, blk_alloc_new _ _, by simp, by unfold maxLen; omega, rfl, rfl⟩⟩, fun i => by cases i <;> simp <;> omega⟩
theorem isBytes.cellAt {w : World} {v : Value} {l : List Int} (h : isBytes w v l) (i : Nat) (hi : i < l.length) : ∃ pb po cap, v = .slice (some ⟨pb, po, none⟩) l.length cap ∧ w.cell? ⟨pb, po + i, none⟩ = some (.int .u8 (l.getD i 0)) := by
  rcases h with ⟨_, rfl⟩ | ⟨pb, po, cap, rfl, h2, h3, h4, h6, h7⟩
  · simp at hi
  · exact ⟨pb, po, cap, rfl, h6 i hi⟩
theorem reverse_take_succ (l : List Int) (j : Nat) (h0 : 0 < j) (hj : j ≤ l.length) : l.reverse.take (l.length - (j - 1)) = l.reverse.take (l.length - j) ++ [l.getD (j - 1) 0] := by
  have e : l.length - (j - 1) = (l.length - j) + 1 := by omega
  rw [e, List.take_succ_eq_append_getElem (by simp; omega)]
  congr 2
  rw [List.getElem_reverse, List.getD_eq_getElem?_getD, List.getElem?_eq_getElem (by omega)]
  simp only [Option.getD_some]
  congr 1
  omega
set_option maxHeartbeats 1000000 in
theorem rnumber_any (x : Int) (h0 : 0 ≤ x) (h1 : x < 18446744073709551616) (w : World) :
    Calls Tryd.prog 73 #[.int .u64 x] w fun e w' => ∃ v, e = .returned v ∧ newBytes w' w.heap.size v (numB x) ∧ Below w.heap.size w w' := by
  go_enter Tryd.func73, Tryd.ntmps73
  go_wp2
  go_loopw [0, 3] (fun z v wr => ∃ (t : Int) (lw : List Int), 0 ≤ t ∧ t ≤ x ∧ z = .int .u64 t ∧ lw.length + szI t = szI x ∧ digsI x (szI x) = digsI t (szI t) ++ lw.reverse ∧ newBytes wr w.heap.size v lw ∧ Below w.heap.size w wr) (fun z _ _ => szI (intOf z))
  case atStart => exact ⟨x, [], h0, Int.le_refl _, rfl, by simp, by simp, newBytes.nil _ _, Below.refl _ _⟩
  case round =>
    obtain ⟨t, lw, t0, t1, rfl, hlen, hdig, hn, hb⟩ := hrel
    have hz := szI_le x
    by_cases hlt : 0 < t
    · have hd := szI_div1 t (by omega) (by omega)
      obtain ⟨v2, w2, hr2, hn2, hb2⟩ := byte_append_run wr w.heap.size u3 lw (t % 256) (by omega) (by omega) hn (by omega) hb.size
      have HN : Hid _ := hn2
      have HB : Hid _ := hb.trans hb2
      have HG : Hid _ := hdig
      have HD : Hid _ := hd
      have HE : Hid _ := hlen
      have HS : Hid (digsI t (szI t) = digsI (t / 256) (szI (t / 256)) ++ [t % 256]) := by
        have : digsI t (szI t) = digsI (t / 256) (szI (t / 256)) ++ [t % 256] := by rw [← hd, digsI_succ]
        exact this
      clear hn hb hn2 hb2 hdig hd hlen
      go_wp2_with (first | (at_builtin; refine wpList_append_run rfl _ _ _ rfl rfl rfl hr2 ?_))
      go_light
      refine ⟨⟨t / 256, lw ++ [t % 256], by omega, by omega, rfl, by have := HD.out; have := HE.out; simp; omega, ?_, HN.out, HB.out⟩, by have := HD.out; simp [intOf]; omega⟩
      rw [HG.out, HS.out, List.reverse_append]; simp
    · obtain rfl : t = 0 := by omega
      obtain ⟨wm, hwm⟩ : ∃ wm, wm = wr := ⟨wr, rfl⟩
      subst hwm
      have hz0 : szI 0 = 0 := rfl
      rw [hz0] at hlen hdig
      have hd0 : digsI x (szI x) = lw.reverse := by rw [hdig]; rfl
      have hl8 : (lw.length : Int) ≤ 8 := by omega
      have hlz : lw.length = szI x := by omega
      obtain ⟨la, lc, rfl, _⟩ := hn.is.slice
      have hsz := hb.size
      have n1 := newBytes_one wm (lw.length : Int) (by omega) (by omega)
      have hb1 : Below wm.heap.size wm (wm.alloc (.cells #[.int .u8 (lw.length : Int)] 5)) := (Below.refl _ _).alloc (Nat.le_refl _) _
      have HN1 : Hid _ := n1
      have HB1 : Hid _ := hb1
      have HL : Hid _ := hn.is
      have HD0 : Hid _ := hd0
      have HLZ : Hid _ := hlz
      have HB : Hid _ := hb
      clear n1 hb1 hn hd0 hdig hlen hlz hb
      go_wp2
      go_loopw [4, 5] (fun v i wq => ∃ j : Nat, j ≤ lw.length ∧ i = .int .i64 j ∧ newBytes wq wm.heap.size v ([(lw.length : Int)] ++ lw.reverse.take (lw.length - j)) ∧ Below wm.heap.size wm wq) (fun _ i _ => (intOf i).toNat)
      case atStart => exact ⟨lw.length, Nat.le_refl _, rfl, by rw [Nat.sub_self, List.take_zero, List.append_nil]; exact HN1.out, HB1.out⟩
      case round =>
        clear HN1 HB1
        obtain ⟨j, hj, rfl, hn, hb⟩ := hrel
        by_cases hlt2 : 0 < j
        · obtain ⟨pb, po, cap, he, hc⟩ := isBytes.cellAt (isBytes.below HL.out hb (Nat.le_refl _)) (j - 1) (by omega)
          have he' : la = some ⟨pb, po, none⟩ ∧ lc = cap := by simpa using he
          obtain ⟨rfl, rfl⟩ := he'
          have hby := isBytes.byte HL.out (j - 1)
          obtain ⟨v2, w2, hr2, hn2, hb2⟩ := byte_append_run _ wm.heap.size u4 _ (lw.getD (j - 1) 0) hby.1 hby.2 hn (by simp; omega) hb.size
          have HN : Hid _ := hn2
          have HBq : Hid _ := hb.trans hb2
          have HT : Hid _ := reverse_take_succ lw j hlt2 hj
          obtain ⟨m, rfl⟩ : ∃ m, j = m + 1 := ⟨j - 1, by omega⟩
          simp only [Nat.add_sub_cancel] at hc hr2
          have q0 : (0 : Int) < ((m + 1 : Nat) : Int) := by omega
          have q1 : (m : Int) < (lw.length : Int) := by omega
          have q2 : ((m + 1 : Nat) : Int) - 1 = (m : Int) := by omega
          have q3 : ((m : Int) + 1) - 1 = (m : Int) := by omega
          clear hn hb hn2 hb2 he
          go_wp2_with (first | (at_builtin; refine wpList_append_run rfl _ _ _ rfl rfl rfl hr2 ?_))
          go_light
          refine ⟨⟨m, by omega, rfl, ?_, HBq.out⟩, by simp only [intOf]; omega⟩
          have h3 := HT.out
          simp only [Nat.add_sub_cancel] at h3
          rw [h3, ← List.append_assoc]; exact HN.out
        · obtain rfl : j = 0 := by omega
          have HN : Hid _ := hn
          have HBq : Hid _ := hb
          clear hn hb
          go_wp2
          go_ret
          refine ⟨_, rfl, ?_, Below.trans HB.out (HBq.out.mono HB.out.size)⟩
          have h3 := newBytes.mono HN.out hsz
          rw [Nat.sub_zero, List.take_of_length_le (by simp), ← HD0.out, HLZ.out] at h3
          exact h3
end Go.Proofs.YtkgegihkhdgdoaaDoor

/- The document's answer: blobs behind any bytes. -/
namespace Go.Proofs.YtkgegihkhdgdoaaDoor
set_option linter.unusedSimpArgs false
set_option linter.unusedVariables false
set_option maxRecDepth 100000
open Go.RowKit Go.Deep

set_option maxHeartbeats 1000000 in
theorem rblobs_any (l : List Int) (v u : Value) (n : Nat) (ps : Nat → List Int) (w : World) (hv : isBytes w v l) (hu : anyParts w u n ps) (hs : ∀ i, i ≤ n → l.length + (flatTo (blobsB ps) i).length ≤ 1000000000000) :
    Calls Tryd.prog 56 #[v, u] w fun e w' => ∃ v', e = .returned v' ∧ newBytes w' w.heap.size v' (l ++ flatTo (blobsB ps) n) ∧ Below w.heap.size w w' := by
  obtain ⟨a, cap, rfl, hnm, hcell⟩ := hu.open
  clear hu
  have hs0 := hs 0 (by omega)
  obtain ⟨v1, w1, hr1, hn1, hb1⟩ := bytes_copy_run w v l hv (by omega)
  have HN : Hid _ := hn1
  have HB : Hid _ := hb1
  obtain ⟨va, vc, rfl, _⟩ := hv.slice
  clear hv hn1 hb1
  unfold maxLen at hnm
  have q0 : (n : Int) ≤ 9223372036854775807 := by omega
  have HS : Hid _ := hs
  clear hs
  go_enter Tryd.func56, Tryd.ntmps56
  go_wp2_with (first | (at_builtin; refine wpList_append_run rfl (.tmp 7) (.tmp 8) _ rfl rfl rfl hr1 ?_))
  clear hr1
  go_loopw [5, 6] (fun z i wr => ∃ j : Nat, j ≤ n ∧ i = .int .i64 j ∧ newBytes wr w.heap.size z (l ++ flatTo (blobsB ps) j) ∧ Below w.heap.size w wr) (fun _ i _ => n - (intOf i).toNat)
  case atStart => exact ⟨0, by omega, rfl, by rw [flatTo, List.append_nil]; exact HN.out, HB.out⟩
  case round =>
    clear HN HB
    obtain ⟨j, hj, rfl, hn, hb⟩ := hrel
    by_cases hlt2 : j < n
    · obtain ⟨qb, qo, y, rfl, hq, hc, hy⟩ := hcell j hlt2
      have HYB : Hid _ := fun (w9 : World) (h9 : Below w.heap.size w w9) => hy.below h9 (Nat.le_refl _)
      have HC : Hid _ := fun (w9 : World) (h9 : Below w.heap.size w w9) => (h9.cell (p := ⟨qb, qo + j, none⟩) hq).trans hc
      obtain ⟨ya, yc, rfl, hym⟩ := hy.slice
      have b0 : (0 : Int) ≤ (j : Int) := by omega
      have b1 : (j : Int) < (n : Int) := by omega
      have hlj := HS.out (j + 1) hlt2
      rw [flatTo, List.length_append, blobsB, blobB_length] at hlj
      rw [← hb.cell (p := ⟨qb, qo + j, none⟩) hq] at hc
      have hM2 : ((ps j).length : Int) ≤ 1000000000000 := by omega
      have hs1 := hb.size
      have HN : Hid _ := hn
      have HB : Hid _ := hb
      clear hn hb hy
      go_wp2_with fail
      refine (rnumber_any ((ps j).length : Int) (by omega) (by omega) _).mono ?_
      rintro e w2 ⟨v2, rfl, hn2, hb2⟩
      have hn2' := newBytes.below HN.out hb2 (Nat.le_refl _)
      obtain ⟨v3, w3, hr3, hn3, hg3, _⟩ := bytes_append_run w2 w.heap.size u5 v2 _ (numB (ps j).length) hn2' hn2.is (by rw [List.length_append, numB_length]; omega) (by have := hb2.size; omega)
      have hB3 : Below w.heap.size w w3 := HB.out.trans ((hb2.mono hs1).trans (below_grown hg3 (fun q hq2 => (hn2'.block q hq2).1) (by have := hb2.size; omega)))
      have hc3 := HC.out w3 hB3
      obtain ⟨v4, w4, hr4, hn4, hg4, _⟩ := any_append_run w3 w.heap.size v3 _ _ (ps j) hn3 (HYB.out w3 hB3) (by rw [List.length_append, List.length_append, numB_length]; omega) hB3.size
      have HN4 : Hid _ := hn4
      have HB4 : Hid _ := hB3.trans (below_grown hg4 (fun q hq2 => (hn3.block q hq2).1) hB3.size)
      clear hn2 hb2 hn3 hg3 hn2' HN HB hn4 hg4 hB3 HC HYB
      go_wp2_with (first | (at_builtin; refine wpList_append_run rfl (.tmp 16) (.tmp 23) _ rfl rfl rfl hr3 ?_) | (at_builtin; refine wpList_append_run rfl (.tmp 25) (.tmp 29) _ rfl rfl rfl hr4 ?_))
      go_light
      exact ⟨⟨j + 1, by omega, by go_num, by rw [flatTo, ← List.append_assoc, blobsB, blobB, ← List.append_assoc]; exact HN4.out, HB4.out⟩, by simp [intOf]; omega⟩
    · obtain rfl : j = n := by omega
      have HN : Hid _ := hn
      clear hn
      go_wp2
      go_ret
      exact ⟨_, rfl, HN.out, hb⟩
end Go.Proofs.YtkgegihkhdgdoaaDoor
