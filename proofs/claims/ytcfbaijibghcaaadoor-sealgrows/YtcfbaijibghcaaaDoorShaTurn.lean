import Derived.Test.YtcfbaijibghcaaaDoorRows
import Derived.Test.YtcfbaijibghcaaaDoorShaPure
import Derived.WalkLawsBesides
namespace Go.Proofs.YtcfbaijibghcaaaDoor
open Go.RowKit

set_option maxHeartbeats 400000 in
theorem rotl_any (x n m : Int) (hb : bits .and .u64 (IntKind.u64.wrap (-n)) 31 = m) (h0 : 0 ≤ m) (h1 : m ≤ 31) (w : World) :
    Calls Tryd.prog 63 #[.int .u32 x, .int .i64 (-n)] w fun e w' => e = .returned (.int .u32 (bits BinOp.or IntKind.u32 (x * 2 ^ m.toNat % 4294967296) (x / 2 ^ (32 - m).toNat))) ∧ w' = w := by
  go_enter Tryd.func63, Tryd.ntmps63
  go_wp2
  go_ret
  exact ⟨rfl, rfl⟩

theorem turn_bits : ∀ n : Nat, 0 < n → n < 32 → bits .and .u64 (IntKind.u64.wrap (-(n : Int))) 31 = ((32 - n : Nat) : Int) := by
  have h : ∀ n : Fin 32, 0 < n.val → bits .and .u64 (IntKind.u64.wrap (-(n.val : Int))) 31 = ((32 - n.val : Nat) : Int) := by decide +kernel
  intro n h0 h1
  exact h ⟨n, h1⟩ h0

set_option maxHeartbeats 400000 in
theorem turn_nat (x : Int) (n : Nat) (h0 : 0 < n) (h1 : n < 32) (w : World) :
    Calls Tryd.prog 62 #[.int .u32 x, .int .i64 n] w fun e w' => e = .returned (.int .u32 (rotI x n)) ∧ w' = w := by
  have key := rotl_any x n _ (turn_bits n h0 h1) (by omega) (by omega)
  go_enter Tryd.func62, Tryd.ntmps62
  go_wp2_with fail
  refine (key _).mono ?_
  rintro e w' ⟨rfl, rfl⟩
  clear key
  go_wp2
  go_ret
  refine ⟨?_, rfl⟩
  have e3 : 32 - (32 - n) = n := by omega
  simp [rotI, e3]

/-- turn(x, n), for each n from 1 to 31. -/
theorem turn_any (x : Int) (n : Int) (h0 : 0 < n) (h1 : n < 32) (w : World) :
    Calls Tryd.prog 62 #[.int .u32 x, .int .i64 n] w fun e w' => e = .returned (.int .u32 (rotI x n.toNat)) ∧ w' = w := by
  obtain ⟨m, rfl⟩ := Int.eq_ofNat_of_zero_le (show 0 ≤ n by omega)
  rw [Int.toNat_natCast]
  exact turn_nat x m (by omega) (by omega) w
end Go.Proofs.YtcfbaijibghcaaaDoor
