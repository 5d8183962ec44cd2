import Derived.Test.YtcfbaijibghcaaaDoorByt
import Derived.Test.YtcfbaijibghcaaaDoorPackPure
import Derived.Lib.Tables
import Derived.WalkLawsBesides
namespace Go.Proofs.YtcfbaijibghcaaaDoor
open Go.RowKit Go.Deep

theorem ret_int {k : IntKind} {a b : Int} (h : a = b) : Ending.returned (.int k a) = .returned (.int k b) := by rw [h]
/-- what bits.Len64 answers. -/
def lenI (x : Int) : Int :=
  if 4294967296 ≤ x then
    (if 65536 ≤ x / 4294967296 then (if 256 ≤ x / 4294967296 / 65536 then 56 + Go.Lib.len8 (x / 4294967296 / 65536 / 256) else 48 + Go.Lib.len8 (x / 4294967296 / 65536))
     else (if 256 ≤ x / 4294967296 then 40 + Go.Lib.len8 (x / 4294967296 / 256) else 32 + Go.Lib.len8 (x / 4294967296)))
  else
    (if 65536 ≤ x then (if 256 ≤ x / 65536 then 24 + Go.Lib.len8 (x / 65536 / 256) else 16 + Go.Lib.len8 (x / 65536))
     else (if 256 ≤ x then 8 + Go.Lib.len8 (x / 256) else 0 + Go.Lib.len8 x))
theorem lenI_sz (x : Int) (h0 : 0 ≤ x) (h1 : x < 18446744073709551616) : 0 ≤ lenI x ∧ lenI x ≤ 64 ∧ (lenI x + 7) / 8 = (szI x : Int) := by
  unfold lenI
  split
  · split
    · split
      · have := len8_is (x / 4294967296 / 65536 / 256) (by omega) (by omega)
        have e : szI x = 8 := by unfold szI; repeat' rw [if_neg (by omega)]
        rw [e]; omega
      · have := len8_is (x / 4294967296 / 65536) (by omega) (by omega)
        have e : szI x = 7 := by unfold szI; repeat' (first | rw [if_neg (by omega)] | rw [if_pos (by omega)])
        rw [e]; omega
    · split
      · have := len8_is (x / 4294967296 / 256) (by omega) (by omega)
        have e : szI x = 6 := by unfold szI; repeat' (first | rw [if_neg (by omega)] | rw [if_pos (by omega)])
        rw [e]; omega
      · have := len8_is (x / 4294967296) (by omega) (by omega)
        have e : szI x = 5 := by unfold szI; repeat' (first | rw [if_neg (by omega)] | rw [if_pos (by omega)])
        rw [e]; omega
  · split
    · split
      · have := len8_is (x / 65536 / 256) (by omega) (by omega)
        have e : szI x = 4 := by unfold szI; repeat' (first | rw [if_neg (by omega)] | rw [if_pos (by omega)])
        rw [e]; omega
      · have := len8_is (x / 65536) (by omega) (by omega)
        have e : szI x = 3 := by unfold szI; repeat' (first | rw [if_neg (by omega)] | rw [if_pos (by omega)])
        rw [e]; omega
    · split
      · have := len8_is (x / 256) (by omega) (by omega)
        have e : szI x = 2 := by unfold szI; repeat' (first | rw [if_neg (by omega)] | rw [if_pos (by omega)])
        rw [e]; omega
      · have := len8_is x (by omega) (by omega)
        by_cases hz : x = 0
        · subst hz; have e : szI 0 = 0 := rfl
          rw [e]; omega
        · have e : szI x = 1 := by unfold szI; repeat' (first | rw [if_neg (by omega)] | rw [if_pos (by omega)])
          rw [e]; omega

set_option maxHeartbeats 1000000 in
theorem len64_any (x : Int) (h0 : 0 ≤ x) (h1 : x < 18446744073709551616) (w : World) :
    Calls Tryd.prog 60 #[.int .u64 x] w fun e w' => e = .returned (.int .i64 (lenI x)) ∧ w' = w := by
  by_cases a : 4294967296 ≤ x
  · by_cases b : 65536 ≤ x / 4294967296
    · by_cases c : 256 ≤ x / 4294967296 / 65536
      · have q0 : 0 ≤ x / 4294967296 / 65536 / 256 := by omega
        have q1 : x / 4294967296 / 65536 / 256 ≤ 255 := by omega
        have := len8_is _ q0 (by omega)
        have E0 : lenI x = 56 + Go.Lib.len8 (x / 4294967296 / 65536 / 256) := by unfold lenI; rw [if_pos a]; rw [if_pos b]; rw [if_pos c]
        have E : Hid _ := E0
        clear E0
        go_enter Tryd.func60, Tryd.ntmps60
        go_wp2
        go_ret
        exact ⟨ret_int (by first | (rw [E.out]; done) | (rw [E.out, Int.zero_add]; done)), rfl⟩
      · have q0 : 0 ≤ x / 4294967296 / 65536 := by omega
        have q1 : x / 4294967296 / 65536 ≤ 255 := by omega
        have := len8_is _ q0 (by omega)
        have E0 : lenI x = 48 + Go.Lib.len8 (x / 4294967296 / 65536) := by unfold lenI; rw [if_pos a]; rw [if_pos b]; rw [if_neg c]
        have E : Hid _ := E0
        clear E0
        go_enter Tryd.func60, Tryd.ntmps60
        go_wp2
        go_ret
        exact ⟨ret_int (by first | (rw [E.out]; done) | (rw [E.out, Int.zero_add]; done)), rfl⟩
    · by_cases c : 256 ≤ x / 4294967296
      · have q0 : 0 ≤ x / 4294967296 / 256 := by omega
        have q1 : x / 4294967296 / 256 ≤ 255 := by omega
        have := len8_is _ q0 (by omega)
        have E0 : lenI x = 40 + Go.Lib.len8 (x / 4294967296 / 256) := by unfold lenI; rw [if_pos a]; rw [if_neg b]; rw [if_pos c]
        have E : Hid _ := E0
        clear E0
        go_enter Tryd.func60, Tryd.ntmps60
        go_wp2
        go_ret
        exact ⟨ret_int (by first | (rw [E.out]; done) | (rw [E.out, Int.zero_add]; done)), rfl⟩
      · have q0 : 0 ≤ x / 4294967296 := by omega
        have q1 : x / 4294967296 ≤ 255 := by omega
        have := len8_is _ q0 (by omega)
        have E0 : lenI x = 32 + Go.Lib.len8 (x / 4294967296) := by unfold lenI; rw [if_pos a]; rw [if_neg b]; rw [if_neg c]
        have E : Hid _ := E0
        clear E0
        go_enter Tryd.func60, Tryd.ntmps60
        go_wp2
        go_ret
        exact ⟨ret_int (by first | (rw [E.out]; done) | (rw [E.out, Int.zero_add]; done)), rfl⟩
  · by_cases b : 65536 ≤ x
    · by_cases c : 256 ≤ x / 65536
      · have q0 : 0 ≤ x / 65536 / 256 := by omega
        have q1 : x / 65536 / 256 ≤ 255 := by omega
        have := len8_is _ q0 (by omega)
        have E0 : lenI x = 24 + Go.Lib.len8 (x / 65536 / 256) := by unfold lenI; rw [if_neg a]; rw [if_pos b]; rw [if_pos c]
        have E : Hid _ := E0
        clear E0
        go_enter Tryd.func60, Tryd.ntmps60
        go_wp2
        go_ret
        exact ⟨ret_int (by first | (rw [E.out]; done) | (rw [E.out, Int.zero_add]; done)), rfl⟩
      · have q0 : 0 ≤ x / 65536 := by omega
        have q1 : x / 65536 ≤ 255 := by omega
        have := len8_is _ q0 (by omega)
        have E0 : lenI x = 16 + Go.Lib.len8 (x / 65536) := by unfold lenI; rw [if_neg a]; rw [if_pos b]; rw [if_neg c]
        have E : Hid _ := E0
        clear E0
        go_enter Tryd.func60, Tryd.ntmps60
        go_wp2
        go_ret
        exact ⟨ret_int (by first | (rw [E.out]; done) | (rw [E.out, Int.zero_add]; done)), rfl⟩
    · by_cases c : 256 ≤ x
      · have q0 : 0 ≤ x / 256 := by omega
        have q1 : x / 256 ≤ 255 := by omega
        have := len8_is _ q0 (by omega)
        have E0 : lenI x = 8 + Go.Lib.len8 (x / 256) := by unfold lenI; rw [if_neg a]; rw [if_neg b]; rw [if_pos c]
        have E : Hid _ := E0
        clear E0
        go_enter Tryd.func60, Tryd.ntmps60
        go_wp2
        go_ret
        exact ⟨ret_int (by first | (rw [E.out]; done) | (rw [E.out, Int.zero_add]; done)), rfl⟩
      · have q0 : 0 ≤ x := by omega
        have q1 : x ≤ 255 := by omega
        have := len8_is _ q0 (by omega)
        have E0 : lenI x = 0 + Go.Lib.len8 (x) := by unfold lenI; rw [if_neg a]; rw [if_neg b]; rw [if_neg c]
        have E : Hid _ := E0
        clear E0
        go_enter Tryd.func60, Tryd.ntmps60
        go_wp2
        go_ret
        exact ⟨ret_int (by first | (rw [E.out]; done) | (rw [E.out, Int.zero_add]; done)), rfl⟩

theorem numberSize_any (x : Int) (h0 : 0 ≤ x) (h1 : x < 18446744073709551616) (w : World) :
    Calls Tryd.prog 56 #[.int .u64 x] w fun e w' => e = .returned (.int .i64 (1 + (szI x : Int))) ∧ w' = w := by
  obtain ⟨l0, l1, l2⟩ := lenI_sz x h0 h1
  have HL : Hid _ := l2
  clear l2
  go_enter Tryd.func56, Tryd.ntmps56
  go_wp2_with (go_at_call 60; refine (len64_any x h0 h1 _).mono ?_; rintro e w' ⟨rfl, rfl⟩)
  go_ret
  exact ⟨ret_int (by rw [HL.out]), rfl⟩
theorem partSize_any (n : Nat) (h1 : n ≤ 1099511627776) (w : World) :
    Calls Tryd.prog 43 #[.int .i64 n] w fun e w' => e = .returned (.int .i64 (1 + (szI n : Int) + n)) ∧ w' = w := by
  have h0 : (0 : Int) ≤ n := by omega
  have h2 : (n : Int) ≤ 1099511627776 := by omega
  have hs := szI_le n
  go_enter Tryd.func43, Tryd.ntmps43
  go_wp2_with (go_at_call 56; refine (numberSize_any n (by omega) (by omega) _).mono ?_; rintro e w' ⟨rfl, rfl⟩)
  go_ret
  exact ⟨rfl, rfl⟩
end Go.Proofs.YtcfbaijibghcaaaDoor
