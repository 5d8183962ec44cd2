import Derived.Test.YtldjefhgbigplaaPackBackW
namespace Go.Proofs.Ytldjefhgbigplaa
set_option linter.unusedSimpArgs false
set_option linter.unusedVariables false
open Go.RowKit Go.Deep

set_option maxRecDepth 100000 in
theorem back_more (n0 n1 n2 : Nat) (a0 a1 a2 : Option Addr) (c0 c1 c2 : Nat) (w : World) (h : 500 < n0 ∨ 500 < n1 ∨ 500 < n2) :
    Calls Try.prog 6 #[.slice a0 n0 c0, .slice a1 n1 c1, .slice a2 n2 c2] w fun e w' => e = .returned (.bool true) ∧ Below w.heap.size w w' := by
  by_cases h0 : 500 < n0
  · have q0 : (500 : Int) < (n0 : Int) := by omega
    clear h
    go_enter Try.func6, Try.ntmps6
    go_wp2_with fail
    refine (awake_any w).mono ?_
    rintro e w1 ⟨rfl, hb1⟩
    go_wp2
    go_ret
    exact ⟨rfl, hb1⟩
  · have q0 : (n0 : Int) ≤ 500 := by omega
    by_cases h1 : 500 < n1
    · have q1 : (500 : Int) < (n1 : Int) := by omega
      clear h
      go_enter Try.func6, Try.ntmps6
      go_wp2_with fail
      refine (awake_any w).mono ?_
      rintro e w1 ⟨rfl, hb1⟩
      go_wp2
      go_ret
      exact ⟨rfl, hb1⟩
    · have q1 : (n1 : Int) ≤ 500 := by omega
      have q2 : (500 : Int) < (n2 : Int) := by omega
      clear h
      go_enter Try.func6, Try.ntmps6
      go_wp2_with fail
      refine (awake_any w).mono ?_
      rintro e w1 ⟨rfl, hb1⟩
      go_wp2
      go_ret
      exact ⟨rfl, hb1⟩
theorem back_any (n0 n1 n2 : Nat) (v0 v1 v2 : Value) (f : Nat → Int) (ps g : Nat → List Int) (w : World) (h0 : isRow w v0 n0 (fun i => .int .u64 (f i))) (hf : ∀ i, i < n0 → 0 ≤ f i ∧ f i < 18446744073709551616) (h1 : isParts w v1 n1 ps) (h2 : isSums w v2 n2 g) :
    Calls Try.prog 6 #[v0, v1, v2] w fun e w' => e = .returned (.bool true) ∧ Below w.heap.size w w' := by
  by_cases h : 500 < n0 ∨ 500 < n1 ∨ 500 < n2
  · obtain ⟨a0, cap0, rfl, _, hc0⟩ := h0.open
    obtain ⟨a1, cap1, rfl, _, hc1⟩ := h1.open
    obtain ⟨a2, cap2, rfl, _, hc2⟩ := h2.open
    exact back_more n0 n1 n2 a0 a1 a2 cap0 cap1 cap2 w h
  · exact back_some n0 n1 n2 v0 v1 v2 f ps g w h0 hf h1 h2 (by omega) (by omega) (by omega)
end Go.Proofs.Ytldjefhgbigplaa
