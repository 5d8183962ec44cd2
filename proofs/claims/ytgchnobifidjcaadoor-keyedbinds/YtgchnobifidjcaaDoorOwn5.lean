import Derived.Deep.Light
import Derived.IntWalk
import Derived.RangeFuncNested
import Derived.RangeFuncBound
import Derived.RangeFuncCalls
import Derived.RangeFuncLeaves
import Derived.Shelf.Abstract
import Derived.Shelf.RegionOpen
import Derived.WalkKit
import Derived.OwnWalkIn
import Derived.TacticsInMore
import Derived.LoopNIn
import Derived.LoopIn
import Derived.OrdersIn
import Derived.Deep.RegionHeld3
import Derived.Lib.BytesEntry
import Derived.Test.YtgchnobifidjcaaDoorOwn1
import Derived.Test.YtgchnobifidjcaaDoorOwn3
import Derived.Test.YtgchnobifidjcaaDoorOwn4
set_option linter.unusedVariables false
set_option linter.unusedSimpArgs false
/- Halves of numbers. -/
namespace Go.Proofs.YtgchnobifidjcaaDoor
set_option linter.unusedSimpArgs false
set_option linter.unusedVariables false
open Go.RowKit Go.Deep

/-- the greatest power of two below n. -/
def halfN (n : Nat) : Nat := if n < 2 then 0 else 2 ^ Nat.log2 (n - 1)
theorem halfN_small {n : Nat} (h : n < 2) : halfN n = 0 := by unfold halfN; rw [if_pos h]
theorem halfN_pow {n : Nat} (h : 2 ≤ n) : halfN n = 2 ^ Nat.log2 (n - 1) := by unfold halfN; rw [if_neg (by omega)]
theorem halfN_is {n : Nat} (h : 2 ≤ n) : 1 ≤ halfN n ∧ halfN n < n ∧ n ≤ 2 * halfN n := by
  rw [halfN_pow h]
  have h1 := Nat.log2_self_le (n := n - 1) (by omega)
  have h2 := Nat.lt_log2_self (n := n - 1)
  rw [Nat.pow_succ] at h2
  have h3 : 0 < 2 ^ Nat.log2 (n - 1) := Nat.two_pow_pos _
  omega
/-- the one power of two that is below n, and twice it is not. -/
theorem halfN_of {n k : Nat} (h1 : 2 ^ k < n) (h2 : n ≤ 2 * 2 ^ k) : halfN n = 2 ^ k := by
  have h3 : 0 < 2 ^ k := Nat.two_pow_pos _
  rw [halfN_pow (by omega)]
  congr 1
  have hn : n - 1 ≠ 0 := by omega
  rw [Nat.log2_eq_iff hn]
  rw [Nat.pow_succ]
  omega
def halfI (n : Int) : Int := (halfN n.toNat : Int)
theorem len8_pow : ∀ y : Fin 256, y.1 ≠ 0 → ∃ k, Go.Lib.len8 (y.1 : Int) = ((k + 1 : Nat) : Int) ∧ 2 ^ k ≤ y.1 ∧ y.1 < 2 ^ (k + 1) ∧ k < 8 := by
  have h : ∀ y : Fin 256, y.1 ≠ 0 → Go.Lib.len8 (y.1 : Int) = ((Nat.log2 y.1 + 1 : Nat) : Int) := by decide +kernel
  intro y hy
  have h1 := Nat.log2_self_le (n := y.1) hy
  have h2 := Nat.lt_log2_self (n := y.1)
  refine ⟨Nat.log2 y.1, h y hy, h1, h2, ?_⟩
  have : Nat.log2 y.1 < 8 := (Nat.log2_lt hy).2 (by have := y.2; omega)
  exact this
theorem len8_pow' (y : Int) (h0 : 0 < y) (h1 : y < 256) : ∃ k : Nat, Go.Lib.len8 y = ((k + 1 : Nat) : Int) ∧ (2 ^ k : Nat) ≤ y.toNat ∧ y.toNat < 2 ^ (k + 1) ∧ k < 8 := by
  have := len8_pow ⟨y.toNat, by omega⟩ (by simp; omega)
  simp only at this
  rw [show ((y.toNat : Nat) : Int) = y by omega] at this
  exact this
/-- the digits of x and of its upper part. -/
theorem pow_up {x y s k : Nat} (hy : y = x / 2 ^ s) (h1 : 2 ^ k ≤ y) (h2 : y < 2 ^ (k + 1)) : 2 ^ (s + k) ≤ x ∧ x < 2 ^ (s + k + 1) := by
  subst hy
  have hs : 0 < 2 ^ s := Nat.two_pow_pos _
  rw [Nat.le_div_iff_mul_le hs] at h1
  rw [Nat.div_lt_iff_lt_mul hs] at h2
  rw [Nat.pow_add, Nat.mul_comm (2 ^ s), show s + k + 1 = (k + 1) + s by omega, Nat.pow_add 2 (k + 1) s]
  exact ⟨h1, h2⟩
theorem lenI_step (x y : Int) (s : Nat) (h0 : 0 < y) (h1 : y < 256) (hx : 0 ≤ x) (hy : y.toNat = x.toNat / 2 ^ s) (hs : s ≤ 56) : ∃ k : Nat, (s : Int) + Go.Lib.len8 y = ((k + 1 : Nat) : Int) ∧ 2 ^ k ≤ x.toNat ∧ x.toNat < 2 ^ (k + 1) ∧ k < 64 := by
  obtain ⟨k, e, a, b, c⟩ := len8_pow' y h0 h1
  obtain ⟨u, v⟩ := pow_up hy a b
  exact ⟨s + k, by rw [e]; omega, u, v, by omega⟩
theorem lenI_pow (x : Int) (h0 : 0 < x) (h1 : x < 18446744073709551616) : ∃ k : Nat, lenI x = ((k + 1 : Nat) : Int) ∧ 2 ^ k ≤ x.toNat ∧ x.toNat < 2 ^ (k + 1) ∧ k < 64 := by
  unfold lenI
  split
  · split
    · split
      · exact lenI_step x _ 56 (by omega) (by omega) (by omega) (by simp; omega) (by omega)
      · exact lenI_step x _ 48 (by omega) (by omega) (by omega) (by simp; omega) (by omega)
    · split
      · exact lenI_step x _ 40 (by omega) (by omega) (by omega) (by simp; omega) (by omega)
      · exact lenI_step x _ 32 (by omega) (by omega) (by omega) (by simp; omega) (by omega)
  · split
    · split
      · exact lenI_step x _ 24 (by omega) (by omega) (by omega) (by simp; omega) (by omega)
      · exact lenI_step x _ 16 (by omega) (by omega) (by omega) (by simp; omega) (by omega)
    · split
      · exact lenI_step x _ 8 (by omega) (by omega) (by omega) (by simp; omega) (by omega)
      · exact lenI_step x _ 0 (by omega) (by omega) (by omega) (by simp) (by omega)
set_option maxHeartbeats 1000000 in
theorem len_any (x : Int) (h0 : 0 ≤ x) (h1 : x < 18446744073709551616) (w : World) :
    Calls Tryd.prog 91 #[.int .u64 x] w fun e w' => e = .returned (.int .i64 (lenI x)) ∧ w' = w := by
  have X := len64_any x h0 h1 w
  go_enter Tryd.func91, Tryd.ntmps91
  go_wp2_with fail
  refine X.mono ?_
  rintro e w' ⟨rfl, hw⟩
  obtain rfl := hw.symm
  go_wp2
  go_ret
  exact ⟨rfl, rfl⟩
end Go.Proofs.YtgchnobifidjcaaDoor

/- Half, by the program and by the document. -/
namespace Go.Proofs.YtgchnobifidjcaaDoor
set_option linter.unusedSimpArgs false
set_option linter.unusedVariables false
open Go.RowKit Go.Deep

theorem halfI_small {n : Int} (h : n < 2) : halfI n = 0 := by unfold halfI; rw [halfN_small (by omega)]; rfl
theorem halfI_is {n : Int} (h : 2 ≤ n) : 1 ≤ halfI n ∧ halfI n < n ∧ n ≤ 2 * halfI n := by
  have := halfN_is (n := n.toNat) (by omega)
  unfold halfI; omega
theorem halfI_of {n : Int} {k : Nat} (h1 : (2 ^ k : Nat) < n) (h2 : n ≤ 2 * ((2 ^ k : Nat) : Int)) : halfI n = ((2 ^ k : Nat) : Int) := by
  unfold halfI
  rw [halfN_of (k := k) (by omega) (by omega)]
theorem pow_lt62 {k : Nat} (h : k < 63) : 1 ≤ 2 ^ k ∧ 2 ^ k ≤ 4611686018427387904 := by
  have h1 := Nat.pow_le_pow_right (show 0 < 2 by omega) (show k ≤ 62 by omega)
  have h2 : 0 < 2 ^ k := Nat.two_pow_pos _
  rw [show (2 : Nat) ^ 62 = 4611686018427387904 from rfl] at h1
  omega
theorem wrap_pow {k : Nat} (h : k < 63) : wrap64 ((2 : Int) ^ k) = ((2 ^ k : Nat) : Int) := by
  have hp := pow_lt62 h
  have e : ((2 : Int) ^ k) = ((2 ^ k : Nat) : Int) := by rw [Int.natCast_pow]; rfl
  rw [e]
  exact IntWalk.wrap64_in _ ⟨by omega, by omega⟩
set_option maxHeartbeats 1000000 in
theorem half_any (n : Int) (h0 : -9223372036854775808 ≤ n) (h1 : n ≤ 9223372036854775807) (w : World) :
    Calls Tryd.prog 71 #[.int .i64 n] w fun e w' => e = .returned (.int .i64 (halfI n)) ∧ w' = w := by
  by_cases h2 : n < 2
  · have E : Hid (halfI n = 0) := (show halfI n = 0 from halfI_small h2)
    go_enter Tryd.func71, Tryd.ntmps71
    go_wp2
    go_ret
    exact ⟨by rw [E.out]; rfl, rfl⟩
  · obtain ⟨k, hk, ha, hb, hc⟩ := lenI_pow (n - 1) (by omega) (by omega)
    have hk63 : k < 63 := by
      by_cases e : k < 63
      · exact e
      · obtain rfl : k = 63 := by omega
        rw [show (2 : Nat) ^ 63 = 9223372036854775808 from rfl] at ha
        omega
    have E : Hid (halfI n = ((2 ^ k : Nat) : Int)) := (show halfI n = ((2 ^ k : Nat) : Int) from halfI_of (k := k) (by omega) (by rw [Nat.pow_succ] at hb; omega))
    have X := len_any (n - 1) (by omega) (by omega) w
    rw [hk] at X
    have hp := pow_lt62 hk63
    have q0 : (k : Int) < 63 := by omega
    clear ha hb hk
    go_enter Tryd.func71, Tryd.ntmps71
    go_wp2_with fail
    refine X.mono ?_
    rintro e w' ⟨rfl, hw⟩
    obtain rfl := hw.symm
    clear X hw
    go_wp2
    go_ret
    exact ⟨by rw [E.out, ← wrap_pow hk63]; rfl, rfl⟩
/-- the document's p and h behind k rounds. -/
def pI (k : Nat) : Int := if k < 63 then ((2 ^ k : Nat) : Int) else -9223372036854775808
def hI (k : Nat) : Int := if k = 0 then 0 else ((2 ^ (k - 1) : Nat) : Int)
theorem pI_next {k : Nat} (h : k < 63) : wrap64 (pI k + pI k) = pI (k + 1) := by
  unfold pI
  rw [if_pos h]
  have hp := pow_lt62 h
  by_cases h2 : k + 1 < 63
  · rw [if_pos h2]
    have := pow_lt62 h2
    rw [Nat.pow_succ] at this ⊢
    rw [IntWalk.wrap64_in _ ⟨by omega, by omega⟩]; omega
  · obtain rfl : k = 62 := by omega
    rw [if_neg h2, show (2 : Nat) ^ 62 = 4611686018427387904 from rfl]; unfold wrap64; omega
theorem hI_next (k : Nat) (h : k < 63) : hI (k + 1) = pI k := by unfold hI pI; rw [if_neg (by omega), if_pos h]; rfl
theorem pI_bounds (k : Nat) : -9223372036854775808 ≤ pI k ∧ pI k ≤ 4611686018427387904 := by
  unfold pI
  by_cases h : k < 63
  · rw [if_pos h]; have := pow_lt62 h; omega
  · rw [if_neg h]; omega
theorem hI_bounds {k : Nat} (h : k ≤ 63) : 0 ≤ hI k ∧ hI k ≤ 4611686018427387904 := by
  unfold hI
  by_cases e : k = 0
  · rw [if_pos e]; omega
  · rw [if_neg e]; have := pow_lt62 (k := k - 1) (by omega); omega
theorem pI_gt {k : Nat} (h : k < 63) : hI k < pI k := by
  unfold hI pI
  rw [if_pos h]
  by_cases e : k = 0
  · subst e; decide
  · rw [if_neg e]
    have : 2 ^ k = 2 ^ (k - 1) * 2 := by rw [← Nat.pow_succ]; congr 1; omega
    have := pow_lt62 (k := k - 1) (by omega)
    omega
/-- where the loop ends. -/
theorem hI_end {n : Int} {k : Nat} (hk : k ≤ 63) (h1 : n ≤ 9223372036854775807) (hn : 1 ≤ k → hI k < n) (he : ¬ pI k < n ∨ ¬ hI k < pI k) : hI k = halfI n := by
  have hend : k = 63 ∨ ¬ pI k < n := by
    rcases he with h | h
    · exact Or.inr h
    · by_cases e : k < 63
      · exact absurd (pI_gt e) h
      · exact Or.inl (by omega)
  by_cases e : k = 0
  · subst e
    rcases hend with h | h
    · omega
    · rw [halfI_small (by have : pI 0 = 1 := rfl; omega)]; rfl
  · have hh := hn (by omega)
    have hp := pow_lt62 (k := k - 1) (by omega)
    have e1 : hI k = ((2 ^ (k - 1) : Nat) : Int) := by unfold hI; rw [if_neg e]
    rw [e1] at hh ⊢
    refine (halfI_of (k := k - 1) hh ?_).symm
    rcases hend with h | h
    · subst h
      rw [show (2 : Nat) ^ (63 - 1) = 4611686018427387904 from rfl]; omega
    · by_cases e2 : k < 63
      · have e3 : pI k = 2 * ((2 ^ (k - 1) : Nat) : Int) := by
          unfold pI; rw [if_pos e2]
          have : 2 ^ k = 2 ^ (k - 1) * 2 := by rw [← Nat.pow_succ]; congr 1; omega
          omega
        omega
      · obtain rfl : k = 63 := by omega
        rw [show (2 : Nat) ^ (63 - 1) = 4611686018427387904 from rfl]; omega
set_option maxHeartbeats 1000000 in
theorem rhalf_any (n : Int) (h0 : -9223372036854775808 ≤ n) (h1 : n ≤ 9223372036854775807) (w : World) :
    Calls Tryd.prog 74 #[.int .i64 n] w fun e w' => e = .returned (.int .i64 (halfI n)) ∧ w' = w := by
  go_enter Tryd.func74, Tryd.ntmps74
  go_wp2
  go_loopw [3, 4] (fun h p wr => ∃ k : Nat, k ≤ 63 ∧ h = .int .i64 (hI k) ∧ p = .int .i64 (pI k) ∧ (1 ≤ k → hI k < n) ∧ wr = w) (fun h _ _ => (9223372036854775808 - intOf h).toNat)
  case atStart => exact ⟨0, by omega, rfl, rfl, fun h => by omega, rfl⟩
  case round =>
    obtain ⟨k, hk, rfl, rfl, hn, rfl⟩ := hrel
    have pb := pI_bounds k
    have hb := hI_bounds hk
    have E := hI_end hk h1 hn
    have HK : Hid (k < 63 → wrap64 (pI k + pI k) = pI (k + 1) ∧ hI (k + 1) = pI k ∧ hI k < pI k) := (show k < 63 → wrap64 (pI k + pI k) = pI (k + 1) ∧ hI (k + 1) = pI k ∧ hI k < pI k from fun h => ⟨pI_next h, hI_next k h, pI_gt h⟩)
    have HC : Hid (hI k < pI k → k < 63) := (show hI k < pI k → k < 63 from fun h => by
      by_cases e : k < 63
      · exact e
      · obtain rfl : k = 63 := by omega
        have : pI 63 = -9223372036854775808 := rfl
        omega)
    obtain ⟨z, hz⟩ : ∃ z, z = pI k := ⟨_, rfl⟩
    obtain ⟨y, hy⟩ : ∃ y, y = hI k := ⟨_, rfl⟩
    rw [← hz] at pb E HK HC ⊢
    rw [← hy] at hb E HK HC ⊢
    have EE : Hid _ := E
    clear hn E hz hy
    by_cases c1 : z < n
    · by_cases c2 : y < z
      · have hlt := HC.out c2
        obtain ⟨e1, e2, _⟩ := HK.out hlt
        have e2' : Hid _ := e2
        obtain ⟨z', hz'⟩ : ∃ z', z' = pI (k + 1) := ⟨_, rfl⟩
        rw [← hz'] at e1
        have HZ : Hid _ := hz'
        clear hz' e2
        go_wp2
        go_light
        exact ⟨⟨k + 1, by omega, by rw [e2'.out], by rw [e1, ← HZ.out], fun _ => by rw [e2'.out]; exact c1, trivial⟩, by simp [intOf]; omega⟩
      · have E2 : Hid _ := EE.out (Or.inr c2)
        clear EE
        go_wp2
        go_ret
        exact ⟨by rw [← E2.out]; rfl, rfl⟩
    · have E2 : Hid _ := EE.out (Or.inl c1)
      clear EE
      go_wp2
      go_ret
      exact ⟨by rw [← E2.out]; rfl, rfl⟩
/-- is there such a place? -/
def thereB (n at_ : Int) : Bool := decide (0 ≤ at_) && decide (at_ < n)
end Go.Proofs.YtgchnobifidjcaaDoor

/- Nodes and roots. -/
namespace Go.Proofs.YtgchnobifidjcaaDoor
set_option linter.unusedSimpArgs false
set_option linter.unusedVariables false
open Go.RowKit Go.Deep

theorem But.below' {B b : Nat} {w w' : World} (h : But w.heap.size b w w') (hb : B ≤ b) (hB : B ≤ w.heap.size) : Below B w w' := (h.mono hB).below hb
theorem node_nil (L : List (List Int)) (v : Value) (w : World) (h : sumsAt w v L) (hL : L.length ≤ 1000) (ht : tabIs w) :
    Calls Tryd.prog 70 #[.pointer none, v] w fun e w' => e = .returned (sumV (nodeS L)) ∧ Below w.heap.size w w' := by
  refine (node_gen (.pointer none) L v w h hL (fun wz w' => Below wz.heap.size wz w') (fun wz u hb hlt hp => ?_)).mono ?_
  · refine (of_nil 2 L.length u _ wz hp (nodeS_light L hL h.1) (ht.below hb ht.1)).mono ?_
    rintro e w' ⟨rfl, hb'⟩
    exact ⟨rfl, ⟨hb'.size, hb'.block _ hlt⟩, hb'⟩
  · rintro e w' ⟨rfl, wz, wx, h1, h2, h3, h4, h5⟩
    have := h3.size
    exact ⟨rfl, (h1.trans (h3.mono (by omega))).trans (h4.below' (Nat.le_refl _) (by omega))⟩
/-- the text that a node is noted with. -/
def nodeT (L : List (List Int)) : ByteArray := strOf (preB 2 L.length (fun i => L.getD i []))
theorem node_book (F : Nat → Prop) (k : Nat) (N : List Nt) (c : Int) (L : List (List Int)) (v : Value) (w : World) (hk : bookAt w F k N c) (h : sumsAt w v L) (hL : L.length ≤ 1000) (ht : tabIs w) (hF0 : ¬ F 1) (hN : N.length < 1000000) (hc : 0 ≤ c ∧ c < 1000000000) :
    Calls Tryd.prog 70 #[.pointer (some ⟨k, 0, none⟩), v] w fun e w' => e = .returned (sumV (nodeS L)) ∧ bookAt w' (Gr F w w') k (addN N (nodeS L, nodeT L)) (c + 1) ∧ Fr F w w' := by
  have hlt := hk.2.1
  have hFw : ¬ F w.heap.size := fun hf => by have := hlt _ hf; omega
  refine (node_gen (.pointer (some ⟨k, 0, none⟩)) L v w h hL (fun wz w' => bookAt w' (Gr F wz w') k (addN N (nodeS L, nodeT L)) (c + 1) ∧ Fr F wz w') (fun wz u hb hl hp => ?_)).mono ?_
  · refine (of_any F k N c 2 L.length u _ wz (hk.below hb (Nat.le_refl _)) hp (nodeS_light L hL h.1) (ht.below hb ht.1) hF0 hN hc).mono ?_
    rintro e w' ⟨rfl, hbk, hf⟩
    exact ⟨rfl, ⟨hf.size, hf.block _ hl hFw⟩, hbk, hf⟩
  · rintro e w' ⟨rfl, wz, wx, h1, h2, ⟨h3, h3'⟩, h4, h5⟩
    have s3 := h3'.size
    refine ⟨rfl, ?_, ?_⟩
    · refine (h3.far (fun j hj hl => h4.block j hl (fun e => ?_)) (by omega)).grow (fun j hj => ?_) (fun j hj => ?_)
      · rcases hj with hj | hj
        · exact hFw (e ▸ hj)
        · omega
      · rcases hj with hj | hj
        · exact Or.inl hj
        · exact Or.inr ⟨by omega, by omega⟩
      · rcases hj with hj | hj
        · have := hlt j hj; omega
        · exact hj.2
    · refine ((Fr.of_below F h1).trans h3' (fun _ _ h => h)).trans (G := fun j => j = w.heap.size) ⟨h4.os, h4.tape, h4.output, by omega, fun j hj hne => h4.block j hj hne⟩ (fun j hj e => by omega)
/-- the root of a row of sums. -/
def rootF : Nat → List (List Int) → List Int
  | 0, _ => nodeS []
  | fuel + 1, L => if L.length = 0 then nodeS [] else if L.length = 1 then L.getD 0 [] else nodeS [rootF fuel (L.take (halfN L.length)), rootF fuel (L.drop (halfN L.length))]
def rootS (L : List (List Int)) : List Int := rootF L.length L
theorem half_take {L : List (List Int)} (h : 2 ≤ L.length) : (L.take (halfN L.length)).length = halfN L.length ∧ (L.drop (halfN L.length)).length = L.length - halfN L.length ∧ halfN L.length < L.length ∧ 1 ≤ halfN L.length := by
  have := halfN_is h
  simp
  omega
theorem rootF_fuel : ∀ (n m : Nat) (L : List (List Int)), L.length ≤ n → L.length ≤ m → rootF n L = rootF m L
  | 0, 0, L, _, _ => rfl
  | 0, m + 1, L, h, _ => by rw [rootF, rootF, if_pos (by omega)]
  | n + 1, 0, L, _, h => by rw [rootF, rootF, if_pos (by omega)]
  | n + 1, m + 1, L, h1, h2 => by
    rw [rootF, rootF]
    by_cases e0 : L.length = 0
    · rw [if_pos e0, if_pos e0]
    · by_cases e1 : L.length = 1
      · rw [if_neg e0, if_neg e0, if_pos e1, if_pos e1]
      · have := half_take (L := L) (by omega)
        rw [if_neg e0, if_neg e0, if_neg e1, if_neg e1, rootF_fuel n m _ (by omega) (by omega), rootF_fuel n m _ (by omega) (by omega)]
theorem rootS_none {L : List (List Int)} (h : L.length = 0) : rootS L = nodeS [] := by unfold rootS; rw [h]; rfl
theorem rootS_one {L : List (List Int)} (h : L.length = 1) : rootS L = L.getD 0 [] := by unfold rootS; rw [h, rootF, if_neg (by omega), if_pos h]
theorem rootS_more {L : List (List Int)} (h : 2 ≤ L.length) : rootS L = nodeS [rootS (L.take (halfN L.length)), rootS (L.drop (halfN L.length))] := by
  have ht := half_take h
  unfold rootS
  obtain ⟨n, hn⟩ : ∃ n, L.length = n + 1 := ⟨L.length - 1, by omega⟩
  rw [show rootF L.length L = rootF (n + 1) L by rw [hn], rootF, if_neg (by omega), if_neg (by omega)]
  rw [rootF_fuel n _ _ (by omega) (Nat.le_refl _), rootF_fuel n _ (L.drop (halfN L.length)) (by omega) (Nat.le_refl _)]
theorem rootF_sum : ∀ (n : Nat) (L : List (List Int)), (∀ x ∈ L, isSum x) → isSum (rootF n L)
  | 0, _, _ => nodeS_sum _
  | n + 1, L, h => by
    rw [rootF]
    split
    · exact nodeS_sum _
    · split
      · rename_i h1
        rw [List.getD_eq_getElem?_getD, List.getElem?_eq_getElem (by omega)]; exact h _ (List.getElem_mem _)
      · exact nodeS_sum _
theorem rootS_sum {L : List (List Int)} (h : ∀ x ∈ L, isSum x) : isSum (rootS L) := rootF_sum _ L h
/-- the notes behind a root, and how often was hashed. -/
def rootNF : Nat → List Nt → List (List Int) → List Nt
  | 0, N, _ => addN N (nodeS [], nodeT [])
  | fuel + 1, N, L => if L.length = 0 then addN N (nodeS [], nodeT []) else if L.length = 1 then N else
      addN (rootNF fuel (rootNF fuel N (L.take (halfN L.length))) (L.drop (halfN L.length))) (nodeS [rootS (L.take (halfN L.length)), rootS (L.drop (halfN L.length))], nodeT [rootS (L.take (halfN L.length)), rootS (L.drop (halfN L.length))])
def rootN (N : List Nt) (L : List (List Int)) : List Nt := rootNF L.length N L
theorem rootNF_fuel : ∀ (n m : Nat) (N : List Nt) (L : List (List Int)), L.length ≤ n → L.length ≤ m → rootNF n N L = rootNF m N L
  | 0, 0, N, L, _, _ => rfl
  | 0, m + 1, N, L, h, _ => by rw [rootNF, rootNF, if_pos (by omega)]
  | n + 1, 0, N, L, _, h => by rw [rootNF, rootNF, if_pos (by omega)]
  | n + 1, m + 1, N, L, h1, h2 => by
    rw [rootNF, rootNF]
    by_cases e0 : L.length = 0
    · rw [if_pos e0, if_pos e0]
    · by_cases e1 : L.length = 1
      · rw [if_neg e0, if_neg e0, if_pos e1, if_pos e1]
      · have := half_take (L := L) (by omega)
        rw [if_neg e0, if_neg e0, if_neg e1, if_neg e1, rootNF_fuel n m N _ (by omega) (by omega), rootNF_fuel n m _ _ (by omega) (by omega)]
theorem rootN_none {L : List (List Int)} (N : List Nt) (h : L.length = 0) : rootN N L = addN N (nodeS [], nodeT []) := by unfold rootN; rw [h]; rfl
theorem rootN_one {L : List (List Int)} (N : List Nt) (h : L.length = 1) : rootN N L = N := by unfold rootN; rw [h, rootNF, if_neg (by omega), if_pos h]
theorem rootN_more {L : List (List Int)} (N : List Nt) (h : 2 ≤ L.length) : rootN N L = addN (rootN (rootN N (L.take (halfN L.length))) (L.drop (halfN L.length))) (nodeS [rootS (L.take (halfN L.length)), rootS (L.drop (halfN L.length))], nodeT [rootS (L.take (halfN L.length)), rootS (L.drop (halfN L.length))]) := by
  have ht := half_take h
  unfold rootN
  obtain ⟨n, hn⟩ : ∃ n, L.length = n + 1 := ⟨L.length - 1, by omega⟩
  rw [show rootNF L.length N L = rootNF (n + 1) N L by rw [hn], rootNF, if_neg (by omega), if_neg (by omega)]
  rw [rootNF_fuel n _ N _ (by omega) (Nat.le_refl _), rootNF_fuel n _ _ (L.drop (halfN L.length)) (by omega) (Nat.le_refl _)]
def callsR (n : Nat) : Int := if n = 0 then 1 else (n : Int) - 1
/-- two sums in a new row. -/
theorem build_two (f g : Nat → Value) (w : World) : (Instr.buildSlice 39 2 #[(0, .agg (rowV 32 f)), (1, .agg (rowV 32 g))]).run Tryd.prog w = .ok (.slice (some ⟨w.heap.size, 0, none⟩) 2 2) (w.alloc (.cells (rowV 64 (fun j => if j < 32 then f j else g (j - 32))) 32)) := by
  show (_ : Result Value) = _
  kernel_rfl
theorem two_sums (w : World) (p q : List Int) (hp : isSum p) (hq : isSum q) : sumsAt (w.alloc (.cells (rowV 64 (fun j => if j < 32 then arrV p j else arrV q (j - 32))) 32)) (.slice (some ⟨w.heap.size, 0, none⟩) 2 2) [p, q] := by
  refine ⟨fun x hx => ?_, _, 2, rfl, Nat.le_refl _, by unfold maxLen; omega, fun _ => ⟨w.heap.size, 0, rfl, by simp, fun i hi j hj => ?_⟩⟩
  · rcases List.mem_cons.1 hx with rfl | hx
    · exact hp
    · rw [List.mem_singleton.1 hx]; exact hq
  · have hr := rowIs_box w 32 64 (fun j => if j < 32 then arrV p j else arrV q (j - 32))
    have hi' : i = 0 ∨ i = 1 := by simp at hi; omega
    rcases hi' with rfl | rfl
    · rw [show 0 + 0 * 32 + j = j by omega, hr.cell (by omega), if_pos hj]; rfl
    · rw [show 0 + 1 * 32 + j = 32 + j by omega, hr.cell (by omega), if_neg (by omega), show 32 + j - 32 = j by omega]; rfl
theorem exec_bslice2' {P : Program} {o : Oper} {ev : Operand → Value} {w w' : World} {v : Value} (t : TypeId) (n i j : Nat) (x y : Operand) (a b : Value) (ho : o.op = .buildSlice t n #[(i, x), (j, y)]) (hx : ev x = a) (hy : ev y = b)
    (hr : (Instr.buildSlice t n #[(i, a), (j, b)]).run P w = .ok v w') : (execOp ev o).run P w = .ok (.value v) w' := by
  unfold execOp
  simp only [ho, List.map_toArray, List.map_cons, List.map_nil, hx, hy, Sem.run_bind, hr, Result.andThen_ok, Sem.run_pure]
theorem stow32T_run (w : World) (b : Nat) (q : List Int) {t : Nat} {f : Nat → Value} (hr : w.rowIs b t 32 f) : (storeVar 32 ⟨b, 0, none⟩ (.agg (rowV 32 (arrV q)))).run Tryd.prog w = .ok () (w.setCells b 0 (rowV 32 (arrV q)).toList) :=
  run_storeVar_mid (P := Tryd.prog) w b 0 32 (rowV 32 (arrV q)) (by rw [rowV_size]; exact there_of_row hr (by omega)) (by rw [hi32', rowV_size]) (by
    rw [Array.all_eq_true_iff_forall_mem]
    intro v hv
    obtain ⟨i, hi', rfl⟩ := Array.mem_iff_getElem.1 hv
    have hlt : i < 32 := by rw [rowV_size] at hi'; exact hi'
    have := rowV_get 32 (arrV q) i hlt
    rw [Array.getElem?_eq_getElem hi'] at this
    rw [Option.some.inj this]; rfl)
theorem stow32T_row (w : World) (b : Nat) (q : List Int) {t : Nat} {f : Nat → Value} (hr : w.rowIs b t 32 f) : (w.setCells b 0 (rowV 32 (arrV q)).toList).rowIs b t 32 (arrV q) ∧ (w.setCells b 0 (rowV 32 (arrV q)).toList).heap.size = w.heap.size ∧ But w.heap.size b w (w.setCells b 0 (rowV 32 (arrV q)).toList) :=
  ⟨(rowIs_splice hr).congr fun i hi => by rw [if_pos (by omega), Nat.sub_zero], size_setCells _ _ _ _, but_setCells _ _ (But.refl _ _ _)⟩
end Go.Proofs.YtgchnobifidjcaaDoor

/- tree.Root: by no book, by a book. -/
namespace Go.Proofs.YtgchnobifidjcaaDoor
set_option linter.unusedSimpArgs false
set_option linter.unusedVariables false
open Go.RowKit Go.Deep

theorem callsR_more {n h : Nat} (h0 : 1 ≤ h) (h1 : h < n) : callsR n = callsR h + callsR (n - h) + 1 := by unfold callsR; rw [if_neg (by omega), if_neg (by omega), if_neg (by omega)]; omega
theorem rootNF_length : ∀ (n : Nat) (N : List Nt) (L : List (List Int)), L.length ≤ n → (rootNF n N L).length ≤ N.length + L.length + 1 ∧ (1 ≤ L.length → (rootNF n N L).length + 1 ≤ N.length + L.length)
  | 0, N, L, h => by
    rw [rootNF]; have := addN_len N (nodeS [], nodeT []); omega
  | n + 1, N, L, h => by
    rw [rootNF]
    by_cases e0 : L.length = 0
    · rw [if_pos e0]; have := addN_len N (nodeS [], nodeT []); omega
    · by_cases e1 : L.length = 1
      · rw [if_neg e0, if_pos e1]; omega
      · have ht := half_take (L := L) (by omega)
        rw [if_neg e0, if_neg e1]
        have h1 := rootNF_length n N (L.take (halfN L.length)) (by omega)
        have h2 := rootNF_length n (rootNF n N (L.take (halfN L.length))) (L.drop (halfN L.length)) (by omega)
        have h3 := addN_len (rootNF n (rootNF n N (L.take (halfN L.length))) (L.drop (halfN L.length))) (nodeS [rootS (L.take (halfN L.length)), rootS (L.drop (halfN L.length))], nodeT [rootS (L.take (halfN L.length)), rootS (L.drop (halfN L.length))])
        omega
theorem rootN_length (N : List Nt) (L : List (List Int)) : (rootN N L).length ≤ N.length + L.length + 1 := (rootNF_length _ N L (Nat.le_refl _)).1
theorem tabIs.far {w w' : World} (h : tabIs w) (hb : w'.heap[1]? = w.heap[1]?) (hs : w.heap.size ≤ w'.heap.size) : tabIs w' := ⟨Nat.lt_of_lt_of_le h.1 hs, fun i hi => (World.cell?_of_block (a := ⟨1, i, none⟩) hb).trans (h.2 i hi)⟩
theorem sumsAt.far {w w' : World} {v : Value} {L : List (List Int)} (h : sumsAt w v L) (hb : 0 < L.length → ∀ k, v.ownBlock = some k → k < w.heap.size → w'.heap[k]? = w.heap[k]?) (hs : w.heap.size ≤ w'.heap.size) : sumsAt w' v L := by
  obtain ⟨h1, a, cap, rfl, h3, h4, h5⟩ := h
  refine ⟨h1, a, cap, rfl, h3, h4, fun h0 => ?_⟩
  obtain ⟨g, o, rfl, hg, hc⟩ := h5 h0
  exact ⟨g, o, rfl, Nat.lt_of_lt_of_le hg hs, fun i hi j hj => (World.cell?_of_block (a := ⟨g, o + i * 32 + j, none⟩) (hb h0 g rfl hg)).trans (hc i hi j hj)⟩
theorem sumsAt.to' {w : World} {v : Value} {L : List (List Int)} (h : sumsAt w v L) (n : Nat) (hn : n < L.length) :
    ∃ u, (∀ wz : World, (Instr.slice 39 v none (some (.int .i64 n)) none).run Tryd.prog wz = .ok u wz) ∧ sumsAt w u (L.take n) ∧ u.ownBlock = v.ownBlock ∧ ∃ x y, u = .slice x n y := by
  obtain ⟨h1, a, cap, rfl, h3, h4, h5⟩ := h
  obtain ⟨g, o, rfl, hg, hc⟩ := h5 (by omega)
  have hl : (L.take n).length = n := by simp; omega
  refine ⟨_, fun wz => run_slice_to32 39 32 g o L.length cap n Tryd.underlying39 (by kernel_rfl) (by omega) wz, ⟨fun x hx => h1 x (List.mem_of_mem_take hx), _, cap, by rw [hl], by omega, h4, fun _ => ⟨g, o, rfl, hg, fun i hi j hj => ?_⟩⟩, rfl, _, _, rfl⟩
  rw [List.getElem_take]; exact hc i (by omega) j hj
theorem sumsAt.from' {w : World} {v : Value} {L : List (List Int)} (h : sumsAt w v L) (n : Nat) (hn : n < L.length) :
    ∃ u, (∀ wz : World, (Instr.slice 39 v (some (.int .i64 n)) none none).run Tryd.prog wz = .ok u wz) ∧ sumsAt w u (L.drop n) ∧ u.ownBlock = v.ownBlock ∧ ∃ x y, u = .slice x (L.length - n) y := by
  obtain ⟨h1, a, cap, rfl, h3, h4, h5⟩ := h
  obtain ⟨g, o, rfl, hg, hc⟩ := h5 (by omega)
  have hl : (L.drop n).length = L.length - n := by simp
  refine ⟨_, fun wz => run_slice_from32 39 32 g o L.length cap n Tryd.underlying39 (by kernel_rfl) (by omega) (by omega) wz, ⟨fun x hx => h1 x (List.mem_of_mem_drop hx), _, cap - n, by rw [hl], by omega, by omega, fun _ => ⟨g, o + n * 32, rfl, hg, fun i hi j hj => ?_⟩⟩, rfl, _, _, rfl⟩
  rw [List.getElem_drop, show o + n * 32 + i * 32 + j = o + (n + i) * 32 + j by omega]
  exact hc (n + i) (by omega) j hj
set_option maxHeartbeats 2000000 in
set_option maxRecDepth 100000 in
theorem root_nil_small (L : List (List Int)) (v : Value) (w : World) (hn : L.length ≤ 1) (h : sumsAt w v L) (ht : tabIs w) :
    Calls Tryd.prog 40 #[.pointer none, v] w fun e w' => e = .returned (sumV (rootS L)) ∧ Below w.heap.size w w' := by
  have hz32 := zero_s32
  obtain ⟨w1, hw1⟩ : ∃ w1, w1 = w.alloc (.cells (rowV 32 (fun _ => .int .u8 0)) 32) := ⟨_, rfl⟩
  have r1 : w1.rowIs w.heap.size 32 32 (fun _ => .int .u8 0) := by rw [hw1]; exact rowIs_box w _ _ _
  have b1 : Below w.heap.size w w1 := by rw [hw1]; exact (Below.refl _ _).alloc (Nat.le_refl _) _
  have s1 : w1.heap.size = w.heap.size + 1 := by rw [hw1]; simp
  by_cases h0 : L.length = 0
  · have X := node_nil [] (.slice none 0 0) w1 (sumsAt.nil w1) (by simp) (ht.below b1 ht.1)
    have ES := rootS_none h0
    rw [← ES] at X
    unfold sumV at X ⊢
    have HES : Hid _ := ES
    clear ES
    obtain ⟨_, a, cap, rfl, _, _, _⟩ := h
    rw [h0]
    go_enter Tryd.func40, Tryd.ntmps40
    go_upto_region 1 with fail
    rw [← hw1]
    have S1 : Hid _ := s1
    clear hw1 hz32 s1
    go_wp2_with fail
    refine X.mono ?_
    rintro e wx ⟨rfl, bx⟩
    clear X
    have s1 := S1.out
    have sx := bx.size
    have rx := bx.row r1 (by omega)
    have BX : Hid _ := b1.trans (bx.mono (by omega))
    clear bx s1 r1
    go_wp2_with (first | (refine wpList_store_row rfl 32 _ _ rfl rfl w.heap.size 0 32 (arrV (rootS L)) rfl rfl hi32' (fun _ _ => rfl) _ _ _ rx (by omega) ?_; intro w6 r6 hz6 hb6))
    exact bodyPost_ret (results_cell_seg rfl _ _ w.heap.size 32 32 (arrV (rootS L)) _ rfl Tryd.underlying32 rfl hi32' (r6.congr fun i hi => by rw [if_pos (by omega), Nat.sub_zero])) rfl ⟨rfl, BX.out.trans (hb6.below' (Nat.le_refl _) (Below.size BX.out))⟩
  · have h1 : L.length = 1 := by omega
    have ES : rootS L = L[0] := by rw [rootS_one h1, List.getD_eq_getElem?_getD, List.getElem?_eq_getElem (by omega)]; rfl
    obtain ⟨hs, a, cap, rfl, hc1, hm1, hcl⟩ := h
    obtain ⟨g, o, rfl, hg, hcell⟩ := hcl (by omega)
    have ld : ∀ j, j < 32 → w1.cell? ⟨g, o + j, none⟩ = some (arrV (rootS L) j) := fun j hj => by
      have := hcell 0 (by omega) j hj
      rw [show o + 0 * 32 + j = o + j by omega] at this
      rw [b1.cell (p := ⟨g, o + j, none⟩) hg, this, ES]
    have LD : Hid _ := ld
    clear ld hcell hcl hs ES
    rw [h1]
    unfold sumV
    go_enter Tryd.func40, Tryd.ntmps40
    go_upto_region 1 with fail
    rw [← hw1]
    have S1 : Hid _ := s1
    clear hw1 hz32 s1
    go_wp2_with (first | (refine wpList_load_seg rfl 32 _ rfl g o 32 (arrV (rootS L)) rfl _ Tryd.underlying32 rfl hi32' LD.out ?_) | (refine wpList_store_row rfl 32 _ _ rfl rfl w.heap.size 0 32 (arrV (rootS L)) rfl rfl hi32' (fun _ _ => rfl) _ _ _ r1 (by omega) ?_; intro w6 r6 hz6 hb6))
    have s1 := S1.out
    exact bodyPost_ret (results_cell_seg rfl _ _ w.heap.size 32 32 (arrV (rootS L)) _ rfl Tryd.underlying32 rfl hi32' (r6.congr fun i hi => by rw [if_pos (by omega), Nat.sub_zero])) rfl ⟨rfl, b1.trans (hb6.below' (Nat.le_refl _) (by omega))⟩
set_option maxHeartbeats 2000000 in
set_option maxRecDepth 100000 in
theorem root_book_small (F : Nat → Prop) (k : Nat) (N : List Nt) (c : Int) (L : List (List Int)) (v : Value) (w : World) (hn : L.length ≤ 1) (hk : bookAt w F k N c) (h : sumsAt w v L) (ht : tabIs w) (hF0 : ¬ F 1) (hN : N.length + L.length < 100000) (hc : 0 ≤ c ∧ c + (L.length : Int) < 100000000) :
    Calls Tryd.prog 40 #[.pointer (some ⟨k, 0, none⟩), v] w fun e w' => e = .returned (sumV (rootS L)) ∧ bookAt w' (Gr F w w') k (rootN N L) (c + callsR L.length) ∧ Fr F w w' := by
  have hz32 := zero_s32
  obtain ⟨w1, hw1⟩ : ∃ w1, w1 = w.alloc (.cells (rowV 32 (fun _ => .int .u8 0)) 32) := ⟨_, rfl⟩
  have r1 : w1.rowIs w.heap.size 32 32 (fun _ => .int .u8 0) := by rw [hw1]; exact rowIs_box w _ _ _
  have b1 : Below w.heap.size w w1 := by rw [hw1]; exact (Below.refl _ _).alloc (Nat.le_refl _) _
  have s1 : w1.heap.size = w.heap.size + 1 := by rw [hw1]; simp
  have hlt := hk.2.1
  have hFw : ¬ F w.heap.size := fun hf => by have := hlt _ hf; omega
  have K1 := hk.below b1 (Nat.le_refl _)
  by_cases h0 : L.length = 0
  · have X := node_book F k N c [] (.slice none 0 0) w1 K1 (sumsAt.nil w1) (by simp) (ht.below b1 ht.1) hF0 (by omega) ⟨hc.1, by omega⟩
    have ES := rootS_none h0
    rw [← ES] at X
    unfold sumV at X ⊢
    have HES : Hid _ := ES
    have EN : Hid _ := rootN_none N h0
    have EC : Hid (callsR L.length = 1) := (show callsR L.length = 1 from by unfold callsR; rw [if_pos h0])
    clear ES
    obtain ⟨_, a, cap, rfl, _, _, _⟩ := h
    rw [h0]
    go_enter Tryd.func40, Tryd.ntmps40
    go_upto_region 1 with fail
    rw [← hw1]
    have S1 : Hid _ := s1
    clear hw1 hz32 s1
    go_wp2_with fail
    refine X.mono ?_
    rintro e wx ⟨rfl, kx, fx⟩
    clear X
    have s1 := S1.out
    have sx := fx.size
    have rx : wx.rowIs w.heap.size 32 32 (fun _ => .int .u8 0) := World.rowIs.of_block r1 (fx.block _ (by omega) hFw)
    have KX : Hid _ := kx
    have FX : Hid _ := fx
    clear kx fx s1 r1
    go_wp2_with (first | (refine wpList_store_row rfl 32 _ _ rfl rfl w.heap.size 0 32 (arrV (rootS L)) rfl rfl hi32' (fun _ _ => rfl) _ _ _ rx (by omega) ?_; intro w6 r6 hz6 hb6))
    have s1 := S1.out
    refine bodyPost_ret (results_cell_seg rfl _ _ w.heap.size 32 32 (arrV (rootS L)) _ rfl Tryd.underlying32 rfl hi32' (r6.congr fun i hi => by rw [if_pos (by omega), Nat.sub_zero])) rfl ⟨rfl, ?_, ?_⟩
    · rw [EN.out, show callsR 0 = 1 from rfl, ← HES.out]
      refine (bookAt.far KX.out (fun j hj hl => hb6.block j hl (fun e => ?_)) (by omega)).grow (fun j hj => ?_) (fun j hj => ?_)
      · rcases hj with hj | hj
        · exact hFw (e ▸ hj)
        · omega
      · rcases hj with hj | hj
        · exact Or.inl hj
        · exact Or.inr ⟨by omega, by omega⟩
      · rcases hj with hj | hj
        · have := hlt j hj; omega
        · exact hj.2
    · exact ((Fr.of_below F b1).trans FX.out (fun _ _ h => h)).trans (G := fun j => j = w.heap.size) ⟨hb6.os, hb6.tape, hb6.output, by omega, fun j hj hne => hb6.block j hj hne⟩ (fun j hj e => by omega)
  · have h1 : L.length = 1 := by omega
    have ES : rootS L = L[0] := by rw [rootS_one h1, List.getD_eq_getElem?_getD, List.getElem?_eq_getElem (by omega)]; rfl
    obtain ⟨hs, a, cap, rfl, hc1, hm1, hcl⟩ := h
    obtain ⟨g, o, rfl, hg, hcell⟩ := hcl (by omega)
    have ld : ∀ j, j < 32 → w1.cell? ⟨g, o + j, none⟩ = some (arrV (rootS L) j) := fun j hj => by
      have := hcell 0 (by omega) j hj
      rw [show o + 0 * 32 + j = o + j by omega] at this
      rw [b1.cell (p := ⟨g, o + j, none⟩) hg, this, ES]
    have LD : Hid _ := ld
    have EN : Hid _ := rootN_one N h1
    have EC : Hid (callsR L.length = 0) := (show callsR L.length = 0 from by unfold callsR; rw [h1]; rfl)
    clear ld hcell hcl hs ES
    rw [h1]
    unfold sumV
    go_enter Tryd.func40, Tryd.ntmps40
    go_upto_region 1 with fail
    rw [← hw1]
    have S1 : Hid _ := s1
    clear hw1 hz32 s1
    go_wp2_with (first | (refine wpList_load_seg rfl 32 _ rfl g o 32 (arrV (rootS L)) rfl _ Tryd.underlying32 rfl hi32' LD.out ?_) | (refine wpList_store_row rfl 32 _ _ rfl rfl w.heap.size 0 32 (arrV (rootS L)) rfl rfl hi32' (fun _ _ => rfl) _ _ _ r1 (by omega) ?_; intro w6 r6 hz6 hb6))
    have s1 := S1.out
    refine bodyPost_ret (results_cell_seg rfl _ _ w.heap.size 32 32 (arrV (rootS L)) _ rfl Tryd.underlying32 rfl hi32' (r6.congr fun i hi => by rw [if_pos (by omega), Nat.sub_zero])) rfl ⟨rfl, ?_, ?_⟩
    · rw [EN.out, show callsR 1 = 0 from rfl, Int.add_zero]
      refine (bookAt.far K1 (fun j hj hl => hb6.block j hl (fun e => hFw (e ▸ hj))) (by omega)).grow (fun j hj => Or.inl hj) (fun j hj => ?_)
      rcases hj with hj | hj
      · have := hlt j hj; omega
      · exact hj.2
    · exact (Fr.of_below F b1).trans (G := fun j => j = w.heap.size) ⟨hb6.os, hb6.tape, hb6.output, by omega, fun j hj hne => hb6.block j hj hne⟩ (fun j hj e => by omega)
end Go.Proofs.YtgchnobifidjcaaDoor

/- tree.Root: of two leaves and more. -/
namespace Go.Proofs.YtgchnobifidjcaaDoor
set_option linter.unusedSimpArgs false
set_option linter.unusedVariables false
open Go.RowKit Go.Deep

set_option maxHeartbeats 4000000 in
set_option maxRecDepth 100000 in
theorem root_book : ∀ (n : Nat) (F : Nat → Prop) (k : Nat) (N : List Nt) (c : Int) (L : List (List Int)) (v : Value) (w : World), L.length ≤ n → n ≤ 1000 → bookAt w F k N c → sumsAt w v L → (0 < L.length → ∀ j, v.ownBlock = some j → ¬ F j) → tabIs w → ¬ F 1 → N.length + L.length < 100000 → (0 ≤ c ∧ c + (L.length : Int) < 100000000) →
    Calls Tryd.prog 40 #[.pointer (some ⟨k, 0, none⟩), v] w fun e w' => e = .returned (sumV (rootS L)) ∧ bookAt w' (Gr F w w') k (rootN N L) (c + callsR L.length) ∧ Fr F w w' := by
  intro n
  induction n with
  | zero =>
    intro F k N c L v w hn h1000 hk h hvF ht hF0 hN hc
    exact root_book_small F k N c L v w (by omega) hk h ht hF0 hN hc
  | succ n ih =>
  intro F k N c L v w hn h1000 hk h hvF ht hF0 hN hc
  by_cases hsm : L.length ≤ 1
  · exact root_book_small F k N c L v w hsm hk h ht hF0 hN hc
  have h2 : 2 ≤ L.length := by omega
  have hh := half_take h2
  have hz32 := zero_s32
  obtain ⟨w1, hw1⟩ : ∃ w1, w1 = w.alloc (.cells (rowV 32 (fun _ => .int .u8 0)) 32) := ⟨_, rfl⟩
  have r1 : w1.rowIs w.heap.size 32 32 (fun _ => .int .u8 0) := by rw [hw1]; exact rowIs_box w _ _ _
  have b1 : Below w.heap.size w w1 := by rw [hw1]; exact (Below.refl _ _).alloc (Nat.le_refl _) _
  have s1 : w1.heap.size = w.heap.size + 1 := by rw [hw1]; simp
  have X1 := half_any (L.length : Int) (by omega) (by omega) w1
  obtain ⟨ua, ra, sa, oa, xa, ya, rfl⟩ := h.to' (halfN L.length) (by omega)
  obtain ⟨ub, rb, sb, ob, xb, yb, rfl⟩ := h.from' (halfN L.length) (by omega)
  have hvl : ∀ j, v.ownBlock = some j → j < w.heap.size := by
    obtain ⟨_, a, cap, rfl, _, _, h5⟩ := h
    obtain ⟨g, o, rfl, hg, _⟩ := h5 (by omega)
    intro j hj
    have : g = j := by simpa [Value.ownBlock] using hj
    omega
  obtain ⟨TL, hTL⟩ : ∃ TL, TL = L.take (halfN L.length) := ⟨_, rfl⟩
  obtain ⟨DL, hDL⟩ : ∃ DL, DL = L.drop (halfN L.length) := ⟨_, rfl⟩
  have ES : rootS L = nodeS [rootS TL, rootS DL] := by rw [hTL, hDL]; exact rootS_more h2
  have hsT : isSum (rootS TL) := rootS_sum (by rw [hTL]; exact sa.1)
  have hsD : isSum (rootS DL) := rootS_sum (by rw [hDL]; exact sb.1)
  have lT : TL.length = halfN L.length := by rw [hTL]; exact hh.1
  have lD : DL.length = L.length - halfN L.length := by rw [hDL]; exact hh.2.1
  rw [← hTL] at sa
  rw [← hDL] at sb
  have EN : rootN N L = addN (rootN (rootN N TL) DL) (nodeS [rootS TL, rootS DL], nodeT [rootS TL, rootS DL]) := by rw [hTL, hDL]; exact rootN_more N h2
  have EC : callsR L.length = callsR TL.length + callsR DL.length + 1 := by rw [lT, lD]; exact callsR_more hh.2.2.2 hh.2.2.1
  have hlt := hk.2.1
  have hFw : ¬ F w.heap.size := fun hf => by have := hlt _ hf; omega
  have K1 := hk.below b1 (Nat.le_refl _)
  have hcT : 0 ≤ callsR TL.length ∧ callsR TL.length ≤ (TL.length : Int) := by unfold callsR; rw [if_neg (by omega)]; omega
  have hcD : 0 ≤ callsR DL.length ∧ callsR DL.length ≤ (DL.length : Int) := by unfold callsR; rw [if_neg (by omega)]; omega
  have lN1 := (rootNF_length TL.length N TL (Nat.le_refl _)).2 (by omega)
  have lN2 := (rootNF_length DL.length (rootN N TL) DL (Nat.le_refl _)).2 (by omega)
  have XA := ih F k N c TL _ w1.drew (by omega) (by omega) (K1.below ((Below.refl _ _).drew) (Nat.le_refl _)) ((sa.below b1 (Nat.le_refl _)).below ((Below.refl _ _).drew) (Nat.le_refl _)) (fun _ j hj => hvF (by omega) j (oa ▸ hj)) ((ht.below b1 ht.1).below ((Below.refl _ _).drew) (by have := ht.1; omega)) hF0 (by omega) ⟨hc.1, by omega⟩
  have HFW : Hid _ := hFw
  have HLT : Hid _ := hlt
  have HEN : Hid _ := EN
  have HEC : Hid _ := EC
  have HLN : Hid ((rootN N TL).length + 1 ≤ N.length + TL.length ∧ (rootN (rootN N TL) DL).length + 1 ≤ (rootN N TL).length + DL.length) := (show (rootN N TL).length + 1 ≤ N.length + TL.length ∧ (rootN (rootN N TL) DL).length + 1 ≤ (rootN N TL).length + DL.length from ⟨lN1, lN2⟩)
  clear lN1 lN2 EN EC
  unfold sumV at XA ⊢
  have HES : Hid _ := ES
  have hsl : ∃ a cap, v = .slice a L.length cap := by
    obtain ⟨_, a, cap, e, _⟩ := h; exact ⟨a, cap, e⟩
  obtain ⟨va, vc, rfl⟩ := hsl
  have q0 : (2 : Int) ≤ (L.length : Int) := by omega
  have q1 : (L.length : Int) ≤ 1001 := by omega
  have n0 : ¬ (L.length : Int) = 0 := by omega
  have n1 : ¬ (L.length : Int) = 1 := by omega
  have hI : halfI (L.length : Int) = (halfN L.length : Int) := by unfold halfI; rw [Int.toNat_natCast]
  rw [hI] at X1
  have hh2 := hh.2.2
  clear hI ES hTL hDL hh hsm
  go_enter Tryd.func40, Tryd.ntmps40
  go_upto_region 1 with fail
  rw [← hw1]
  have S1 : Hid _ := s1
  have R1 : Hid _ := r1
  have B1 : Hid _ := b1
  have SB : Hid _ := sb
  have HT : Hid _ := ht
  have HVL : Hid _ := hvl
  have HOB : Hid _ := ob
  clear hw1 hz32 s1 r1 b1 sa sb h ht hvl oa ob
  go_wp2_with fail
  refine X1.mono ?_
  rintro e w' ⟨rfl, hw⟩
  obtain rfl := hw.symm
  clear X1 hw
  go_upto_region 7 with fail
  refine wp_region_noPanic ?_
  refine wp_region_held_drew (S := fun w' => True) (by kernel_rfl) trivial (fun hHeld => ?_)
  refine take_op (i := 0) (v := ?va0) rfl (by kernel_rfl) (by kernel_rfl) (by kernel_rfl) (fun _ _ _ h => h) rfl hHeld ?ya0 ?ra0
  case ya0 => (intro wz hz; go_simp; first | done | with_reducible rfl)
  try simp only [Act.put, List.setIfInBounds_toArray, List.set_cons_zero, List.set_cons_succ]
  refine take_op (i := 1) (v := ?va1) rfl (by kernel_rfl) (by kernel_rfl) (by kernel_rfl) (fun _ _ _ h => h) rfl hHeld ?ya1 ?ra1
  case ya1 => (intro wz hz; go_simp; first | done | with_reducible rfl)
  try simp only [Act.put, List.setIfInBounds_toArray, List.set_cons_zero, List.set_cons_succ]
  refine take_op (i := 2) (v := ?va2) rfl (by kernel_rfl) (by kernel_rfl) (by kernel_rfl) (fun _ _ _ h => h) rfl hHeld ?ya2 ?ra2
  case ya2 => (intro wz hz; go_simp; first | done | with_reducible rfl)
  try simp only [Act.put, List.setIfInBounds_toArray, List.set_cons_zero, List.set_cons_succ]
  refine take_op (i := 3) (v := ?va3) rfl (by kernel_rfl) (by kernel_rfl) (by kernel_rfl) (fun _ _ _ h => h) rfl hHeld ?ya3 ?ra3
  case ya3 => (intro wz hz; go_simp; first | done | with_reducible rfl)
  try simp only [Act.put, List.setIfInBounds_toArray, List.set_cons_zero, List.set_cons_succ]
  refine take_op (i := 4) (v := ?va4) rfl (by kernel_rfl) (by kernel_rfl) (by kernel_rfl) (fun _ _ _ h => h) rfl hHeld ?ya4 ?ra4
  case ya4 => (intro wz hz; have hcz := ra wz; go_simp; first | done | with_reducible rfl)
  try simp only [Act.put, List.setIfInBounds_toArray, List.set_cons_zero, List.set_cons_succ]
  refine take_op (i := 6) (v := ?va6) rfl (by kernel_rfl) (by kernel_rfl) (by kernel_rfl) (fun _ _ _ h => h) rfl hHeld ?ya6 ?ra6
  case ya6 => (intro wz hz; go_simp; first | done | with_reducible rfl)
  try simp only [Act.put, List.setIfInBounds_toArray, List.set_cons_zero, List.set_cons_succ]
  refine take_op (i := 7) (v := ?va7) rfl (by kernel_rfl) (by kernel_rfl) (by kernel_rfl) (fun _ _ _ h => h) rfl hHeld ?ya7 ?ra7
  case ya7 => (intro wz hz; go_simp; first | done | with_reducible rfl)
  try simp only [Act.put, List.setIfInBounds_toArray, List.set_cons_zero, List.set_cons_succ]
  refine take_op (i := 8) (v := ?va8) rfl (by kernel_rfl) (by kernel_rfl) (by kernel_rfl) (fun _ _ _ h => h) rfl hHeld ?ya8 ?ra8
  case ya8 => (intro wz hz; go_simp; first | done | with_reducible rfl)
  try simp only [Act.put, List.setIfInBounds_toArray, List.set_cons_zero, List.set_cons_succ]
  refine take_op (i := 9) (v := ?va9) rfl (by kernel_rfl) (by kernel_rfl) (by kernel_rfl) (fun _ _ _ h => h) rfl hHeld ?ya9 ?ra9
  case ya9 => (intro wz hz; have hcz := rb wz; go_simp; first | done | with_reducible rfl)
  try simp only [Act.put, List.setIfInBounds_toArray, List.set_cons_zero, List.set_cons_succ]
  refine take_one (i := 5) rfl (by kernel_rfl) rfl (fun K hK => ?_)
  go_simp
  refine Calls.mono XA ?_
  rintro e w5 ⟨rfl, k5, f5⟩
  clear XA
  have s1 := S1.out
  have s5 : w1.heap.size ≤ w5.heap.size := f5.size
  have f5' : Fr F w1 w5 := ((Fr.refl F w1).drew).trans f5 (fun _ _ h => h)
  have hvF' : ∀ j, (Value.slice va L.length vc).ownBlock = some j → ¬ F j := hvF (by omega)
  have sb5 : sumsAt w5 _ DL := sumsAt.far SB.out (fun _ j hj hl => (f5'.block j (by omega) (hvF' j (HOB.out ▸ hj))).trans (B1.out.block j hl)) (by omega)
  have t5 : tabIs w5 := tabIs.far HT.out ((f5'.block 1 (by have := HT.out.1; omega) hF0).trans (B1.out.block 1 HT.out.1)) (by omega)
  have r5 : w5.rowIs w.heap.size 32 32 (fun _ => .int .u8 0) := World.rowIs.of_block R1.out (f5'.block _ (by omega) HFW.out)
  have XB := ih (Gr F w1.drew w5) k (rootN N TL) (c + callsR TL.length) DL _ w5 (by omega) (by omega) k5 sb5 (fun _ j hj hg => by
    rcases hg with hg | hg
    · exact hvF' j (HOB.out ▸ hj) hg
    · have h1 : w1.heap.size ≤ j := hg.1
      have := HVL.out j (HOB.out ▸ hj); omega) t5 (fun hg => by
    rcases hg with hg | hg
    · exact hF0 hg
    · have h1 : w1.heap.size ≤ 1 := hg.1
      have h9 := HT.out.1
      omega) (by have := HLN.out.1; omega) ⟨by omega, by omega⟩
  unfold sumV at XB
  refine hK.out _ _ trivial (fun hHeld => ?_)
  clear hK K
  try simp only [Act.put, List.setIfInBounds_toArray, List.set_cons_zero, List.set_cons_succ]
  refine take_one (i := 10) rfl (by kernel_rfl) rfl (fun K hK => ?_)
  go_simp
  refine Calls.mono XB ?_
  rintro e w10 ⟨rfl, k10, f10⟩
  clear XB
  have s10 := f10.size
  have hnw : ¬ Gr F w1.drew w5 w.heap.size := fun hg => by
    rcases hg with hg | hg
    · exact HFW.out hg
    · have h1 : w1.heap.size ≤ w.heap.size := hg.1
      omega
  have n010 : ¬ Gr (Gr F w1.drew w5) w5 w10 1 := fun hg => by
    rcases hg with (hg | hg) | hg
    · exact hF0 hg
    · have h1 : w1.heap.size ≤ 1 := hg.1
      have h9 := HT.out.1
      omega
    · have := hg.1; have := HT.out.1; omega
  have t10 : tabIs w10 := tabIs.far t5 (f10.block 1 t5.1 (fun hg => n010 (Or.inl hg))) s10
  have r10 : w10.rowIs w.heap.size 32 32 (fun _ => .int .u8 0) := World.rowIs.of_block r5 (f10.block _ (by omega) hnw)
  have f10' : Fr F w1 w10 := f5'.trans f10 (fun j hj hg => by
    rcases hg with hg | hg
    · exact hg
    · have h1 : w1.heap.size ≤ j := hg.1
      omega)
  refine hK.out _ _ trivial (fun hHeld => ?_)
  clear hK K
  try simp only [Act.put, List.setIfInBounds_toArray, List.set_cons_zero, List.set_cons_succ]
  refine take_one (i := 11) rfl (by kernel_rfl) rfl (fun K hK => ?_)
  refine wp_of_run (exec_bslice2' 39 2 0 1 (.tmp 25) (.tmp 30) _ _ rfl rfl rfl (build_two (arrV (rootS TL)) (arrV (rootS DL)) w10)) ?_
  refine hK.out _ _ trivial (fun hHeld => ?_)
  clear hK K
  try simp only [Act.put, List.setIfInBounds_toArray, List.set_cons_zero, List.set_cons_succ]
  have b11 : Below w10.heap.size w10 (w10.alloc (.cells (rowV 64 (fun j => if j < 32 then arrV (rootS TL) j else arrV (rootS DL) (j - 32))) 32)) := (Below.refl _ _).alloc (Nat.le_refl _) _
  have XC := node_book (Gr (Gr F w1.drew w5) w5 w10) k (rootN (rootN N TL) DL) (c + callsR TL.length + callsR DL.length) [rootS TL, rootS DL] _ _ (k10.below b11 (Nat.le_refl _)) (two_sums w10 _ _ hsT hsD) (by simp) (t10.below b11 t10.1) n010 (by have := HLN.out; omega) ⟨by omega, by omega⟩
  unfold sumV at XC
  refine take_one (i := 12) rfl (by kernel_rfl) rfl (fun K hK => ?_)
  go_simp
  refine Calls.mono XC ?_
  rintro e w12 ⟨rfl, k12, f12⟩
  clear XC
  have s11 := b11.size
  have s12 := f12.size
  have r12 : w12.rowIs w.heap.size 32 32 (fun _ => .int .u8 0) := World.rowIs.of_block r10 ((f12.block _ (by omega) (fun hg => by
    rcases hg with hg | hg
    · exact hnw hg
    · have := hg.1; omega)).trans (b11.block _ (by omega)))
  have f12' : Fr F w1 w12 := (f10'.trans (Fr.of_below F b11) (fun _ _ h => h)).trans f12 (fun j hj hg => by
    rcases hg with (hg | hg) | hg
    · exact hg
    · have h1 : w1.heap.size ≤ j := hg.1
      omega
    · have := hg.1; omega)
  rw [← HES.out] at k12 ⊢
  refine hK.out _ _ trivial (fun hHeld => ?_)
  clear hK K
  try simp only [Act.put, List.setIfInBounds_toArray, List.set_cons_zero, List.set_cons_succ]
  refine take_one (i := 13) rfl (by kernel_rfl) rfl (fun K hK => ?_)
  have hst := stow32T_run w12 w.heap.size (rootS L) r12
  have h9 := stow32T_row w12 w.heap.size (rootS L) r12
  have r9 := h9.1
  have hz9 := h9.2.1
  have hb9 := h9.2.2
  clear h9
  unfold Oper.wp execOp
  simp only [Instr.storeAt, Instr.sureAddr, Sem.run_bind, Sem.run_pure, Result.andThen_ok]
  simp [Act.eval, hst, Oper.upon]
  clear hst
  generalize w12.setCells w.heap.size 0 (rowV 32 (arrV (rootS L))).toList = w9 at r9 hz9 hb9 ⊢
  refine hK.out _ _ trivial (fun hHeld => ?_)
  clear hK K hHeld
  try simp only [Act.put, List.setIfInBounds_toArray, List.set_cons_zero, List.set_cons_succ]
  refine wpAnyH_done (by kernel_rfl) ?_ _
  refine NoPanic.normal ?_
  have RES : Hid (bookAt w9 (Gr F w w9) k (rootN N L) (c + callsR L.length) ∧ Fr F w w9) := (show bookAt w9 (Gr F w w9) k (rootN N L) (c + callsR L.length) ∧ Fr F w w9 from by
    constructor
    · rw [HEN.out, HEC.out, ← HES.out, show c + (callsR TL.length + callsR DL.length + 1) = c + callsR TL.length + callsR DL.length + 1 by omega]
      refine (bookAt.far k12 (fun j hj hl => hb9.block j hl (fun e => ?_)) (by omega)).grow (fun j hj => ?_) (fun j hj => ?_)
      · subst e
        rcases hj with hj | hj
        · rcases hj with hj | hj
          · exact hnw hj
          · have := hj.1; omega
        · have := hj.1; omega
      · rcases hj with ((hj | hj) | hj) | hj
        · exact Or.inl hj
        · have h1 : w1.heap.size ≤ j := hj.1
          exact Or.inr ⟨by omega, by have := hj.2; omega⟩
        · exact Or.inr ⟨by have := hj.1; omega, by have := hj.2; omega⟩
        · exact Or.inr ⟨by have := hj.1; omega, by have := hj.2; omega⟩
      · rcases hj with hj | hj
        · have := HLT.out j hj; omega
        · exact hj.2
    · exact ((Fr.of_below F B1.out).trans f12' (fun _ _ h => h)).trans (G := fun j => j = w.heap.size) ⟨hb9.os, hb9.tape, hb9.output, by omega, fun j hj hne => hb9.block j hj hne⟩ (fun j hj e => by omega))
  clear k12 f12 f12' f10 f10' f5 f5' k10 k5 hb9 r12 r10 r5 t5 t10 b11
  go_wp2
  exact bodyPost_ret (results_cell_seg rfl _ _ w.heap.size 32 32 (arrV (rootS L)) _ rfl Tryd.underlying32 rfl hi32' r9) rfl ⟨rfl, RES.out.1, RES.out.2⟩
end Go.Proofs.YtgchnobifidjcaaDoor

/- tree.Root: of two leaves and more. -/
namespace Go.Proofs.YtgchnobifidjcaaDoor
set_option linter.unusedSimpArgs false
set_option linter.unusedVariables false
open Go.RowKit Go.Deep

set_option maxHeartbeats 4000000 in
set_option maxRecDepth 100000 in
theorem root_nil : ∀ (n : Nat) (L : List (List Int)) (v : Value) (w : World), L.length ≤ n → n ≤ 1000 → sumsAt w v L → tabIs w →
    Calls Tryd.prog 40 #[.pointer none, v] w fun e w' => e = .returned (sumV (rootS L)) ∧ Below w.heap.size w w' := by
  intro n
  induction n with
  | zero =>
    intro L v w hn h1000 h ht
    exact root_nil_small L v w (by omega) h ht
  | succ n ih =>
  intro L v w hn h1000 h ht
  by_cases hsm : L.length ≤ 1
  · exact root_nil_small L v w hsm h ht
  have h2 : 2 ≤ L.length := by omega
  have hh := half_take h2
  have hz32 := zero_s32
  obtain ⟨w1, hw1⟩ : ∃ w1, w1 = w.alloc (.cells (rowV 32 (fun _ => .int .u8 0)) 32) := ⟨_, rfl⟩
  have r1 : w1.rowIs w.heap.size 32 32 (fun _ => .int .u8 0) := by rw [hw1]; exact rowIs_box w _ _ _
  have b1 : Below w.heap.size w w1 := by rw [hw1]; exact (Below.refl _ _).alloc (Nat.le_refl _) _
  have s1 : w1.heap.size = w.heap.size + 1 := by rw [hw1]; simp
  have X1 := half_any (L.length : Int) (by omega) (by omega) w1
  obtain ⟨ua, ra, sa, oa, xa, ya, rfl⟩ := h.to' (halfN L.length) (by omega)
  obtain ⟨ub, rb, sb, ob, xb, yb, rfl⟩ := h.from' (halfN L.length) (by omega)
  have hvl : ∀ j, v.ownBlock = some j → j < w.heap.size := by
    obtain ⟨_, a, cap, rfl, _, _, h5⟩ := h
    obtain ⟨g, o, rfl, hg, _⟩ := h5 (by omega)
    intro j hj
    have : g = j := by simpa [Value.ownBlock] using hj
    omega
  obtain ⟨TL, hTL⟩ : ∃ TL, TL = L.take (halfN L.length) := ⟨_, rfl⟩
  obtain ⟨DL, hDL⟩ : ∃ DL, DL = L.drop (halfN L.length) := ⟨_, rfl⟩
  have ES : rootS L = nodeS [rootS TL, rootS DL] := by rw [hTL, hDL]; exact rootS_more h2
  have hsT : isSum (rootS TL) := rootS_sum (by rw [hTL]; exact sa.1)
  have hsD : isSum (rootS DL) := rootS_sum (by rw [hDL]; exact sb.1)
  have lT : TL.length = halfN L.length := by rw [hTL]; exact hh.1
  have lD : DL.length = L.length - halfN L.length := by rw [hDL]; exact hh.2.1
  rw [← hTL] at sa
  rw [← hDL] at sb
  have XA := ih TL _ w1.drew (by omega) (by omega) ((sa.below b1 (Nat.le_refl _)).below ((Below.refl _ _).drew) (Nat.le_refl _)) ((ht.below b1 ht.1).below ((Below.refl _ _).drew) (by have := ht.1; omega))
  unfold sumV at XA ⊢
  have HES : Hid _ := ES
  have hsl : ∃ a cap, v = .slice a L.length cap := by
    obtain ⟨_, a, cap, e, _⟩ := h; exact ⟨a, cap, e⟩
  obtain ⟨va, vc, rfl⟩ := hsl
  have q0 : (2 : Int) ≤ (L.length : Int) := by omega
  have q1 : (L.length : Int) ≤ 1001 := by omega
  have n0 : ¬ (L.length : Int) = 0 := by omega
  have n1 : ¬ (L.length : Int) = 1 := by omega
  have hI : halfI (L.length : Int) = (halfN L.length : Int) := by unfold halfI; rw [Int.toNat_natCast]
  rw [hI] at X1
  have hh2 := hh.2.2
  clear hI ES hTL hDL hh hsm
  go_enter Tryd.func40, Tryd.ntmps40
  go_upto_region 1 with fail
  rw [← hw1]
  have S1 : Hid _ := s1
  have R1 : Hid _ := r1
  have B1 : Hid _ := b1
  have SB : Hid _ := sb
  have HT : Hid _ := ht
  have HVL : Hid _ := hvl
  have HOB : Hid _ := ob
  clear hw1 hz32 s1 r1 b1 sa sb h ht hvl oa ob
  go_wp2_with fail
  refine X1.mono ?_
  rintro e w' ⟨rfl, hw⟩
  obtain rfl := hw.symm
  clear X1 hw
  go_upto_region 7 with fail
  refine wp_region_noPanic ?_
  refine wp_region_held_drew (S := fun w' => True) (by kernel_rfl) trivial (fun hHeld => ?_)
  refine take_op (i := 0) (v := ?va0) rfl (by kernel_rfl) (by kernel_rfl) (by kernel_rfl) (fun _ _ _ h => h) rfl hHeld ?ya0 ?ra0
  case ya0 => (intro wz hz; go_simp; first | done | with_reducible rfl)
  try simp only [Act.put, List.setIfInBounds_toArray, List.set_cons_zero, List.set_cons_succ]
  refine take_op (i := 1) (v := ?va1) rfl (by kernel_rfl) (by kernel_rfl) (by kernel_rfl) (fun _ _ _ h => h) rfl hHeld ?ya1 ?ra1
  case ya1 => (intro wz hz; go_simp; first | done | with_reducible rfl)
  try simp only [Act.put, List.setIfInBounds_toArray, List.set_cons_zero, List.set_cons_succ]
  refine take_op (i := 2) (v := ?va2) rfl (by kernel_rfl) (by kernel_rfl) (by kernel_rfl) (fun _ _ _ h => h) rfl hHeld ?ya2 ?ra2
  case ya2 => (intro wz hz; go_simp; first | done | with_reducible rfl)
  try simp only [Act.put, List.setIfInBounds_toArray, List.set_cons_zero, List.set_cons_succ]
  refine take_op (i := 3) (v := ?va3) rfl (by kernel_rfl) (by kernel_rfl) (by kernel_rfl) (fun _ _ _ h => h) rfl hHeld ?ya3 ?ra3
  case ya3 => (intro wz hz; go_simp; first | done | with_reducible rfl)
  try simp only [Act.put, List.setIfInBounds_toArray, List.set_cons_zero, List.set_cons_succ]
  refine take_op (i := 4) (v := ?va4) rfl (by kernel_rfl) (by kernel_rfl) (by kernel_rfl) (fun _ _ _ h => h) rfl hHeld ?ya4 ?ra4
  case ya4 => (intro wz hz; have hcz := ra wz; go_simp; first | done | with_reducible rfl)
  try simp only [Act.put, List.setIfInBounds_toArray, List.set_cons_zero, List.set_cons_succ]
  refine take_op (i := 6) (v := ?va6) rfl (by kernel_rfl) (by kernel_rfl) (by kernel_rfl) (fun _ _ _ h => h) rfl hHeld ?ya6 ?ra6
  case ya6 => (intro wz hz; go_simp; first | done | with_reducible rfl)
  try simp only [Act.put, List.setIfInBounds_toArray, List.set_cons_zero, List.set_cons_succ]
  refine take_op (i := 7) (v := ?va7) rfl (by kernel_rfl) (by kernel_rfl) (by kernel_rfl) (fun _ _ _ h => h) rfl hHeld ?ya7 ?ra7
  case ya7 => (intro wz hz; go_simp; first | done | with_reducible rfl)
  try simp only [Act.put, List.setIfInBounds_toArray, List.set_cons_zero, List.set_cons_succ]
  refine take_op (i := 8) (v := ?va8) rfl (by kernel_rfl) (by kernel_rfl) (by kernel_rfl) (fun _ _ _ h => h) rfl hHeld ?ya8 ?ra8
  case ya8 => (intro wz hz; go_simp; first | done | with_reducible rfl)
  try simp only [Act.put, List.setIfInBounds_toArray, List.set_cons_zero, List.set_cons_succ]
  refine take_op (i := 9) (v := ?va9) rfl (by kernel_rfl) (by kernel_rfl) (by kernel_rfl) (fun _ _ _ h => h) rfl hHeld ?ya9 ?ra9
  case ya9 => (intro wz hz; have hcz := rb wz; go_simp; first | done | with_reducible rfl)
  try simp only [Act.put, List.setIfInBounds_toArray, List.set_cons_zero, List.set_cons_succ]
  refine take_one (i := 5) rfl (by kernel_rfl) rfl (fun K hK => ?_)
  go_simp
  refine Calls.mono XA ?_
  rintro e w5 ⟨rfl, b5⟩
  clear XA
  have s1 := S1.out
  have b5' : Below w1.heap.size w1 w5 := ((Below.refl w1.heap.size w1).drew).trans b5
  have b5w : Below w.heap.size w w5 := B1.out.trans (b5'.mono (by omega))
  have s5 := b5'.size
  have XB := ih DL _ w5 (by omega) (by omega) (sumsAt.below SB.out b5w (Nat.le_refl _)) (tabIs.below HT.out b5w HT.out.1)
  unfold sumV at XB
  refine hK.out _ _ trivial (fun hHeld => ?_)
  clear hK K
  try simp only [Act.put, List.setIfInBounds_toArray, List.set_cons_zero, List.set_cons_succ]
  refine take_one (i := 10) rfl (by kernel_rfl) rfl (fun K hK => ?_)
  go_simp
  refine Calls.mono XB ?_
  rintro e w10 ⟨rfl, b10⟩
  clear XB
  have b10w : Below w.heap.size w w10 := b5w.trans (b10.mono (by omega))
  have s10 := b10.size
  have r10 : w10.rowIs w.heap.size 32 32 (fun _ => .int .u8 0) := b10.row (b5'.row R1.out (by omega)) (by omega)
  refine hK.out _ _ trivial (fun hHeld => ?_)
  clear hK K
  try simp only [Act.put, List.setIfInBounds_toArray, List.set_cons_zero, List.set_cons_succ]
  refine take_one (i := 11) rfl (by kernel_rfl) rfl (fun K hK => ?_)
  refine wp_of_run (exec_bslice2' 39 2 0 1 (.tmp 25) (.tmp 30) _ _ rfl rfl rfl (build_two (arrV (rootS TL)) (arrV (rootS DL)) w10)) ?_
  refine hK.out _ _ trivial (fun hHeld => ?_)
  clear hK K
  try simp only [Act.put, List.setIfInBounds_toArray, List.set_cons_zero, List.set_cons_succ]
  have b11 : Below w10.heap.size w10 (w10.alloc (.cells (rowV 64 (fun j => if j < 32 then arrV (rootS TL) j else arrV (rootS DL) (j - 32))) 32)) := (Below.refl _ _).alloc (Nat.le_refl _) _
  have XC := node_nil [rootS TL, rootS DL] _ _ (two_sums w10 _ _ hsT hsD) (by simp) ((tabIs.below HT.out b10w HT.out.1).below b11 (by have := HT.out.1; have := b10w.size; omega))
  unfold sumV at XC
  refine take_one (i := 12) rfl (by kernel_rfl) rfl (fun K hK => ?_)
  go_simp
  refine Calls.mono XC ?_
  rintro e w12 ⟨rfl, b12⟩
  clear XC
  have s11 := b11.size
  have s12 := b12.size
  have b12w : Below w.heap.size w w12 := (b10w.trans (b11.mono (by omega))).trans (b12.mono (by omega))
  have r12 : w12.rowIs w.heap.size 32 32 (fun _ => .int .u8 0) := b12.row (b11.row r10 (by omega)) (by omega)
  rw [← HES.out]
  refine hK.out _ _ trivial (fun hHeld => ?_)
  clear hK K
  try simp only [Act.put, List.setIfInBounds_toArray, List.set_cons_zero, List.set_cons_succ]
  refine take_one (i := 13) rfl (by kernel_rfl) rfl (fun K hK => ?_)
  have hst := stow32T_run w12 w.heap.size (rootS L) r12
  have h9 := stow32T_row w12 w.heap.size (rootS L) r12
  have r9 := h9.1
  have hz9 := h9.2.1
  have hb9 := h9.2.2
  clear h9
  unfold Oper.wp execOp
  simp only [Instr.storeAt, Instr.sureAddr, Sem.run_bind, Sem.run_pure, Result.andThen_ok]
  simp [Act.eval, hst, Oper.upon]
  clear hst
  generalize w12.setCells w.heap.size 0 (rowV 32 (arrV (rootS L))).toList = w9 at r9 hz9 hb9 ⊢
  refine hK.out _ _ trivial (fun hHeld => ?_)
  clear hK K hHeld
  try simp only [Act.put, List.setIfInBounds_toArray, List.set_cons_zero, List.set_cons_succ]
  refine wpAnyH_done (by kernel_rfl) ?_ _
  refine NoPanic.normal ?_
  have RES : Hid (Below w.heap.size w w9) := (show Below w.heap.size w w9 from b12w.trans (hb9.below' (Nat.le_refl _) b12w.size))
  clear b12w b12 b11 b10 b10w b5 b5w b5' hb9 r12 r10
  go_wp2
  exact bodyPost_ret (results_cell_seg rfl _ _ w.heap.size 32 32 (arrV (rootS L)) _ rfl Tryd.underlying32 rfl hi32' r9) rfl ⟨rfl, RES.out⟩
end Go.Proofs.YtgchnobifidjcaaDoor

/- Clash. -/
namespace Go.Proofs.YtgchnobifidjcaaDoor
set_option linter.unusedSimpArgs false
set_option linter.unusedVariables false
open Go.RowKit Go.Deep

/-- which notes clash: behind those of A. -/
def clashGo (A : List Nt) : List Nt → Option (ByteArray × ByteArray)
  | [] => none
  | x :: r => if (firstAt A x.1).isSome = true ∧ foundN A x.1 ≠ x then some ((foundN A x.1).2, x.2) else clashGo (addN A x) r
/-- the notes of the books from place i on. -/
def joinF (ns : Nat → List Nt) (i : Nat) : Nat → List Nt
  | 0 => []
  | k + 1 => ns i ++ joinF ns (i + 1) k
theorem joinF_step (ns : Nat → List Nt) (n i : Nat) (h : i < n) : joinF ns i (n - i) = ns i ++ joinF ns (i + 1) (n - (i + 1)) := by
  rw [show n - i = (n - (i + 1)) + 1 by omega]; rfl
/-- v is a slice of books, nil ones among them. -/
def isBooks (w : World) (v : Value) (n : Nat) (ns : Nat → List Nt) : Prop :=
  (v = .slice none 0 0 ∧ n = 0) ∨ ∃ (qb qo cap : Nat) (pv : Nat → Value), v = .slice (some ⟨qb, qo, none⟩) n cap ∧ qb < w.heap.size ∧ n ≤ maxLen ∧ ∀ i, i < n → w.cell? ⟨qb, qo + i, none⟩ = some (pv i) ∧
    ((pv i = .pointer none ∧ ns i = []) ∨ ∃ (k : Nat) (F : Nat → Prop) (c : Int), pv i = .pointer (some ⟨k, 0, none⟩) ∧ bookAt w F k (ns i) c)
theorem isBooks.open {w : World} {v : Value} {n : Nat} {ns : Nat → List Nt} (h : isBooks w v n ns) :
    ∃ a cap, v = .slice a n cap ∧ n ≤ maxLen ∧ ∀ i, i < n → ∃ qb qo pv, a = some ⟨qb, qo, none⟩ ∧ qb < w.heap.size ∧ w.cell? ⟨qb, qo + i, none⟩ = some pv ∧
    ((pv = .pointer none ∧ ns i = []) ∨ ∃ (k : Nat) (F : Nat → Prop) (c : Int), pv = .pointer (some ⟨k, 0, none⟩) ∧ bookAt w F k (ns i) c) := by
  rcases h with ⟨rfl, rfl⟩ | ⟨qb, qo, cap, pv, rfl, h2, h3, h4⟩
  · exact ⟨_, _, rfl, Nat.zero_le _, fun k hk => by omega⟩
  · exact ⟨_, _, rfl, h3, fun k hk => ⟨qb, qo, pv k, rfl, h2, (h4 k hk).1, (h4 k hk).2⟩⟩
theorem run_neq_notes (w : World) {x y : Nt} (hx : isSum x.1) (hy : isSum y.1) : (binOp .neq 107 (.agg (rowV 33 (noteV x))) (.agg (rowV 33 (noteV y)))).run Tryd.prog w = .ok (.bool (!decide (x = y))) w := by
  have h := run_eq_notes w hx hy
  unfold noteA at h
  have hb : binOp .neq 107 (.agg (rowV 33 (noteV x))) (.agg (rowV 33 (noteV y))) = (do let b ← Op.equalIn 10000 107 (.agg (rowV 33 (noteV x))) (.agg (rowV 33 (noteV y))); pure (.bool (!b))) := rfl
  rw [hb, Sem.run_bind, h]
  rfl
/-- what Clash answers. -/
def clashAnsS (w' : World) (B : Nat) (va vb : Value) (fb : Bool) (r : Option (ByteArray × ByteArray)) : Prop := match r with
  | none => va = .slice none 0 0 ∧ vb = .slice none 0 0 ∧ fb = false
  | some (s, t) => softB w' va (sBytes s) ∧ softB w' vb (sBytes t) ∧ (∀ j, va.ownBlock = some j → B ≤ j) ∧ (∀ j, vb.ownBlock = some j → B ≤ j) ∧ fb = true
def clashAns (w' : World) (B : Nat) (va vb : Value) (fb : Bool) (r : Option (ByteArray × ByteArray)) : Prop := match r with
  | none => va = .slice none 0 0 ∧ vb = .slice none 0 0 ∧ fb = false
  | some (s, t) => isBytes w' va (sBytes s) ∧ isBytes w' vb (sBytes t) ∧ (∀ j, va.ownBlock = some j → B ≤ j) ∧ (∀ j, vb.ownBlock = some j → B ≤ j) ∧ fb = true
theorem addN_mem {N : List Nt} {x y : Nt} (h : y ∈ addN N x) : y ∈ N ∨ y = x := by
  by_cases e : x ∈ N
  · rw [addN_in e] at h; exact Or.inl h
  · rw [addN_out e] at h; simpa using h
theorem foundN_mem {N : List Nt} {q : List Int} {i : Nat} (h : firstAt N q = some i) : foundN N q ∈ N := by
  have := firstAt_lt h
  unfold foundN
  rw [h]
  simp only
  rw [List.getD_eq_getElem?_getD, List.getElem?_eq_getElem this]; exact List.getElem_mem _
theorem exec_convert {P : Program} {o : Oper} {ev : Operand → Value} {w w' : World} {v r : Value} (s t : TypeId) (x : Operand) (ho : o.op = .convert s t x) (hx : ev x = v) (hr : (convert s t v).run P w = .ok r w') : (execOp ev o).run P w = .ok (.value r) w' := by
  unfold execOp
  simp only [ho, hx, Sem.run_bind, hr, Result.andThen_ok, Sem.run_pure]
/-- the notes ahead. -/
def aheadAt (w wr : World) (L : List Nt) (A R : List Nt) : Prop :=
  notesAt wr (fun j => w.heap.size ≤ j ∧ j < wr.heap.size) w.heap.size A 0 ∧ Below w.heap.size w wr ∧ clashGo [] L = clashGo A R ∧ A.length + R.length ≤ L.length ∧ ∀ x ∈ A, x.2.size ≤ 1000000000
theorem isBytes.below' {w w' : World} {v : Value} {l : List Int} (h : isBytes w v l) (hb : Below w.heap.size w w') : isBytes w' v l := h.below hb (Nat.le_refl _)

set_option maxHeartbeats 8000000 in
set_option maxRecDepth 100000 in
theorem clash_soft (n : Nat) (v : Value) (ns : Nat → List Nt) (w : World) (h : isBooks w v n ns) (hN : (joinF ns 0 n).length < 1000000) (hts : ∀ i, i < n → ∀ x ∈ ns i, x.2.size ≤ 1000000000) :
    Calls Tryd.prog 32 #[v] w fun e w' => ∃ va vb fb, e = .returned (.tuple #[va, vb, .bool fb]) ∧ clashAnsS w' w.heap.size va vb fb (clashGo [] (joinF ns 0 n)) ∧ Below w.heap.size w w' := by
  obtain ⟨a, cap, rfl, hm, hcell⟩ := h.open
  unfold maxLen at hm
  have q0 : (n : Int) ≤ 9223372036854775807 := by omega
  obtain ⟨L, hL⟩ : ∃ L, L = joinF ns 0 n := ⟨_, rfl⟩
  rw [← hL] at hN ⊢
  have hz := zero_note
  have A0 : Hid (aheadAt w (w.alloc (.cells #[.slice none 0 0, .map none, .int .i64 0] 105)) L [] (joinF ns 0 (n - 0))) := (show aheadAt w (w.alloc (.cells #[.slice none 0 0, .map none, .int .i64 0] 105)) L [] (joinF ns 0 (n - 0)) from
    ⟨⟨.slice none 0 0, .map none, rowIs_new w _ _ 3 _ rfl (fun i hi => by
        have : i = 0 ∨ i = 1 ∨ i = 2 := by omega
        rcases this with rfl | rfl | rfl <;> rfl), ⟨Nat.le_refl _, by simp⟩, listAt_nil _ _, Or.inl ⟨rfl, rfl⟩, fun x hx => by simp at hx, fun k hk => hk.2⟩,
      (Below.refl _ _).alloc (Nat.le_refl _) _, by rw [hL]; rfl, by rw [hL]; simp, fun x hx => by simp at hx⟩)
  clear h
  go_enter Tryd.func32, Tryd.ntmps32
  go_wp2
  go_loopw [14] (fun i wr => ∃ (k : Nat) (A : List Nt), k ≤ n ∧ i = .int .i64 k ∧ aheadAt w wr L A (joinF ns k (n - k))) (fun i _ => n - (intOf i).toNat)
  case atStart => exact ⟨0, [], by omega, rfl, A0.out⟩
  case round =>
    obtain ⟨k, A, hk, rfl, hA⟩ := hrel
    clear A0
    have HA : Hid _ := hA
    by_cases hlt : k < n
    · obtain ⟨qb, qo, pv, rfl, hqb, hpv, hcase⟩ := hcell k hlt
      have p0 : (0 : Int) ≤ (k : Int) := by omega
      have p1 : (k : Int) < (n : Int) := by omega
      have hc0 : wr.cell? ⟨qb, qo + k, none⟩ = some pv := (hA.2.1.cell (p := ⟨qb, qo + k, none⟩) hqb).trans hpv
      have hj := joinF_step ns n k hlt
      have HJ : Hid _ := hj
      clear hA hj
      rcases hcase with ⟨rfl, hn0⟩ | ⟨kb, F, c, rfl, hbk⟩
      · go_wp2_with fail
        refine (empty_none wr).mono ?_
        rintro e w' ⟨rfl, hw⟩
        obtain rfl := hw.symm
        clear hw
        have hj2 := HJ.out
        rw [hn0, List.nil_append] at hj2
        have HA2 : Hid (aheadAt w wr L A (joinF ns (k + 1) (n - (k + 1)))) := (show aheadAt w wr L A (joinF ns (k + 1) (n - (k + 1))) from by
          rw [← hj2]; exact HA.out)
        clear hj2
        go_wp2
        go_light
        exact ⟨⟨k + 1, A, by omega, by go_num, HA2.out⟩, by simp [intOf]; omega⟩
      · have hbk' := hbk.below HA.out.2.1 (Nat.le_refl _)
        have hsum : ∀ x ∈ ns k, isSum x.1 := by
          obtain ⟨_, _, _, _, ⟨_, h, _⟩ | ⟨_, _, _, _, _, _, _, _, _, h, _⟩⟩ := hbk
          · rw [h]; intro x hx; simp at hx
          · exact h
        obtain ⟨hFk, hltF, pv, hpvk, hcase⟩ := hbk'
        have hkb := hltF kb hFk
        rcases hcase with ⟨rfl, hn0, _⟩ | ⟨nb, rfl, hnk, hnn⟩
        · go_wp2_with fail
          refine (empty_zero kb wr hpvk).mono ?_
          rintro e w' ⟨rfl, hw⟩
          obtain rfl := hw.symm
          clear hw
          have hj2 := HJ.out
          rw [hn0, List.nil_append] at hj2
          have HA2 : Hid (aheadAt w wr L A (joinF ns (k + 1) (n - (k + 1)))) := (show aheadAt w wr L A (joinF ns (k + 1) (n - (k + 1))) from by
            rw [← hj2]; exact HA.out)
          clear hj2
          go_wp2
          go_light
          exact ⟨⟨k + 1, A, by omega, by go_num, HA2.out⟩, by simp [intOf]; omega⟩
        · obtain ⟨lv, mv, h1, h2, h3, h4, h5, h6⟩ := hnn
          have hnbw := h6 nb h2
          obtain ⟨la, lc, rfl, hlc, hlm, hcl⟩ := h3.shape
          have c0 : wr.cell? ⟨kb, 0, none⟩ = some (.pointer (some ⟨nb, 0, none⟩)) := hpvk.cell (i := 0) (by omega)
          have c1 : wr.cell? ⟨nb, 0, none⟩ = some (.slice la (ns k).length lc) := h1.cell (i := 0) (by omega)
          -- the list's cells are old
          have hold : ∀ g, g < wr.heap.size → F g → g < w.heap.size := fun g _ hg => by
            obtain ⟨_, h, _⟩ := hbk
            exact h g hg
          have hcl' : ∀ i x, (ns k)[i]? = some x → ∃ g, la = some ⟨g, 0, none⟩ ∧ g < w.heap.size ∧ ∀ j, j < 33 → w.cell? ⟨g, i * 33 + j, none⟩ = some (noteV x j) := fun i x hx => by
            obtain ⟨g, a1, a2, a3, a4⟩ := hcl i x hx
            have hg := hold g a3 a2.1
            exact ⟨g, a1, hg, fun j hj => by rw [← HA.out.2.1.cell (p := ⟨g, i * 33 + j, none⟩) hg]; exact a4 j hj⟩
          have qn : ((ns k).length : Int) ≤ 9223372036854775807 := by unfold maxLen at hlm; omega
          have HC : Hid _ := hcl'
          have HA2 : Hid (aheadAt w wr L A ((ns k).drop 0 ++ joinF ns (k + 1) (n - (k + 1)))) := (show aheadAt w wr L A ((ns k).drop 0 ++ joinF ns (k + 1) (n - (k + 1))) from by
            have hj2 := HJ.out
            rw [List.drop_zero, ← hj2]; exact HA.out)
          clear hcl hcl' h1 h3 h4 hold h5 h6
          go_wp2_with fail
          refine (empty_some kb nb wr hpvk).mono ?_
          rintro e w' ⟨rfl, hw⟩
          obtain rfl := hw.symm
          clear hw
          go_wp2
          clear HA HJ
          go_loopw [28] (fun i wq => ∃ (j : Nat) (B : List Nt), j ≤ (ns k).length ∧ i = .int .i64 j ∧ aheadAt w wq L B ((ns k).drop j ++ joinF ns (k + 1) (n - (k + 1)))) (fun i _ => (ns k).length - (intOf i).toNat)
          case atStart => exact ⟨0, A, by omega, rfl, HA2.out⟩
          case round =>
            obtain ⟨j, B, hj, rfl, hB⟩ := hrel
            clear HA2 c0 c1
            have HB : Hid _ := hB
            by_cases hlt2 : j < (ns k).length
            · obtain ⟨g, rfl, hgw, hcl⟩ := HC.out j _ (List.getElem?_eq_getElem hlt2)
              have p2 : (0 : Int) ≤ (j : Int) := by omega
              have p3 : (j : Int) < ((ns k).length : Int) := by omega
              obtain ⟨X, hX⟩ : ∃ X, X = (ns k)[j] := ⟨_, rfl⟩
              have hXs : isSum X.1 := hsum X (by rw [hX]; exact List.getElem_mem _)
              have hXt : X.2.size ≤ 1000000000 := hts k hlt X (by rw [hX]; exact List.getElem_mem _)
              have hdrop : (ns k).drop j = X :: (ns k).drop (j + 1) := by rw [hX]; exact List.drop_eq_getElem_cons hlt2
              rw [← hX] at hcl
              have HD : Hid _ := hdrop
              clear hX hdrop
              have hwq := hB.2.1
              have hwqs := hwq.size
              have ldc : ∀ i, i < 33 → wr.cell? ⟨g, j * 33 + i, none⟩ = some (noteV X i) := fun i hi => by
                rw [hwq.cell (p := ⟨g, j * 33 + i, none⟩) hgw]; exact hcl i hi
              have ra := rowIs_box wr 107 33 (noteV zeroN)
              clear hcl hB
              go_upto_region 9 with (first | (refine wpList_load_seg rfl 107 (.tmp 30) rfl g (j * 33) 33 (noteV X) rfl _ Tryd.underlying107 rfl note33 ldc ?_) | (refine wpList_store_row rfl 107 (.tmp 9) (.tmp 31) rfl rfl wr.heap.size 0 33 (noteV X) rfl rfl note33 (fun i _ => noteV_one _ i) _ _ _ ra (by omega) ?_; intro w5 r5 hz5 hb5))
              have hs5 : w5.heap.size = wr.heap.size + 1 := by rw [hz5]; simp
              have hb5' : Below wr.heap.size wr w5 := ((Below.refl wr.heap.size wr).alloc (Nat.le_refl _) _).trans ((hb5.mono (by simp)).below (Nat.le_refl _))
              have r5' : w5.rowIs wr.heap.size 107 33 (noteV X) := r5.congr fun i hi => by rw [if_pos (by omega), Nat.sub_zero]
              have ld5 : ∀ i, i < 32 → w5.cell? ⟨wr.heap.size, 0 + i, none⟩ = some (arrV X.1 i) := fun i hi => by
                rw [Nat.zero_add, r5'.cell (show i < 33 by omega), noteV, if_pos hi]
              have N5 : notesAt w5 (fun j => w.heap.size ≤ j ∧ j < wr.heap.size) w.heap.size B 0 := HB.out.1.below hb5' (Nat.le_refl _)
              have FA := find_any _ w.heap.size B 0 X.1 w5 N5 hXs
              obtain ⟨fx, hfx⟩ : ∃ fx, fx = foundN B X.1 := ⟨_, rfl⟩
              have hfs : isSum fx.1 := by rw [hfx]; exact foundN_sum N5.choose_spec.choose_spec.2.2.2.2.1 X.1
              rw [← hfx] at FA
              have HFX : Hid (fx = foundN B X.1) := (show fx = foundN B X.1 from hfx)
              clear hfx
              unfold noteA sumV at FA
              have NB5 : Hid (notesAt w5 (fun j => w.heap.size ≤ j ∧ j < wr.heap.size) w.heap.size B 0) := (show notesAt w5 (fun j => w.heap.size ≤ j ∧ j < wr.heap.size) w.heap.size B 0 from N5)
              have HB5 : Hid _ := hb5'
              have R5 : Hid _ := r5'
              clear r5 hz5 hb5 hb5' ra ldc N5 r5' HC
              go_wp2_with (first | (refine wpList_load_seg rfl 32 (.tmp 33) rfl wr.heap.size 0 32 (arrV X.1) rfl _ Tryd.underlying32 rfl hi32' ld5 ?_))
              refine FA.mono ?_
              rintro e w6 ⟨rfl, hb6⟩
              have hs6 := hb6.size
              clear FA ld5
              have r6 : w6.rowIs wr.heap.size 107 33 (noteV X) := hb6.row R5.out (by omega)
              have N6 := notesAt.below NB5.out hb6 (Nat.le_refl _)
              have hb06 : Below wr.heap.size wr w6 := HB5.out.trans (hb6.mono (by omega))
              have ra6 := rowIs_box w6 107 33 (noteV zeroN)
              have NB6 : Hid (notesAt w6 (fun j => w.heap.size ≤ j ∧ j < wr.heap.size) w.heap.size B 0) := (show notesAt w6 (fun j => w.heap.size ≤ j ∧ j < wr.heap.size) w.heap.size B 0 from N6)
              have HB6 : Hid _ := hb06
              have R6 : Hid _ := r6
              have S6 : Hid (wr.heap.size + 1 ≤ w6.heap.size) := (show wr.heap.size + 1 ≤ w6.heap.size by omega)
              clear hb6 r6 N6 hb06 NB5 HB5 R5 hs5 hs6
              go_upto_region 10 with (first | (refine wpList_store_row rfl 107 (.tmp 10) (.tmp 36) rfl rfl w6.heap.size 0 33 (noteV fx) rfl rfl note33 (fun i _ => noteV_one _ i) _ _ _ ra6 (by omega) ?_; intro w7 r7 hz7 hb7))
              have s6 := S6.out
              have hs7 : w7.heap.size = w6.heap.size + 1 := by rw [hz7]; simp
              have hb67 : Below w6.heap.size w6 w7 := ((Below.refl w6.heap.size w6).alloc (Nat.le_refl _) _).trans ((hb7.mono (by simp)).below (Nat.le_refl _))
              have r7' : w7.rowIs w6.heap.size 107 33 (noteV fx) := r7.congr fun i hi => by rw [if_pos (by omega), Nat.sub_zero]
              have r7X : w7.rowIs wr.heap.size 107 33 (noteV X) := hb67.row R6.out (by omega)
              have N7 := notesAt.below NB6.out hb67 (Nat.le_refl _)
              have hb07 : Below wr.heap.size wr w7 := HB6.out.trans (hb67.mono (by omega))
              have ldF : ∀ i, i < 33 → w7.cell? ⟨w6.heap.size, 0 + i, none⟩ = some (noteV fx i) := fun i hi => by rw [Nat.zero_add]; exact r7'.cell hi
              have ldX : ∀ i, i < 33 → w7.cell? ⟨wr.heap.size, 0 + i, none⟩ = some (noteV X i) := fun i hi => by rw [Nat.zero_add]; exact r7X.cell hi
              have cF : w7.cell? ⟨w6.heap.size, 32, none⟩ = some (.string fx.2) := by
                have := r7'.cell (i := 32) (by omega)
                rw [noteV, if_neg (by omega)] at this; exact this
              have cX : w7.cell? ⟨wr.heap.size, 32, none⟩ = some (.string X.2) := by
                have := r7X.cell (i := 32) (by omega)
                rw [noteV, if_neg (by omega)] at this; exact this
              have heq : ∀ wz : World, (Op.equalIn 10000 107 (.agg (rowV 33 (noteV fx))) (.agg (rowV 33 (noteV X)))).run Tryd.prog wz = .ok (decide (fx = X)) wz := fun wz => run_eq_notes wz hfs hXs
              have NB7 : Hid (notesAt w7 (fun j => w.heap.size ≤ j ∧ j < wr.heap.size) w.heap.size B 0) := (show notesAt w7 (fun j => w.heap.size ≤ j ∧ j < wr.heap.size) w.heap.size B 0 from N7)
              have HB7 : Hid _ := hb07
              have R7 : Hid _ := r7'
              have RX : Hid _ := r7X
              have HLF : Hid _ := ldF
              have HLX : Hid _ := ldX
              have S7 : Hid (wr.heap.size + 2 ≤ w7.heap.size) := (show wr.heap.size + 2 ≤ w7.heap.size by omega)
              clear r7 hz7 hb7 hs7 hb67 r7' r7X N7 hb07 NB6 HB6 R6 ra6 s6 S6 ldF ldX
              -- what comes behind, where nothing clashes
              have ADD := add_note _ w.heap.size B 0 X w7 NB7.out hXs (by have := HB.out.2.2.2.1; omega)
              unfold noteA at ADD
              have hrest : ¬ ((firstAt B X.1).isSome = true ∧ foundN B X.1 ≠ X) → ∀ w8 : World, notesAt w8 (Gr (fun j => w.heap.size ≤ j ∧ j < wr.heap.size) w7 w8) w.heap.size (addN B X) 0 → Fr (fun j => w.heap.size ≤ j ∧ j < wr.heap.size) w7 w8 → aheadAt w w8 L (addN B X) ((ns k).drop (j + 1) ++ joinF ns (k + 1) (n - (k + 1))) := fun hno w8 hn8 hf8 => by
                obtain ⟨_, hbw, hcl, hln, hsz⟩ := HB.out
                rw [HD.out, List.cons_append] at hcl hln
                have hs8 := hf8.size
                have hs7 := HB7.out.size
                have hlen := addN_len B X
                have s7 := S7.out
                refine ⟨hn8.grow (fun i hi => ?_) (fun i hi => hi.2), ?_, ?_, ?_, fun x hx => ?_⟩
                · rcases hi with h | h
                  · exact ⟨h.1, by omega⟩
                  · exact ⟨by omega, h.2⟩
                · exact (hbw.trans (HB7.out.mono (by omega))).trans (hf8.below (fun i hi => hi.1) (by omega))
                · rw [hcl, clashGo, if_neg hno]
                · simp only [List.length_cons] at hln; omega
                · rcases addN_mem hx with h | h
                  · exact hsz x h
                  · rw [h]; exact hXt
              have HR : Hid _ := hrest
              have HAD : Hid _ := ADD
              clear hrest ADD
              cases hf : firstAt B X.1 with
              | none =>
                have hno := HR.out (fun h => by rw [hf] at h; simp at h)
                have HN : Hid _ := hno
                clear hno HR
                simp only [Option.isSome_none]
                go_upto_region 12 with fail
                clear heq HLF R7 RX HB7 cF cX
                go_wp2_with (first | (refine wpList_load_seg rfl 107 (.tmp 9) rfl wr.heap.size 0 33 (noteV X) rfl _ Tryd.underlying107 rfl note33 HLX.out ?_))
                refine Calls.mono HAD.out ?_
                rintro e w8 ⟨rfl, hn8, hf8⟩
                have HN8 : Hid (aheadAt w w8 L (addN B X) ((ns k).drop (j + 1) ++ joinF ns (k + 1) (n - (k + 1)))) := (show aheadAt w w8 L (addN B X) ((ns k).drop (j + 1) ++ joinF ns (k + 1) (n - (k + 1))) from HN.out _ hn8 hf8)
                clear hn8 hf8 HAD HN NB7 HLX
                go_wp2
                go_light
                exact ⟨⟨j + 1, addN B X, by omega, by go_num, HN8.out⟩, by simp [intOf]; omega⟩
              | some i0 =>
                simp only [Option.isSome_some]
                by_cases hne : fx = X
                · have hno := HR.out (fun h => h.2 (HFX.out ▸ hne))
                  have HN : Hid _ := hno
                  clear hno HR
                  have hd : decide (fx = X) = true := decide_eq_true hne
                  rw [hd] at heq
                  clear hne hd
                  go_upto_region 12 with (first | (refine wpList_load_w 107 (.tmp 10) rfl rfl w6.heap.size 0 33 (noteV fx) rfl _ Tryd.underlying107 rfl note33 HLF.out ?_) | (refine wpList_load_w 107 (.tmp 9) rfl rfl wr.heap.size 0 33 (noteV X) rfl _ Tryd.underlying107 rfl note33 HLX.out ?_))
                  clear heq HLF R7 RX HB7 cF cX
                  go_wp2_with (first | (refine wpList_load_seg rfl 107 (.tmp 9) rfl wr.heap.size 0 33 (noteV X) rfl _ Tryd.underlying107 rfl note33 HLX.out ?_))
                  refine Calls.mono HAD.out ?_
                  rintro e w8 ⟨rfl, hn8, hf8⟩
                  have HN8 : Hid (aheadAt w w8 L (addN B X) ((ns k).drop (j + 1) ++ joinF ns (k + 1) (n - (k + 1)))) := (show aheadAt w w8 L (addN B X) ((ns k).drop (j + 1) ++ joinF ns (k + 1) (n - (k + 1))) from HN.out _ hn8 hf8)
                  clear hn8 hf8 HAD HN NB7 HLX
                  go_wp2
                  go_light
                  exact ⟨⟨j + 1, addN B X, by omega, by go_num, HN8.out⟩, by simp [intOf]; omega⟩
                · have hd : decide (fx = X) = false := decide_eq_false hne
                  rw [hd] at heq
                  have hyes : clashGo [] L = some (fx.2, X.2) := by
                    obtain ⟨_, hbw, hcl, hln, hsz⟩ := HB.out
                    rw [hcl, HD.out, List.cons_append, clashGo, ← HFX.out, if_pos ⟨by rw [hf]; rfl, hne⟩]
                  have HY : Hid _ := hyes
                  have hft : fx.2.size ≤ 1000000000 := by
                    rw [HFX.out]; exact HB.out.2.2.2.2 _ (foundN_mem hf)
                  clear hyes HR HAD HB HD
                  go_upto_region 11 with (first | (refine wpList_load_w 107 (.tmp 10) rfl rfl w6.heap.size 0 33 (noteV fx) rfl _ Tryd.underlying107 rfl note33 HLF.out ?_) | (refine wpList_load_w 107 (.tmp 9) rfl rfl wr.heap.size 0 33 (noteV X) rfl _ Tryd.underlying107 rfl note33 HLX.out ?_))
                  have KF : Hid (w7.cell? ⟨w6.heap.size, 32, none⟩ = some (.string fx.2)) := (show w7.cell? ⟨w6.heap.size, 32, none⟩ = some (.string fx.2) from cF)
                  have KX : Hid (w7.cell? ⟨wr.heap.size, 32, none⟩ = some (.string X.2)) := (show w7.cell? ⟨wr.heap.size, 32, none⟩ = some (.string X.2) from cX)
                  have KS : Hid (w6.heap.size < w7.heap.size) := (show w6.heap.size < w7.heap.size from World.rowIs.lt R7.out)
                  clear cF cX
                  refine wp_region_noPanic ?_
                  refine wp_region_held_drew (S := fun w' => Below w7.heap.size w7 w') (by kernel_rfl) ((Below.refl _ _).drew) (fun hHeld => ?_)
                  refine take_op (i := 0) (v := ?vq0) rfl (by kernel_rfl) (by kernel_rfl) (by kernel_rfl) (fun _ _ _ h => h) rfl hHeld ?yq0 ?rq0
                  case yq0 => (intro wz hz; go_simp; first | done | with_reducible rfl)
                  try simp only [Act.put, List.setIfInBounds_toArray, List.set_cons_zero, List.set_cons_succ]
                  refine take_op (i := 1) (v := ?vq1) rfl (by kernel_rfl) (by kernel_rfl) (by kernel_rfl) (fun _ _ _ h => h) rfl hHeld ?yq1 ?rq1
                  case yq1 => (intro wz hz; have hcz : wz.cell? ⟨w6.heap.size, 32, none⟩ = some (.string fx.2) := (hz.cell (p := ⟨w6.heap.size, 32, none⟩) (show w6.heap.size < w7.heap.size by have := KS.out; omega)).trans KF.out; go_simp; first | done | with_reducible rfl)
                  try simp only [Act.put, List.setIfInBounds_toArray, List.set_cons_zero, List.set_cons_succ]
                  refine take_op (i := 3) (v := ?vq3) rfl (by kernel_rfl) (by kernel_rfl) (by kernel_rfl) (fun _ _ _ h => h) rfl hHeld ?yq3 ?rq3
                  case yq3 => (intro wz hz; go_simp; first | done | with_reducible rfl)
                  try simp only [Act.put, List.setIfInBounds_toArray, List.set_cons_zero, List.set_cons_succ]
                  refine take_op (i := 4) (v := ?vq4) rfl (by kernel_rfl) (by kernel_rfl) (by kernel_rfl) (fun _ _ _ h => h) rfl hHeld ?yq4 ?rq4
                  case yq4 => (intro wz hz; have hcz : wz.cell? ⟨wr.heap.size, 32, none⟩ = some (.string X.2) := (hz.cell (p := ⟨wr.heap.size, 32, none⟩) (show wr.heap.size < w7.heap.size by have := S7.out; omega)).trans KX.out; go_simp; first | done | with_reducible rfl)
                  try simp only [Act.put, List.setIfInBounds_toArray, List.set_cons_zero, List.set_cons_succ]
                  refine take_pair (i := 2) (j := 5) rfl rfl (by kernel_rfl) rfl rfl (fun K hK => ?_) (fun K hK => ?_)
                  · obtain ⟨va, wa, hra, hia, hoa, hba, hsa, hfa⟩ := str_bytes w7.drew fx.2 (by omega)
                    have hsa' : wa.heap.size = w7.heap.size + 1 := hsa
                    have hoa' : ∀ j, va.ownBlock = some j → j = w7.heap.size := hoa
                    obtain ⟨vb, wb, hrb, hib, hob, hbb, hsb, hfb⟩ := str_bytes wa X.2 (by omega)
                    refine wp_convert_run 9 23 (.tmp 45) rfl rfl hra ?_
                    refine hK.out _ _ (hHeld.trans hba) (fun hHeld => ?_)
                    clear hK K
                    try simp only [Act.put, List.setIfInBounds_toArray, List.set_cons_zero, List.set_cons_succ]
                    refine take_op (i := 6) (v := ?vqa6) rfl (by kernel_rfl) (by kernel_rfl) (by kernel_rfl) (fun _ _ _ h => h) rfl hHeld ?yqa6 ?rqa6
                    case yqa6 => (intro wz hz; go_simp; first | done | with_reducible rfl)
                    try simp only [Act.put, List.setIfInBounds_toArray, List.set_cons_zero, List.set_cons_succ]
                    refine take_run (i := 5) rfl (by kernel_rfl) rfl (exec_convert 9 23 (.tmp 48) rfl rfl hrb) (hHeld.trans (hbb.mono (by omega))) ?_
                    try simp only [Act.put, List.setIfInBounds_toArray, List.set_cons_zero, List.set_cons_succ]
                    have hHeld2 : Below w7.heap.size w7 wb := hHeld.trans (hbb.mono (by omega))
                    clear hHeld
                    have hHeld := hHeld2
                    clear hHeld2
                    refine take_op (i := 7) (v := ?vqa7) rfl (by kernel_rfl) (by kernel_rfl) (by kernel_rfl) (fun _ _ _ h => h) rfl hHeld ?yqa7 ?rqa7
                    case yqa7 => (intro wz hz; go_simp; first | done | with_reducible rfl)
                    try simp only [Act.put, List.setIfInBounds_toArray, List.set_cons_zero, List.set_cons_succ]
                    refine take_op (i := 8) (v := ?vqa8) rfl (by kernel_rfl) (by kernel_rfl) (by kernel_rfl) (fun _ _ _ h => h) rfl hHeld ?yqa8 ?rqa8
                    case yqa8 => (intro wz hz; go_simp; first | done | with_reducible rfl)
                    try simp only [Act.put, List.setIfInBounds_toArray, List.set_cons_zero, List.set_cons_succ]
                    clear hsa
                    have hsa := hsa'
                    clear hoa
                    have hoa := hoa'
                    clear hsa' hoa'
                    have s7 := S7.out
                    have IA : Hid (softB wb va (sBytes fx.2)) := (show softB wb va (sBytes fx.2) from softB.below ⟨hia, hfa⟩ hbb (Nat.le_refl _))
                    have IB : Hid (softB wb vb (sBytes X.2)) := (show softB wb vb (sBytes X.2) from ⟨hib, hfb⟩)
                    have OA : Hid (∀ j, va.ownBlock = some j → w.heap.size ≤ j) := (show ∀ j, va.ownBlock = some j → w.heap.size ≤ j from fun j hj => by have := hoa j hj; omega)
                    have OB : Hid (∀ j, vb.ownBlock = some j → w.heap.size ≤ j) := (show ∀ j, vb.ownBlock = some j → w.heap.size ≤ j from fun j hj => by have := hob j hj; omega)
                    clear hia hib hoa hob hba hbb hsa hsb hra hrb s7 hfa hfb
                    refine wpAnyH_done (by kernel_rfl) ?_ _
                    refine NoPanic.normal ?_
                    have HBF : Hid _ := hHeld
                    clear hHeld
                    go_wp2
                    exact bodyPost_ret (results_tmp3 rfl _ _ _) rfl ⟨_, _, _, rfl, by rw [HY.out]; exact ⟨IA.out, IB.out, OA.out, OB.out, rfl⟩, (hwq.trans (HB7.out.mono (by omega))).trans (HBF.out.mono (by have := HB7.out.size; omega))⟩
                  · obtain ⟨vb, wb, hrb, hib, hob, hbb, hsb, hfb⟩ := str_bytes w7.drew X.2 (by omega)
                    have hsb' : wb.heap.size = w7.heap.size + 1 := hsb
                    have hob' : ∀ j, vb.ownBlock = some j → j = w7.heap.size := hob
                    obtain ⟨va, wa, hra, hia, hoa, hba, hsa, hfa⟩ := str_bytes wb fx.2 (by omega)
                    refine wp_convert_run 9 23 (.tmp 48) rfl rfl hrb ?_
                    refine hK.out _ _ (hHeld.trans hbb) (fun hHeld => ?_)
                    clear hK K
                    try simp only [Act.put, List.setIfInBounds_toArray, List.set_cons_zero, List.set_cons_succ]
                    refine take_run (i := 2) rfl (by kernel_rfl) rfl (exec_convert 9 23 (.tmp 45) rfl rfl hra) (hHeld.trans (hba.mono (by omega))) ?_
                    try simp only [Act.put, List.setIfInBounds_toArray, List.set_cons_zero, List.set_cons_succ]
                    have hHeld2 : Below w7.heap.size w7 wa := hHeld.trans (hba.mono (by omega))
                    clear hHeld
                    have hHeld := hHeld2
                    clear hHeld2
                    refine take_op (i := 6) (v := ?vqb6) rfl (by kernel_rfl) (by kernel_rfl) (by kernel_rfl) (fun _ _ _ h => h) rfl hHeld ?yqb6 ?rqb6
                    case yqb6 => (intro wz hz; go_simp; first | done | with_reducible rfl)
                    try simp only [Act.put, List.setIfInBounds_toArray, List.set_cons_zero, List.set_cons_succ]
                    refine take_op (i := 7) (v := ?vqb7) rfl (by kernel_rfl) (by kernel_rfl) (by kernel_rfl) (fun _ _ _ h => h) rfl hHeld ?yqb7 ?rqb7
                    case yqb7 => (intro wz hz; go_simp; first | done | with_reducible rfl)
                    try simp only [Act.put, List.setIfInBounds_toArray, List.set_cons_zero, List.set_cons_succ]
                    refine take_op (i := 8) (v := ?vqb8) rfl (by kernel_rfl) (by kernel_rfl) (by kernel_rfl) (fun _ _ _ h => h) rfl hHeld ?yqb8 ?rqb8
                    case yqb8 => (intro wz hz; go_simp; first | done | with_reducible rfl)
                    try simp only [Act.put, List.setIfInBounds_toArray, List.set_cons_zero, List.set_cons_succ]
                    clear hsb
                    have hsb := hsb'
                    clear hob
                    have hob := hob'
                    clear hsb' hob'
                    have s7 := S7.out
                    have IA : Hid (softB wa va (sBytes fx.2)) := (show softB wa va (sBytes fx.2) from ⟨hia, hfa⟩)
                    have IB : Hid (softB wa vb (sBytes X.2)) := (show softB wa vb (sBytes X.2) from softB.below ⟨hib, hfb⟩ hba (Nat.le_refl _))
                    have OA : Hid (∀ j, va.ownBlock = some j → w.heap.size ≤ j) := (show ∀ j, va.ownBlock = some j → w.heap.size ≤ j from fun j hj => by have := hoa j hj; omega)
                    have OB : Hid (∀ j, vb.ownBlock = some j → w.heap.size ≤ j) := (show ∀ j, vb.ownBlock = some j → w.heap.size ≤ j from fun j hj => by have := hob j hj; omega)
                    clear hia hib hoa hob hba hbb hsa hsb hra hrb s7 hfa hfb
                    refine wpAnyH_done (by kernel_rfl) ?_ _
                    refine NoPanic.normal ?_
                    have HBF : Hid _ := hHeld
                    clear hHeld
                    go_wp2
                    exact bodyPost_ret (results_tmp3 rfl _ _ _) rfl ⟨_, _, _, rfl, by rw [HY.out]; exact ⟨IA.out, IB.out, OA.out, OB.out, rfl⟩, (hwq.trans (HB7.out.mono (by omega))).trans (HBF.out.mono (by have := HB7.out.size; omega))⟩
            · obtain rfl : j = (ns k).length := by omega
              have HB2 : Hid (aheadAt w wr L B (joinF ns (k + 1) (n - (k + 1)))) := (show aheadAt w wr L B (joinF ns (k + 1) (n - (k + 1))) from by
                have := HB.out
                rw [List.drop_length, List.nil_append] at this; exact this)
              clear hB HB
              go_wp2
              go_light
              exact ⟨⟨k + 1, B, by omega, by go_num, HB2.out⟩, by simp [intOf]; omega⟩
    · obtain rfl : k = n := by omega
      have hnone : clashGo [] L = none := by
        have := HA.out.2.2.1
        rw [Nat.sub_self] at this; exact this
      have HBL : Hid _ := hA.2.1
      clear HA hA
      go_wp2
      exact bodyPost_ret (results_tmp3 rfl _ _ _) rfl ⟨_, _, _, rfl, by rw [hnone]; exact ⟨rfl, rfl, rfl⟩, HBL.out⟩
theorem clash_any (n : Nat) (v : Value) (ns : Nat → List Nt) (w : World) (h : isBooks w v n ns) (hN : (joinF ns 0 n).length < 1000000) (hts : ∀ i, i < n → ∀ x ∈ ns i, x.2.size ≤ 1000000000) :
    Calls Tryd.prog 32 #[v] w fun e w' => ∃ va vb fb, e = .returned (.tuple #[va, vb, .bool fb]) ∧ clashAns w' w.heap.size va vb fb (clashGo [] (joinF ns 0 n)) ∧ Below w.heap.size w w' :=
  (clash_soft n v ns w h hN hts).mono fun e w' ⟨va, vb, fb, h1, h2, h3⟩ => ⟨va, vb, fb, h1, by
    revert h2
    cases clashGo [] (joinF ns 0 n) with
    | none => exact id
    | some p => exact fun h => ⟨h.1.1, h.2.1.1, h.2.2⟩, h3⟩
end Go.Proofs.YtgchnobifidjcaaDoor

/- Where a clash is told, and where none is. Plain mathematics (of any seat). -/
namespace Go.Proofs.YtgchnobifidjcaaDoor
set_option linter.unusedSimpArgs false
set_option linter.unusedVariables false
open Go.RowKit Go.Deep

theorem foundN_first {A : List Nt} {q : List Int} {i : Nat} (h : firstAt A q = some i) : (foundN A q).1 = q := by
  obtain ⟨s, hs⟩ := firstAt_get h
  unfold foundN
  rw [h]
  simp only
  rw [List.getD_eq_getElem?_getD, hs]; rfl
theorem firstAt_mem {A : List Nt} {x : Nt} (h : x ∈ A) : ∃ i, firstAt A x.1 = some i := by
  cases hf : firstAt A x.1 with
  | some i => exact ⟨i, rfl⟩
  | none =>
    unfold firstAt at hf
    rw [List.findIdx?_eq_none_iff] at hf
    have := hf x h
    simp at this
/-- WHAT Clash TELLS are two unlike ones of one sum. -/
theorem clashGo_some : ∀ (L A : List Nt) (s t : ByteArray), clashGo A L = some (s, t) → s ≠ t ∧ ∃ q : List Int, ((q, s) ∈ A ∨ (q, s) ∈ L) ∧ ((q, t) ∈ A ∨ (q, t) ∈ L)
  | [], A, s, t, h => by cases h
  | x :: r, A, s, t, h => by
    rw [clashGo] at h
    by_cases hc : (firstAt A x.1).isSome = true ∧ foundN A x.1 ≠ x
    · rw [if_pos hc] at h
      obtain ⟨i, hi⟩ := Option.isSome_iff_exists.1 hc.1
      have hs : (foundN A x.1).2 = s ∧ x.2 = t := by simpa using h
      have h1 := foundN_first hi
      have hm := foundN_mem hi
      refine ⟨fun e => hc.2 (Prod.ext h1 (by rw [hs.1, hs.2, e])), x.1, Or.inl ?_, Or.inr ?_⟩
      · rw [← hs.1, ← h1]; rw [h1]; exact (show ((foundN A x.1).1, (foundN A x.1).2) ∈ A from hm) |> fun h => by rw [h1] at h; exact h
      · rw [← hs.2]; exact List.mem_cons_self
    · rw [if_neg hc] at h
      obtain ⟨h1, q, h2, h3⟩ := clashGo_some r (addN A x) s t h
      refine ⟨h1, q, ?_, ?_⟩
      · rcases h2 with h2 | h2
        · rcases addN_mem h2 with h | h
          · exact Or.inl h
          · exact Or.inr (by rw [h]; exact List.mem_cons_self)
        · exact Or.inr (List.mem_cons_of_mem _ h2)
      · rcases h3 with h2 | h2
        · rcases addN_mem h2 with h | h
          · exact Or.inl h
          · exact Or.inr (by rw [h]; exact List.mem_cons_self)
        · exact Or.inr (List.mem_cons_of_mem _ h2)
theorem addN_has (A : List Nt) (x y : Nt) (h : y ∈ A ∨ y = x) : y ∈ addN A x := by
  by_cases e : x ∈ A
  · rw [addN_in e]
    rcases h with h | h
    · exact h
    · rw [h]; exact e
  · rw [addN_out e]
    rcases h with h | h <;> simp [h]
/-- WHERE IT TELLS NONE each sum has one text. -/
theorem clashGo_none : ∀ (L A : List Nt), (∀ x y, x ∈ A → y ∈ A → x.1 = y.1 → x = y) → clashGo A L = none → ∀ x y, (x ∈ A ∨ x ∈ L) → (y ∈ A ∨ y ∈ L) → x.1 = y.1 → x = y
  | [], A, hA, _, x, y, hx, hy, e => hA x y (by simpa using hx) (by simpa using hy) e
  | z :: r, A, hA, h, x, y, hx, hy, e => by
    rw [clashGo] at h
    by_cases hc : (firstAt A z.1).isSome = true ∧ foundN A z.1 ≠ z
    · rw [if_pos hc] at h; cases h
    · rw [if_neg hc] at h
      have hz : ∀ y, y ∈ A → y.1 = z.1 → y = z := fun y hy e => by
        obtain ⟨i, hi⟩ := firstAt_mem hy
        rw [e] at hi
        have h1 := foundN_first hi
        have hm := foundN_mem hi
        have h2 : foundN A z.1 = z := by
          by_cases h3 : foundN A z.1 = z
          · exact h3
          · exact absurd ⟨by rw [hi]; rfl, h3⟩ hc
        rw [← h2]
        exact hA y _ hy hm (by rw [h1, e])
      refine clashGo_none r (addN A z) (fun x y hx hy e => ?_) h x y ?_ ?_ e
      · rcases addN_mem hx with h1 | h1 <;> rcases addN_mem hy with h2 | h2
        · exact hA x y h1 h2 e
        · rw [h2]; exact hz x h1 (by rw [e, h2])
        · rw [h1]; exact (hz y h2 (by rw [← e, h1])).symm
        · rw [h1, h2]
      · rcases hx with h1 | h1
        · exact Or.inl (addN_has _ _ _ (Or.inl h1))
        · rcases List.mem_cons.1 h1 with h1 | h1
          · exact Or.inl (addN_has _ _ _ (Or.inr h1))
          · exact Or.inr h1
      · rcases hy with h1 | h1
        · exact Or.inl (addN_has _ _ _ (Or.inl h1))
        · rcases List.mem_cons.1 h1 with h1 | h1
          · exact Or.inl (addN_has _ _ _ (Or.inr h1))
          · exact Or.inr h1
end Go.Proofs.YtgchnobifidjcaaDoor

/- Preimages are told apart. Plain mathematics. -/
namespace Go.Proofs.YtgchnobifidjcaaDoor
set_option linter.unusedSimpArgs false
set_option linter.unusedVariables false
open Go.RowKit Go.Deep

theorem numB_apart {x y : Int} {r s : List Int} (hx : 0 ≤ x ∧ x < 18446744073709551616) (hy : 0 ≤ y ∧ y < 18446744073709551616) (h : numB x ++ r = numB y ++ s) : x = y ∧ r = s := by
  have hp : ∀ z : Int, 0 ≤ z → z < 18446744073709551616 → z < 256 ^ szI z := fun z h0 h1 => by
    unfold szI
    repeat' split
    all_goals (simp only [Int.reducePow]; omega)
  unfold numB at h
  rw [List.cons_append, List.cons_append] at h
  injection h with h1 h2
  have hs : szI x = szI y := by omega
  have h3 := List.append_inj h2 (by simp [digsI, hs])
  refine ⟨?_, h3.2⟩
  have ex := horn_digsI (szI x) x hx.1 (hp x hx.1 hx.2)
  have ey := horn_digsI (szI y) y hy.1 (hp y hy.1 hy.2)
  rw [← ex, ← ey, h3.1]
theorem blobB_apart {p q r s : List Int} (hp : p.length < 1000000000) (hq : q.length < 1000000000) (h : blobB p ++ r = blobB q ++ s) : p = q ∧ r = s := by
  unfold blobB at h
  rw [List.append_assoc, List.append_assoc] at h
  obtain ⟨h1, h2⟩ := numB_apart ⟨by omega, by omega⟩ ⟨by omega, by omega⟩ h
  exact List.append_inj h2 (by omega)
theorem blobB_ne (p r : List Int) : blobB p ++ r ≠ [] := by unfold blobB numB; simp
/-- the parts from place i on. -/
def flatF (ps : Nat → List Int) (i : Nat) : Nat → List Int
  | 0 => []
  | k + 1 => blobB (ps i) ++ flatF ps (i + 1) k
theorem flatF_snoc (ps : Nat → List Int) : ∀ k i, flatF ps i (k + 1) = flatF ps i k ++ blobB (ps (i + k))
  | 0, i => by simp [flatF]
  | k + 1, i => by rw [flatF, flatF_snoc ps k (i + 1), flatF, List.append_assoc, show i + 1 + k = i + (k + 1) by omega]
theorem flatF_to (ps : Nat → List Int) : ∀ n, flatTo (blobsB ps) n = flatF ps 0 n
  | 0 => rfl
  | n + 1 => by rw [flatTo, flatF_to ps n, flatF_snoc, Nat.zero_add]; rfl
theorem flatF_apart (ps qs : Nat → List Int) : ∀ (n m i : Nat), (∀ j, (ps (i + j)).length < 1000000000 ∨ n ≤ j) → (∀ j, (qs (i + j)).length < 1000000000 ∨ m ≤ j) → flatF ps i n = flatF qs i m → n = m ∧ ∀ j, j < n → ps (i + j) = qs (i + j)
  | 0, 0, i, _, _, _ => ⟨rfl, fun j hj => by omega⟩
  | 0, m + 1, i, _, _, h => absurd h.symm (blobB_ne _ _)
  | n + 1, 0, i, _, _, h => absurd h (blobB_ne _ _)
  | n + 1, m + 1, i, h1, h2, h => by
    rw [flatF, flatF] at h
    obtain ⟨e1, e2⟩ := blobB_apart (by rcases h1 0 with h | h; exact h; omega) (by rcases h2 0 with h | h; exact h; omega) h
    obtain ⟨e3, e4⟩ := flatF_apart ps qs n m (i + 1) (fun j => by rcases h1 (j + 1) with h | h; exact Or.inl (by rw [show i + 1 + j = i + (j + 1) by omega]; exact h); exact Or.inr (by omega)) (fun j => by rcases h2 (j + 1) with h | h; exact Or.inl (by rw [show i + 1 + j = i + (j + 1) by omega]; exact h); exact Or.inr (by omega)) e2
    refine ⟨by omega, fun j hj => ?_⟩
    match j with
    | 0 => exact e1
    | j + 1 => rw [show i + (j + 1) = i + 1 + j by omega]; exact e4 j (by omega)
theorem flatF_congr (ps qs : Nat → List Int) : ∀ n i, (∀ j, j < n → ps (i + j) = qs (i + j)) → flatF ps i n = flatF qs i n
  | 0, i, _ => rfl
  | n + 1, i, h => by rw [flatF, flatF, show ps i = qs i from h 0 (by omega), flatF_congr ps qs n (i + 1) (fun j hj => by rw [show i + 1 + j = i + (j + 1) by omega]; exact h (j + 1) (by omega))]
/-- PREIMAGES ARE THE SAME JUST WHERE KINDS AND PARTS ARE. -/
theorem preB_apart {k l : Int} {n m : Nat} {ps qs : Nat → List Int} (h1 : ∀ j, j < n → (ps j).length < 1000000000) (h2 : ∀ j, j < m → (qs j).length < 1000000000) : preB k n ps = preB l m qs ↔ k % 256 = l % 256 ∧ n = m ∧ ∀ j, j < n → ps j = qs j := by
  unfold preB
  rw [flatF_to, flatF_to]
  constructor
  · intro h
    simp only [List.cons_append, List.nil_append] at h
    injection h with e1 e2
    obtain ⟨e3, e4⟩ := flatF_apart ps qs n m 0 (fun j => by
      by_cases hj : j < n
      · exact Or.inl (by rw [Nat.zero_add]; exact h1 j hj)
      · exact Or.inr (by omega)) (fun j => by
      by_cases hj : j < m
      · exact Or.inl (by rw [Nat.zero_add]; exact h2 j hj)
      · exact Or.inr (by omega)) e2
    exact ⟨e1, e3, fun j hj => by have := e4 j hj; rw [Nat.zero_add] at this; exact this⟩
  · rintro ⟨e1, rfl, e3⟩
    rw [e1, flatF_congr ps qs n 0 (fun j hj => by rw [Nat.zero_add]; exact e3 j hj)]
end Go.Proofs.YtgchnobifidjcaaDoor

/- What a root binds. Plain mathematics. -/
namespace Go.Proofs.YtgchnobifidjcaaDoor
set_option linter.unusedSimpArgs false
set_option linter.unusedVariables false
open Go.RowKit Go.Deep

def ntOf (L : List (List Int)) : Nt := (nodeS L, nodeT L)
theorem addN_le (N : List Nt) (x : Nt) : N.length ≤ (addN N x).length ∧ (addN N x).length ≤ N.length + 1 := by
  by_cases e : x ∈ N
  · rw [addN_in e]; omega
  · rw [addN_out e]; simp
/-- two nodes that have one note. -/
theorem flatF_byte (ps : Nat → List Int) (h : ∀ i j, 0 ≤ (ps i).getD j 0 ∧ (ps i).getD j 0 ≤ 255) : ∀ (n i j : Nat), 0 ≤ (flatF ps i n).getD j 0 ∧ (flatF ps i n).getD j 0 ≤ 255
  | 0, i, j => by simp [flatF]
  | n + 1, i, j => by
    rw [flatF, blobB, List.getD_eq_getElem?_getD]
    rw [List.append_assoc]
    by_cases h1 : j < (numB (ps i).length).length
    · rw [List.getElem?_append_left h1, ← List.getD_eq_getElem?_getD]; exact numB_byte _ _
    · rw [List.getElem?_append_right (by omega)]
      by_cases h2 : j - (numB (ps i).length).length < (ps i).length
      · rw [List.getElem?_append_left h2, ← List.getD_eq_getElem?_getD]; exact h i _
      · rw [List.getElem?_append_right (by omega), ← List.getD_eq_getElem?_getD]; exact flatF_byte ps h n (i + 1) _
theorem pre_byte (L : List (List Int)) (h : ∀ x ∈ L, isSum x) (k : Int) : ∀ j, 0 ≤ (preB k L.length (fun i => L.getD i [])).getD j 0 ∧ (preB k L.length (fun i => L.getD i [])).getD j 0 ≤ 255 := by
  intro j
  unfold preB
  rw [flatF_to]
  cases j with
  | zero => simp; omega
  | succ j =>
    rw [List.singleton_append, List.getD_cons_succ]
    refine flatF_byte _ (fun i j => ?_) _ _ _
    by_cases hi : i < L.length
    · have : L.getD i [] = L[i] := by rw [List.getD_eq_getElem?_getD, List.getElem?_eq_getElem hi]; rfl
      rw [this]; exact (h _ (List.getElem_mem _)).2 j
    · have : L.getD i [] = [] := by rw [List.getD_eq_getElem?_getD, List.getElem?_eq_none (by omega)]; rfl
      rw [this]; simp
theorem nodeT_inj {K L : List (List Int)} (hK : ∀ x ∈ K, isSum x) (hL : ∀ x ∈ L, isSum x) (h : nodeT K = nodeT L) : K = L := by
  have e := strOf_inj (pre_byte K hK 2) (pre_byte L hL 2) h
  have lenK : ∀ j, j < K.length → (K.getD j []).length < 1000000000 := fun j hj => by
    have : K.getD j [] = K[j] := by rw [List.getD_eq_getElem?_getD, List.getElem?_eq_getElem hj]; rfl
    rw [this, (hK _ (List.getElem_mem _)).1]; omega
  have lenL : ∀ j, j < L.length → (L.getD j []).length < 1000000000 := fun j hj => by
    have : L.getD j [] = L[j] := by rw [List.getD_eq_getElem?_getD, List.getElem?_eq_getElem hj]; rfl
    rw [this, (hL _ (List.getElem_mem _)).1]; omega
  obtain ⟨_, h2, h3⟩ := (preB_apart lenK lenL).1 e
  refine List.ext_getElem h2 fun i h4 h5 => ?_
  have := h3 i h4
  rw [List.getD_eq_getElem?_getD, List.getElem?_eq_getElem h4, List.getD_eq_getElem?_getD, List.getElem?_eq_getElem h5] at this
  exact this
theorem two_apart {a b c d : List Int} (ha : isSum a) (hb : isSum b) (hc : isSum c) (hd : isSum d) (h : nodeT [a, b] = nodeT [c, d]) : a = c ∧ b = d := by
  have := nodeT_inj (K := [a, b]) (L := [c, d]) (fun x hx => by rcases List.mem_cons.1 hx with rfl | hx; exact ha; rw [List.mem_singleton.1 hx]; exact hb) (fun x hx => by rcases List.mem_cons.1 hx with rfl | hx; exact hc; rw [List.mem_singleton.1 hx]; exact hd) h
  simpa using this
theorem rootNF_has : ∀ (n : Nat) (N : List Nt) (L : List (List Int)) (x : Nt), x ∈ N → x ∈ rootNF n N L
  | 0, N, L, x, h => by rw [rootNF]; exact addN_has _ _ _ (Or.inl h)
  | n + 1, N, L, x, h => by
    rw [rootNF]
    split
    · exact addN_has _ _ _ (Or.inl h)
    · split
      · exact h
      · exact addN_has _ _ _ (Or.inl (rootNF_has n _ _ x (rootNF_has n N _ x h)))
theorem rootN_has {N : List Nt} {L : List (List Int)} {x : Nt} (h : x ∈ N) : x ∈ rootN N L := rootNF_has _ _ _ _ h
/-- no sum has unlike texts here and there. -/
def noClash (A B : Nt → Prop) : Prop := ∀ x y, A x → B y → x.1 = y.1 → x = y
theorem same_two {A B : Nt → Prop} (h : noClash A B) {a b c d : List Int} (ha : isSum a) (hb : isSum b) (hc : isSum c) (hd : isSum d) (hA : A (ntOf [a, b])) (hB : B (ntOf [c, d])) (e : nodeS [a, b] = nodeS [c, d]) : a = c ∧ b = d :=
  two_apart ha hb hc hd (congrArg Prod.snd (h _ _ hA hB e))
/-- two lists of one length with one root. -/
theorem bind_root (A B : Nt → Prop) (hAB : noClash A B) : ∀ (m : Nat) (L K : List (List Int)) (N M : List Nt), L.length ≤ m → K.length = L.length → (∀ x ∈ L, isSum x) → (∀ x ∈ K, isSum x) →
    (∀ x ∈ rootN N L, A x) → (∀ x ∈ rootN M K, B x) → rootS L = rootS K → L = K
  | 0, L, K, N, M, h, hk, hL, hK, hA, hB, e => by
    rw [List.eq_nil_of_length_eq_zero (by omega : L.length = 0), List.eq_nil_of_length_eq_zero (by omega : K.length = 0)]
  | m + 1, L, K, N, M, h, hk, hL, hK, hA, hB, e => by
    by_cases h0 : L.length = 0
    · rw [List.eq_nil_of_length_eq_zero h0, List.eq_nil_of_length_eq_zero (by omega : K.length = 0)]
    by_cases h1 : L.length = 1
    · rw [rootS_one h1, rootS_one (by omega)] at e
      refine List.ext_getElem (by omega) fun i hi hj => ?_
      obtain rfl : i = 0 := by omega
      rw [List.getD_eq_getElem?_getD, List.getElem?_eq_getElem hi, List.getD_eq_getElem?_getD, List.getElem?_eq_getElem hj] at e
      exact e
    · have h2 : 2 ≤ L.length := by omega
      have hk2 : 2 ≤ K.length := by omega
      have ht := half_take h2
      have hkt := half_take hk2
      rw [rootS_more h2, rootS_more hk2] at e
      rw [rootN_more N h2] at hA
      rw [rootN_more M hk2] at hB
      have sT : ∀ x ∈ L.take (halfN L.length), isSum x := fun x hx => hL x (List.mem_of_mem_take hx)
      have sD : ∀ x ∈ L.drop (halfN L.length), isSum x := fun x hx => hL x (List.mem_of_mem_drop hx)
      have kT : ∀ x ∈ K.take (halfN K.length), isSum x := fun x hx => hK x (List.mem_of_mem_take hx)
      have kD : ∀ x ∈ K.drop (halfN K.length), isSum x := fun x hx => hK x (List.mem_of_mem_drop hx)
      obtain ⟨e1, e2⟩ := same_two hAB (rootS_sum sT) (rootS_sum sD) (rootS_sum kT) (rootS_sum kD) (hA _ (addN_has _ _ _ (Or.inr rfl))) (hB _ (addN_has _ _ _ (Or.inr rfl))) e
      have i1 := bind_root A B hAB m (L.take (halfN L.length)) (K.take (halfN K.length)) N M (by omega) (by rw [hkt.1, ht.1, hk]) sT kT (fun x hx => hA x (addN_has _ _ _ (Or.inl (rootN_has hx)))) (fun x hx => hB x (addN_has _ _ _ (Or.inl (rootN_has hx)))) e1
      have i2 := bind_root A B hAB m (L.drop (halfN L.length)) (K.drop (halfN K.length)) _ _ (by omega) (by rw [hkt.2.1, ht.2.1, hk]) sD kD (fun x hx => hA x (addN_has _ _ _ (Or.inl hx))) (fun x hx => hB x (addN_has _ _ _ (Or.inl hx))) e2
      rw [← List.take_append_drop (halfN L.length) L, i1, i2, List.take_append_drop]
end Go.Proofs.YtgchnobifidjcaaDoor

/- A range over a function that hands out a known list, whose rounds always go on. -/
namespace Go.Proofs.YtgchnobifidjcaaDoor
open Go.RowKit Go.Shelf

/-- an iterator that hands out ys, and turns nothing itself. -/
def hands {α : Type} (n : Nat) (P : Program) (gf : Nat) (lb : Array Value) (encs : α → Array Value) (ys : List α) (w : World) : Prop :=
  ∀ (l : Nat) (J : Nat → World → Prop) (W : World), Below w.heap.size w W → (∀ k W, J k W → J k W.drew) → J 0 W →
    (∀ k (hk : k < ys.length) W1, J k W1 → YieldAt Fence.wide (n - 1) P l (encs ys[k]) W1 fun e W' => e = .returned (.bool true) ∧ J (k + 1) W') →
    CallsIn Fence.wide n P gf (#[.func (.yield l) #[] #[]] ++ lb) W fun e W' => (∃ v, e = .returned v) ∧ J ys.length W'

/-- behind a round's body: it goes on, what is no cells lies as it lay. -/
def goesOn (I : Nat → World → Prop) (k : Nat) (W : World) : Exit → Act → World → Prop
  | .normal, _, W' => KeepsOthers W W' ∧ I k W'
  | _, _, _ => False

theorem wpIn_range_list {α : Type} {n : Nat} {P : Program} {g : Operand} {ps : Array Tmp} {assign body : Code} {Q : Exit → Act → World → Prop} {a : Act} {w : World}
    {gf : Nat} {lb : Array Value} (hg : a.eval g = .func (.func gf) #[] lb) (eg : ∀ args w, (callFunc gf args).run P w = .ok (.enter gf args) w)
    {encs : α → Array Value} {ys : List α} (hseq : hands (n - 1) P gf lb encs ys w) (hps : ∀ x, (encs x).size = ps.size)
    (I : Nat → World → Prop) (hI : OwnFrom w.heap.size I) (hd : ∀ k W, I k W → I k W.drew) (h0 : I 0 w) (a₁ : α → Act)
    (hassign : ∀ (l : Nat) (x : α) (W : World) (K : Act → World → Prop), K (a₁ x) W →
      assign.wpIn (Fence.wide.inRound l) (n - 1 - 1) P (Exit.then K (fun _ _ _ => False)) { tmps := (ps.zip (encs x)).foldl (fun t (p, v) => t.setIfInBounds p v) a.tmps, defers := [] } W)
    (hbody : ∀ (l k : Nat) (hk : k < ys.length) (W : World), I k W → body.wpIn (Fence.wide.inRound l) (n - 1 - 1) P (goesOn I (k + 1) W) (a₁ ys[k]) W)
    (hdone : ∀ (D : Nat) (W : World), w.heap.size ≤ D → I ys.length W → W.heap[D]? = some (.deferred (some [])) → Q .normal { a with defers := { target := .collected D, args := #[] } :: a.defers } W) :
    (Code.rangeFunc g ps assign body).wpIn Fence.wide n P Q a w := by
  refine wpIn_rangeFunc fun fn hfn => ?_
  -- the record of the loop, in its two states
  obtain ⟨mk, hmk⟩ : ∃ mk : LoopState → Loop, mk = fun st => { state := st, pending := none, fn, tmps := a.tmps, params := ps, assign, body, defers := w.heap.size } := ⟨_, rfl⟩
  obtain ⟨W1, hW1⟩ : ∃ W1, W1 = (w.alloc (.deferred (some []))).alloc (.loop (mk .ready)) := ⟨_, rfl⟩
  have b1 : Below w.heap.size w W1 := by rw [hW1]; exact ((Below.refl _ _).alloc (Nat.le_refl _) _).alloc (by simp) _
  have c1 : W1.heap[w.heap.size + 1]? = some (.loop (mk .ready)) := by
    rw [hW1]; have := World.alloc_heap_new (w.alloc (.deferred (some []))) (.loop (mk .ready)); rwa [World.size_alloc] at this
  have d1 : W1.heap[w.heap.size]? = some (.deferred (some [])) := by
    rw [hW1]; exact (Below.heap_alloc _ _ _ (by simp)).trans (World.alloc_heap_new w _)
  have i1 : I 0 W1 := by rw [hW1]; exact hI.alloc _ (hI.alloc _ h0)
  refine ⟨w.heap.size + 1, [{ target := .collected w.heap.size, args := #[] }], W1, { target := .fn (.func gf) lb, args := #[.func (.yield (w.heap.size + 1)) #[] #[]] }, W1, gf, #[.func (.yield (w.heap.size + 1)) #[] #[]] ++ lb, W1, ?_, ?_, ?_, ?_, ?_, ?_⟩
  · rw [hW1, hmk]; exact run_enterLoop_outer _ _ _ _ _
  · simp only [resolve, hg]; simp [go_sem]
  · exact fun _ _ => trivial
  · simp [invoke, go_sem, eg]
  · exact fun h => absurd h (by simp [Fence.wide])
  · refine (hseq (w.heap.size + 1) (fun k W => I k W ∧ W.heap[w.heap.size + 1]? = some (.loop (mk .ready)) ∧ W.heap[w.heap.size]? = some (.deferred (some []))) W1 b1 (fun k W h => ⟨hd k W h.1, h.2⟩) ⟨i1, c1, d1⟩ ?_).mono ?_
    · rintro k hk W ⟨hi, hl, hD⟩
      have hlt : w.heap.size + 1 < W.heap.size := (Array.getElem?_eq_some_iff.1 hl).1
      have hy := run_yield (P := P) (args := encs ys[k]) hl (by rw [hmk]; exact hps _)
      have hbg := run_beginRound (P := P) hl (by rw [hmk])
      obtain ⟨W2, hW2⟩ : ∃ W2, W2 = W.putObj (w.heap.size + 1) (.loop { mk .ready with state := .busy }) := ⟨_, rfl⟩
      rw [← hW2] at hbg
      have l2 : W2.heap[w.heap.size + 1]? = some (.loop { mk .ready with state := .busy }) := by rw [hW2]; exact World.putObj_heap_same hlt
      have e2 : W2.heap[w.heap.size]? = some (.deferred (some [])) := by rw [hW2]; exact (World.putObj_heap_other (by omega)).trans hD
      have i2 : I k W2 := by rw [hW2]; exact hI.putObj _ hi (by omega) hl rfl
      have hrec : mk .ready = { state := .ready, pending := none, fn := fn, tmps := a.tmps, params := ps, assign := assign, body := body, defers := w.heap.size } := by rw [hmk]
      rw [hrec] at hy
      refine ⟨fn, _, assign, body, hy, roundIn_of_wpIn hfn (hassign _ ys[k] W _ ⟨W2, hbg, wpIn_mono (hbody _ k hk W2 i2) ?_⟩)⟩
      rintro e a3 W3 hp
      cases e with
      | normal =>
        obtain ⟨hko, hi3⟩ := hp
        have l3 := hko.same _ _ l2 rfl
        have hen := run_endRound (P := P) none l3
        refine ⟨_, _, hen, rfl, hI.putObj _ hi3 (by omega) l3 rfl, ?_, (World.putObj_heap_other (by omega)).trans (hko.same _ _ e2 rfl)⟩
        rw [World.putObj_heap_same (Array.getElem?_eq_some_iff.1 l3).1, hrec]; rfl
      | ret => exact hp.elim
      | exit id => exact hp.elim
      | goto t => exact hp.elim
      | panic ch => exact hp.elim
      | outgrown => exact hp.elim
    · rintro e W2 ⟨⟨v, rfl⟩, hi, hl, hD⟩
      have hen := run_endLoop (P := P) hl (by rw [hmk]; simp)
      exact ⟨_, _, hen, by rw [hmk]; exact hdone _ _ (Nat.le_refl _) (hI.putObj _ hi (by omega) hl rfl) ((World.putObj_heap_other (by omega)).trans hD)⟩
end Go.Proofs.YtgchnobifidjcaaDoor

/- A region in a round of a range over a function, by its plain walk; a range whose body keeps what the call has made. -/
namespace Go.Proofs.YtgchnobifidjcaaDoor
open Go.RowKit Go.Shelf

/-- Q at the normal end alone. -/
def Calm (Q : Exit → Act → World → Prop) : Exit → Act → World → Prop
  | .normal, a, w => Q .normal a w
  | _, _, _ => False
theorem Calm.no {Q : Exit → Act → World → Prop} (h : LetsOut (Calm Q)) : False := by obtain ⟨_, _, h⟩ := h; exact h
def plainOp (o : Oper) : Bool := match o.op with | .defer _ => false | _ => true
theorem plainOp_is {o : Oper} (h : plainOp o = true) : ∀ c, o.op ≠ .defer c := by
  intro c hc
  unfold plainOp at h
  rw [hc] at h
  cases h
section
variable {P : Program} {ops : Array Oper} {Q : Exit → Act → World → Prop} {S : World → Prop} {md : Region.Mode}
theorem operIn_of_wp {l n : Nat} {o : Oper} {a : Act} {w : World} {K : Act → World → Prop} (hd : plainOp o = true) (h : o.wp P a w K (Calm Q) ∨ (o.asks P a w ∧ LetsOut (Calm Q))) : o.wpIn (Fence.wide.inRound l) n P a w K Q := by
  rcases h with h | h
  · refine ⟨fun _ _ => trivial, ?_⟩
    rw [Oper.semAt_plain _ _ _ (plainOp_is hd)]
    unfold Oper.wp at h
    generalize (execOp a.eval o).run P w = r at h ⊢
    cases r with
    | ok x w' =>
      cases x <;> simp only [Oper.upon, Oper.uponIn] at h ⊢
      case value v => exact h
      case skip => exact h
      case defer d => exact h
      case enter f args =>
        refine ⟨fun h => absurd h (by simp [Fence.wide]), CallsIn.inRound l ((callsIn_wide.2 h).mono fun e w'' he => ?_)⟩
        cases e with
        | returned v => exact he
        | panicked ch => exact (he : False).elim
        | outgrown => exact (Calm.no he).elim
      case row row args =>
        refine ⟨fun h => absurd h (by simp [Fence.wide]), fun c cs _ => ?_⟩
        obtain ⟨v, w'', hv, hs⟩ := h c cs
        exact ⟨v, w'', hv, stepsIn_wide.2 hs⟩
    | halt x w' =>
      cases x <;> simp only [Oper.upon, Oper.uponIn] at h ⊢
      case panic v => exact (h : False).elim
  · exact (Calm.no h.2).elim
theorem wpAnyIn_of_held {l n : Nat} (hd : ops.all plainOp = true) : ∀ (fuel : Nat) (listed : Array Bool) (a : Act) (w : World), wpAnyH P md ops (Calm Q) S fuel listed a w → wpAnyIn (Fence.wide.inRound l) n P md ops Q fuel listed a w
  | 0, _, _, _, h => ⟨h.1, h.2⟩
  | fuel + 1, listed, a, w, h => ⟨fun hr => h.1 hr, fun i hi => by
    have h2 := h.2 i hi
    unfold wpOp at h2
    unfold wpOpIn
    cases ho : ops[i]? with
    | none => rw [ho] at h2; exact wpAnyIn_of_held hd fuel _ a w h2.2
    | some o =>
      rw [ho] at h2
      have hpo : plainOp o = true := by
        rw [Array.all_eq_true_iff_forall_mem] at hd
        exact hd o (Array.mem_of_getElem? ho)
      simp only at h2 ⊢
      split
      · rename_i hw
        rw [if_pos hw] at h2
        exact Oper.wpIn_mono (fun a' w' h' => wpAnyIn_of_held hd fuel _ a' w' h'.2) (operIn_of_wp hpo h2)
      · rename_i hw
        rw [if_neg hw] at h2
        exact ⟨fun _ _ => trivial, wpAnyIn_of_held hd fuel _ _ _ h2.2⟩⟩
/-- A REGION THAT DRAWS, IN A ROUND: walked as anywhere. -/
theorem wpIn_region_round {l n id : Nat} {a : Act} {w : World} (hm : P.follows .mixedOrders = true) (hd : ops.all plainOp = true) (hS : S w.drew)
    (h : S w.drew → wpAnyH P .any ops (Calm Q) S ops.size (Array.replicate ops.size false) a w.drew) : (Code.region id ops true).wpIn (Fence.wide.inRound l) n P Q a w :=
  wpIn_region_any hm (wpAnyIn_of_held hd _ _ _ _ (h hS))
end
/-- append in a fence, by what its run comes to. -/
theorem wpListIn_append_run {F : Fence} {n : Nat} {P : Program} {ops : Array Oper} {rest : List Oper} {o : Oper} {a : Act} {w w' : World} {Q : Exit → Act → World → Prop} {v y r : Value} (hgd : o.guard = none) (s x : Operand) (t : TypeId)
    (ho : o.op = Op.call { callee := Callee.builtin Builtin.append, args := #[s, x], argTypes := #[t, t] }) (hs : a.eval s = v) (hx : a.eval x = y)
    (hr : (Builtin.append_ #[t, t] o.type #[v, y]).run P w = .ok r w') (h : wpListIn F n P ops Q rest (a.put o.dst r) w') : wpListIn F n P ops Q (o :: rest) a w := by
  refine wpListIn_plain hgd fun K hK' => ?_
  unfold Oper.wpIn
  refine ⟨?_, ?_⟩
  · simp [Oper.about, ho, resolve, Target.leads, Sem.run_pure]
  · rw [Oper.semAt_plain F _ _ (by rw [ho]; intro c hc'; cases hc')]
    simp [execOp, ho, resolve, invoke, builtin, hs, hx, hr, Result.andThen]
    exact hK' _ _ h
/-- behind a round's body: it goes on, the loop's two blocks lie as they lay. -/
def goesAt (D : Nat) (I : Nat → World → Prop) (k : Nat) (W : World) : Exit → Act → World → Prop
  | .normal, _, W' => W'.heap[D]? = W.heap[D]? ∧ W'.heap[D + 1]? = W.heap[D + 1]? ∧ I k W'
  | _, _, _ => False
/-- A RANGE OVER A FUNCTION THAT HANDS OUT A KNOWN LIST, whose rounds always go on, and turn whatever they like but the loop's own two blocks. -/
theorem wpIn_range_at {α : Type} {n : Nat} {P : Program} {g : Operand} {ps : Array Tmp} {assign body : Code} {Q : Exit → Act → World → Prop} {a : Act} {w : World}
    {gf : Nat} {lb : Array Value} (hg : a.eval g = .func (.func gf) #[] lb) (eg : ∀ args w, (callFunc gf args).run P w = .ok (.enter gf args) w)
    {encs : α → Array Value} {ys : List α} (hseq : hands (n - 1) P gf lb encs ys w) (hps : ∀ x, (encs x).size = ps.size)
    (I : Nat → World → Prop) (hI : ∀ k W x y, I k W → W.heap[w.heap.size + 1]? = some (.loop x) → I k (W.putObj (w.heap.size + 1) (.loop y))) (hd : ∀ k W, I k W → I k W.drew) (h0 : ∀ o o', I 0 ((w.alloc o).alloc o')) (a₁ : α → Act)
    (hassign : ∀ (l : Nat) (x : α) (W : World) (K : Act → World → Prop), K (a₁ x) W →
      assign.wpIn (Fence.wide.inRound l) (n - 1 - 1) P (Exit.then K (fun _ _ _ => False)) { tmps := (ps.zip (encs x)).foldl (fun t (p, v) => t.setIfInBounds p v) a.tmps, defers := [] } W)
    (hbody : ∀ (l k : Nat) (hk : k < ys.length) (W : World) (x : Loop), I k W → W.heap[w.heap.size]? = some (.deferred (some [])) → W.heap[w.heap.size + 1]? = some (.loop x) → body.wpIn (Fence.wide.inRound l) (n - 1 - 1) P (goesAt w.heap.size I (k + 1) W) (a₁ ys[k]) W)
    (hdone : ∀ (W : World), I ys.length W → W.heap[w.heap.size]? = some (.deferred (some [])) → Q .normal { a with defers := { target := .collected w.heap.size, args := #[] } :: a.defers } W) :
    (Code.rangeFunc g ps assign body).wpIn Fence.wide n P Q a w := by
  refine wpIn_rangeFunc fun fn hfn => ?_
  -- the record of the loop, in its two states
  obtain ⟨mk, hmk⟩ : ∃ mk : LoopState → Loop, mk = fun st => { state := st, pending := none, fn, tmps := a.tmps, params := ps, assign, body, defers := w.heap.size } := ⟨_, rfl⟩
  obtain ⟨W1, hW1⟩ : ∃ W1, W1 = (w.alloc (.deferred (some []))).alloc (.loop (mk .ready)) := ⟨_, rfl⟩
  have b1 : Below w.heap.size w W1 := by rw [hW1]; exact ((Below.refl _ _).alloc (Nat.le_refl _) _).alloc (by simp) _
  have c1 : W1.heap[w.heap.size + 1]? = some (.loop (mk .ready)) := by
    rw [hW1]; have := World.alloc_heap_new (w.alloc (.deferred (some []))) (.loop (mk .ready)); rwa [World.size_alloc] at this
  have d1 : W1.heap[w.heap.size]? = some (.deferred (some [])) := by
    rw [hW1]; exact (Below.heap_alloc _ _ _ (by simp)).trans (World.alloc_heap_new w _)
  have i1 : I 0 W1 := by rw [hW1]; exact h0 _ _
  refine ⟨w.heap.size + 1, [{ target := .collected w.heap.size, args := #[] }], W1, { target := .fn (.func gf) lb, args := #[.func (.yield (w.heap.size + 1)) #[] #[]] }, W1, gf, #[.func (.yield (w.heap.size + 1)) #[] #[]] ++ lb, W1, ?_, ?_, ?_, ?_, ?_, ?_⟩
  · rw [hW1, hmk]; exact run_enterLoop_outer _ _ _ _ _
  · simp only [resolve, hg]; simp [go_sem]
  · exact fun _ _ => trivial
  · simp [invoke, go_sem, eg]
  · exact fun h => absurd h (by simp [Fence.wide])
  · refine (hseq (w.heap.size + 1) (fun k W => I k W ∧ W.heap[w.heap.size + 1]? = some (.loop (mk .ready)) ∧ W.heap[w.heap.size]? = some (.deferred (some []))) W1 b1 (fun k W h => ⟨hd k W h.1, h.2⟩) ⟨i1, c1, d1⟩ ?_).mono ?_
    · rintro k hk W ⟨hi, hl, hD⟩
      have hlt : w.heap.size + 1 < W.heap.size := (Array.getElem?_eq_some_iff.1 hl).1
      have hy := run_yield (P := P) (args := encs ys[k]) hl (by rw [hmk]; exact hps _)
      have hbg := run_beginRound (P := P) hl (by rw [hmk])
      obtain ⟨W2, hW2⟩ : ∃ W2, W2 = W.putObj (w.heap.size + 1) (.loop { mk .ready with state := .busy }) := ⟨_, rfl⟩
      rw [← hW2] at hbg
      have l2 : W2.heap[w.heap.size + 1]? = some (.loop { mk .ready with state := .busy }) := by rw [hW2]; exact World.putObj_heap_same hlt
      have e2 : W2.heap[w.heap.size]? = some (.deferred (some [])) := by rw [hW2]; exact (World.putObj_heap_other (by omega)).trans hD
      have i2 : I k W2 := by rw [hW2]; exact hI _ _ _ _ hi hl
      have hlt2 : w.heap.size + 1 < W2.heap.size := (Array.getElem?_eq_some_iff.1 l2).1
      have hrec : mk .ready = { state := .ready, pending := none, fn := fn, tmps := a.tmps, params := ps, assign := assign, body := body, defers := w.heap.size } := by rw [hmk]
      rw [hrec] at hy
      refine ⟨fn, _, assign, body, hy, roundIn_of_wpIn hfn (hassign _ ys[k] W _ ⟨W2, hbg, wpIn_mono (hbody _ k hk W2 _ i2 e2 l2) ?_⟩)⟩
      rintro e a3 W3 hp
      cases e with
      | normal =>
        obtain ⟨hkD, hkl, hi3⟩ := hp
        have l3 := hkl.trans l2
        have hen := run_endRound (P := P) none l3
        have hlt3 : w.heap.size + 1 < W3.heap.size := (Array.getElem?_eq_some_iff.1 l3).1
        refine ⟨_, _, hen, rfl, hI _ _ _ _ hi3 l3, ?_, (World.putObj_heap_other (by omega)).trans (hkD.trans e2)⟩
        rw [World.putObj_heap_same (Array.getElem?_eq_some_iff.1 l3).1, hrec]; rfl
      | ret => exact hp.elim
      | exit id => exact hp.elim
      | goto t => exact hp.elim
      | panic ch => exact hp.elim
      | outgrown => exact hp.elim
    · rintro e W2 ⟨⟨v, rfl⟩, hi, hl, hD⟩
      have hen := run_endLoop (P := P) hl (by rw [hmk]; simp)
      have hlt2 : w.heap.size + 1 < W2.heap.size := (Array.getElem?_eq_some_iff.1 hl).1
      exact ⟨_, _, hen, by rw [hmk]; exact hdone _ (hI _ _ _ _ hi hl) ((World.putObj_heap_other (by omega)).trans hD)⟩
end Go.Proofs.YtgchnobifidjcaaDoor

/- The book that is handed in, or none; a function's ways out, where it ranges over a function. -/
namespace Go.Proofs.YtgchnobifidjcaaDoor
set_option linter.unusedSimpArgs false
set_option linter.unusedVariables false
open Go.RowKit Go.Deep

/-- kv is a book of these notes, all its memory in F, or nil. -/
def bkAt (kv : Value) (w : World) (F : Nat → Prop) (N : List Nt) (c : Int) : Prop :=
  (kv = .pointer none ∧ ∀ j, F j → j < w.heap.size) ∨ ∃ k, kv = .pointer (some ⟨k, 0, none⟩) ∧ bookAt w F k N c
section
variable {kv : Value} {w w' : World} {F G : Nat → Prop} {N : List Nt} {c : Int}
theorem bkAt.lt (h : bkAt kv w F N c) : ∀ j, F j → j < w.heap.size := by
  rcases h with ⟨_, h⟩ | ⟨k, _, h⟩
  · exact h
  · exact h.2.1
theorem bkAt.far (h : bkAt kv w F N c) (hb : ∀ j, F j → j < w.heap.size → w'.heap[j]? = w.heap[j]?) (hs : w.heap.size ≤ w'.heap.size) : bkAt kv w' F N c := by
  rcases h with ⟨e, h⟩ | ⟨k, e, h⟩
  · exact Or.inl ⟨e, fun j hj => Nat.lt_of_lt_of_le (h j hj) hs⟩
  · exact Or.inr ⟨k, e, h.far hb hs⟩
theorem bkAt.below {B : Nat} (h : bkAt kv w F N c) (hb : Below B w w') (hB : w.heap.size ≤ B) : bkAt kv w' F N c :=
  h.far (fun j _ hl => hb.block j (by omega)) hb.size
theorem bkAt.grow (h : bkAt kv w F N c) (hG : ∀ j, F j → G j) (hl : ∀ j, G j → j < w.heap.size) : bkAt kv w G N c := by
  rcases h with ⟨e, h⟩ | ⟨k, e, h⟩
  · exact Or.inl ⟨e, hl⟩
  · exact Or.inr ⟨k, e, h.grow hG hl⟩
theorem bkAt.drew (h : bkAt kv w F N c) : bkAt kv w.drew F N c := h.below ((Below.refl w.heap.size w).drew) (Nat.le_refl _)
end
/-- without a book nothing old turns. -/
theorem bkAt.none (w : World) (N : List Nt) (c : Int) : bkAt (.pointer none) w (fun _ => False) N c := Or.inl ⟨rfl, fun _ h => h.elim⟩
theorem Fr.none {w w' : World} (h : Fr (fun _ => False) w w') : Below w.heap.size w w' := h.below (fun _ f => f.elim) (Nat.le_refl _)
theorem node_k (F : Nat → Prop) (kv : Value) (N : List Nt) (c : Int) (L : List (List Int)) (v : Value) (w : World) (hk : bkAt kv w F N c) (h : sumsAt w v L) (hL : L.length ≤ 1000) (ht : tabIs w) (hF0 : ¬ F 1) (hN : N.length < 1000000) (hc : 0 ≤ c ∧ c < 1000000000) :
    Calls Tryd.prog 70 #[kv, v] w fun e w' => e = .returned (sumV (nodeS L)) ∧ bkAt kv w' (Gr F w w') (addN N (ntOf L)) (c + 1) ∧ Fr F w w' := by
  have hlt := hk.lt
  rcases hk with ⟨rfl, _⟩ | ⟨k, rfl, hk⟩
  · refine (node_nil L v w h hL ht).mono ?_
    rintro e w' ⟨rfl, hb⟩
    have := hb.size
    exact ⟨rfl, Or.inl ⟨rfl, fun j hj => by
      rcases hj with hj | hj
      · have := hlt j hj; omega
      · exact hj.2⟩, Fr.of_below F hb⟩
  · refine (node_book F k N c L v w hk h hL ht hF0 hN hc).mono ?_
    rintro e w' ⟨rfl, hb, hf⟩
    exact ⟨rfl, Or.inr ⟨k, rfl, hb⟩, hf⟩
theorem root_k (F : Nat → Prop) (kv : Value) (N : List Nt) (c : Int) (L : List (List Int)) (v : Value) (w : World) (hk : bkAt kv w F N c) (h : sumsAt w v L) (hvF : 0 < L.length → ∀ j, v.ownBlock = some j → ¬ F j) (hL : L.length ≤ 1000) (ht : tabIs w) (hF0 : ¬ F 1) (hN : N.length + L.length < 100000) (hc : 0 ≤ c ∧ c + L.length < 100000000) :
    Calls Tryd.prog 40 #[kv, v] w fun e w' => e = .returned (sumV (rootS L)) ∧ bkAt kv w' (Gr F w w') (rootN N L) (c + callsR L.length) ∧ Fr F w w' := by
  have hlt := hk.lt
  rcases hk with ⟨rfl, _⟩ | ⟨k, rfl, hk⟩
  · refine (root_nil 1000 L v w hL (Nat.le_refl _) h ht).mono ?_
    rintro e w' ⟨rfl, hb⟩
    have := hb.size
    exact ⟨rfl, Or.inl ⟨rfl, fun j hj => by
      rcases hj with hj | hj
      · have := hlt j hj; omega
      · exact hj.2⟩, Fr.of_below F hb⟩
  · refine (root_book 1000 F k N c L v w hL (Nat.le_refl _) hk h hvF ht hF0 (by omega) (by omega)).mono ?_
    rintro e w' ⟨rfl, hb, hf⟩
    exact ⟨rfl, Or.inr ⟨k, rfl, hb⟩, hf⟩
section
variable {P : Program} {fn : Func} {R : Ending → World → Prop} {a : Act} {w : World} {v : Value} {n : Nat}
theorem bodyPostM_ret (hr : (results fn a.tmps).run P w = .ok v w) (hd : a.defers = []) (hR : R (.returned v) w) : bodyPostM Fence.wide n P fn R .ret a w := by
  show LeavesInM Fence.wide n P fn a.tmps R a.defers .returning w
  rw [hd]
  exact ⟨v, hr, hR⟩
theorem bodyPostM_mark {D : Nat} (hd : a.defers = [{ target := .collected D, args := #[] }]) (hK : w.heap[D]? = some (.deferred (some []))) (hr : (results fn a.tmps).run P (w.putObj D (.deferred none)) = .ok v (w.putObj D (.deferred none))) (hR : R (.returned v) (w.putObj D (.deferred none))) : bodyPostM Fence.wide n P fn R .ret a w := by
  show LeavesInM Fence.wide n P fn a.tmps R a.defers .returning w
  rw [hd]
  exact ⟨by simp, .inl ⟨_, _, rfl, run_takeDeferred hK, ⟨v, hr, hR⟩⟩⟩
end
end Go.Proofs.YtgchnobifidjcaaDoor

/- bytes.Compare, bytes.Equal, bytes.Clone. -/
namespace Go.Proofs.YtgchnobifidjcaaDoor
set_option linter.unusedSimpArgs false
set_option linter.unusedVariables false
open Go.RowKit Go.Deep

/-- lists of bytes, compared: -1, 0, 1. -/
def cmpI : List Int → List Int → Int
  | [], [] => 0
  | [], _ :: _ => -1
  | _ :: _, [] => 1
  | a :: x, b :: y => if a < b then -1 else if b < a then 1 else cmpI x y
theorem cmpI_self : ∀ x : List Int, cmpI x x = 0
  | [] => rfl
  | a :: x => by rw [cmpI, if_neg (by omega), if_neg (by omega)]; exact cmpI_self x
theorem cmpI_zero : ∀ x y : List Int, cmpI x y = 0 → x = y
  | [], [], _ => rfl
  | [], _ :: _, h => by simp [cmpI] at h
  | _ :: _, [], h => by simp [cmpI] at h
  | a :: x, b :: y, h => by
    rw [cmpI] at h
    split at h
    · omega
    · split at h
      · omega
      · rw [cmpI_zero x y h, show a = b by omega]
theorem cmpI_le : ∀ x y : List Int, cmpI x y = -1 ∨ cmpI x y = 0 ∨ cmpI x y = 1
  | [], [] => Or.inr (Or.inl rfl)
  | [], _ :: _ => Or.inl rfl
  | _ :: _, [] => Or.inr (Or.inr rfl)
  | a :: x, b :: y => by
    rw [cmpI]
    split
    · exact Or.inl rfl
    · split
      · exact Or.inr (Or.inr rfl)
      · exact cmpI_le x y
theorem cmpI_swap : ∀ x y : List Int, cmpI x y = -cmpI y x
  | [], [] => rfl
  | [], _ :: _ => rfl
  | _ :: _, [] => rfl
  | a :: x, b :: y => by
    rw [cmpI, cmpI]
    by_cases h1 : a < b
    · rw [if_pos h1, if_neg (by omega), if_pos h1]
    · rw [if_neg h1]
      by_cases h2 : b < a
      · rw [if_pos h2, if_pos h2]; rfl
      · rw [if_neg h2, if_neg h2, if_neg h1]; exact cmpI_swap x y
theorem cmpI_trans : ∀ x y z : List Int, cmpI x y < 0 → cmpI y z < 0 → cmpI x z < 0
  | [], [], _, h, _ => by simp [cmpI] at h
  | [], _ :: _, [], _, h => by simp [cmpI] at h
  | [], _ :: _, _ :: _, _, _ => by simp [cmpI]
  | _ :: _, [], _, h, _ => by simp [cmpI] at h
  | _ :: _, _ :: _, [], _, h => by simp [cmpI] at h
  | a :: x, b :: y, c :: z, h1, h2 => by
    rw [cmpI] at h1 h2 ⊢
    by_cases a1 : a < b
    · by_cases b1 : b < c
      · rw [if_pos (by omega)]; decide
      · rw [if_neg b1] at h2
        by_cases b2 : c < b
        · rw [if_pos b2] at h2; omega
        · rw [if_pos (by omega)]; decide
    · rw [if_neg a1] at h1
      by_cases a2 : b < a
      · rw [if_pos a2] at h1; omega
      · rw [if_neg a2] at h1
        by_cases b1 : b < c
        · rw [if_pos (by omega)]; decide
        · rw [if_neg b1] at h2
          by_cases b2 : c < b
          · rw [if_pos b2] at h2; omega
          · rw [if_neg b2] at h2
            rw [if_neg (by omega), if_neg (by omega)]
            exact cmpI_trans x y z h1 h2
theorem cmp_bytes : ∀ x y : List Int, (∀ b ∈ x, 0 ≤ b ∧ b ≤ 255) → (∀ b ∈ y, 0 ≤ b ∧ b ≤ 255) → Lib.compareBytes (x.map fun n => UInt8.ofNat n.toNat) (y.map fun n => UInt8.ofNat n.toNat) = cmpI x y
  | [], [], _, _ => rfl
  | [], _ :: _, _, _ => rfl
  | _ :: _, [], _, _ => rfl
  | a :: x, b :: y, hx, hy => by
    have ha := hx a (by simp)
    have hb := hy b (by simp)
    have h1 : (UInt8.ofNat a.toNat < UInt8.ofNat b.toNat) ↔ a < b := by rw [UInt8.lt_iff_toNat_lt, UInt8.toNat_ofNat', UInt8.toNat_ofNat']; omega
    have h2 : (UInt8.ofNat b.toNat < UInt8.ofNat a.toNat) ↔ b < a := by rw [UInt8.lt_iff_toNat_lt, UInt8.toNat_ofNat', UInt8.toNat_ofNat']; omega
    rw [List.map_cons, List.map_cons, Lib.compareBytes, cmpI, cmp_bytes x y (fun c hc => hx c (by simp [hc])) (fun c hc => hy c (by simp [hc]))]
    simp only [h1, h2]
theorem any_bytes {w : World} {v : Value} {l : List Int} (h : anyBytes w v l) : ∀ b ∈ l, 0 ≤ b ∧ b ≤ 255 := fun b hb => by
  obtain ⟨i, hi, rfl⟩ := List.getElem_of_mem hb
  have hg : l.getD i 0 = l[i] := by rw [List.getD_eq_getElem?_getD, List.getElem?_eq_getElem hi]; rfl
  rcases h with (⟨_, rfl⟩ | ⟨_, _, _, _, _, _, _, _, h7⟩) | ⟨_, rfl⟩
  · simp at hi
  · rw [← hg]; exact h7 i
  · simp at hi
theorem bytesOf_run (w : World) (v : Value) (l : List Int) (h : anyBytes w v l) : (Extern.Bytes.bytesOf v).run Tryd.prog w = .ok (strOf l) w := by
  rcases h with (⟨rfl, rfl⟩ | ⟨pb, po, cap, rfl, h2, h3, h4, h6, h7⟩) | ⟨⟨a, rfl⟩, rfl⟩
  · rfl
  · have hl := Lib.run_loadBytesX (P := Tryd.prog) w l ⟨pb, po, none⟩ .empty (fun j x hj => by
      have hjl : j < l.length := (List.getElem?_eq_some_iff.1 hj).1
      have e : (⟨pb, po, none⟩ : Addr).add j = ⟨pb, po + j, none⟩ := by unfold Addr.add; split <;> simp_all
      rw [e, h6 j hjl, List.getD_eq_getElem?_getD, hj]
      rfl)
    show (Extern.Bytes.loadBytes ⟨pb, po, none⟩ l.length .empty).run Tryd.prog w = _
    rw [hl]
    congr 1
    apply ByteArray.ext
    show (#[] : Array UInt8) ++ (Lib.bytesOf l).toArray = (strOf l).data
    simp [strOf, Lib.bytesOf]
  · cases a with
    | none => rfl
    | some a => rfl
theorem cmp_run (w : World) (u v : Value) (x y : List Int) (hx : anyBytes w u x) (hy : anyBytes w v y) : (callFunc 68 #[u, v]).run Tryd.prog w = .ok (.value (.int .i64 (cmpI x y))) w := by
  rw [run_callFunc_extern Tryd.func68 (by kernel_rfl) (by kernel_rfl) (by kernel_rfl) (e := Extern.BytealgCompare.compare) (by kernel_rfl)]
  have hc : (Extern.BytealgCompare.compare #[u, v]).run Tryd.prog w = .ok (.int .i64 (cmpI x y)) w := by
    show (do pure (goInt (Extern.BytealgCompare.cmp (← Extern.Bytes.bytesOf u) (← Extern.Bytes.bytesOf v))) : Sem Value).run Tryd.prog w = _
    rw [Sem.run_bind, bytesOf_run w u x hx, Result.andThen_ok, Sem.run_bind, bytesOf_run w v y hy, Result.andThen_ok, Lib.cmp_eq]
    have := cmp_bytes x y (any_bytes hx) (any_bytes hy)
    simp only [strOf]
    rw [this]
    rfl
  rw [hc]
  rfl
theorem compare_any (w : World) (u v : Value) (x y : List Int) (hx : anyBytes w u x) (hy : anyBytes w v y) :
    Calls Tryd.prog 38 #[u, v] w fun e w' => e = .returned (.int .i64 (cmpI x y)) ∧ w' = w := by
  have hr := cmp_run w u v x y hx hy
  clear hx hy
  go_enter Tryd.func38, Tryd.ntmps38
  go_wp2
  go_ret
  exact ⟨rfl, rfl⟩
end Go.Proofs.YtgchnobifidjcaaDoor
