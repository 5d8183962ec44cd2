import Derived.Test.YtldjefhgbigplaaPackBl
import Derived.Laws.Bits64b
namespace Go.Proofs.Ytldjefhgbigplaa
set_option linter.unusedVariables false
open Go.RowKit Go.Deep

theorem or_byte (a b : Int) (ha0 : 0 ≤ a) (ha1 : a * 256 < 18446744073709551616) (hb0 : 0 ≤ b) (hb1 : b ≤ 255) : bits .or .u64 (a * 256) b = a * 256 + b := by
  obtain ⟨A, rfl⟩ := Int.eq_ofNat_of_zero_le ha0
  obtain ⟨B, rfl⟩ := Int.eq_ofNat_of_zero_le hb0
  have e : ((A : Int) * 256) = ((A * 256 : Nat) : Int) := by omega
  rw [e, bits_or_u64_nat _ _ (by omega) (by omega)]
  have h := Nat.shiftLeft_add_eq_or_of_lt (i := 8) (b := B) (by omega) A
  rw [Nat.shiftLeft_eq] at h
  rw [← h]; rfl
/-- THE NUMBER WITH WHICH BYTES BEGIN, in its one form, and how many bytes it has. -/
def firstB (l : List Int) : Option (Int × Nat) :=
  if 0 < l.length ∧ l.getD 0 0 ≤ 8 ∧ l.getD 0 0 < l.length then
    (if 0 < (l.getD 0 0).toNat ∧ l.getD 1 0 = 0 then none else some (horn ((l.drop 1).take (l.getD 0 0).toNat), 1 + (l.getD 0 0).toNat))
  else none
def numOf (l : List Int) (most : Int) : Option (Int × Nat) :=
  match firstB l with
  | some (x, n) => if most < x then none else some (x, n)
  | none => none
def numberIs (r : Option (Int × Nat)) : Value :=
  match r with
  | some (x, n) => .tuple #[.int .u64 x, .int .i64 (n : Int), .bool true]
  | none => .tuple #[.int .u64 0, .int .i64 0, .bool false]
theorem getD_drop (l : List Int) (k i : Nat) : (l.drop k).getD i 0 = l.getD (k + i) 0 := by
  rw [List.getD_eq_getElem?_getD, List.getElem?_drop, ← List.getD_eq_getElem?_getD]
theorem mem_getD {l : List Int} {b : Int} (h : b ∈ l) : ∃ i, i < l.length ∧ l.getD i 0 = b := by
  obtain ⟨i, hi, rfl⟩ := List.mem_iff_getElem.1 h
  exact ⟨i, hi, by rw [List.getD_eq_getElem?_getD, List.getElem?_eq_getElem hi]; rfl⟩
theorem bytes_mem {l : List Int} (h : ∀ i, 0 ≤ l.getD i 0 ∧ l.getD i 0 ≤ 255) (b : Int) (hb : b ∈ l) : 0 ≤ b ∧ b ≤ 255 := by
  obtain ⟨i, _, rfl⟩ := mem_getD hb
  exact h i
theorem horn_take (l : List Int) (j : Nat) (hj : j < l.length) : horn (l.take (j + 1)) = horn (l.take j) * 256 + l.getD j 0 := by
  rw [List.take_succ_eq_append_getElem hj, horn_snoc, List.getD_eq_getElem?_getD, List.getElem?_eq_getElem hj]; rfl
theorem horn_take_bound (l : List Int) (h : ∀ i, 0 ≤ l.getD i 0 ∧ l.getD i 0 ≤ 255) (j : Nat) : 0 ≤ horn (l.take j) ∧ horn (l.take j) < 256 ^ j := by
  obtain ⟨h0, h1⟩ := horn_bound (l.take j) (fun b hb => bytes_mem h b (List.mem_of_mem_take hb))
  refine ⟨h0, Int.lt_of_lt_of_le h1 ?_⟩
  have := Nat.pow_le_pow_right (n := 256) (by omega) (List.length_take_le j l)
  have e1 := Int.natCast_pow 256 (l.take j).length
  have e2 := Int.natCast_pow 256 j
  rw [show (256 : Int) = ((256 : Nat) : Int) from rfl, ← e1, ← e2]
  exact Int.ofNat_le.2 this
theorem pow256 (j : Nat) (h : j ≤ 8) : (256 : Int) ^ j ≤ 18446744073709551616 := by
  have := Nat.pow_le_pow_right (n := 256) (by omega) h
  rw [show (256 : Int) = ((256 : Nat) : Int) from rfl, ← Int.natCast_pow]
  exact Int.ofNat_le.2 this
theorem pow256' (j : Nat) (h : j ≤ 7) : (256 : Int) ^ j ≤ 72057594037927936 := by
  have := Nat.pow_le_pow_right (n := 256) (by omega) h
  rw [show (256 : Int) = ((256 : Nat) : Int) from rfl, ← Int.natCast_pow]
  exact Int.ofNat_le.2 this
theorem numOf_none_short {l : List Int} {most : Int} (h : ¬ (0 < l.length ∧ l.getD 0 0 ≤ 8 ∧ l.getD 0 0 < l.length)) : numOf l most = none := by
  unfold numOf firstB; rw [if_neg h]
theorem numOf_none_zero {l : List Int} {most : Int} (h1 : 0 < (l.getD 0 0).toNat) (h2 : l.getD 1 0 = 0) : numOf l most = none := by
  unfold numOf firstB
  by_cases h : 0 < l.length ∧ l.getD 0 0 ≤ 8 ∧ l.getD 0 0 < l.length
  · rw [if_pos h, if_pos ⟨h1, h2⟩]
  · rw [if_neg h]
theorem numOf_none_most {l : List Int} {most : Int} (h1 : most < horn ((l.drop 1).take (l.getD 0 0).toNat)) : numOf l most = none := by
  unfold numOf firstB
  by_cases h : 0 < l.length ∧ l.getD 0 0 ≤ 8 ∧ l.getD 0 0 < l.length
  · rw [if_pos h]
    by_cases h2 : 0 < (l.getD 0 0).toNat ∧ l.getD 1 0 = 0
    · rw [if_pos h2]
    · rw [if_neg h2]; simp only; rw [if_pos h1]
  · rw [if_neg h]
theorem numOf_some {l : List Int} {most : Int} (h : 0 < l.length ∧ l.getD 0 0 ≤ 8 ∧ l.getD 0 0 < l.length) (h2 : ¬ (0 < (l.getD 0 0).toNat ∧ l.getD 1 0 = 0)) (h1 : ¬ most < horn ((l.drop 1).take (l.getD 0 0).toNat)) :
    numOf l most = some (horn ((l.drop 1).take (l.getD 0 0).toNat), 1 + (l.getD 0 0).toNat) := by
  unfold numOf firstB; rw [if_pos h, if_neg h2]; simp only; rw [if_neg h1]

set_option maxHeartbeats 1000000 in
theorem number_any (l : List Int) (v : Value) (most : Int) (hm0 : 0 ≤ most) (w : World) (hv : isBytes w v l) :
    Calls Try.prog 41 #[v, .int .u64 most] w fun e w' => e = .returned (numberIs (numOf l most)) ∧ w' = w := by
  have hbyte := hv.byte
  by_cases hl : l.length = 0
  · have HN : Hid _ := numOf_none_short (l := l) (most := most) (by omega)
    obtain ⟨a, c, rfl, hm⟩ := hv.slice
    clear hv hbyte
    rw [hl]
    go_enter Try.func41, Try.ntmps41
    go_wp2
    exact bodyPost_ret (v := numberIs none) (by simp [results, Try.results41, go_sem, numberIs]) rfl ⟨by rw [HN.out], rfl⟩
  · rcases hv with ⟨_, rfl⟩ | ⟨pb, po, cap, rfl, h2, h3, h4, h6, _⟩
    · exact absurd rfl hl
    · have hc0 := h6 0 (by omega)
      rw [Nat.add_zero] at hc0
      have hb0 := hbyte 0
      unfold maxLen at h3
      have hlm : (l.length : Int) ≤ 9223372036854775807 := by omega
      have hl0 : ((l.length : Int) == 0) = false := beq_eq_false_iff_ne.2 (by omega)
      have hl1 : (0 : Int) < (l.length : Int) := by omega
      generalize hB : l.getD 0 0 = b0 at *
      by_cases q1 : 8 < b0
      · have HN : Hid _ := numOf_none_short (l := l) (most := most) (by omega)
        go_enter Try.func41, Try.ntmps41
        go_wp2
        exact bodyPost_ret (v := numberIs none) (by simp [results, Try.results41, go_sem, numberIs]) rfl ⟨by rw [HN.out], rfl⟩
      · by_cases q2 : (l.length : Int) ≤ b0
        · have HN : Hid _ := numOf_none_short (l := l) (most := most) (by omega)
          go_enter Try.func41, Try.ntmps41
          go_wp2
          exact bodyPost_ret (v := numberIs none) (by simp [results, Try.results41, go_sem, numberIs]) rfl ⟨by rw [HN.out], rfl⟩
        · obtain ⟨k, rfl⟩ := Int.eq_ofNat_of_zero_le hb0.1
          have hk8 : (k : Int) ≤ 8 := by omega
          have hkl : (k : Int) < (l.length : Int) := by omega
          obtain ⟨o', ho', hsl⟩ := run_slice_mid (P := Try.prog) 47 5 pb po l.length cap 1 (1 + k) Try.underlying47 (by kernel_rfl) (by omega) (by omega)
          simp only [show ((1 + k : Nat) : Int) = 1 + (k : Int) by omega, show ((1 : Nat) : Int) = 1 from rfl, show 1 + k - 1 = k by omega] at hsl
          have hdl : (l.drop 1).length = l.length - 1 := by simp
          have hdb : ∀ i, 0 ≤ (l.drop 1).getD i 0 ∧ (l.drop 1).getD i 0 ≤ 255 := fun i => by rw [getD_drop]; exact hbyte _
          have HO : Hid _ := ho'
          have HB : Hid _ := hB
          clear ho' hB
          go_enter Try.func41, Try.ntmps41
          go_wp2
          go_loopw [4, 39] (fun x i wr => ∃ j : Nat, j ≤ k ∧ i = .int .i64 j ∧ x = .int .u64 (horn ((l.drop 1).take j)) ∧ wr = w) (fun _ i _ => k - (intOf i).toNat)
          case atStart => exact ⟨0, by omega, rfl, rfl, rfl⟩
          case round =>
            obtain ⟨j, hj, rfl, rfl, hwr⟩ := hrel
            obtain rfl := hwr.symm
            clear hwr
            obtain ⟨x0, x1⟩ := horn_take_bound (l.drop 1) hdb j
            by_cases hlt : j < k
            · have hc := h6 (1 + j) (by omega)
              have hcb := hbyte (1 + j)
              rw [← Nat.add_assoc, ← HO.out (by omega)] at hc
              have hp := pow256' j (by omega)
              have b0 : (0 : Int) ≤ (j : Int) := by omega
              have b1 : (j : Int) < (k : Int) := by omega
              have HT : Hid _ := horn_take (l.drop 1) j (by omega)
              have HG : Hid _ := getD_drop l 1 j
              generalize horn ((l.drop 1).take j) = X at *
              generalize l.getD (1 + j) 0 = c at *
              have hX : X < 72057594037927936 := by omega
              have hor := or_byte X c x0 (by omega) hcb.1 hcb.2
              clear x1 hp hsl
              go_wp2
              go_light
              exact ⟨⟨j + 1, by omega, by go_num, by rw [HT.out, HG.out], trivial⟩, by simp [intOf]; omega⟩
            · obtain rfl : j = k := by omega
              have e0 : l.getD 0 0 = (j : Int) := HB.out
              have et : (l.getD 0 0).toNat = j := by rw [e0]; rfl
              by_cases r1 : most < horn ((l.drop 1).take j)
              · have HN : Hid _ := numOf_none_most (l := l) (most := most) (by rw [et]; exact r1)
                clear e0 et hsl
                generalize horn ((l.drop 1).take j) = X at *
                go_wp2
                exact bodyPost_ret (v := numberIs none) (by simp [results, Try.results41, go_sem, numberIs]) rfl ⟨by rw [HN.out], rfl⟩
              · by_cases r2 : j = 0
                · have HN0 := numOf_some (l := l) (most := most) (by omega) (by rw [et]; omega) (by rw [et]; exact r1)
                  rw [et] at HN0
                  have HN : Hid _ := HN0
                  subst r2
                  clear e0 et HN0 hsl
                  generalize horn ((l.drop 1).take 0) = X at *
                  go_wp2
                  exact bodyPost_ret (v := numberIs (some (X, 1 + 0))) (by simp [results, Try.results41, go_sem, numberIs]) rfl ⟨by rw [HN.out], rfl⟩
                · have hc := h6 1 (by omega)
                  have hcb := hbyte 1
                  rw [← HO.out (by omega)] at hc
                  have b1 : (0 : Int) < (j : Int) := by omega
                  by_cases r3 : l.getD 1 0 = 0
                  · have HN : Hid _ := numOf_none_zero (l := l) (most := most) (by rw [et]; omega) r3
                    rw [r3] at hc
                    clear e0 et hsl r3 hcb
                    generalize horn ((l.drop 1).take j) = X at *
                    go_wp2
                    exact bodyPost_ret (v := numberIs none) (by simp [results, Try.results41, go_sem, numberIs]) rfl ⟨by rw [HN.out], rfl⟩
                  · have HN0 := numOf_some (l := l) (most := most) (by omega) (by rw [et]; omega) (by rw [et]; exact r1)
                    rw [et] at HN0
                    have HN : Hid _ := HN0
                    clear e0 et HN0 hsl
                    generalize horn ((l.drop 1).take j) = X at *
                    generalize l.getD 1 0 = c at *
                    have r4 : (c == 0) = false := beq_eq_false_iff_ne.2 r3
                    go_wp2
                    exact bodyPost_ret (v := numberIs (some (X, 1 + j))) (by simp [results, Try.results41, go_sem, numberIs]) rfl ⟨by rw [HN.out], rfl⟩
end Go.Proofs.Ytldjefhgbigplaa
