import Derived.Test.YtldjefhgbigplaaPackAwake
import Derived.Sort.Walk0
/- Of two numbers the lesser one's bytes stand ahead. Plain mathematics. -/
namespace Go.Proofs.Ytldjefhgbigplaa
set_option linter.unusedVariables false

/-- lists of bytes, in order. -/
def lexI : List Int → List Int → Bool
  | [], [] => false
  | [], _ :: _ => true
  | _ :: _, [] => false
  | a :: x, b :: y => decide (a < b) || (decide (a = b) && lexI x y)
theorem ofNat_lt (a b : Int) (ha : 0 ≤ a ∧ a ≤ 255) (hb : 0 ≤ b ∧ b ≤ 255) : (UInt8.ofNat a.toNat < UInt8.ofNat b.toNat) ↔ a < b := by
  rw [UInt8.lt_iff_toNat_lt, UInt8.toNat_ofNat', UInt8.toNat_ofNat']; omega
theorem ofNat_eq (a b : Int) (ha : 0 ≤ a ∧ a ≤ 255) (hb : 0 ≤ b ∧ b ≤ 255) : (UInt8.ofNat a.toNat = UInt8.ofNat b.toNat) ↔ a = b := by
  rw [← UInt8.toNat_inj, UInt8.toNat_ofNat', UInt8.toNat_ofNat']; omega
theorem bytesLess_lex : ∀ (x y : List Int), (∀ b ∈ x, 0 ≤ b ∧ b ≤ 255) → (∀ b ∈ y, 0 ≤ b ∧ b ≤ 255) → Op.bytesLess (x.map fun n => UInt8.ofNat n.toNat) (y.map fun n => UInt8.ofNat n.toNat) = lexI x y
  | [], [], _, _ => rfl
  | [], _ :: _, _, _ => rfl
  | _ :: _, [], _, _ => rfl
  | a :: x, b :: y, hx, hy => by
    have ha := hx a (by simp)
    have hb := hy b (by simp)
    rw [List.map_cons, List.map_cons, Op.bytesLess, lexI, bytesLess_lex x y (fun c hc => hx c (by simp [hc])) (fun c hc => hy c (by simp [hc]))]
    congr 1
    · exact decide_eq_decide.2 (ofNat_lt a b ha hb)
    · congr 1
      rw [Bool.eq_iff_iff, beq_iff_eq, decide_eq_true_iff]
      exact ofNat_eq a b ha hb
theorem strOf_toList (l : List Int) : (strOf l).toList = l.map fun n => UInt8.ofNat n.toNat := by
  rw [Go.Lib.toList_data]; simp [strOf]
theorem strOf_less {x y : List Int} (hx : ∀ i, 0 ≤ x.getD i 0 ∧ x.getD i 0 ≤ 255) (hy : ∀ i, 0 ≤ y.getD i 0 ∧ y.getD i 0 ≤ 255) : Op.bytesLess (strOf x).toList (strOf y).toList = lexI x y := by
  rw [strOf_toList, strOf_toList, bytesLess_lex x y (fun b hb => bytes_mem hx b hb) (fun b hb => bytes_mem hy b hb)]
theorem horn_cons (a : Int) (l : List Int) : horn (a :: l) = a * 256 ^ l.length + horn l := by
  have key : ∀ (l : List Int) (c : Int), l.foldl (fun a b => a * 256 + b) c = c * 256 ^ l.length + l.foldl (fun a b => a * 256 + b) 0 := by
    intro l
    induction l with
    | nil => intro c; simp
    | cons b l ih =>
      intro c
      rw [List.foldl_cons, List.foldl_cons, ih, ih (0 * 256 + b), List.length_cons, Int.pow_succ]
      rw [Int.add_mul, Int.zero_mul, Int.zero_add, Int.mul_assoc, Int.mul_comm 256, Int.add_assoc]
  unfold horn
  rw [List.foldl_cons, key]
  simp
theorem lex_horn : ∀ (x y : List Int), x.length = y.length → (∀ b ∈ x, 0 ≤ b ∧ b ≤ 255) → (∀ b ∈ y, 0 ≤ b ∧ b ≤ 255) → lexI x y = decide (horn x < horn y)
  | [], [], _, _, _ => rfl
  | a :: x, b :: y, hl, hx, hy => by
    have hl' : x.length = y.length := by simpa using hl
    obtain ⟨x0, x1⟩ := horn_bound x (fun c hc => hx c (by simp [hc]))
    obtain ⟨y0, y1⟩ := horn_bound y (fun c hc => hy c (by simp [hc]))
    rw [lexI, lex_horn x y hl' (fun c hc => hx c (by simp [hc])) (fun c hc => hy c (by simp [hc])), horn_cons, horn_cons, hl']
    rw [hl'] at x1
    generalize (256 : Int) ^ y.length = p at *
    rw [Bool.eq_iff_iff]
    simp only [Bool.or_eq_true, Bool.and_eq_true, decide_eq_true_iff]
    rcases Int.lt_trichotomy a b with h | h | h
    · have h1 : (a + 1) * p ≤ b * p := Int.mul_le_mul_of_nonneg_right (by omega) (by omega)
      rw [Int.add_mul, Int.one_mul] at h1
      constructor
      · intro _; omega
      · intro _; exact Or.inl h
    · subst h
      constructor
      · rintro (h | h)
        · omega
        · omega
      · intro h; exact Or.inr ⟨rfl, by omega⟩
    · have h1 : (b + 1) * p ≤ a * p := Int.mul_le_mul_of_nonneg_right (by omega) (by omega)
      rw [Int.add_mul, Int.one_mul] at h1
      constructor
      · rintro (h' | h') <;> omega
      · intro h'; exfalso; omega
theorem szI_is (x : Int) : (szI x = 0 ∧ x < 1) ∨ (szI x = 1 ∧ 1 ≤ x ∧ x < 256) ∨ (szI x = 2 ∧ 256 ≤ x ∧ x < 65536) ∨ (szI x = 3 ∧ 65536 ≤ x ∧ x < 16777216) ∨ (szI x = 4 ∧ 16777216 ≤ x ∧ x < 4294967296) ∨ (szI x = 5 ∧ 4294967296 ≤ x ∧ x < 1099511627776) ∨ (szI x = 6 ∧ 1099511627776 ≤ x ∧ x < 281474976710656) ∨ (szI x = 7 ∧ 281474976710656 ≤ x ∧ x < 72057594037927936) ∨ (szI x = 8 ∧ 72057594037927936 ≤ x) := by
  unfold szI
  repeat' split
  all_goals omega
theorem szI_mono {x y : Int} (h : x ≤ y) : szI x ≤ szI y := by
  have h1 := szI_is x
  have h2 := szI_is y
  omega
theorem szI_pow (x : Int) (h0 : 0 ≤ x) (h1 : x < 18446744073709551616) : x < 256 ^ szI x := by
  unfold szI
  repeat' split
  all_goals (simp only [Int.reducePow]; omega)
theorem horn_digs (x : Int) (h0 : 0 ≤ x) (h1 : x < 18446744073709551616) : horn (digsI x (szI x)) = x := horn_digsI _ x h0 (szI_pow x h0 h1)
theorem digs_mem (x : Int) (k : Nat) (b : Int) (hb : b ∈ digsI x k) : 0 ≤ b ∧ b ≤ 255 := bytes_mem (digsI_byte x k) b hb
theorem num_lex (x y : Int) (hx : 0 ≤ x ∧ x < 18446744073709551616) (hy : 0 ≤ y ∧ y < 18446744073709551616) : lexI (numB x) (numB y) = decide (x < y) := by
  unfold numB
  rw [lexI]
  by_cases h : szI x = szI y
  · rw [lex_horn _ _ (by simp [digsI, h]) (digs_mem x _) (digs_mem y _), horn_digs x hx.1 hx.2, horn_digs y hy.1 hy.2, h]
    simp
  · rw [Bool.eq_iff_iff]
    simp only [Bool.or_eq_true, Bool.and_eq_true, decide_eq_true_iff]
    constructor
    · rintro (h' | h')
      · rcases Int.lt_or_le x y with q | q
        · exact q
        · have := szI_mono q; omega
      · omega
    · intro q
      have := szI_mono (Int.le_of_lt q)
      exact Or.inl (by omega)
theorem num_inj {x y : Int} (hx : 0 ≤ x ∧ x < 18446744073709551616) (hy : 0 ≤ y ∧ y < 18446744073709551616) (h : numB x = numB y) : x = y := by
  unfold numB at h
  injection h with h1 h2
  have e : szI x = szI y := by omega
  rw [← horn_digs x hx.1 hx.2, ← horn_digs y hy.1 hy.2, h2]
theorem num_str_eq {x y : Int} (hx : 0 ≤ x ∧ x < 18446744073709551616) (hy : 0 ≤ y ∧ y < 18446744073709551616) : (strOf (numB x) = strOf (numB y)) ↔ x = y := by
  constructor
  · intro h; exact num_inj hx hy (strOf_inj (numB_byte x) (numB_byte y) h)
  · rintro rfl; rfl
theorem strOf_extract (l : List Int) (n : Nat) : (strOf l).extract 0 n = strOf (l.take n) := by
  apply ByteArray.ext
  rw [ByteArray.data_extract]
  simp [strOf]
/-- neither begins the other's. -/
theorem num_apart {x y : Int} (hx : 0 ≤ x ∧ x < 18446744073709551616) (hy : 0 ≤ y ∧ y < 18446744073709551616) (hne : x ≠ y) (n : Nat) (hn : n = min (1 + szI x) (1 + szI y)) : strOf ((numB x).take n) ≠ strOf ((numB y).take n) := by
  intro h
  have h' := strOf_inj (take_byte (numB_byte x) n) (take_byte (numB_byte y) n) h
  by_cases e : szI x = szI y
  · rw [List.take_of_length_le (by rw [numB_length]; omega), List.take_of_length_le (by rw [numB_length]; omega)] at h'
    exact hne (num_inj hx hy h')
  · obtain ⟨m, hm⟩ : ∃ m, n = m + 1 := ⟨n - 1, by omega⟩
    rw [hm, numB, numB, List.take_succ_cons, List.take_succ_cons] at h'
    injection h' with h1 _
    omega
theorem szI_div (z : Int) (h0 : 1 ≤ z) (h1 : z < 18446744073709551616) : szI (z / 256) + 1 = szI z := by
  have h2 := szI_is (z / 256)
  have h3 := szI_is z
  omega
end Go.Proofs.Ytldjefhgbigplaa
