import Derived.Lib.Tables
/- Numbers as bytes: how many, and which. Plain mathematics. -/
namespace Go.Proofs.YtcfbaijibghcaaaDoor

/-- how many bytes a number has behind its first. -/
def szI (x : Int) : Nat :=
  if x < 1 then 0 else if x < 256 then 1 else if x < 65536 then 2 else if x < 16777216 then 3 else if x < 4294967296 then 4
  else if x < 1099511627776 then 5 else if x < 281474976710656 then 6 else if x < 72057594037927936 then 7 else 8
theorem szI_le (x : Int) : szI x ≤ 8 := by unfold szI; repeat' split <;> try omega
theorem len8_small : ∀ k : Fin 256, (Go.Lib.len8 (k.val : Int) = 0 ↔ k.val = 0) ∧ 0 ≤ Go.Lib.len8 (k.val : Int) ∧ Go.Lib.len8 (k.val : Int) ≤ 8 := by decide +kernel
theorem len8_is (x : Int) (h0 : 0 ≤ x) (h1 : x < 256) : (Go.Lib.len8 x = 0 ↔ x = 0) ∧ 0 ≤ Go.Lib.len8 x ∧ Go.Lib.len8 x ≤ 8 := by
  obtain ⟨m, rfl⟩ := Int.eq_ofNat_of_zero_le h0
  have := len8_small ⟨m, by omega⟩
  refine ⟨⟨fun h => ?_, fun h => ?_⟩, this.2⟩
  · have := this.1.1 h; simp at this; omega
  · exact this.1.2 (by simp; omega)
/-- the byte i of k, the highest first. -/
def digI (x : Int) (k i : Nat) : Int := x / 2 ^ (8 * (k - 1 - i)) % 256
def digsI (x : Int) (k : Nat) : List Int := (List.range k).map (digI x k)
/-- A NUMBER's BYTES. -/
def numB (x : Int) : List Int := (szI x : Int) :: digsI x (szI x)
theorem numB_length (x : Int) : (numB x).length = 1 + szI x := by simp [numB, digsI]; omega
theorem digI_byte (x : Int) (k i : Nat) : 0 ≤ digI x k i ∧ digI x k i ≤ 255 := by unfold digI; omega
theorem digsI_byte (x : Int) (k : Nat) (i : Nat) : 0 ≤ (digsI x k).getD i 0 ∧ (digsI x k).getD i 0 ≤ 255 := by
  rw [List.getD_eq_getElem?_getD, digsI, List.getElem?_map]
  by_cases h : i < k
  · rw [List.getElem?_range h]; exact digI_byte x k i
  · rw [List.getElem?_eq_none (by simp; omega)]; exact ⟨by simp, by simp⟩
theorem numB_byte (x : Int) (i : Nat) : 0 ≤ (numB x).getD i 0 ∧ (numB x).getD i 0 ≤ 255 := by
  have := szI_le x
  cases i with
  | zero => simp [numB]; omega
  | succ i => rw [numB, List.getD_cons_succ]; exact digsI_byte x _ i

/-- a number out of its bytes. -/
def horn (l : List Int) : Int := l.foldl (fun a b => a * 256 + b) 0
theorem horn_snoc (l : List Int) (b : Int) : horn (l ++ [b]) = horn l * 256 + b := by simp [horn]
theorem digsI_succ (x : Int) (k : Nat) : digsI x (k + 1) = digsI (x / 256) k ++ [x % 256] := by
  rw [digsI, List.range_succ, List.map_append]
  congr 1
  · apply List.map_congr_left
    intro i hi
    have hi' : i < k := by simpa using hi
    unfold digI
    have : 8 * (k + 1 - 1 - i) = 8 + 8 * (k - 1 - i) := by omega
    rw [this, Int.pow_add, ← Int.ediv_ediv_of_nonneg (by omega)]
    rfl
  · simp [digI]
theorem horn_digsI : ∀ (k : Nat) (x : Int), 0 ≤ x → x < 256 ^ k → horn (digsI x k) = x
  | 0, x, h0, h1 => by have : x = 0 := by simp at h1; omega
                       subst this; rfl
  | k + 1, x, h0, h1 => by
    rw [digsI_succ, horn_snoc, horn_digsI k (x / 256) (by omega) (by
      have : (256 : Int) ^ (k + 1) = 256 ^ k * 256 := Int.pow_succ _ _
      rw [this] at h1
      generalize (256 : Int) ^ k = p at *
      omega)]
    omega
theorem horn_bound : ∀ (l : List Int), (∀ b ∈ l, 0 ≤ b ∧ b ≤ 255) → 0 ≤ horn l ∧ horn l < 256 ^ l.length := by
  intro l
  have key : ∀ (l : List Int) (a : Int), 0 ≤ a → (∀ b ∈ l, 0 ≤ b ∧ b ≤ 255) → 0 ≤ l.foldl (fun a b => a * 256 + b) a ∧ l.foldl (fun a b => a * 256 + b) a < (a + 1) * 256 ^ l.length := by
    intro l
    induction l with
    | nil => intro a ha _; simp; omega
    | cons b l ih =>
      intro a ha hb
      have h1 := hb b (by simp)
      obtain ⟨i1, i2⟩ := ih (a * 256 + b) (by omega) (fun c hc => hb c (by simp [hc]))
      refine ⟨i1, Int.lt_of_lt_of_le i2 ?_⟩
      rw [List.length_cons, Int.pow_succ]
      have hp : (0 : Int) < 256 ^ l.length := Int.pow_pos (by omega)
      generalize (256 : Int) ^ l.length = p at *
      have : (a * 256 + b + 1) * p ≤ ((a + 1) * 256) * p := Int.mul_le_mul_of_nonneg_right (by omega) (by omega)
      rw [Int.mul_comm p 256, ← Int.mul_assoc]; exact this
  intro h
  have := key l 0 (by omega) h
  simpa [horn] using this
/-- k bytes are the digits of what they make. -/
theorem digsI_horn : ∀ (k : Nat) (l : List Int), l.length = k → (∀ b ∈ l, 0 ≤ b ∧ b ≤ 255) → digsI (horn l) k = l
  | 0, l, hl, _ => by obtain rfl := List.length_eq_zero_iff.1 hl; rfl
  | k + 1, l, hl, hb => by
    obtain ⟨m, b, rfl⟩ : ∃ m b, l = m ++ [b] := ⟨l.dropLast, l.getLast (by intro e; rw [e] at hl; simp at hl), (List.dropLast_concat_getLast _).symm⟩
    have h1 := hb b (by simp)
    have h2 := horn_bound m (fun c hc => hb c (by simp [hc]))
    rw [digsI_succ, horn_snoc]
    have e1 : (horn m * 256 + b) / 256 = horn m := by omega
    have e2 : (horn m * 256 + b) % 256 = b := by omega
    rw [e1, e2, digsI_horn k m (by simp at hl; omega) (fun c hc => hb c (by simp [hc]))]
end Go.Proofs.YtcfbaijibghcaaaDoor
