import Derived.Test.YtcfbaijibghcaaaDoorSealAlike
/- Preimages are told apart. Plain mathematics. -/
namespace Go.Proofs.YtcfbaijibghcaaaDoor
set_option linter.unusedSimpArgs false
set_option linter.unusedVariables false
open Go.RowKit Go.Deep

theorem numB_apart {x y : Int} {r s : List Int} (hx : 0 ≤ x ∧ x < 18446744073709551616) (hy : 0 ≤ y ∧ y < 18446744073709551616) (h : numB x ++ r = numB y ++ s) : x = y ∧ r = s := by
  have hp : ∀ z : Int, 0 ≤ z → z < 18446744073709551616 → z < 256 ^ szI z := fun z h0 h1 => by
    unfold szI
    repeat' split
    all_goals (simp only [Int.reducePow]; omega)
  unfold numB at h
  rw [List.cons_append, List.cons_append] at h
  injection h with h1 h2
  have hs : szI x = szI y := by omega
  have h3 := List.append_inj h2 (by simp [digsI, hs])
  refine ⟨?_, h3.2⟩
  have ex := horn_digsI (szI x) x hx.1 (hp x hx.1 hx.2)
  have ey := horn_digsI (szI y) y hy.1 (hp y hy.1 hy.2)
  rw [← ex, ← ey, h3.1]
theorem blobB_apart {p q r s : List Int} (hp : p.length < 1000000000) (hq : q.length < 1000000000) (h : blobB p ++ r = blobB q ++ s) : p = q ∧ r = s := by
  unfold blobB at h
  rw [List.append_assoc, List.append_assoc] at h
  obtain ⟨h1, h2⟩ := numB_apart ⟨by omega, by omega⟩ ⟨by omega, by omega⟩ h
  exact List.append_inj h2 (by omega)
theorem blobB_ne (p r : List Int) : blobB p ++ r ≠ [] := by unfold blobB numB; simp
/-- the parts from place i on. -/
def flatF (ps : Nat → List Int) (i : Nat) : Nat → List Int
  | 0 => []
  | k + 1 => blobB (ps i) ++ flatF ps (i + 1) k
theorem flatF_snoc (ps : Nat → List Int) : ∀ k i, flatF ps i (k + 1) = flatF ps i k ++ blobB (ps (i + k))
  | 0, i => by simp [flatF]
  | k + 1, i => by rw [flatF, flatF_snoc ps k (i + 1), flatF, List.append_assoc, show i + 1 + k = i + (k + 1) by omega]
theorem flatF_to (ps : Nat → List Int) : ∀ n, flatTo (blobsB ps) n = flatF ps 0 n
  | 0 => rfl
  | n + 1 => by rw [flatTo, flatF_to ps n, flatF_snoc, Nat.zero_add]; rfl
theorem flatF_apart (ps qs : Nat → List Int) : ∀ (n m i : Nat), (∀ j, (ps (i + j)).length < 1000000000 ∨ n ≤ j) → (∀ j, (qs (i + j)).length < 1000000000 ∨ m ≤ j) → flatF ps i n = flatF qs i m → n = m ∧ ∀ j, j < n → ps (i + j) = qs (i + j)
  | 0, 0, i, _, _, _ => ⟨rfl, fun j hj => by omega⟩
  | 0, m + 1, i, _, _, h => absurd h.symm (blobB_ne _ _)
  | n + 1, 0, i, _, _, h => absurd h (blobB_ne _ _)
  | n + 1, m + 1, i, h1, h2, h => by
    rw [flatF, flatF] at h
    obtain ⟨e1, e2⟩ := blobB_apart (by rcases h1 0 with h | h; exact h; omega) (by rcases h2 0 with h | h; exact h; omega) h
    obtain ⟨e3, e4⟩ := flatF_apart ps qs n m (i + 1) (fun j => by rcases h1 (j + 1) with h | h; exact Or.inl (by rw [show i + 1 + j = i + (j + 1) by omega]; exact h); exact Or.inr (by omega)) (fun j => by rcases h2 (j + 1) with h | h; exact Or.inl (by rw [show i + 1 + j = i + (j + 1) by omega]; exact h); exact Or.inr (by omega)) e2
    refine ⟨by omega, fun j hj => ?_⟩
    match j with
    | 0 => exact e1
    | j + 1 => rw [show i + (j + 1) = i + 1 + j by omega]; exact e4 j (by omega)
theorem flatF_congr (ps qs : Nat → List Int) : ∀ n i, (∀ j, j < n → ps (i + j) = qs (i + j)) → flatF ps i n = flatF qs i n
  | 0, i, _ => rfl
  | n + 1, i, h => by rw [flatF, flatF, show ps i = qs i from h 0 (by omega), flatF_congr ps qs n (i + 1) (fun j hj => by rw [show i + 1 + j = i + (j + 1) by omega]; exact h (j + 1) (by omega))]
/-- PREIMAGES ARE THE SAME JUST WHERE KINDS AND PARTS ARE. -/
theorem preB_apart {k l : Int} {n m : Nat} {ps qs : Nat → List Int} (h1 : ∀ j, j < n → (ps j).length < 1000000000) (h2 : ∀ j, j < m → (qs j).length < 1000000000) : preB k n ps = preB l m qs ↔ k % 256 = l % 256 ∧ n = m ∧ ∀ j, j < n → ps j = qs j := by
  unfold preB
  rw [flatF_to, flatF_to]
  constructor
  · intro h
    simp only [List.cons_append, List.nil_append] at h
    injection h with e1 e2
    obtain ⟨e3, e4⟩ := flatF_apart ps qs n m 0 (fun j => by
      by_cases hj : j < n
      · exact Or.inl (by rw [Nat.zero_add]; exact h1 j hj)
      · exact Or.inr (by omega)) (fun j => by
      by_cases hj : j < m
      · exact Or.inl (by rw [Nat.zero_add]; exact h2 j hj)
      · exact Or.inr (by omega)) e2
    exact ⟨e1, e3, fun j hj => by have := e4 j hj; rw [Nat.zero_add] at this; exact this⟩
  · rintro ⟨e1, rfl, e3⟩
    rw [e1, flatF_congr ps qs n 0 (fun j hj => by rw [Nat.zero_add]; exact e3 j hj)]
/-- how long a preimage's parts are. -/
theorem numB_le (x : Int) : (numB x).length ≤ 9 := by rw [numB_length]; have := szI_le x; omega
theorem blobs_le (ps : Nat → List Int) : ∀ n, (flatTo (blobsB ps) n).length ≤ 9 * n + (flatTo ps n).length
  | 0 => by simp [flatTo]
  | n + 1 => by
    have := blobs_le ps n
    have h9 := numB_le ((ps n).length : Int)
    rw [flatTo, flatTo, List.length_append, List.length_append, show blobsB ps n = numB (ps n).length ++ ps n from rfl, List.length_append]
    omega
theorem part_le (ps : Nat → List Int) (n j : Nat) (h : j < n) : (ps j).length ≤ (flatTo ps n).length := by
  have := flatTo_mono ps n (j + 1) h
  rw [flatTo, List.length_append] at this; omega
end Go.Proofs.YtcfbaijibghcaaaDoor
