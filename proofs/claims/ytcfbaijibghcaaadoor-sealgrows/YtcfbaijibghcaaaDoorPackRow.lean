import Derived.Test.YtcfbaijibghcaaaDoorPackAdd
namespace Go.Proofs.YtcfbaijibghcaaaDoor
open Go.RowKit Go.Deep

/-- THE VALUE v IS A SLICE OF n ELEMENTS OF ONE CELL EACH. -/
def isRow (w : World) (v : Value) (n : Nat) (f : Nat → Value) : Prop :=
  (v = .slice none 0 0 ∧ n = 0) ∨ ∃ pb po cap : Nat, v = .slice (some ⟨pb, po, none⟩) n cap ∧ pb < w.heap.size ∧ n ≤ maxLen ∧ ∀ i, i < n → w.cell? ⟨pb, po + i, none⟩ = some (f i)
theorem isRow.below {w w' : World} {B : Nat} {v : Value} {n : Nat} {f : Nat → Value} (h : isRow w v n f) (hb : Below B w w') (hB : w.heap.size ≤ B) : isRow w' v n f := by
  rcases h with h | ⟨pb, po, cap, h1, h2, h3, h4⟩
  · exact Or.inl h
  · exact Or.inr ⟨pb, po, cap, h1, Nat.lt_of_lt_of_le h2 hb.size, h3, fun i hi => by rw [hb.cell (p := ⟨pb, po + i, none⟩) (Nat.lt_of_lt_of_le h2 hB)]; exact h4 i hi⟩
theorem isRow.open {w : World} {v : Value} {n : Nat} {f : Nat → Value} (h : isRow w v n f) :
    ∃ a cap, v = .slice a n cap ∧ n ≤ maxLen ∧ ∀ k, k < n → ∃ qb qo, a = some ⟨qb, qo, none⟩ ∧ qb < w.heap.size ∧ w.cell? ⟨qb, qo + k, none⟩ = some (f k) := by
  rcases h with ⟨rfl, rfl⟩ | ⟨pb, po, cap, rfl, h2, h3, h4⟩
  · exact ⟨_, _, rfl, Nat.zero_le _, fun k hk => by omega⟩
  · exact ⟨_, _, rfl, h3, fun k hk => ⟨pb, po, rfl, h2, h4 k hk⟩⟩
theorem isParts.open {w : World} {v : Value} {n : Nat} {ps : Nat → List Int} (h : isParts w v n ps) :
    ∃ a cap, v = .slice a n cap ∧ n ≤ maxLen ∧ ∀ k, k < n → ∃ qb qo u, a = some ⟨qb, qo, none⟩ ∧ qb < w.heap.size ∧ w.cell? ⟨qb, qo + k, none⟩ = some u ∧ anyBytes w u (ps k) := by
  rcases h with ⟨rfl, rfl⟩ | ⟨pb, po, cap, sv, rfl, h2, h3, h4⟩
  · exact ⟨_, _, rfl, Nat.zero_le _, fun k hk => by omega⟩
  · exact ⟨_, _, rfl, h3, fun k hk => ⟨pb, po, sv k, rfl, h2, (h4 k hk).1, (h4 k hk).2⟩⟩
/-- .. OR NONE, wherever it says that they lie. -/
def anyParts (w : World) (v : Value) (n : Nat) (ps : Nat → List Int) : Prop := isParts w v n ps ∨ ((∃ a, v = .slice a 0 0) ∧ n = 0)
theorem isParts.any {w : World} {v : Value} {n : Nat} {ps : Nat → List Int} (h : isParts w v n ps) : anyParts w v n ps := Or.inl h
theorem anyParts.below {w w' : World} {B : Nat} {v : Value} {n : Nat} {ps : Nat → List Int} (h : anyParts w v n ps) (hb : Below B w w') (hB : w.heap.size ≤ B) : anyParts w' v n ps := by
  rcases h with h | h
  · exact Or.inl (h.below hb hB)
  · exact Or.inr h
theorem anyParts.open {w : World} {v : Value} {n : Nat} {ps : Nat → List Int} (h : anyParts w v n ps) :
    ∃ a cap, v = .slice a n cap ∧ n ≤ maxLen ∧ ∀ k, k < n → ∃ qb qo u, a = some ⟨qb, qo, none⟩ ∧ qb < w.heap.size ∧ w.cell? ⟨qb, qo + k, none⟩ = some u ∧ anyBytes w u (ps k) := by
  rcases h with h | ⟨⟨a, rfl⟩, rfl⟩
  · exact h.open
  · exact ⟨_, _, rfl, Nat.zero_le _, fun k hk => by omega⟩
theorem isRow_one (w : World) (u : Value) (t : TypeId) : isRow (w.alloc (.cells #[u] t)) (.slice (some ⟨w.heap.size, 0, none⟩) 1 1) 1 (fun _ => u) :=
  Or.inr ⟨w.heap.size, 0, 1, rfl, by simp, by unfold maxLen; omega, fun i hi => by
    obtain rfl : i = 0 := by omega
    exact one_cell w _ _⟩
theorem flatTo_len_le (ps : Nat → List Int) (m : Nat) (h : ∀ i, (ps i).length ≤ m) : ∀ k, (flatTo ps k).length ≤ m * k
  | 0 => by simp [flatTo]
  | k + 1 => by
    have := flatTo_len_le ps m h k
    have h2 := h k
    rw [flatTo, List.length_append, Nat.mul_succ]; omega

/-- the numbers' bytes. -/
def numsB (f : Nat → Int) (i : Nat) : List Int := numB (f i)
theorem numsB_le (f : Nat → Int) (i : Nat) : (numsB f i).length ≤ 9 := by rw [numsB, numB_length]; have := szI_le (f i); omega
end Go.Proofs.YtcfbaijibghcaaaDoor
