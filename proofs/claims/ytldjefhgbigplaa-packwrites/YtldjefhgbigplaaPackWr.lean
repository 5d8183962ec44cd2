import Derived.Test.YtldjefhgbigplaaPackAdd
namespace Go.Proofs.Ytldjefhgbigplaa
open Go.RowKit Go.Deep

/-- THE VALUE v IS A SLICE OF n ELEMENTS OF ONE CELL EACH. -/
def isRow (w : World) (v : Value) (n : Nat) (f : Nat → Value) : Prop :=
  (v = .slice none 0 0 ∧ n = 0) ∨ ∃ pb po cap : Nat, v = .slice (some ⟨pb, po, none⟩) n cap ∧ pb < w.heap.size ∧ n ≤ maxLen ∧ ∀ i, i < n → w.cell? ⟨pb, po + i, none⟩ = some (f i)
theorem isRow.below {w w' : World} {B : Nat} {v : Value} {n : Nat} {f : Nat → Value} (h : isRow w v n f) (hb : Below B w w') (hB : w.heap.size ≤ B) : isRow w' v n f := by
  rcases h with h | ⟨pb, po, cap, h1, h2, h3, h4⟩
  · exact Or.inl h
  · exact Or.inr ⟨pb, po, cap, h1, Nat.lt_of_lt_of_le h2 hb.size, h3, fun i hi => by rw [hb.cell (p := ⟨pb, po + i, none⟩) (Nat.lt_of_lt_of_le h2 hB)]; exact h4 i hi⟩
theorem isRow.open {w : World} {v : Value} {n : Nat} {f : Nat → Value} (h : isRow w v n f) :
    ∃ a cap, v = .slice a n cap ∧ n ≤ maxLen ∧ ∀ k, k < n → ∃ qb qo, a = some ⟨qb, qo, none⟩ ∧ qb < w.heap.size ∧ w.cell? ⟨qb, qo + k, none⟩ = some (f k) := by
  rcases h with ⟨rfl, rfl⟩ | ⟨pb, po, cap, rfl, h2, h3, h4⟩
  · exact ⟨_, _, rfl, Nat.zero_le _, fun k hk => by omega⟩
  · exact ⟨_, _, rfl, h3, fun k hk => ⟨pb, po, rfl, h2, h4 k hk⟩⟩
theorem isParts.open {w : World} {v : Value} {n : Nat} {ps : Nat → List Int} (h : isParts w v n ps) :
    ∃ a cap, v = .slice a n cap ∧ n ≤ maxLen ∧ ∀ k, k < n → ∃ qb qo u, a = some ⟨qb, qo, none⟩ ∧ qb < w.heap.size ∧ w.cell? ⟨qb, qo + k, none⟩ = some u ∧ anyBytes w u (ps k) := by
  rcases h with ⟨rfl, rfl⟩ | ⟨pb, po, cap, sv, rfl, h2, h3, h4⟩
  · exact ⟨_, _, rfl, Nat.zero_le _, fun k hk => by omega⟩
  · exact ⟨_, _, rfl, h3, fun k hk => ⟨pb, po, sv k, rfl, h2, (h4 k hk).1, (h4 k hk).2⟩⟩
theorem isRow_one (w : World) (u : Value) (t : TypeId) : isRow (w.alloc (.cells #[u] t)) (.slice (some ⟨w.heap.size, 0, none⟩) 1 1) 1 (fun _ => u) :=
  Or.inr ⟨w.heap.size, 0, 1, rfl, by simp, by unfold maxLen; omega, fun i hi => by
    obtain rfl : i = 0 := by omega
    exact one_cell w _ _⟩
theorem flatTo_len_le (ps : Nat → List Int) (m : Nat) (h : ∀ i, (ps i).length ≤ m) : ∀ k, (flatTo ps k).length ≤ m * k
  | 0 => by simp [flatTo]
  | k + 1 => by
    have := flatTo_len_le ps m h k
    have h2 := h k
    rw [flatTo, List.length_append, Nat.mul_succ]; omega

/-- the numbers' bytes. -/
def numsB (f : Nat → Int) (i : Nat) : List Int := numB (f i)
theorem numsB_le (f : Nat → Int) (i : Nat) : (numsB f i).length ≤ 9 := by rw [numsB, numB_length]; have := szI_le (f i); omega
set_option maxHeartbeats 1000000 in
theorem num_any (l : List Int) (v u : Value) (n : Nat) (f : Nat → Int) (w : World) (hv : isBytes w v l) (hu : isRow w u n (fun i => .int .u64 (f i))) (hf : ∀ i, i < n → 0 ≤ f i ∧ f i < 18446744073709551616) (hs : l.length + 9 * n ≤ 1000000000000) :
    Calls Try.prog 10 #[v, u] w fun e w' => ∃ v', e = .returned v' ∧ newBytes w' w.heap.size v' (l ++ flatTo (numsB f) n) ∧ Below w.heap.size w w' := by
  obtain ⟨a, cap, rfl, hnm, hcell⟩ := hu.open
  clear hu
  have hlen := flatTo_len_le (numsB f) 9 (numsB_le f)
  go_enter Try.func10, Try.ntmps10
  go_wp2
  go_loopw [5, 13] (fun z i wr => ∃ k : Nat, k ≤ n ∧ i = .int .i64 k ∧ z = .int .i64 ((flatTo (numsB f) k).length : Int) ∧ wr = w) (fun _ i _ => n - (intOf i).toNat)
  case atStart => exact ⟨0, by omega, rfl, rfl, rfl⟩
  case round =>
    obtain ⟨k, hk, rfl, rfl, hwr⟩ := hrel
    obtain rfl := hwr.symm
    clear hwr
    have hlk := hlen k
    by_cases hlt : k < n
    · obtain ⟨qb, qo, rfl, hq, hc⟩ := hcell k hlt
      obtain ⟨f0, f1⟩ := hf k hlt
      have b0 : (0 : Int) ≤ (k : Int) := by omega
      have b1 : (k : Int) < (n : Int) := by omega
      have hsz := szI_le (f k)
      have HL : Hid ((flatTo (numsB f) (k + 1)).length = (flatTo (numsB f) k).length + (1 + szI (f k))) := by
        have : (flatTo (numsB f) (k + 1)).length = (flatTo (numsB f) k).length + (1 + szI (f k)) := by rw [flatTo, List.length_append, numsB, numB_length]
        exact this
      generalize hLL : (flatTo (numsB f) k).length = L at *
      have hL : (L : Int) ≤ 1000000000000 := by omega
      go_wp2_with (first | (go_at_call 29; refine (numberSize_any (f k) f0 f1 _).mono ?_; rintro e w' ⟨rfl, hw⟩; obtain rfl := hw.symm; clear hw))
      go_light
      exact ⟨⟨k + 1, by omega, by go_num, by rw [HL.out]; go_num, trivial⟩, by simp [intOf]; omega⟩
    · obtain rfl : k = n := by omega
      have hL9 := hlen k
      generalize hLL : (flatTo (numsB f) k).length = L at *
      go_wp2_with (first | (go_at_call 30; refine (withRoom_any l v L _ hv (by omega)).mono ?_; rintro e w1 ⟨v1, rfl, hn1, hb1⟩))
      have HN : Hid _ := hn1
      have HB : Hid _ := hb1
      clear hn1 hb1 hLL
      go_loopw [8, 27] (fun z i wr => ∃ j : Nat, j ≤ k ∧ i = .int .i64 j ∧ newBytes wr w.heap.size z (l ++ flatTo (numsB f) j) ∧ Below w.heap.size w wr) (fun _ i _ => k - (intOf i).toNat)
      case atStart => exact ⟨0, by omega, rfl, by rw [flatTo, List.append_nil]; exact HN.out, HB.out⟩
      case round =>
        clear HN HB
        obtain ⟨j, hj, rfl, hn, hb⟩ := hrel
        by_cases hlt2 : j < k
        · obtain ⟨qb, qo, rfl, hq, hc⟩ := hcell j hlt2
          obtain ⟨f0, f1⟩ := hf j hlt2
          have b0 : (0 : Int) ≤ (j : Int) := by omega
          have b1 : (j : Int) < (k : Int) := by omega
          have hlj := hlen j
          rw [← hb.cell (p := ⟨qb, qo + j, none⟩) hq] at hc
          have HN : Hid _ := hn
          clear hn
          go_wp2_with (first | (go_at_call 31; refine (addNumber_any (f j) f0 f1 _ _ _ _ HN.out (by rw [List.length_append]; omega) hb.size).mono ?_; rintro e w2 ⟨v2, rfl, hn2, hb2⟩))
          go_light
          exact ⟨⟨j + 1, by omega, by go_num, by rw [flatTo, ← List.append_assoc]; exact hn2, hb.trans hb2⟩, by simp [intOf]; omega⟩
        · obtain rfl : j = k := by omega
          have HN : Hid _ := hn
          clear hn
          go_wp2
          go_ret
          exact ⟨_, rfl, HN.out, hb⟩
end Go.Proofs.Ytldjefhgbigplaa
