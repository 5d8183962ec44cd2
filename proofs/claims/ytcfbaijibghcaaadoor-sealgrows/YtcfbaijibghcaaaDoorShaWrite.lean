import Derived.Test.YtcfbaijibghcaaaDoorShaSum
namespace Go.Proofs.YtcfbaijibghcaaaDoor
open Go.RowKit Go.Deep

/-- THE VALUE v IS A SLICE OF THESE BYTES, of which none lies in block b. -/
def bytesAt (w : World) (b : Nat) (v : Value) (l : List Int) : Prop :=
  (v = .slice none 0 0 ∧ l = []) ∨ (∃ pb po cap : Nat, v = .slice (some ⟨pb, po, none⟩) l.length cap ∧ l.length ≤ cap ∧ cap ≤ maxLen ∧ pb < w.heap.size ∧ pb ≠ b ∧
    (∀ i, i < l.length → w.cell? ⟨pb, po + i, none⟩ = some (.int .u8 (l.getD i 0))) ∧ ∀ i, 0 ≤ l.getD i 0 ∧ l.getD i 0 ≤ 255) ∨ ((∃ a, v = .slice a 0 0) ∧ l = [])
theorem bytesAt.but {w w' : World} {b B : Nat} {v : Value} {l : List Int} (h : bytesAt w b v l) (hb : But B b w w') (hB : w.heap.size ≤ B) : bytesAt w' b v l := by
  rcases h with h | ⟨pb, po, cap, h1, h2, h3, h4, h5, h6, h7⟩ | h
  · exact Or.inl h
  · exact Or.inr (Or.inl ⟨pb, po, cap, h1, h2, h3, Nat.lt_of_lt_of_le h4 hb.size, h5, fun i hi => by rw [hb.cell (by omega) h5]; exact h6 i hi, h7⟩)
  · exact Or.inr (Or.inr h)

set_option maxHeartbeats 1000000 in
theorem add_nil (b : Nat) (a : Option Addr) (w : World) :
    Calls Tryd.prog 49 #[.pointer (some ⟨b, 0, none⟩), .slice a 0 0] w fun e w' => e = .returned (.tuple #[]) ∧ w' = w := by
  go_enter Tryd.func49, Tryd.ntmps49
  go_wp2
  go_loop [1] (fun s => s = .slice a 0 0) (fun _ => 0)
  case atStart => rfl
  case round =>
    subst hrel
    go_wp2
    go_end0
    exact ⟨rfl, rfl⟩
theorem add_bytes (b : Nat) (l p : List Int) (v : Value) (w : World) (h : hashOf w b l) (hp : bytesAt w b v p) (hbig : l.length + p.length < 1099511627776)
    (hk : ∀ i, i < 64 → w.cell? ⟨0, i, none⟩ = some (.int .u32 (kAt i))) (hb0 : b ≠ 0) :
    Calls Tryd.prog 49 #[.pointer (some ⟨b, 0, none⟩), v] w fun e w' => e = .returned (.tuple #[]) ∧ But w.heap.size b w w' ∧ hashOf w' b (l ++ p) := by
  rcases hp with ⟨rfl, rfl⟩ | ⟨pb, po, cap, rfl, h2, h3, h4, h5, h6, h7⟩ | ⟨⟨a, rfl⟩, rfl⟩
  · refine (add_nil b none w).mono ?_
    rintro e w' ⟨rfl, rfl⟩
    exact ⟨rfl, But.refl _ _ _, by rw [List.append_nil]; exact h⟩
  · exact add_any b l p pb po cap w h h5 h4 h2 hbig h6 h7 hk hb0 h3
  · refine (add_nil b a w).mono ?_
    rintro e w' ⟨rfl, rfl⟩
    exact ⟨rfl, But.refl _ _ _, by rw [List.append_nil]; exact h⟩

set_option maxHeartbeats 1000000 in
set_option maxRecDepth 100000 in
theorem write_any (b : Nat) (l : List Int) (n qb qo cap : Nat) (sv : Nat → Value) (ps : Nat → List Int) (w : World) (h : hashAny w b l) (hqb : qb ≠ b) (hql : qb < w.heap.size)
    (hcell : ∀ i, i < n → w.cell? ⟨qb, qo + i, none⟩ = some (sv i)) (hps : ∀ i, i < n → bytesAt w b (sv i) (ps i)) (hbig : ∀ i, i ≤ n → l.length + (flatTo ps i).length < 1099511627776) (hn : n ≤ maxLen)
    (hk : ∀ i, i < 64 → w.cell? ⟨0, i, none⟩ = some (.int .u32 (kAt i))) (hb0 : b ≠ 0) :
    Calls Tryd.prog 37 #[.pointer (some ⟨b, 0, none⟩), .slice (some ⟨qb, qo, none⟩) n cap] w fun e w' => e = .returned (.tuple #[]) ∧ But w.heap.size b w w' ∧ hashOf w' b (l ++ flatTo ps n) := by
  unfold maxLen at hn
  have hlt := h.lt
  go_enter Tryd.func37, Tryd.ntmps37
  go_wp2_with fail
  refine (begin_any b l w h).mono ?_
  rintro e w1 ⟨rfl, hb1, ho1⟩
  go_wp2
  go_loopw [12] (fun i wr => ∃ k : Nat, k ≤ n ∧ i = .int .i64 k ∧ But w.heap.size b w wr ∧ hashOf wr b (l ++ flatTo ps k)) (fun i _ => n - (intOf i).toNat)
  case atStart => exact ⟨0, by omega, rfl, hb1, by rw [flatTo, List.append_nil]; exact ho1⟩
  case round =>
    clear hb1 ho1
    obtain ⟨k, hkn, rfl, hb, ho⟩ := hrel
    by_cases hlt2 : k < n
    · have c0 : wr.cell? ⟨qb, qo + k, none⟩ = some (sv k) := by rw [hb.cell hql hqb]; exact hcell k hlt2
      have b0 : (0 : Int) ≤ (k : Int) := by omega
      have b1 : (k : Int) < (n : Int) := by omega
      have hbk := hbig (k + 1) (by omega)
      have HB : Hid (l.length + (flatTo ps (k + 1)).length < 1099511627776) := hbk
      clear hbk
      go_wp2_with fail
      refine (add_bytes b (l ++ flatTo ps k) (ps k) (sv k) _ ho ((hps k hlt2).but hb (Nat.le_refl _)) ?_ ?_ hb0).mono ?_
      · have := HB.out; rw [flatTo, List.length_append] at this; rw [List.length_append]; omega
      · intro i hi; rw [hb.cell (by omega) (Ne.symm hb0)]; exact hk i hi
      rintro e w2 ⟨rfl, hb2, ho2⟩
      go_wp2
      go_light
      exact ⟨⟨k + 1, by omega, by go_num, hb.trans (hb2.mono hb.size), by rw [flatTo, ← List.append_assoc]; exact ho2⟩, by simp [intOf]; omega⟩
    · obtain rfl : k = n := by omega
      go_wp2
      go_end0
      exact ⟨rfl, hb, ho⟩

set_option maxHeartbeats 1000000 in
theorem write_none (b : Nat) (l : List Int) (w : World) (h : hashAny w b l) :
    Calls Tryd.prog 37 #[.pointer (some ⟨b, 0, none⟩), .slice none 0 0] w fun e w' => e = .returned (.tuple #[]) ∧ But w.heap.size b w w' ∧ hashOf w' b l := by
  go_enter Tryd.func37, Tryd.ntmps37
  go_wp2_with fail
  refine (begin_any b l w h).mono ?_
  rintro e w1 ⟨rfl, hb1, ho1⟩
  go_wp2
  go_loop [12] (fun i => i = .int .i64 0) (fun _ => 0)
  case atStart => rfl
  case round =>
    subst hrel
    go_wp2
    go_end0
    exact ⟨rfl, hb1, ho1⟩
set_option maxHeartbeats 1000000 in
theorem write_nil (v : Value) (w : World) :
    Calls Tryd.prog 37 #[.pointer none, v] w fun e w' => e = .returned (.tuple #[]) ∧ w' = w := by
  go_enter Tryd.func37, Tryd.ntmps37
  go_wp2
  exact bodyPost_ret (results_none rfl _ _ _) rfl ⟨rfl, rfl⟩
end Go.Proofs.YtcfbaijibghcaaaDoor
