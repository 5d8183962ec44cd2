import Derived.Test.YtcfbaijibghcaaaDoorSealApartW
/- Where a clash is told, and where none is. Plain mathematics; three books. -/
namespace Go.Proofs.YtcfbaijibghcaaaDoor
set_option linter.unusedSimpArgs false
set_option linter.unusedVariables false
open Go.RowKit Go.Deep

theorem foundN_first {A : List Nt} {q : List Int} {i : Nat} (h : firstAt A q = some i) : (foundN A q).1 = q := by
  obtain ⟨s, hs⟩ := firstAt_get h
  unfold foundN
  rw [h]
  simp only
  rw [List.getD_eq_getElem?_getD, hs]; rfl
theorem firstAt_mem {A : List Nt} {x : Nt} (h : x ∈ A) : ∃ i, firstAt A x.1 = some i := by
  cases hf : firstAt A x.1 with
  | some i => exact ⟨i, rfl⟩
  | none =>
    unfold firstAt at hf
    rw [List.findIdx?_eq_none_iff] at hf
    have := hf x h
    simp at this
/-- WHAT Clash TELLS are two unlike ones of one sum. -/
theorem clashGo_some : ∀ (L A : List Nt) (s t : ByteArray), clashGo A L = some (s, t) → s ≠ t ∧ ∃ q : List Int, ((q, s) ∈ A ∨ (q, s) ∈ L) ∧ ((q, t) ∈ A ∨ (q, t) ∈ L)
  | [], A, s, t, h => by cases h
  | x :: r, A, s, t, h => by
    rw [clashGo] at h
    by_cases hc : (firstAt A x.1).isSome = true ∧ foundN A x.1 ≠ x
    · rw [if_pos hc] at h
      obtain ⟨i, hi⟩ := Option.isSome_iff_exists.1 hc.1
      have hs : (foundN A x.1).2 = s ∧ x.2 = t := by simpa using h
      have h1 := foundN_first hi
      have hm := foundN_mem hi
      refine ⟨fun e => hc.2 (Prod.ext h1 (by rw [hs.1, hs.2, e])), x.1, Or.inl ?_, Or.inr ?_⟩
      · rw [← hs.1, ← h1]; rw [h1]; exact (show ((foundN A x.1).1, (foundN A x.1).2) ∈ A from hm) |> fun h => by rw [h1] at h; exact h
      · rw [← hs.2]; exact List.mem_cons_self
    · rw [if_neg hc] at h
      obtain ⟨h1, q, h2, h3⟩ := clashGo_some r (addN A x) s t h
      refine ⟨h1, q, ?_, ?_⟩
      · rcases h2 with h2 | h2
        · rcases addN_mem h2 with h | h
          · exact Or.inl h
          · exact Or.inr (by rw [h]; exact List.mem_cons_self)
        · exact Or.inr (List.mem_cons_of_mem _ h2)
      · rcases h3 with h2 | h2
        · rcases addN_mem h2 with h | h
          · exact Or.inl h
          · exact Or.inr (by rw [h]; exact List.mem_cons_self)
        · exact Or.inr (List.mem_cons_of_mem _ h2)
theorem addN_has (A : List Nt) (x y : Nt) (h : y ∈ A ∨ y = x) : y ∈ addN A x := by
  by_cases e : x ∈ A
  · rw [addN_in e]
    rcases h with h | h
    · exact h
    · rw [h]; exact e
  · rw [addN_out e]
    rcases h with h | h <;> simp [h]
/-- WHERE IT TELLS NONE each sum has one text. -/
theorem clashGo_none : ∀ (L A : List Nt), (∀ x y, x ∈ A → y ∈ A → x.1 = y.1 → x = y) → clashGo A L = none → ∀ x y, (x ∈ A ∨ x ∈ L) → (y ∈ A ∨ y ∈ L) → x.1 = y.1 → x = y
  | [], A, hA, _, x, y, hx, hy, e => hA x y (by simpa using hx) (by simpa using hy) e
  | z :: r, A, hA, h, x, y, hx, hy, e => by
    rw [clashGo] at h
    by_cases hc : (firstAt A z.1).isSome = true ∧ foundN A z.1 ≠ z
    · rw [if_pos hc] at h; cases h
    · rw [if_neg hc] at h
      have hz : ∀ y, y ∈ A → y.1 = z.1 → y = z := fun y hy e => by
        obtain ⟨i, hi⟩ := firstAt_mem hy
        rw [e] at hi
        have h1 := foundN_first hi
        have hm := foundN_mem hi
        have h2 : foundN A z.1 = z := by
          by_cases h3 : foundN A z.1 = z
          · exact h3
          · exact absurd ⟨by rw [hi]; rfl, h3⟩ hc
        rw [← h2]
        exact hA y _ hy hm (by rw [h1, e])
      refine clashGo_none r (addN A z) (fun x y hx hy e => ?_) h x y ?_ ?_ e
      · rcases addN_mem hx with h1 | h1 <;> rcases addN_mem hy with h2 | h2
        · exact hA x y h1 h2 e
        · rw [h2]; exact hz x h1 (by rw [e, h2])
        · rw [h1]; exact (hz y h2 (by rw [← e, h1])).symm
        · rw [h1, h2]
      · rcases hx with h1 | h1
        · exact Or.inl (addN_has _ _ _ (Or.inl h1))
        · rcases List.mem_cons.1 h1 with h1 | h1
          · exact Or.inl (addN_has _ _ _ (Or.inr h1))
          · exact Or.inr h1
      · rcases hy with h1 | h1
        · exact Or.inl (addN_has _ _ _ (Or.inl h1))
        · rcases List.mem_cons.1 h1 with h1 | h1
          · exact Or.inl (addN_has _ _ _ (Or.inr h1))
          · exact Or.inr h1
/-- the note of an act. -/
def noteOf (x : AR) : Nt := (x.sum, strOf x.bytes)
/-- book b of three, behind k notes. -/
def bookN (acts : Nat → AR) (b : Nat) : Nat → List Nt
  | 0 => []
  | k + 1 => if k % 3 = b then addN (bookN acts b k) (noteOf (acts k)) else bookN acts b k
theorem bookN_mem (acts : Nat → AR) (b : Nat) : ∀ k x, x ∈ bookN acts b k ↔ ∃ j, j < k ∧ j % 3 = b ∧ x = noteOf (acts j)
  | 0, x => by simp [bookN]
  | k + 1, x => by
    rw [bookN]
    by_cases h : k % 3 = b
    · rw [if_pos h]
      constructor
      · intro hx
        rcases addN_mem hx with h1 | h1
        · obtain ⟨j, h2, h3, h4⟩ := (bookN_mem acts b k x).1 h1
          exact ⟨j, by omega, h3, h4⟩
        · exact ⟨k, by omega, h, h1⟩
      · rintro ⟨j, h2, h3, h4⟩
        by_cases e : j = k
        · subst e; exact addN_has _ _ _ (Or.inr h4)
        · exact addN_has _ _ _ (Or.inl ((bookN_mem acts b k x).2 ⟨j, by omega, h3, h4⟩))
    · rw [if_neg h, bookN_mem acts b k x]
      constructor
      · rintro ⟨j, h2, h3, h4⟩; exact ⟨j, by omega, h3, h4⟩
      · rintro ⟨j, h2, h3, h4⟩
        refine ⟨j, ?_, h3, h4⟩
        by_cases e : j = k
        · subst e; exact absurd h3 h
        · omega
theorem bookN_len (acts : Nat → AR) (b : Nat) : ∀ k, (bookN acts b k).length ≤ k
  | 0 => by simp [bookN]
  | k + 1 => by
    have := bookN_len acts b k
    rw [bookN]
    split
    · have := addN_len (bookN acts b k) (noteOf (acts k)); omega
    · omega
theorem three_mem (acts : Nat → AR) (n : Nat) (x : Nt) : x ∈ joinF (fun b => bookN acts b n) 0 3 ↔ ∃ j, j < n ∧ x = noteOf (acts j) := by
  simp only [joinF, List.append_nil, List.mem_append, bookN_mem]
  constructor
  · rintro (⟨j, h1, _, h2⟩ | ⟨j, h1, _, h2⟩ | ⟨j, h1, _, h2⟩) <;> exact ⟨j, h1, h2⟩
  · rintro ⟨j, h1, h2⟩
    have : j % 3 = 0 ∨ j % 3 = 1 ∨ j % 3 = 2 := by omega
    rcases this with h | h | h
    · exact Or.inl ⟨j, h1, h, h2⟩
    · exact Or.inr (Or.inl ⟨j, h1, h, h2⟩)
    · exact Or.inr (Or.inr ⟨j, h1, h, h2⟩)

/-- THREE BOOKS, in memory of their own from w on; the slice of them. -/
def threeAt (w wr : World) (N : Nat → List Nt) : Prop :=
  ∃ F : Nat → Nat → Prop, (∀ b, b < 3 → bookAt wr (F b) (w.heap.size + b) (N b) 0) ∧ (∀ b j, b < 3 → F b j → w.heap.size ≤ j ∧ j ≠ w.heap.size + 3) ∧ (∀ b c j, b < 3 → c < 3 → b ≠ c → F b j → ¬ F c j) ∧
    wr.rowIs (w.heap.size + 3) 26 3 (fun b => .pointer (some ⟨w.heap.size + b, 0, none⟩)) ∧ Below w.heap.size w wr
theorem threeAt.congr {w wr : World} {N M : Nat → List Nt} (h : threeAt w wr N) (e : ∀ b, b < 3 → N b = M b) : threeAt w wr M := by
  obtain ⟨F, h1, h2, h3, h4, h5⟩ := h
  exact ⟨F, fun b hb => e b hb ▸ h1 b hb, h2, h3, h4, h5⟩
/-- a note in one of them. -/
theorem threeAt.note {w wr : World} {N : Nat → List Nt} (h : threeAt w wr N) (b : Nat) (hb : b < 3) : ∃ F : Nat → Prop, bookAt wr F (w.heap.size + b) (N b) 0 ∧ (∀ j, F j → w.heap.size ≤ j) ∧
    ∀ (w8 : World) (x : Nt), bookAt w8 (Gr F wr w8) (w.heap.size + b) (addN (N b) x) 0 → Fr F wr w8 → threeAt w w8 (fun c => if c = b then addN (N b) x else N c) := by
  obtain ⟨F, h1, h2, h3, h4, h5⟩ := h
  refine ⟨F b, h1 b hb, fun j hj => (h2 b j hb hj).1, fun w8 x hk hf => ?_⟩
  have hs := hf.size
  have hs5 := h5.size
  have hr3 := h4.lt
  refine ⟨fun c => if c = b then Gr (F b) wr w8 else F c, fun c hc => ?_, fun c j hc hj => ?_, fun c d j hc hd hne hj hk => ?_, ?_, ?_⟩
  · by_cases e : c = b
    · subst e; simp only [if_pos]; exact hk
    · simp only [if_neg e]
      exact (h1 c hc).far (fun j hj hl => hf.block j hl (h3 c b j hc hb e hj)) hs
  · by_cases e : c = b
    · subst e
      simp only [if_pos] at hj
      rcases hj with hj | hj
      · exact h2 c j hc hj
      · exact ⟨by omega, by omega⟩
    · simp only [if_neg e] at hj
      exact h2 c j hc hj
  · by_cases e : c = b
    · subst e
      simp only [if_pos] at hj
      rw [if_neg (fun h => hne h.symm)] at hk
      rcases hj with hj | hj
      · exact h3 c d j hc hd hne hj hk
      · have := (h1 d hd).2.1 j hk; omega
    · simp only [if_neg e] at hj
      by_cases e2 : d = b
      · subst e2
        simp only [if_pos] at hk
        rcases hk with hk | hk
        · exact h3 c d j hc hd hne hj hk
        · have := (h1 c hc).2.1 j hj; omega
      · simp only [if_neg e2] at hk
        exact h3 c d j hc hd hne hj hk
  · exact h4.of_block (hf.block _ hr3 (fun hj => (h2 b _ hb hj).2 rfl))
  · exact h5.trans (hf.below (fun j hj => (h2 b j hb hj).1) (by omega))
theorem act_sum {w : World} {qb o : Nat} {x : AR} {pv bv : Value} (hqb : qb < w.heap.size) (hcell : ∀ j, j < 36 → w.cell? ⟨qb, o + j, none⟩ = some (actV x.what x.kind pv bv x.sum j)) {wz : World} (hz : Below w.heap.size w wz) : ∀ i, i < 32 → wz.cell? ⟨qb, o + 3 + i, none⟩ = some (arrV x.sum i) := fun i hi => by
  rw [hz.cell (p := ⟨qb, o + 3 + i, none⟩) hqb]
  have := hcell (3 + i) (by omega)
  rw [← Nat.add_assoc] at this
  rw [this, actV, if_neg (by omega), if_neg (by omega), if_neg (by omega), if_pos (by omega), show 3 + i - 3 = i by omega]
theorem act_bytes {w : World} {qb o : Nat} {x : AR} {pv bv : Value} (hqb : qb < w.heap.size) (hcell : ∀ j, j < 36 → w.cell? ⟨qb, o + j, none⟩ = some (actV x.what x.kind pv bv x.sum j)) {wz : World} (hz : Below w.heap.size w wz) : wz.cell? ⟨qb, o + 35, none⟩ = some bv :=
  (hz.cell (p := ⟨qb, o + 35, none⟩) hqb).trans (hcell 35 (by omega))
end Go.Proofs.YtcfbaijibghcaaaDoor
