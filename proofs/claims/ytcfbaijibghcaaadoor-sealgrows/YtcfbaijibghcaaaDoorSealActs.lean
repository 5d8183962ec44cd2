import Derived.Test.YtcfbaijibghcaaaDoorSealApartW
/- Slices of acts that a law makes: append. -/
namespace Go.Proofs.YtcfbaijibghcaaaDoor
set_option linter.unusedSimpArgs false
set_option linter.unusedVariables false
set_option maxRecDepth 100000
open Go.RowKit Go.Deep

theorem infoAct : (Tryd.prog.info? 38).map (fun i => (i.zero, i.size, i.bytes)) = some (some (.agg (rowV 36 (actV 0 0 (.slice none 0 0) (.slice none 0 0) zq))), 36, 96) := by kernel_rfl
/-- acts of the call's own, by their cells. -/
def ownActs (w : World) (B : Nat) (v : Value) (n : Nat) (xs : List Value) : Prop := w.ownsRow B 38 36 v n xs
theorem ownActs.none (w : World) (B : Nat) (hB : B ≤ w.heap.size) : ownActs (w.alloc (.cells #[] 38)) B (.slice (some ⟨w.heap.size, 0, none⟩) 0 0) 0 [] :=
  ⟨rfl, Or.inr ⟨w.heap.size, 0, #[], rfl, hB, blk_alloc_new _ _, Nat.le_refl _, by unfold maxLen; omega, rfl, rfl⟩⟩
/-- append(v, l...), l of one act or more. -/
theorem acts_append_run (w : World) (B : Nat) (v : Value) (n : Nat) (xs : List Value) (hv : ownActs w B v n xs) (qb qo m c : Nat) (news : List Value) (hl : news.length = m * 36) (hc : ∀ (j : Nat) (u : Value), news[j]? = some u → w.cell? ⟨qb, qo + j, none⟩ = some u) (h1 : ∀ u ∈ news, u.oneCell' = true)
    (hm : 0 < m) (hs : (n + m) * 96 ≤ 140737488355328) (hB : B ≤ w.heap.size) :
    ∃ v' w', (Builtin.append_ #[22, 22] 22 #[v, .slice (some ⟨qb, qo, none⟩) m c]).run Tryd.prog w = .ok v' w' ∧ ownActs w' B v' (n + m) (xs ++ news) ∧ w.grownBy w' v.ownBlock := by
  cases hq : Tryd.prog.info? 38 with
  | none => have := infoAct; simp [hq] at this
  | some i =>
    have hi := infoAct
    simp only [hq, Option.map_some, Option.some.injEq, Prod.mk.injEq] at hi
    obtain ⟨hz, hsz, hby⟩ := hi
    obtain ⟨g, cap, w', hr, ho, hg, hat, hlt⟩ := run_append_lies (P := Tryd.prog) w 22 22 B 38 i _ 36 96 Tryd.underlying22 hq hz hsz hby (by simp [Value.cells, rowV_size]) (by omega)
      v n xs hv ⟨qb, qo, none⟩ m c news (by omega) (fun j u hu => by rw [Addr.add_mid]; exact hc j u hu) h1 hm (by unfold maxLen; omega) hs hB w.heap.size rfl
    exact ⟨_, w', hr, ho, hg⟩
theorem ownActs.block {w : World} {B : Nat} {v : Value} {n : Nat} {xs : List Value} (h : ownActs w B v n xs) (k : Nat) (hk : v.ownBlock = some k) : B ≤ k ∧ k < w.heap.size := by
  obtain ⟨_, h | ⟨g, cap, cur, rfl, hB, hb, _⟩⟩ := h
  · rw [h.1] at hk; cases hk
  · obtain rfl : g = k := by simpa [Value.ownBlock] using hk
    exact ⟨hB, (Array.getElem?_eq_some_iff.1 hb).1⟩
/-- their acts. -/
theorem ownActs.acts {w : World} {B : Nat} {v : Value} {n : Nat} {xs : List Value} (h : ownActs w B v n xs) (acts : Nat → AR)
    (hx : ∀ i, i < n → ∃ pv bv, (∀ j, j < 36 → xs[i * 36 + j]? = some (actV (acts i).what (acts i).kind pv bv (acts i).sum j)) ∧ anyParts w pv (acts i).n (acts i).ps ∧ anyBytes w bv (acts i).bytes ∧ isSum (acts i).sum) : isActs w v n acts := by
  obtain ⟨hl, h | ⟨g, cap, cur, rfl, hB, hb, hc, hm, hs, ht⟩⟩ := h
  · exact Or.inl h
  · refine Or.inr ⟨g, 0, cap, rfl, (Array.getElem?_eq_some_iff.1 hb).1, hc, hm, fun i hi => ?_⟩
    obtain ⟨pv, bv, h1, h2, h3, h4⟩ := hx i hi
    refine ⟨pv, bv, fun j hj => ?_, h2, h3, h4⟩
    rw [Nat.zero_add, cell_of_row _ _ _ _ _ _ hb, ← h1 j hj]
    have hlt : i * 36 + j < n * 36 := by have := Nat.mul_le_mul_right 36 (show i + 1 ≤ n from hi); omega
    rw [← ht, List.getElem?_take, if_pos hlt, Array.getElem?_toList]
theorem actV_one (d k : Int) (pv bv : Value) (q : List Int) (j : Nat) (hp : pv.oneCell' = true) (hb : bv.oneCell' = true) : (actV d k pv bv q j).oneCell' = true := by
  unfold actV arrV
  repeat' split
  all_goals first | rfl | exact hp | exact hb
theorem anyParts.one {w : World} {v : Value} {n : Nat} {ps : Nat → List Int} (h : anyParts w v n ps) : v.oneCell' = true := by
  obtain ⟨a, c, rfl, _, _⟩ := h.open; rfl
theorem anyBytes.one {w : World} {v : Value} {l : List Int} (h : anyBytes w v l) : v.oneCell' = true := by
  obtain ⟨a, c, rfl, _⟩ := h.slice; rfl
/-- append(append([]Act{}, l...), Act{Parts: parts}). -/
theorem grows_acts (w : World) (l : Value) (n : Nat) (acts : Nat → AR) (hl : isActs w l n acts) (v : Value) (m : Nat) (ps : Nat → List Int) (hv : anyParts w v m ps) (hs : (n + 1) * 96 ≤ 140737488355328) :
    ∃ v1 w1 v2 w2, (Builtin.append_ #[22, 22] 22 #[.slice (some ⟨w.heap.size, 0, none⟩) 0 0, l]).run Tryd.prog (w.alloc (.cells #[] 38)) = .ok v1 w1 ∧
      (Builtin.append_ #[22, 22] 22 #[v1, .slice (some ⟨w1.heap.size, 0, none⟩) 1 1]).run Tryd.prog (w1.alloc (.cells (rowV 36 (actV 0 0 v (.slice none 0 0) zq)) 38)) = .ok v2 w2 ∧
      isActs w2 v2 (n + 1) (fun i => if i < n then acts i else partsA m ps) ∧ Below w.heap.size w w2 ∧ ∃ a c, v1 = .slice a n c := by
  have b0 : Below w.heap.size w (w.alloc (.cells #[] 38)) := (Below.refl _ _).alloc (Nat.le_refl _) _
  have o0 := ownActs.none w w.heap.size (Nat.le_refl _)
  -- the copy of l
  obtain ⟨v1, w1, xs, hr1, ho1, hb1, hx1⟩ : ∃ (v1 : Value) (w1 : World) (xs : List Value), (Builtin.append_ #[22, 22] 22 #[.slice (some ⟨w.heap.size, 0, none⟩) 0 0, l]).run Tryd.prog (w.alloc (.cells #[] 38)) = .ok v1 w1 ∧ ownActs w1 w.heap.size v1 n xs ∧ Below w.heap.size w w1 ∧
      ∀ i, i < n → ∃ pv bv, (∀ j, j < 36 → xs[i * 36 + j]? = some (actV (acts i).what (acts i).kind pv bv (acts i).sum j)) ∧ anyParts w pv (acts i).n (acts i).ps ∧ anyBytes w bv (acts i).bytes ∧ isSum (acts i).sum := by
    by_cases h0 : n = 0
    · subst h0
      obtain ⟨a, cap, rfl, _, _, _⟩ := hl.open
      exact ⟨_, _, [], run_append_nil _ _ _ _ Tryd.underlying22 (by kernel_rfl) _ 0 0 (Nat.le_refl _) a cap, o0, b0, fun i hi => by omega⟩
    · rcases hl with ⟨_, h⟩ | ⟨qb, qo, cap, rfl, h2, h3, h4, h5⟩
      · exact absurd h h0
      · have hcell : ∀ k, k < n * 36 → ∃ u : Value, w.cell? ⟨qb, qo + k, none⟩ = some u ∧ u.oneCell' = true := fun k hk => by
          obtain ⟨pv, bv, g1, g2, g3, g4⟩ := h5 (k / 36) (by omega)
          have := g1 (k % 36) (Nat.mod_lt _ (by omega))
          rw [show qo + k / 36 * 36 + k % 36 = qo + k by omega] at this
          exact ⟨_, this, actV_one _ _ _ _ _ _ g2.one g3.one⟩
        obtain ⟨f, hf⟩ : ∃ f : Nat → Value, ∀ k, k < n * 36 → w.cell? ⟨qb, qo + k, none⟩ = some (f k) ∧ (f k).oneCell' = true := ⟨fun k => (w.cell? ⟨qb, qo + k, none⟩).getD undef, fun k hk => by
          obtain ⟨u, h1, h2⟩ := hcell k hk
          simp only [h1, Option.getD_some]
          exact ⟨trivial, h2⟩⟩
        obtain ⟨v1, w1, hr, ho, hg⟩ := acts_append_run _ w.heap.size _ 0 [] o0 qb qo n cap ((List.range (n * 36)).map f) (by simp) (fun j u hu => by
          have hj : j < n * 36 := by
            by_cases hj : j < n * 36
            · exact hj
            · rw [List.getElem?_eq_none (by simp; omega)] at hu; cases hu
          rw [List.getElem?_map, List.getElem?_range hj] at hu
          rw [b0.cell (p := ⟨qb, qo + j, none⟩) h2, (hf j hj).1]; exact hu) (fun u hu => by
          obtain ⟨j, hj, rfl⟩ := List.mem_map.1 hu
          exact (hf j (List.mem_range.1 hj)).2) (by omega) (by omega) (by simp)
        rw [Nat.zero_add, List.nil_append] at ho
        refine ⟨v1, w1, _, hr, ho, b0.trans (below_grown hg (fun k hk => (o0.block k hk).1) (by simp)), fun i hi => ?_⟩
        obtain ⟨pv, bv, g1, g2, g3, g4⟩ := h5 i hi
        refine ⟨pv, bv, fun j hj => ?_, g2, g3, g4⟩
        have hlt : i * 36 + j < n * 36 := by have := Nat.mul_le_mul_right 36 (show i + 1 ≤ n from hi); omega
        rw [List.getElem?_map, List.getElem?_range hlt, Option.map_some, ← g1 j hj, show qo + i * 36 + j = qo + (i * 36 + j) by omega, (hf _ hlt).1]
  -- one more
  have b1 : Below w1.heap.size w1 (w1.alloc (.cells (rowV 36 (actV 0 0 v (.slice none 0 0) zq)) 38)) := (Below.refl _ _).alloc (Nat.le_refl _) _
  have ho1' : ownActs (w1.alloc (.cells (rowV 36 (actV 0 0 v (.slice none 0 0) zq)) 38)) w.heap.size v1 n xs := by
    obtain ⟨hl, h | ⟨g, cap, cur, rfl, hB, hb, hrest⟩⟩ := ho1
    · exact ⟨hl, Or.inl h⟩
    · exact ⟨hl, Or.inr ⟨g, cap, cur, rfl, hB, by rw [blk_alloc_lt _ _ _ (Array.getElem?_eq_some_iff.1 hb).1]; exact hb, hrest⟩⟩
  have hsz1 := hb1.size
  obtain ⟨v2, w2, hr2, ho2, hg2⟩ := acts_append_run _ w.heap.size v1 n xs ho1' w1.heap.size 0 1 1 (rowV 36 (actV 0 0 v (.slice none 0 0) zq)).toList (by simp [rowV_size]) (fun j u hu => by
      rw [Array.getElem?_toList] at hu
      have hj : j < 36 := by
        by_cases hj : j < 36
        · exact hj
        · rw [Array.getElem?_eq_none (by rw [rowV_size]; omega)] at hu; cases hu
      rw [rowV_get _ _ _ hj] at hu
      rw [Nat.zero_add, (rowIs_box w1 38 36 _).cell hj]; exact hu) (fun u hu => by
      rw [Array.mem_toList_iff] at hu
      obtain ⟨k, hk, rfl⟩ := Array.mem_iff_getElem.1 hu
      have hk' : k < 36 := by rw [rowV_size] at hk; exact hk
      have := rowV_get 36 (actV 0 0 v (.slice none 0 0) zq) k hk'
      rw [Array.getElem?_eq_getElem hk] at this
      rw [Option.some.inj this]; exact actV_one _ _ _ _ _ _ hv.one rfl) (by omega) hs (by simp; omega)
  have b2 : Below w.heap.size w w2 := hb1.trans ((b1.mono hsz1).trans (below_grown hg2 (fun k hk => (ho1'.block k hk).1) (by simp; omega)))
  have hlx : xs.length = n * 36 := ho1.1
  have hsh : ∃ a c, v1 = .slice a n c := by
    obtain ⟨_, h | ⟨g, cap, cur, h, _⟩⟩ := ho1
    · exact ⟨none, 0, by rw [h.1, h.2]⟩
    · exact ⟨_, _, h⟩
  refine ⟨v1, w1, v2, w2, hr1, hr2, ho2.acts _ (fun i hi => ?_), b2, hsh⟩
  by_cases e : i < n
  · obtain ⟨pv, bv, g1, g2, g3, g4⟩ := hx1 i e
    simp only [if_pos e]
    refine ⟨pv, bv, fun j hj => ?_, g2.below b2 (Nat.le_refl _), g3.below b2 (Nat.le_refl _), g4⟩
    have hlt : i * 36 + j < n * 36 := by have := Nat.mul_le_mul_right 36 (show i + 1 ≤ n from e); omega
    rw [List.getElem?_append_left (by omega)]; exact g1 j hj
  · obtain rfl : i = n := by omega
    simp only [if_neg e]
    refine ⟨v, .slice none 0 0, fun j hj => ?_, hv.below b2 (Nat.le_refl _), Or.inl (Or.inl ⟨rfl, rfl⟩), zq_sum⟩
    rw [List.getElem?_append_right (by omega), hlx, show i * 36 + j - i * 36 = j by omega, Array.getElem?_toList, rowV_get _ _ _ hj]; rfl
end Go.Proofs.YtcfbaijibghcaaaDoor
