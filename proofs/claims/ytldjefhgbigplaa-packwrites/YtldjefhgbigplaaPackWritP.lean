import Derived.Test.YtldjefhgbigplaaPackBackP
import Derived.Test.YtldjefhgbigplaaRefTexts
import Derived.Test.YtldjefhgbigplaaDrawnS
import Derived.SizedLaws
/- PackWrites: what its walk stands on. -/
namespace Go.Proofs.Ytldjefhgbigplaa
set_option linter.unusedSimpArgs false
set_option linter.unusedVariables false
open Go.RowKit Go.Deep Go.ChangeShapes Go.WideShapes

/-- what the first loop counts. -/
def wtTo (ps : Nat → List Int) : Nat → Nat
  | 0 => 0
  | k + 1 => wtTo ps k + (50 + (ps k).length)
theorem wtTo_ge (ps : Nat → List Int) : ∀ k, 50 * k ≤ wtTo ps k
  | 0 => by simp [wtTo]
  | k + 1 => by have := wtTo_ge ps k; simp only [wtTo]; omega
theorem wtTo_mono (ps : Nat → List Int) : ∀ n k, k ≤ n → wtTo ps k ≤ wtTo ps n
  | 0, k, h => by obtain rfl : k = 0 := by omega
                  exact Nat.le_refl _
  | n + 1, k, h => by
    by_cases e : k = n + 1
    · subst e; exact Nat.le_refl _
    · have := wtTo_mono ps n k (by omega); simp only [wtTo]; omega
theorem wtTo_part (ps : Nat → List Int) (n k : Nat) (h : k < n) : (ps k).length ≤ wtTo ps n := by
  have := wtTo_mono ps n (k + 1) h
  simp only [wtTo] at this; omega
theorem flat_wt (ps : Nat → List Int) : ∀ k, (flatTo (blobsB ps) k).length ≤ wtTo ps k
  | 0 => by simp [flatTo]
  | k + 1 => by
    have := flat_wt ps k
    have h1 := blobB_length (ps k)
    have h2 := szI_le ((ps k).length : Int)
    rw [flatTo, List.length_append, blobsB]; simp only [wtTo]; omega
theorem flatTo_congr (p q : Nat → List Int) : ∀ n, (∀ i, i < n → p i = q i) → flatTo p n = flatTo q n
  | 0, _ => rfl
  | n + 1, h => by rw [flatTo, flatTo, flatTo_congr p q n (fun i hi => h i (by omega)), h n (by omega)]
/-- the texts of parts, as bytes: the parts. -/
theorem texts_flat (ps : Nat → List Int) (n : Nat) (hb : ∀ i, i < n → ∀ j, 0 ≤ (ps i).getD j 0 ∧ (ps i).getD j 0 ≤ 255) : ∀ k, k ≤ n → flatTo (blobsB fun i => sBytes (strOf (ps i))) k = flatTo (blobsB ps) k := fun k hk =>
  flatTo_congr _ _ k fun i hi => by simp only [blobsB]; rw [sBytes_strOf (ps i) (hb i (by omega))]
theorem strOf_append (l m : List Int) : strOf (l ++ m) = strOf l ++ strOf m := by
  apply ByteArray.ext
  simp [strOf, ByteArray.data_append]
theorem str_777 (l : List Int) : strOf l ++ (⟨#[7, 7, 7]⟩ : ByteArray) = strOf (l ++ [7, 7, 7]) := by
  rw [strOf_append]; rfl
theorem hiStr : (Try.prog.info? 9).map (fun i => (i.zero, i.size, i.bytes)) = some (some (.string ByteArray.empty), 1, 16) := by kernel_rfl
/-- a row of texts of the call's own. -/
theorem owns_strs {w : World} {B : Nat} {e : TypeId} {v : Value} {n : Nat} {ss : Nat → ByteArray} (h : owns w B e v ((List.range n).map fun i => .string (ss i))) : isRow w v n (fun i => .string (ss i)) := by
  by_cases hn : 0 < n
  · obtain ⟨g, cap, rfl, hB, hlt, hc, hm, hcell, _⟩ := h.shape (by simpa using hn)
    rw [List.length_map, List.length_range] at hc ⊢
    refine Or.inr ⟨g, 0, cap, rfl, hlt, by omega, fun i hi => ?_⟩
    rw [Nat.zero_add]
    refine hcell i _ ?_
    rw [List.getElem?_map, List.getElem?_range hi]; rfl
  · obtain rfl : n = 0 := by omega
    obtain ⟨_, h | ⟨g, cap, cur, rfl, hB, hg, hc, hm, hs, ht⟩⟩ := h
    · exact Or.inl ⟨h.1, rfl⟩
    · exact Or.inr ⟨g, 0, cap, rfl, (Array.getElem?_eq_some_iff.1 hg).1, Nat.zero_le _, fun i hi => by omega⟩
/-- append(texts, s). -/
theorem str_append_run (w : World) (B : Nat) (v : Value) (n : Nat) (ss : Nat → ByteArray) (hv : owns w B 9 v ((List.range n).map fun i => .string (ss i))) (hs : n < 1000000) (hB : B ≤ w.heap.size) :
    ∃ v' w', (Builtin.append_ #[27, 27] 27 #[v, .slice (some ⟨w.heap.size, 0, none⟩) 1 1]).run Try.prog (w.alloc (.cells #[.string (ss n)] 9)) = .ok v' w' ∧ owns w' B 9 v' ((List.range (n + 1)).map fun i => .string (ss i)) ∧ (w.alloc (.cells #[.string (ss n)] 9)).grownBy w' v.ownBlock := by
  have hb1 : Below w.heap.size w (w.alloc (.cells #[Value.string (ss n)] 9)) := (Below.refl _ _).alloc (Nat.le_refl _) _
  have hv1 := hv.below hb1 (Nat.le_refl _)
  obtain ⟨g, cp, w2, hr, ho, hg, hat, hlt⟩ := run_append (P := Try.prog) (w.alloc (.cells #[Value.string (ss n)] 9)) 27 27 B 9 (.string ByteArray.empty) 16 Try.underlying27 hiStr rfl v _ hv1 w.heap.size 0 1 1 [.string (ss n)] rfl
    (fun j u hu => by
      have hj : j = 0 := by
        by_cases hj : j = 0
        · exact hj
        · rw [List.getElem?_eq_none (by simp; omega)] at hu; cases hu
      subst hj
      have e : Value.string (ss n) = u := by simpa using hu
      rw [← e]; exact one_cell w _ _)
    (fun u hu => by rw [List.mem_singleton.1 hu]; rfl) (by omega) (by simp; unfold maxLen; omega) (by simp; omega) (by simp; omega)
  refine ⟨_, w2, hr, ?_, hg⟩
  rw [List.range_succ, List.map_append]; exact ho
theorem weightsAll_mem {H : Type} {P : Program} {e : TypeId} : ∀ {l : List (DataW H)} {d : DataW H}, d ∈ l → ∀ n ∈ d.weights P e, n ∈ DataW.weightsAll P e l
  | d' :: r, d, hd, n, hn => by
    simp only [DataW.weightsAll, List.mem_append]
    rcases List.mem_cons.1 hd with rfl | h
    · exact Or.inl hn
    · exact Or.inr (weightsAll_mem h n hn)
/-- parts that came in are no longer than what may come in. -/
theorem parts_sized {H : Type} {enc : TypeId × Value → H} {w : World} {base : Nat} {sp : Nat → Bool} {held : Bool} {v : Value} {d : DataW H} {pl : List MemPlace} {n : Nat} {ps : Nat → List Int}
    (hd : DataW.Trod enc Try.prog w base sp held 24 v d pl) (h : isParts w v n ps) (hz : ∀ x ∈ d.weights Try.prog 24, x ≤ reachBytes) : ∀ i, i < n → (ps i).length ≤ 140737488351232 := by
  intro i hi
  obtain ⟨a, cap, rfl, _, hcell⟩ := h.open
  obtain ⟨qb, qo, y, rfl, hq, hc, hy⟩ := hcell i hi
  obtain ⟨fuel, hf⟩ := hd
  rcases open_slice1 Try.underlying24 (by kernel_rfl) hf with ⟨h0, _⟩ | ⟨a', len, cap', m, n', V, D, Pl, h0, _, h1, h2, h3, hx, h4⟩
  · exact absurd h0 (by simp [Value.cells])
  · have h0' : a' = ⟨qb, qo, none⟩ ∧ n = len ∧ cap = cap' := by
      have : some (⟨qb, qo, none⟩ : Addr) = some a' ∧ n = len ∧ cap = cap' := by simpa [Value.cells] using h0
      exact ⟨(Option.some.inj this.1).symm, this.2⟩
    obtain ⟨rfl, rfl, rfl⟩ := h0'
    have hlm : n ≤ m := by rw [h3]; split <;> omega
    obtain ⟨e1, e2⟩ := h4 i (by omega)
    rw [Addr.add_mid, hc] at e1
    obtain rfl : y = V i := Option.some.inj e1
    obtain ⟨ya, yc, he, _⟩ := hy.slice
    have hd' : d = .slice ((List.range n).map D) ((List.range (m - n)).map fun j => D (n + j)) := (Prod.mk.inj hx).1
    rcases open_slice1 Try.underlying22 (by kernel_rfl) e2 with ⟨g0, _⟩ | ⟨b', len', cap2, m2, n2, V2, D2, Pl2, g0, _, g1, g2, g3, gx, _⟩
    · have : V i = .slice none 0 0 := by simpa using g0
      rw [he] at this
      have : (ps i).length = 0 := by simpa using (Value.slice.inj this).2.1
      omega
    · have hv' : V i = .slice (some b') len' cap2 := by simpa using g0
      rw [he] at hv'
      have hl : (ps i).length = len' := (Value.slice.inj hv').2.1
      have hD : D i = .slice ((List.range len').map D2) ((List.range (m2 - len')).map fun j => D2 (len' + j)) := (Prod.mk.inj gx).1
      have hw : (len' + (m2 - len')) * Try.prog.bytesOf 5 ∈ (D i).weights Try.prog 22 := by
        rw [hD]; simp [DataW.weights, Try.underlying22]
      have hm : D i ∈ (List.range n).map D := List.mem_map.2 ⟨i, List.mem_range.2 hi, rfl⟩
      have := hz _ (by
        rw [hd']; simp only [DataW.weights, Try.underlying24, List.mem_cons, List.mem_append]
        exact Or.inr (Or.inl (weightsAll_mem hm _ hw)))
      have hb : Try.prog.bytesOf 5 = 1 := by kernel_rfl
      rw [hb] at this
      have hr : reachBytes = 140737488351232 := rfl
      omega
end Go.Proofs.Ytldjefhgbigplaa
