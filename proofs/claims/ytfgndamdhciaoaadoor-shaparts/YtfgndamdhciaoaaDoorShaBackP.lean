import Derived.Test.YtfgndamdhciaoaaDoorShaAwake
import Derived.Test.YtfgndamdhciaoaaDoorArrEq
namespace Go.Proofs.YtfgndamdhciaoaaDoor
open Go.RowKit Go.Deep

/-- 32 bytes as 64 digits. -/
def hexS (f : Nat → Int) : ByteArray := strOf ((List.range 64).map (printI f))
theorem hexS_size (f : Nat → Int) : (hexS f).size = 64 := by rw [hexS, strOf_size]; simp
theorem hexI_range (x : Int) (h0 : 0 ≤ x) (h1 : x ≤ 15) : 48 ≤ hexI x ∧ hexI x ≤ 102 := by unfold hexI; split <;> omega
theorem printI_range {f : Nat → Int} (hf : ∀ i, 0 ≤ f i ∧ f i ≤ 255) (j : Nat) : 48 ≤ printI f j ∧ printI f j ≤ 102 := by
  have h := hf (j / 2)
  unfold printI; split <;> exact hexI_range _ (by omega) (by omega)
theorem sB_strOf (l : List Int) (i : Nat) (hi : i < l.length) (h : 0 ≤ l.getD i 0 ∧ l.getD i 0 ≤ 255) : sB (strOf l) i = l.getD i 0 := by
  rw [List.getD_eq_getElem?_getD, List.getElem?_eq_getElem hi, Option.getD_some] at h ⊢
  rw [sB, strOf, List.getD_eq_getElem?_getD]
  show ((((l.map fun n => UInt8.ofNat n.toNat)[i]?).getD 0).toNat : Int) = _
  rw [List.getElem?_map, List.getElem?_eq_getElem hi, Option.map_some, Option.getD_some, UInt8.toNat_ofNat']
  omega
theorem sB_hexS {f : Nat → Int} (hf : ∀ i, 0 ≤ f i ∧ f i ≤ 255) (j : Nat) (hj : j < 64) : sB (hexS f) j = printI f j := by
  have e : ((List.range 64).map (printI f)).getD j 0 = printI f j := by
    rw [List.getD_eq_getElem?_getD, List.getElem?_map, List.getElem?_range hj]; rfl
  have h := printI_range hf j
  rw [hexS, sB_strOf _ _ (by simpa using hj) (by rw [e]; omega), e]
theorem half_hex (x : Int) (h0 : 0 ≤ x) (h1 : x ≤ 15) : halfI (hexI x) = x := by unfold hexI halfI; split <;> split <;> (try split) <;> omega
theorem hex_half (c : Int) (h : 0 ≤ halfI c) : hexI (halfI c) = c := by
  unfold halfI at h ⊢
  unfold hexI
  by_cases h1 : 48 ≤ c ∧ c ≤ 57
  · rw [if_pos h1, if_pos (by omega)]; omega
  · rw [if_neg h1] at h ⊢
    by_cases h2 : 97 ≤ c ∧ c ≤ 102
    · rw [if_pos h2, if_neg (by omega)]; omega
    · rw [if_neg h2] at h; omega
theorem half_even {f : Nat → Int} (hf : ∀ i, 0 ≤ f i ∧ f i ≤ 255) (k : Nat) (hk : k < 32) : halfI (sB (hexS f) (2 * k)) = f k / 16 ∧ halfI (sB (hexS f) (2 * k + 1)) = f k % 16 := by
  have h := hf k
  rw [sB_hexS hf _ (by omega), sB_hexS hf _ (by omega), printI, printI, if_pos (by omega), if_neg (by omega), show 2 * k / 2 = k by omega, show (2 * k + 1) / 2 = k by omega]
  exact ⟨half_hex _ (by omega) (by omega), half_hex _ (by omega) (by omega)⟩
theorem readTo_hexS {f : Nat → Int} (hf : ∀ i, 0 ≤ f i ∧ f i ≤ 255) : ∀ k, k ≤ 32 → readTo (hexS f) k = true
  | 0, _ => rfl
  | k + 1, h => by
    have e := half_even hf k (by omega)
    have hk := hf k
    rw [readTo, readTo_hexS hf k (by omega), e.1, e.2]; simp; omega
theorem readOk_hexS {f : Nat → Int} (hf : ∀ i, 0 ≤ f i ∧ f i ≤ 255) : readOk (hexS f) = true := by
  rw [readOk, hexS_size, readTo_hexS hf 32 (Nat.le_refl _)]; rfl
theorem readI_hexS {f : Nat → Int} (hf : ∀ i, 0 ≤ f i ∧ f i ≤ 255) (i : Nat) (hi : i < 32) : readI (hexS f) i = f i := by
  have e := half_even hf i hi
  rw [readI, e.1, e.2]; omega
theorem hexS_inj {f g : Nat → Int} (hf : ∀ i, 0 ≤ f i ∧ f i ≤ 255) (hg : ∀ i, 0 ≤ g i ∧ g i ≤ 255) : hexS f = hexS g ↔ ∀ i, i < 32 → f i = g i := by
  constructor
  · intro h i hi
    rw [← readI_hexS hf i hi, h, readI_hexS hg i hi]
  · intro h
    rw [hexS, hexS]
    congr 1
    apply List.map_congr_left
    intro j hj
    have : j < 64 := by simpa using hj
    rw [printI, printI, h _ (by omega)]
theorem readTo_at (s : ByteArray) : ∀ n k, k < n → readTo s n = true → 0 ≤ halfI (sB s (2 * k)) ∧ 0 ≤ halfI (sB s (2 * k + 1))
  | 0, k, h, _ => by omega
  | n + 1, k, h, e => by
    rw [readTo] at e
    simp only [Bool.and_eq_true, decide_eq_true_eq] at e
    by_cases hk : k = n
    · subst hk; exact ⟨e.1.2, e.2⟩
    · exact readTo_at s n k (by omega) e.1.1
theorem readI_byte (s : ByteArray) (h : readOk s = true) (i : Nat) (hi : i < 32) : 0 ≤ readI s i ∧ readI s i ≤ 255 := by
  have h2 : readTo s 32 = true := by rw [readOk] at h; simp only [Bool.and_eq_true] at h; exact h.2
  have := readTo_at s 32 i hi h2
  have r1 := halfI_range (sB s (2 * i))
  have r2 := halfI_range (sB s (2 * i + 1))
  rw [readI]; omega
theorem str_ext {a b : ByteArray} (hs : a.size = b.size) (h : ∀ i, i < a.size → sB a i = sB b i) : a = b := by
  cases a with | mk da => cases b with | mk db =>
  congr 1
  have hs' : da.size = db.size := hs
  apply Array.ext hs'
  intro i h1 h2
  have := h i h1
  simp only [sB, List.getD_eq_getElem?_getD, Array.getElem?_toList, Array.getElem?_eq_getElem h1, Array.getElem?_eq_getElem h2, Option.getD_some] at this
  exact UInt8.toNat_inj.1 (by exact_mod_cast this)
/-- what is read is written as it was. -/
theorem hexS_read (s : ByteArray) (h : readOk s = true) : hexS (fun i => if i < 32 then readI s i else 0) = s := by
  have hsz : s.size = 64 := by rw [readOk] at h; simp only [Bool.and_eq_true, decide_eq_true_eq] at h; exact h.1
  have h2 : readTo s 32 = true := by rw [readOk] at h; simp only [Bool.and_eq_true] at h; exact h.2
  have hf : ∀ i, 0 ≤ (if i < 32 then readI s i else 0) ∧ (if i < 32 then readI s i else 0) ≤ 255 := fun i => by
    split
    · exact readI_byte s h i (by assumption)
    · omega
  apply str_ext (by rw [hexS_size, hsz])
  intro j hj
  rw [hexS_size] at hj
  rw [sB_hexS hf j hj, printI]
  have e := readTo_at s 32 (j / 2) (by omega) h2
  have r1 := halfI_range (sB s (2 * (j / 2)))
  have r2 := halfI_range (sB s (2 * (j / 2) + 1))
  by_cases hp : j % 2 = 0
  · rw [if_pos hp, if_pos (by omega), readI, show (halfI (sB s (2 * (j / 2))) * 16 + halfI (sB s (2 * (j / 2) + 1))) / 16 = halfI (sB s (2 * (j / 2))) by omega, hex_half _ e.1]
    congr 1; omega
  · rw [if_neg hp, if_pos (by omega), readI, show (halfI (sB s (2 * (j / 2))) * 16 + halfI (sB s (2 * (j / 2) + 1))) % 16 = halfI (sB s (2 * (j / 2) + 1)) by omega, hex_half _ e.2]
    congr 1; omega
end Go.Proofs.YtfgndamdhciaoaaDoor
