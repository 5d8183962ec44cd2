import Derived.Test.YtcfbaijibghcaaaDoorShaBegin
import Derived.Test.YtcfbaijibghcaaaDoorByt
import Derived.Laws.CopyRow
namespace Go.Proofs.YtcfbaijibghcaaaDoor
open Go.RowKit Go.Deep

section
variable {P : Program}
/-- copy, out of some cells into a row. -/
theorem run_copy_seg (w : World) (dT sT ty elem : TypeId) (b o dLen dCap sb so sLen sCap m : Nat) (g : Nat → Value) (t n : Nat) (F : Nat → Value)
    (hu : P.underlying dT = some (.slice elem)) (hs : (P.info? elem).map (·.size) = some 1) (hm : m = Nat.min sLen dLen)
    (hr : w.rowIs b t n F) (hfit : o + m ≤ n) (hsrc : ∀ j, j < m → w.cell? ⟨sb, so + j, none⟩ = some (g j)) (h1 : ∀ j, j < m → (g j).oneCell' = true) :
    (Builtin.copy_ #[dT, sT] ty #[.slice (some ⟨b, o, none⟩) dLen dCap, .slice (some ⟨sb, so, none⟩) sLen sCap]).run P w = .ok (goInt m) (w.setCells b o (rowV m g).toList) := by
  have hlen : (rowV m g).toList.length = m := by rw [Array.length_toList, rowV_size]
  have hl := run_loadCells_list (P := P) w ⟨sb, so, none⟩ (rowV m g).toList (fun j v hv => by rw [Addr.add_mid]; exact range_of_cells hsrc j v hv)
  have ht := there_of_row hr hfit
  have hst := run_storeCells_cells (P := P) b o (rowV m g).toList 0 w (fun j hj => by rw [hlen] at hj; simpa using (ht j hj).1) (fun j hj => by rw [hlen] at hj; simpa using (ht j hj).2)
    (fun v hv => by
      rw [Array.mem_toList_iff] at hv
      obtain ⟨i, hi', rfl⟩ := Array.mem_iff_getElem.1 hv
      have hlt : i < m := by rw [rowV_size] at hi'; exact hi'
      have := rowV_get m g i hlt
      rw [Array.getElem?_eq_getElem hi'] at this
      rw [Option.some.inj this]; exact h1 i hlt)
  cases hq : P.info? elem with
  | none => simp [hq] at hs
  | some i =>
    have hi : i.size = 1 := by simpa [hq] using hs
    rw [hlen] at hl
    simp only [Nat.add_zero, Array.toArray_toList] at hl hst
    simp [Builtin.copy_, run_underlying hu, Builtin.lenOf, Builtin.firstCells, sizeOf, typeInfo, hq, hi, ← hm, hl, hst]
end

theorem wTo_congr {f g : Nat → Int} (h : ∀ i, i < 64 → f i = g i) : ∀ k, wTo f k = wTo g k
  | 0 => rfl
  | k + 1 => by
    rw [wTo, wTo, wTo_congr h k]
    by_cases e : k < 16
    · rw [if_pos e, if_pos e, wFirst, wFirst, h _ (by omega), h _ (by omega), h _ (by omega), h _ (by omega)]
    · rw [if_neg e, if_neg e]
theorem takeI_congr {v v' f f' : Nat → Int} (hv : ∀ i, i < 8 → v i = v' i) (hf : ∀ i, i < 64 → f i = f' i) (i : Nat) (hi : i < 8) : takeI v f i = takeI v' f' i := by
  have hw : wAt f 64 = wAt f' 64 := by funext j; rw [wAt, wAt, wTo_congr hf]
  rw [takeI, takeI, hw, hv i hi, hv 0 (by omega), hv 1 (by omega), hv 2 (by omega), hv 3 (by omega), hv 4 (by omega), hv 5 (by omega), hv 6 (by omega), hv 7 (by omega)]
/-- the words behind the first k blocks of some bytes. -/
def wordsAt (l : List Int) : Nat → Nat → Int
  | 0 => firstI.at
  | k + 1 => takeI (wordsAt l k) (fun i => l.getD (64 * k + i) 0)
theorem wordsAt_append (l m : List Int) : ∀ k, 64 * k ≤ l.length → ∀ i, i < 8 → wordsAt (l ++ m) k i = wordsAt l k i
  | 0, _, _, _ => rfl
  | k + 1, h, i, hi => by
    rw [wordsAt, wordsAt]
    refine takeI_congr (fun j hj => wordsAt_append l m k (by omega) j hj) (fun j hj => ?_) i hi
    rw [List.getD_eq_getElem?_getD, List.getD_eq_getElem?_getD, List.getElem?_append_left (by omega)]
theorem hash_range {w : World} {b : Nat} {v f : Nat → Int} {c : Int} (h : hashIs w b v f c) :
    ∃ cs : List Value, cs.length = 64 ∧ w.rangeAt b 8 cs ∧ Hid (cs.toArray = rowV 64 fun i => .int .u8 (f i)) :=
  ⟨(rowV 64 fun i => .int .u8 (f i)).toList, by rw [Array.length_toList, rowV_size], range_of_cells fun i hi => by rw [h.cell (by omega), hashV_byte _ _ _ _ hi], by rw [Hid, Array.toArray_toList]⟩
/-- take, of a hash and its own block. -/
theorem take_hash (b : Nat) (v f : Nat → Int) (c : Int) (cs : List Value) (w : World) (Hcs : Hid (cs.toArray = rowV 64 fun i => .int .u8 (f i))) (h : hashIs w b v f c)
    (hk : ∀ i, i < 64 → w.cell? ⟨0, i, none⟩ = some (.int .u32 (kAt i))) :
    Calls Tryd.prog 59 #[.pointer (some ⟨b, 0, none⟩), .agg cs.toArray] w fun e w' => e = .returned (.tuple #[]) ∧ But w.heap.size b w w' ∧ hashIs w' b (takeI v f) f c ∧ w'.rangeAt b 8 cs := by
  rw [Hcs.out]
  have hlt := h.lt
  refine (take_any b _ 73 _ v f w (fun i hi => hashV_word v f c i hi) (by omega) h hk (by omega)).mono ?_
  rintro e w' ⟨rfl, hb, hr⟩
  have hr' : hashIs w' b (takeI v f) f c := hr.congr fun i _ => by
    by_cases e : i < 8
    · rw [if_pos e, hashV_word _ _ _ _ e]
    · rw [if_neg e, hashV, hashV, if_neg e, if_neg e]
  refine ⟨rfl, hb, hr', ?_⟩
  have hcs : cs = (rowV 64 fun i => Value.int .u8 (f i)).toList := by rw [← Hcs.out]
  rw [hcs]
  exact range_of_cells fun i hi => by rw [hr'.cell (by omega), hashV_byte _ _ _ _ hi]
/-- A HASH TO WHICH THESE BYTES CAME, its words begun. -/
def hashOf (w : World) (b : Nat) (l : List Int) : Prop :=
  ∃ v f : Nat → Int, hashIs w b v f l.length ∧ (∀ i, i < 8 → v i = wordsAt l (l.length / 64) i) ∧ (∀ i, 0 ≤ f i ∧ f i ≤ 255) ∧ ∀ i, i < l.length % 64 → f i = l.getD (l.length / 64 * 64 + i) 0
end Go.Proofs.YtcfbaijibghcaaaDoor
