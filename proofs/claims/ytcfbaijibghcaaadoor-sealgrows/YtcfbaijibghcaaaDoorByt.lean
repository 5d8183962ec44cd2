import Derived.Test.YtcfbaijibghcaaaDoorRows
import Derived.Test.YtcfbaijibghcaaaDoorSlc
import Derived.Laws.BytesString
import Derived.Lib.SliceRun
/- Slices of bytes, and of others, wherever they lie. -/
namespace Go.Proofs.YtcfbaijibghcaaaDoor
set_option linter.unusedSimpArgs false
open Go.RowKit Go.Deep

/-- the bytes of the parts ahead of place k. -/
def flatTo (ps : Nat → List Int) : Nat → List Int
  | 0 => []
  | k + 1 => flatTo ps k ++ ps k
theorem flatTo_mono (ps : Nat → List Int) : ∀ n i, i ≤ n → (flatTo ps i).length ≤ (flatTo ps n).length
  | 0, i, h => by obtain rfl : i = 0 := by omega
                  exact Nat.le_refl _
  | n + 1, i, h => by
    by_cases e : i = n + 1
    · subst e; exact Nat.le_refl _
    · rw [flatTo, List.length_append]
      have := flatTo_mono ps n i (by omega)
      omega
/-- THE VALUE v IS A SLICE OF THESE BYTES. -/
def isBytes (w : World) (v : Value) (l : List Int) : Prop :=
  (v = .slice none 0 0 ∧ l = []) ∨ ∃ pb po cap : Nat, v = .slice (some ⟨pb, po, none⟩) l.length cap ∧ l.length ≤ cap ∧ cap ≤ maxLen ∧ pb < w.heap.size ∧
    (∀ i, i < l.length → w.cell? ⟨pb, po + i, none⟩ = some (.int .u8 (l.getD i 0))) ∧ ∀ i, 0 ≤ l.getD i 0 ∧ l.getD i 0 ≤ 255
theorem isBytes.below {w w' : World} {B : Nat} {v : Value} {l : List Int} (h : isBytes w v l) (hb : Below B w w') (hB : w.heap.size ≤ B) : isBytes w' v l := by
  rcases h with h | ⟨pb, po, cap, h1, h2, h3, h4, h6, h7⟩
  · exact Or.inl h
  · exact Or.inr ⟨pb, po, cap, h1, h2, h3, Nat.lt_of_lt_of_le h4 hb.size, fun i hi => by rw [hb.cell (p := ⟨pb, po + i, none⟩) (Nat.lt_of_lt_of_le h4 hB)]; exact h6 i hi, h7⟩
/-- .. OR ONE OF NONE, wherever it says that it lies. -/
def anyBytes (w : World) (v : Value) (l : List Int) : Prop := isBytes w v l ∨ ((∃ a, v = .slice a 0 0) ∧ l = [])
theorem anyBytes.below {w w' : World} {B : Nat} {v : Value} {l : List Int} (h : anyBytes w v l) (hb : Below B w w') (hB : w.heap.size ≤ B) : anyBytes w' v l := by
  rcases h with h | h
  · exact Or.inl (h.below hb hB)
  · exact Or.inr h
/-- THE VALUE v IS A SLICE OF n SLICES OF BYTES. -/
def isParts (w : World) (v : Value) (n : Nat) (ps : Nat → List Int) : Prop :=
  (v = .slice none 0 0 ∧ n = 0) ∨ ∃ (qb qo cap : Nat) (sv : Nat → Value), v = .slice (some ⟨qb, qo, none⟩) n cap ∧ qb < w.heap.size ∧ n ≤ maxLen ∧ ∀ i, i < n → w.cell? ⟨qb, qo + i, none⟩ = some (sv i) ∧ anyBytes w (sv i) (ps i)
theorem isParts.below {w w' : World} {B : Nat} {v : Value} {n : Nat} {ps : Nat → List Int} (h : isParts w v n ps) (hb : Below B w w') (hB : w.heap.size ≤ B) : isParts w' v n ps := by
  rcases h with h | ⟨qb, qo, cap, sv, h1, h2, h3, h4⟩
  · exact Or.inl h
  · exact Or.inr ⟨qb, qo, cap, sv, h1, Nat.lt_of_lt_of_le h2 hb.size, h3, fun i hi => ⟨by rw [hb.cell (p := ⟨qb, qo + i, none⟩) (Nat.lt_of_lt_of_le h2 hB)]; exact (h4 i hi).1, (h4 i hi).2.below hb hB⟩⟩
theorem isBytes.slice {w : World} {v : Value} {l : List Int} (h : isBytes w v l) : ∃ a c, v = .slice a l.length c ∧ l.length ≤ maxLen := by
  rcases h with ⟨rfl, rfl⟩ | ⟨pb, po, cap, rfl, h2, h3, _⟩
  · exact ⟨_, _, rfl, Nat.zero_le _⟩
  · exact ⟨_, _, rfl, by omega⟩
theorem anyBytes.slice {w : World} {v : Value} {l : List Int} (h : anyBytes w v l) : ∃ a c, v = .slice a l.length c ∧ l.length ≤ maxLen := by
  rcases h with h | ⟨⟨a, rfl⟩, rfl⟩
  · exact h.slice
  · exact ⟨a, 0, rfl, Nat.zero_le _⟩
theorem isBytes.byte {w : World} {v : Value} {l : List Int} (h : isBytes w v l) (i : Nat) : 0 ≤ l.getD i 0 ∧ l.getD i 0 ≤ 255 := by
  rcases h with ⟨_, rfl⟩ | ⟨pb, po, cap, _, _, _, _, _, h7⟩
  · exact ⟨by simp, by simp⟩
  · exact h7 i
theorem isBytes.under {w : World} {pb o n cap : Nat} {l : List Int} (h : isBytes w (.slice (some ⟨pb, o, none⟩) n cap) l) : pb < w.heap.size := by
  rcases h with ⟨h, _⟩ | ⟨pb', po, cap', h1, _, _, h4, _⟩
  · cases h
  · have e : pb = pb' := by injection h1 with h1 _ _; injection h1 with h1; injection h1
    omega
theorem isBytes.of_block {w w' : World} {pb o n cap : Nat} {l : List Int} (h : isBytes w (.slice (some ⟨pb, o, none⟩) n cap) l) (hb : w'.heap[pb]? = w.heap[pb]?) (hs : w.heap.size ≤ w'.heap.size) : isBytes w' (.slice (some ⟨pb, o, none⟩) n cap) l := by
  rcases h with ⟨h, _⟩ | ⟨pb', po, cap', h1, h2, h3, h4, h6, h7⟩
  · cases h
  · have e : pb = pb' := by injection h1 with h1 _ _; injection h1 with h1; injection h1
    subst e
    exact Or.inr ⟨pb, po, cap', h1, h2, h3, by omega, fun i hi => by rw [World.cell?_of_block (w := w) hb]; exact h6 i hi, h7⟩
/-- a slice of bytes of which nothing was written is as it was. -/
theorem isBytes.far {w w' : World} {v : Value} {l : List Int} (h : isBytes w v l) (hb : ∀ k, v.ownBlock = some k → w'.heap[k]? = w.heap[k]?) (hs : w.heap.size ≤ w'.heap.size) : isBytes w' v l := by
  rcases h with h | ⟨pb, po, cap, rfl, h2, h3, h4, h6, h7⟩
  · exact Or.inl h
  · exact Or.inr ⟨pb, po, cap, rfl, h2, h3, by omega, fun i hi => by rw [World.cell?_of_block (w := w) (hb pb rfl)]; exact h6 i hi, h7⟩
theorem isBytes.block {w : World} {v : Value} {l : List Int} (h : isBytes w v l) (k : Nat) (hk : v.ownBlock = some k) : k < w.heap.size := by
  rcases h with ⟨rfl, _⟩ | ⟨pb, po, cap, rfl, h2, h3, h4, h6, h7⟩
  · cases hk
  · simp [Value.ownBlock] at hk; omega
theorem hi8 : (Tryd.prog.info? 5).map (fun i => (i.zero, i.size, i.bytes)) = some (some (.int .u8 0), 1, 1) := by kernel_rfl
/-- bytes of the call's own. -/
def newBytes (w : World) (B : Nat) (v : Value) (l : List Int) : Prop := owns w B 5 v (l.map (Value.int .u8)) ∧ ∀ i, 0 ≤ l.getD i 0 ∧ l.getD i 0 ≤ 255
theorem getElem?_u8 {l : List Int} {i : Nat} (hi : i < l.length) : (l.map (Value.int .u8))[i]? = some (Value.int .u8 (l.getD i 0)) := by
  rw [List.getElem?_map, List.getElem?_eq_getElem hi, List.getD_eq_getElem?_getD, List.getElem?_eq_getElem hi]; rfl
theorem newBytes.is {w : World} {B : Nat} {v : Value} {l : List Int} (h : newBytes w B v l) : isBytes w v l := by
  obtain ⟨ho, hb⟩ := h
  obtain ⟨_, h | ⟨g, cap, cur, rfl, hB, hg, hc, hm, hs, ht⟩⟩ := ho
  · obtain ⟨rfl, hl⟩ := h
    rw [List.length_map] at hl
    exact Or.inl ⟨rfl, List.length_eq_zero_iff.1 hl⟩
  · rw [List.length_map] at hc ⊢
    refine Or.inr ⟨g, 0, cap, rfl, hc, hm, (Array.getElem?_eq_some_iff.1 hg).1, fun i hi => ?_, hb⟩
    rw [Nat.zero_add, cell_of_row _ _ _ _ _ _ hg, ← Array.getElem?_toList]
    have h2 := getElem?_u8 hi
    rw [← ht, List.getElem?_take, List.length_map] at h2
    by_cases hh : i < l.length * 1
    · rw [if_pos hh] at h2; exact h2
    · omega
theorem newBytes.block {w : World} {B : Nat} {v : Value} {l : List Int} (h : newBytes w B v l) (k : Nat) (hk : v.ownBlock = some k) : B ≤ k ∧ k < w.heap.size := h.1.block k hk
theorem newBytes.nil (w : World) (B : Nat) : newBytes w B (.slice none 0 0) [] := ⟨owns_nil _ _ _, fun i => by simp⟩
theorem newBytes.below {w w' : World} {B C : Nat} {v : Value} {l : List Int} (h : newBytes w B v l) (hb : Below C w w') (hC : w.heap.size ≤ C) : newBytes w' B v l := ⟨h.1.below hb hC, h.2⟩
theorem newBytes.mono {w : World} {B C : Nat} {v : Value} {l : List Int} (h : newBytes w B v l) (hC : C ≤ B) : newBytes w C v l := by
  obtain ⟨⟨hl, h1⟩, hb⟩ := h
  refine ⟨⟨hl, ?_⟩, hb⟩
  rcases h1 with h1 | ⟨g, cap, cur, h1, h2, h3⟩
  · exact Or.inl h1
  · exact Or.inr ⟨g, cap, cur, h1, by omega, h3⟩
section
variable {P : Program}
theorem run_append_nil (w : World) (t ty e : TypeId) (ht : P.underlying t = some (.slice e)) (hi : (P.info? e).isSome = true) (b : Option Addr) (n c : Nat) (hn : n ≤ c) (sa : Option Addr) (d : Nat) :
    (Builtin.append_ #[t, t] ty #[.slice b n c, .slice sa 0 d]).run P w = .ok (.slice b n c) w := by
  cases hq : P.info? e with
  | none => rw [hq] at hi; cases hi
  | some i => cases b <;> cases sa <;> simp [Builtin.append_, run_underlying ht, sizeOf, typeInfo, hq, hn, storeCells, loadCells, Builtin.lenOf, Builtin.firstCells, loadCellsFrom]
end
section
variable {P : Program}
/-- x[m:], x a slice of elements of one cell. -/
theorem run_slice_from (t e : TypeId) (b o len cap m : Nat) (hu : P.underlying t = some (.slice e)) (hs : (P.info? e).map (·.size) = some 1) (hm : m ≤ len) :
    ∃ o', (m < cap → o' = o + m) ∧ ∀ w : World, (Instr.slice t (.slice (some ⟨b, o, none⟩) len cap) (some (.int .i64 m)) none none).run P w = .ok (.slice (some ⟨b, o', none⟩) (len - m) (cap - m)) w := by
  cases hq : P.info? e with
  | none => simp [hq] at hs
  | some i =>
    have hi : i.size = 1 := by simpa [hq] using hs
    have h0 : (0 : Int) ≤ (m : Int) ∧ (m : Int) ≤ (len : Int) := by omega
    by_cases hc : cap = m
    · refine ⟨o, fun h => by omega, fun w => ?_⟩
      simp [Instr.slice, Instr.sliceBounds, Instr.sliceBound, asIntOf, run_underlying hu, sizeOf, typeInfo, hq, h0, hc, hm]
    · refine ⟨o + m, fun _ => rfl, fun w => ?_⟩
      simp [Instr.slice, Instr.sliceBounds, Instr.sliceBound, asIntOf, run_underlying hu, sizeOf, typeInfo, hq, hi, h0, hc, hm, Addr.add_mid]
/-- x[:n:n]. -/
theorem run_slice_front (t e : TypeId) (b o len cap n : Nat) (hu : P.underlying t = some (.slice e)) (hs : (P.info? e).map (·.size) = some 1) (hm : n ≤ cap) (w : World) :
    (Instr.slice t (.slice (some ⟨b, o, none⟩) len cap) none (some (.int .i64 n)) (some (.int .i64 n))).run P w = .ok (.slice (some ⟨b, o, none⟩) n n) w := by
  cases hq : P.info? e with
  | none => simp [hq] at hs
  | some i =>
    have hi : i.size = 1 := by simpa [hq] using hs
    have h0 : (0 : Int) ≤ (n : Int) ∧ (n : Int) ≤ (cap : Int) := by omega
    simp [Instr.slice, Instr.sliceBounds, Instr.sliceBound, asIntOf, run_underlying hu, sizeOf, typeInfo, hq, hi, h0, hm, Addr.add_mid]
/-- x[m:n:n]. -/
theorem run_slice_mid (t e : TypeId) (b o len cap m n : Nat) (hu : P.underlying t = some (.slice e)) (hs : (P.info? e).map (·.size) = some 1) (hmn : m ≤ n) (hm : n ≤ cap) :
    ∃ o', (m < n → o' = o + m) ∧ ∀ w : World, (Instr.slice t (.slice (some ⟨b, o, none⟩) len cap) (some (.int .i64 m)) (some (.int .i64 n)) (some (.int .i64 n))).run P w = .ok (.slice (some ⟨b, o', none⟩) (n - m) (n - m)) w := by
  cases hq : P.info? e with
  | none => simp [hq] at hs
  | some i =>
    have hi : i.size = 1 := by simpa [hq] using hs
    have h0 : (0 : Int) ≤ (n : Int) ∧ (n : Int) ≤ (cap : Int) := by omega
    have h1 : (0 : Int) ≤ (m : Int) ∧ (m : Int) ≤ (n : Int) := by omega
    by_cases hc : n = m
    · refine ⟨o, fun h => by omega, fun w => ?_⟩
      simp [Instr.slice, Instr.sliceBounds, Instr.sliceBound, asIntOf, run_underlying hu, sizeOf, typeInfo, hq, h0, h1, hc, hm, hmn]
      omega
    · refine ⟨o + m, fun _ => rfl, fun w => ?_⟩
      simp [Instr.slice, Instr.sliceBounds, Instr.sliceBound, asIntOf, run_underlying hu, sizeOf, typeInfo, hq, hi, h0, h1, hc, hm, hmn, Addr.add_mid]
      try omega
end
theorem getD_append_byte {l m : List Int} (hl : ∀ i, 0 ≤ l.getD i 0 ∧ l.getD i 0 ≤ 255) (hm : ∀ i, 0 ≤ m.getD i 0 ∧ m.getD i 0 ≤ 255) (i : Nat) : 0 ≤ (l ++ m).getD i 0 ∧ (l ++ m).getD i 0 ≤ 255 := by
  rw [List.getD_eq_getElem?_getD, List.getElem?_append]
  split
  · rw [← List.getD_eq_getElem?_getD]; exact hl i
  · rw [← List.getD_eq_getElem?_getD]; exact hm _
/-- append(v, u...), v of the call's own, u any bytes. -/
theorem bytes_append_run (w : World) (B : Nat) (v u : Value) (l m : List Int) (hv : newBytes w B v l) (hu : isBytes w u m) (hs : l.length + m.length ≤ 1099511627776) (hB : B ≤ w.heap.size) :
    ∃ v' w', (Builtin.append_ #[36, 36] 36 #[v, u]).run Tryd.prog w = .ok v' w' ∧ newBytes w' B v' (l ++ m) ∧ w.grownBy w' v.ownBlock ∧ (v'.ownBlock = v.ownBlock ∨ v'.ownBlock = some w.heap.size) := by
  have hgrow : w.grownBy w v.ownBlock := ⟨rfl, rfl, rfl, Nat.le_refl _, fun _ _ _ => rfl⟩
  by_cases h0 : m.length = 0
  · obtain rfl : m = [] := List.length_eq_zero_iff.1 h0
    obtain ⟨a, c, rfl, _⟩ := hu.slice
    have hsh : ∃ a n c, v = .slice a n c ∧ n ≤ c := by
      obtain ⟨⟨_, h | ⟨g, cap, cur, rfl, _, _, hc, _⟩⟩, _⟩ := hv
      · exact ⟨_, _, _, h.1, Nat.le_refl _⟩
      · exact ⟨_, _, _, rfl, hc⟩
    obtain ⟨a', n', c', rfl, hc⟩ := hsh
    exact ⟨_, w, run_append_nil w _ _ _ Tryd.underlying36 (by kernel_rfl) a' n' c' hc a c, by rw [List.append_nil]; exact hv, hgrow, Or.inl rfl⟩
  · rcases hu with ⟨_, rfl⟩ | ⟨pb, po, cap, rfl, h2, h3, h4, h6, h7⟩
    · exact absurd rfl h0
    · obtain ⟨g, cp, w2, hr, ho, hg, hat, hlt⟩ := run_append (P := Tryd.prog) w 36 36 B 5 (.int .u8 0) 1 Tryd.underlying36 hi8 rfl v _ hv.1 pb po m.length cap (m.map (Value.int .u8)) (by simp)
        (fun j u hu => by
          have hj : j < m.length := by
            by_cases hj : j < m.length
            · exact hj
            · rw [List.getElem?_eq_none (by simp; omega)] at hu; cases hu
          rw [getElem?_u8 hj] at hu
          rw [h6 j hj, ← hu])
        (fun v hv => by obtain ⟨x, _, rfl⟩ := List.mem_map.1 hv; rfl) (by omega) (by simp; unfold maxLen; omega) (by simp; omega) hB
      rw [List.length_map] at hr ho
      refine ⟨_, w2, hr, ⟨?_, getD_append_byte hv.2 h7⟩, hg, ?_⟩
      · rw [List.map_append]; exact ho
      · rcases hat with h | h
        · exact Or.inl h.symm
        · exact Or.inr (by rw [h]; rfl)
/-- .. u any bytes, or none. -/
theorem any_append_run (w : World) (B : Nat) (v u : Value) (l m : List Int) (hv : newBytes w B v l) (hu : anyBytes w u m) (hs : l.length + m.length ≤ 1099511627776) (hB : B ≤ w.heap.size) :
    ∃ v' w', (Builtin.append_ #[36, 36] 36 #[v, u]).run Tryd.prog w = .ok v' w' ∧ newBytes w' B v' (l ++ m) ∧ w.grownBy w' v.ownBlock ∧ (v'.ownBlock = v.ownBlock ∨ v'.ownBlock = some w.heap.size) := by
  rcases hu with hu | ⟨⟨a, rfl⟩, rfl⟩
  · exact bytes_append_run w B v u l m hv hu hs hB
  · have hsh : ∃ a n c, v = .slice a n c ∧ n ≤ c := by
      obtain ⟨⟨_, h | ⟨g, cap, cur, rfl, _, _, hc, _⟩⟩, _⟩ := hv
      · exact ⟨_, _, _, h.1, Nat.le_refl _⟩
      · exact ⟨_, _, _, rfl, hc⟩
    obtain ⟨a', n', c', rfl, hc⟩ := hsh
    exact ⟨_, w, run_append_nil w _ _ _ Tryd.underlying36 (by kernel_rfl) a' n' c' hc a 0, by rw [List.append_nil]; exact hv, ⟨rfl, rfl, rfl, Nat.le_refl _, fun _ _ _ => rfl⟩, Or.inl rfl⟩
theorem below_grown {w w' : World} {B : Nat} {v : Value} (hg : w.grownBy w' v.ownBlock) (hv : ∀ k, v.ownBlock = some k → B ≤ k) (hB : B ≤ w.heap.size) : Below B w w' :=
  ⟨hg.os, hg.tape, hg.output, hg.size, fun k hk => hg.block k (by omega) (fun e => by have := hv k e.symm; omega)⟩
/-- append([]byte{}, u...): new bytes, the same. -/
theorem bytes_copy_run (w : World) (u : Value) (l : List Int) (hu : isBytes w u l) (hl : l.length ≤ 1099511627776) :
    ∃ v' w', (Builtin.append_ #[36, 36] 36 #[.slice (some ⟨w.heap.size, 0, none⟩) 0 0, u]).run Tryd.prog (w.alloc (.cells #[] 5)) = .ok v' w' ∧ newBytes w' w.heap.size v' l ∧ Below w.heap.size w w' := by
  have hb1 : Below w.heap.size w (w.alloc (.cells #[] 5)) := (Below.refl _ _).alloc (Nat.le_refl _) _
  have hO : newBytes (w.alloc (.cells #[] 5)) w.heap.size (.slice (some ⟨w.heap.size, 0, none⟩) 0 0) [] :=
    ⟨⟨rfl, Or.inr ⟨w.heap.size, 0, #[], rfl, Nat.le_refl _, blk_alloc_new _ _, Nat.le_refl _, by unfold maxLen; omega, rfl, rfl⟩⟩, fun i => by simp⟩
  obtain ⟨v', w', hr, hn, hg, _⟩ := bytes_append_run _ w.heap.size _ u [] l hO (hu.below hb1 (Nat.le_refl _)) (by simp; omega) (by simp)
  exact ⟨v', w', hr, hn, hb1.trans (below_grown hg (fun k hk => (hO.block k hk).1) (by simp))⟩

/-- bytes as a string. -/
def strOf (l : List Int) : ByteArray := ⟨(l.map fun n => UInt8.ofNat n.toNat).toArray⟩
theorem strOf_fold (l : List Int) : ∀ s : ByteArray, l.foldl (fun r n => r.push (UInt8.ofNat n.toNat)) s = ⟨(s.data.toList ++ l.map fun n => UInt8.ofNat n.toNat).toArray⟩ := by
  induction l with
  | nil => intro s; simp
  | cons n l ih => intro s; rw [List.foldl_cons, ih]; simp [ByteArray.push]
theorem strOf_size (l : List Int) : (strOf l).size = l.length := by simp [strOf, ByteArray.size]
theorem rowV_map (n : Nat) (f : Nat → Int) : rowV n (fun i => .int .u8 (f i)) = (((List.range n).map f).map (Value.int .u8)).toArray := by
  symm
  apply rowV_eq
  · simp
  · intro i hi; simp [hi]
section
variable {P : Program}
/-- string(b), b a slice over a row of bytes. -/
theorem run_convert_row_string (w : World) (src dst e : TypeId) (b o n c : Nat) (f : Nat → Int) (hs : P.underlying src = some (.slice e)) (he : P.underlying e = some (.int .u8)) (hd : P.underlying dst = some .string)
    (hc : ∀ i, i < n → w.cell? ⟨b, o + i, none⟩ = some (.int .u8 (f i))) :
    (convert src dst (.slice (some ⟨b, o, none⟩) n c)).run P w = .ok (.string (strOf ((List.range n).map f))) w := by
  rw [run_convert_bytes_string w src dst e _ _ _ hs he hd]
  have hl := run_loadCells_list (P := P) w ⟨b, o, none⟩ (rowV n fun i => .int .u8 (f i)).toList (fun j v hv => by rw [Addr.add_mid]; exact range_of_cells hc j v hv)
  rw [Array.length_toList, rowV_size, Array.toArray_toList, rowV_map] at hl
  rw [run_bytesToString w ⟨b, o, none⟩ n c _ hl, strOf_fold]
  simp [strOf]
theorem range_getD (l : List Int) : (List.range l.length).map (fun i => l.getD i 0) = l := by
  apply List.ext_getElem?
  intro i
  rw [List.getElem?_map]
  by_cases h : i < l.length
  · rw [List.getElem?_range h, List.getElem?_eq_getElem h, Option.map_some, List.getD_eq_getElem?_getD, List.getElem?_eq_getElem h]; rfl
  · rw [List.getElem?_eq_none (by simp; omega), List.getElem?_eq_none (by omega)]; rfl
/-- string(b), b any bytes. -/
theorem run_convert_bytes (w : World) (src dst e : TypeId) (v : Value) (l : List Int) (hs : P.underlying src = some (.slice e)) (he : P.underlying e = some (.int .u8)) (hd : P.underlying dst = some .string)
    (h : isBytes w v l) : (convert src dst v).run P w = .ok (.string (strOf l)) w := by
  rcases h with ⟨rfl, rfl⟩ | ⟨pb, po, cap, rfl, h2, h3, h4, h6, h7⟩
  · rw [run_convert_bytes_string w src dst e _ _ _ hs he hd]
    simp [Conv.bytesToString, strOf]
    rfl
  · rw [run_convert_row_string w src dst e pb po l.length cap (fun i => l.getD i 0) hs he hd h6, range_getD]
theorem run_convert_any (w : World) (src dst e : TypeId) (v : Value) (l : List Int) (hs : P.underlying src = some (.slice e)) (he : P.underlying e = some (.int .u8)) (hd : P.underlying dst = some .string)
    (h : anyBytes w v l) : (convert src dst v).run P w = .ok (.string (strOf l)) w := by
  rcases h with h | ⟨⟨a, rfl⟩, rfl⟩
  · exact run_convert_bytes w src dst e v l hs he hd h
  · rw [run_convert_bytes_string w src dst e _ _ _ hs he hd]
    cases a with
    | none => simp [Conv.bytesToString, strOf]; rfl
    | some a => rw [run_bytesToString w a 0 0 [] (by simp [loadCells, loadCellsFrom]), strOf_fold]; simp [strOf]
theorem wp_convert_run {o : Oper} {a : Act} {w w' : World} {K : Act → World → Prop} {Q : Exit → Act → World → Prop} {v r : Value} (s t : TypeId) (x : Operand)
    (ho : o.op = .convert s t x) (hx : a.eval x = v) (hr : (convert s t v).run P w = .ok r w') (h : K (a.put o.dst r) w') : o.wp P a w K Q := by
  unfold Oper.wp execOp
  simp only [ho, hx, Sem.run_bind, hr, Result.andThen_ok, Sem.run_pure]
  exact h
theorem wpList_convert_run {ops : Array Oper} {rest : List Oper} {o : Oper} {a : Act} {w w' : World} {Q : Exit → Act → World → Prop} {v r : Value} (hgd : o.guard = none) (s t : TypeId) (x : Operand)
    (ho : o.op = .convert s t x) (hx : a.eval x = v) (hr : (convert s t v).run P w = .ok r w') (h : wpList P ops Q rest (a.put o.dst r) w') : wpList P ops Q (o :: rest) a w :=
  wpList_plain hgd fun _ hK => wp_convert_run s t x ho hx hr (hK _ _ h)
end
theorem strOf_inj {l m : List Int} (hl : ∀ i, 0 ≤ l.getD i 0 ∧ l.getD i 0 ≤ 255) (hm : ∀ i, 0 ≤ m.getD i 0 ∧ m.getD i 0 ≤ 255) (h : strOf l = strOf m) : l = m := by
  have hlen : l.length = m.length := by rw [← strOf_size l, ← strOf_size m, h]
  have h' : l.map (fun n => UInt8.ofNat n.toNat) = m.map (fun n => UInt8.ofNat n.toNat) := by
    have := congrArg (fun s : ByteArray => s.data.toList) h
    simpa [strOf] using this
  apply List.ext_getElem hlen
  intro i h1 h2
  have e := congrArg (fun q => q[i]?) h'
  simp only [List.getElem?_map, List.getElem?_eq_getElem h1, List.getElem?_eq_getElem h2, Option.map_some, Option.some.injEq] at e
  have a1 := hl i
  have a2 := hm i
  rw [List.getD_eq_getElem?_getD, List.getElem?_eq_getElem h1] at a1
  rw [List.getD_eq_getElem?_getD, List.getElem?_eq_getElem h2] at a2
  simp only [Option.getD_some] at a1 a2
  have e2 := congrArg UInt8.toNat e
  rw [UInt8.toNat_ofNat', UInt8.toNat_ofNat'] at e2
  omega
end Go.Proofs.YtcfbaijibghcaaaDoor
