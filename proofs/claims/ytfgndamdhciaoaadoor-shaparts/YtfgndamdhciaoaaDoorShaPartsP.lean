import Derived.Test.YtfgndamdhciaoaaDoorShaBackW
import Derived.Test.YtfgndamdhciaoaaDoorSlc
import Derived.RegionTactic
import Derived.BigRegion
import Derived.Deep.Light
namespace Go.Proofs.YtfgndamdhciaoaaDoor
open Go.RowKit Go.Deep

/-- v is a slice of n numbers of 16 bits. -/
def isU16s (w : World) (v : Value) (n : Nat) (c : Nat → Int) : Prop :=
  n ≤ maxLen ∧ (∀ i, 0 ≤ c i ∧ c i ≤ 65535) ∧ ((v = .slice none 0 0 ∧ n = 0) ∨ ∃ pb po cap : Nat, v = .slice (some ⟨pb, po, none⟩) n cap ∧ pb < w.heap.size ∧ ∀ i, i < n → w.cell? ⟨pb, po + i, none⟩ = some (.int .u16 (c i)))
/-- isBytes, below a block. -/
def bytesUnder (w : World) (N : Nat) (v : Value) (l : List Int) : Prop :=
  (v = .slice none 0 0 ∧ l = []) ∨ ∃ pb po cap : Nat, v = .slice (some ⟨pb, po, none⟩) l.length cap ∧ l.length ≤ cap ∧ cap ≤ maxLen ∧ pb < N ∧
    (∀ i, i < l.length → w.cell? ⟨pb, po + i, none⟩ = some (.int .u8 (l.getD i 0))) ∧ ∀ i, 0 ≤ l.getD i 0 ∧ l.getD i 0 ≤ 255

theorem flat_none (i : Nat) : (flatTo (fun _ => []) i).length ≤ 20000 := by
  induction i with
  | zero => simp [flatTo]
  | succ i ih => rw [flatTo, List.append_nil]; exact ih
theorem one_slice (w : World) (x : Value) (j : Nat) (u : Value) (hu : ([x] : List Value)[j]? = some u) : (w.alloc (.cells #[x] 28)).cell? ⟨w.heap.size, 0 + j, none⟩ = some u := by
  have hb : (w.alloc (.cells #[x] 28)).heap[w.heap.size]? = some (.cells #[x] 28) := blk_alloc_new _ _
  rw [cell_of_row _ _ _ _ _ _ hb, Nat.zero_add]
  simpa using hu
theorem hiS : (Tryd.prog.info? 28).map (fun i => (i.zero, i.size, i.bytes)) = some (some (.slice none 0 0), 1, 24) := by kernel_rfl
section
variable {P : Program}
/-- x[:m] of a slice. -/
theorem run_slice_to (t e : TypeId) (b o len cap m : Nat) (hu : P.underlying t = some (.slice e)) (hs : (P.info? e).map (·.size) = some 1) (hm : m ≤ cap) :
    ∀ w : World, (Instr.slice t (.slice (some ⟨b, o, none⟩) len cap) none (some (.int .i64 m)) none).run P w = .ok (.slice (some ⟨b, o, none⟩) m cap) w := by
  intro w
  cases hq : P.info? e with
  | none => simp [hq] at hs
  | some i =>
    have hi : i.size = 1 := by simpa [hq] using hs
    have h0 : (0 : Int) ≤ (m : Int) ∧ (m : Int) ≤ (cap : Int) := by omega
    by_cases hc : cap = 0
    · subst hc
      obtain rfl : m = 0 := by omega
      simp [Instr.slice, Instr.sliceBounds, Instr.sliceBound, asIntOf, run_underlying hu, sizeOf, typeInfo, hq]
    · simp [Instr.slice, Instr.sliceBounds, Instr.sliceBound, asIntOf, run_underlying hu, sizeOf, typeInfo, hq, h0, hc, hm, Addr.add_mid]
end
theorem one_part (w : World) (u : Value) : ∀ i, i < 1 → (w.alloc (.cells #[u] 28)).cell? ⟨w.heap.size, 0 + i, none⟩ = some ((fun _ => u) i) := by
  intro i hi
  obtain rfl : i = 0 := by omega
  exact one_slice w u 0 u rfl
/-- the rest of the bytes l, from the d-th on. -/
def restIs (w : World) (l : List Int) (a : Option Addr) (r cc d : Nat) : Prop :=
  d + r = l.length ∧ r ≤ cc ∧ cc ≤ maxLen ∧ (∀ i, 0 ≤ l.getD i 0 ∧ l.getD i 0 ≤ 255) ∧
  ((a = none ∧ r = 0 ∧ cc = 0) ∨ ∃ pb po o : Nat, a = some ⟨pb, o, none⟩ ∧ pb < w.heap.size ∧ (0 < r → o = po + d) ∧ ∀ i, i < l.length → w.cell? ⟨pb, po + i, none⟩ = some (.int .u8 (l.getD i 0)))
theorem bytes_range {w : World} {N : Nat} {v : Value} {l : List Int} (h : bytesUnder w N v l) : ∀ i, 0 ≤ l.getD i 0 ∧ l.getD i 0 ≤ 255 := by
  rcases h with ⟨_, rfl⟩ | ⟨_, _, _, _, _, _, _, _, h⟩
  · intro i; simp
  · exact h
theorem rest_start {w : World} {v : Value} {l : List Int} (h : bytesUnder w w.heap.size v l) : ∃ a cc, v = .slice a l.length cc ∧ restIs w l a l.length cc 0 := by
  have hr := bytes_range h
  rcases h with ⟨rfl, rfl⟩ | ⟨pb, po, cap, h1, h2, h3, h4, h6, h7⟩
  · exact ⟨none, 0, rfl, rfl, Nat.le_refl _, by unfold maxLen; omega, hr, Or.inl ⟨rfl, rfl, rfl⟩⟩
  · exact ⟨_, _, h1, by omega, h2, h3, hr, Or.inr ⟨pb, po, po, rfl, h4, fun _ => rfl, h6⟩⟩
theorem restIs.piece {w : World} {l : List Int} {a : Option Addr} {r cc d : Nat} (h : restIs w l a r cc d) (n : Nat) (hn : n ≤ r) : bytesUnder w w.heap.size (.slice a n cc) ((l.drop d).take n) := by
  obtain ⟨h1, h2, h3, h4, h5⟩ := h
  have hlen : ((l.drop d).take n).length = n := by rw [List.length_take, List.length_drop]; omega
  rcases h5 with ⟨rfl, rfl, rfl⟩ | ⟨pb, po, o, rfl, h6, h7, h8⟩
  · obtain rfl : n = 0 := by omega
    exact Or.inl ⟨rfl, by simp⟩
  · have hget : ∀ i, i < n → ((l.drop d).take n).getD i 0 = l.getD (d + i) 0 := fun i hi => by
      rw [List.getD_eq_getElem?_getD, List.getD_eq_getElem?_getD, List.getElem?_take, if_pos hi, List.getElem?_drop]
    refine Or.inr ⟨pb, o, cc, by rw [hlen], by omega, h3, h6, fun i hi => ?_, fun i => ?_⟩
    · rw [hlen] at hi
      rw [hget i hi, h7 (by omega), Nat.add_assoc]
      exact h8 _ (by omega)
    · by_cases hi : i < n
      · rw [hget i hi]; exact h4 _
      · rw [List.getD_eq_getElem?_getD, List.getElem?_eq_none (by omega)]; simp
theorem nil_to (w : World) : (Instr.slice 28 (.slice none 0 0) none (some (.int .i64 0)) none).run Tryd.prog w = .ok (.slice none 0 0) w := by kernel_rfl
theorem nil_from (w : World) : (Instr.slice 28 (.slice none 0 0) (some (.int .i64 0)) none none).run Tryd.prog w = .ok (.slice none 0 0) w := by kernel_rfl
theorem restIs.to {w : World} {l : List Int} {a : Option Addr} {r cc d : Nat} (h : restIs w l a r cc d) (n : Nat) (hn : n ≤ r) :
    ∀ w' : World, (Instr.slice 28 (.slice a r cc) none (some (.int .i64 n)) none).run Tryd.prog w' = .ok (.slice a n cc) w' := by
  obtain ⟨h1, h2, h3, h4, h5⟩ := h
  rcases h5 with ⟨rfl, rfl, rfl⟩ | ⟨pb, po, o, rfl, h6, h7, h8⟩
  · obtain rfl : n = 0 := by omega
    exact nil_to
  · exact run_slice_to (P := Tryd.prog) 28 5 pb o r cc n Tryd.underlying28 (by kernel_rfl) (by omega)
theorem restIs.from {w : World} {l : List Int} {a : Option Addr} {r cc d : Nat} (h : restIs w l a r cc d) (n : Nat) (hn : n ≤ r) :
    ∃ a', (∀ w' : World, (Instr.slice 28 (.slice a r cc) (some (.int .i64 n)) none none).run Tryd.prog w' = .ok (.slice a' (r - n) (cc - n)) w') ∧ restIs w l a' (r - n) (cc - n) (d + n) := by
  obtain ⟨h1, h2, h3, h4, h5⟩ := h
  rcases h5 with ⟨rfl, rfl, rfl⟩ | ⟨pb, po, o, rfl, h6, h7, h8⟩
  · obtain rfl : n = 0 := by omega
    exact ⟨none, nil_from, by omega, by omega, by unfold maxLen; omega, h4, Or.inl ⟨rfl, rfl, rfl⟩⟩
  · obtain ⟨o', ho', hsl⟩ := run_slice_from (P := Tryd.prog) 28 5 pb o r cc n Tryd.underlying28 (by kernel_rfl) hn
    exact ⟨_, hsl, by omega, by omega, by omega, h4, Or.inr ⟨pb, po, o', rfl, h6, fun hp => by have := ho' (by omega); have := h7 (by omega); omega, h8⟩⟩
theorem flatTo_congr {f g : Nat → List Int} : ∀ (n : Nat), (∀ i, i < n → f i = g i) → flatTo f n = flatTo g n
  | 0, _ => rfl
  | n + 1, h => by rw [flatTo, flatTo, flatTo_congr n fun i hi => h i (by omega), h n (by omega)]
/-- the parts that were gathered, k of them: they hold q, and lie below the call. -/
def gathered (w : World) (svs : List Value) (k : Nat) (q : List Int) : Prop :=
  svs.length = k ∧ ∃ ps : Nat → List Int, (∀ i, i < k → ∃ u, svs[i]? = some u ∧ bytesUnder w w.heap.size u (ps i)) ∧ (∀ i, i ≤ k → (flatTo ps i).length ≤ 20000) ∧ flatTo ps k = q
theorem gathered_nil (w : World) : gathered w [] 0 [] := ⟨rfl, fun _ => [], fun i hi => by omega, fun i _ => flat_none i, rfl⟩
theorem gathered.add {w : World} {svs : List Value} {k : Nat} {q p : List Int} {u : Value} (h : gathered w svs k q) (hu : bytesUnder w w.heap.size u p) (hl : (q ++ p).length ≤ 20000) : gathered w (svs ++ [u]) (k + 1) (q ++ p) := by
  obtain ⟨h1, ps, h2, h3, h4⟩ := h
  have hc : ∀ i, i ≤ k → flatTo (fun j => if j < k then ps j else p) i = flatTo ps i := fun i hi => flatTo_congr i fun j hj => if_pos (by omega)
  refine ⟨by simp [h1], fun j => if j < k then ps j else p, fun i hi => ?_, fun i hi => ?_, ?_⟩
  · by_cases hik : i < k
    · obtain ⟨v, hv, hb⟩ := h2 i hik
      exact ⟨v, by rw [List.getElem?_append_left (by omega)]; exact hv, by show bytesUnder _ _ _ (if i < k then ps i else p); rw [if_pos hik]; exact hb⟩
    · obtain rfl : i = k := by omega
      exact ⟨u, by rw [List.getElem?_append_right (by omega), h1]; simp, by show bytesUnder _ _ _ (if i < i then ps i else p); rw [if_neg hik]; exact hu⟩
  · by_cases hik : i ≤ k
    · rw [hc i hik]; exact h3 i hik
    · obtain rfl : i = k + 1 := by omega
      rw [flatTo, hc k (Nat.le_refl _), h4, if_neg (by omega)]; exact hl
  · rw [flatTo, hc k (Nat.le_refl _), h4, if_neg (by omega)]
theorem bytesUnder.is {w w' : World} {v : Value} {l : List Int} (h : bytesUnder w w.heap.size v l) (hb : Below w.heap.size w w') : isBytes w' v l := by
  rcases h with h | ⟨pb, po, cap, h1, h2, h3, h4, h6, h7⟩
  · exact Or.inl h
  · exact Or.inr ⟨pb, po, cap, h1, h2, h3, Nat.lt_of_lt_of_le h4 hb.size, fun i hi => by rw [hb.cell (p := ⟨pb, po + i, none⟩) h4]; exact h6 i hi, h7⟩
theorem gathered.parts {w w' : World} {svs : List Value} {k : Nat} {q : List Int} {v : Value} {B : Nat} (h : gathered w svs k q) (ho : owns w' B 28 v svs) (hb : Below w.heap.size w w') (hk : 0 < k) :
    ∃ ps, isParts w' v k ps ∧ (∀ i, i ≤ k → (flatTo ps i).length < 1099511627776) ∧ flatTo ps k = q := by
  obtain ⟨h1, ps, h2, h3, h4⟩ := h
  obtain ⟨g, cap, rfl, _, hlt, hc, hm, hcell, _⟩ := ho.shape (by omega)
  refine ⟨ps, Or.inr ⟨g, 0, cap, fun i => svs.getD i undef, by rw [h1], hlt, by omega, fun i hi => ?_⟩, fun i hi => by have := h3 i hi; omega, h4⟩
  obtain ⟨u, hu, hbu⟩ := h2 i hi
  have hg : svs.getD i undef = u := by rw [List.getD_eq_getElem?_getD, hu]; rfl
  show w'.cell? _ = some (svs.getD i undef) ∧ isBytes w' (svs.getD i undef) (ps i)
  rw [hg, Nat.zero_add]
  exact ⟨hcell i u hu, hbu.is hb⟩
theorem one_is (w w0 : World) (u : Value) (p : List Int) (hu : bytesUnder w0 w0.heap.size u p) (hb : Below w0.heap.size w0 w) : isParts (w.alloc (.cells #[u] 28)) (.slice (some ⟨w.heap.size, 0, none⟩) 1 1) 1 (fun _ => p) :=
  Or.inr ⟨w.heap.size, 0, 1, fun _ => u, rfl, by simp, by unfold maxLen; omega, fun i hi => ⟨one_part w u i hi, hu.is (hb.alloc hb.size _)⟩⟩
/-- Write, of one part that was laid into a slice of its own. -/
theorem write_one (b : Nat) (l p : List Int) (u : Value) (w w0 : World) (h : hashAny w b l) (hu : bytesUnder w0 w0.heap.size u p) (hb : Below w0.heap.size w0 w) (ht : tabIs w) (hb0 : w0.heap.size ≤ b ∧ b ≠ 0) (hbig : l.length + p.length < 1099511627776) :
    Calls Tryd.prog 17 #[.pointer (some ⟨b, 0, none⟩), .slice (some ⟨w.heap.size, 0, none⟩) 1 1] (w.alloc (.cells #[u] 28)) fun e w' => e = .returned (.tuple #[]) ∧ But (w.heap.size + 1) b (w.alloc (.cells #[u] 28)) w' ∧ hashOf w' b (l ++ p) := by
  have hlt := h.lt
  have hA : hashAny (w.alloc (.cells #[u] 28)) b l := by
    obtain ⟨v, f, h1, h2⟩ := h
    exact ⟨v, f, World.rowIs.alloc h1 _, h2⟩
  have hBa : Below w0.heap.size w0 (w.alloc (.cells #[u] 28)) := hb.alloc hb.size _
  have key := write_any b l 1 w.heap.size 0 1 (fun _ => u) (fun _ => p) (w.alloc (.cells #[u] 28)) hA (by omega) (by simp) (one_part w u) (fun i hi => ?_) (fun i hi => ?_) (by decide) (fun i hi => ?_) hb0.2
  · rw [nblk_alloc] at key
    simpa [flatTo] using key
  · rcases hu with h | ⟨pb, po, cap, h1, h2, h3, h4, h6, h7⟩
    · exact Or.inl h
    · exact Or.inr ⟨pb, po, cap, h1, h2, h3, Nat.lt_of_lt_of_le h4 hBa.size, by omega, fun i hi => by rw [hBa.cell (p := ⟨pb, po + i, none⟩) h4]; exact h6 i hi, h7⟩
  · have hi' : i = 0 ∨ i = 1 := by omega
    rcases hi' with rfl | rfl <;> simp [flatTo] <;> omega
  · rw [World.cell?_of_block (w := w) (blk_alloc_lt _ _ _ ht.1)]; exact ht.2 i hi
/-- what stands while the sums are held against one another. -/
def partsHeld (w : World) (l : List Int) (sb : Nat) (pv : Value) (kk : Nat) (ps : Nat → List Int) (w' : World) : Prop :=
  w'.rowIs sb 26 32 (fun i => .int .u8 (sumI l i)) ∧ hashAny w' w.heap.size l ∧ isParts w' pv kk ps ∧ tabIs w' ∧ Below w.heap.size w w'
theorem partsHeld.below {w : World} {l : List Int} {sb : Nat} {pv : Value} {kk : Nat} {ps : Nat → List Int} {w' w'' : World} (h : partsHeld w l sb pv kk ps w') (hb : Below w'.heap.size w' w'') : partsHeld w l sb pv kk ps w'' := by
  obtain ⟨h1, h2, h3, h4, h5⟩ := h
  refine ⟨hb.row h1 h1.lt, ?_, h3.below hb (Nat.le_refl _), h4.below hb h4.1, h5.trans (hb.mono h5.size)⟩
  obtain ⟨v, f, q1, q2⟩ := h2
  exact ⟨v, f, World.rowIs.of_block q1 (hb.block _ (World.rowIs.lt q1)), q2⟩
end Go.Proofs.YtfgndamdhciaoaaDoor
