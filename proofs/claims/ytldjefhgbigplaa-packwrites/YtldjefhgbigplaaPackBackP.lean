import Derived.Test.YtldjefhgbigplaaPackOnlyP
import Derived.Test.YtldjefhgbigplaaPackSums
import Derived.Test.YtldjefhgbigplaaFrameG
/- What was written is cut off as it was: the bytes. -/
namespace Go.Proofs.Ytldjefhgbigplaa
open Go.RowKit Go.Deep Go.ChangeShapes Go.WideShapes

theorem first_append (x : Int) (hx : 0 ≤ x ∧ x < 18446744073709551616) (r : List Int) : firstB (numB x ++ r) = some (x, 1 + szI x) := by
  have h8 := szI_le x
  have hl : (numB x ++ r).length = 1 + szI x + r.length := by rw [List.length_append, numB_length]
  have e0 : (numB x ++ r).getD 0 0 = (szI x : Int) := by rw [numB]; rfl
  have ed : ((numB x ++ r).drop 1).take (szI x) = digsI x (szI x) := by
    rw [numB, List.cons_append, List.drop_succ_cons, List.drop_zero, List.take_append_of_le_length (by simp [digsI]), List.take_of_length_le (by simp [digsI])]
  have et : ((numB x ++ r).getD 0 0).toNat = szI x := by rw [e0]; rfl
  unfold firstB
  rw [if_pos ⟨by omega, by rw [e0]; omega, by rw [e0, hl]; omega⟩, et, ed, horn_digs x hx.1 hx.2, if_neg]
  rintro ⟨p1, p2⟩
  have hh := szI_horn (digsI x (szI x)) (by simp [digsI]; omega) (digs_mem x _)
  rw [horn_digs x hx.1 hx.2] at hh
  have hlen : (digsI x (szI x)).length = szI x := by simp [digsI]
  rw [hlen] at hh
  refine hh.1 rfl ⟨p1, ?_⟩
  have : (numB x ++ r).getD 1 0 = (digsI x (szI x)).getD 0 0 := by
    rw [numB, List.cons_append, List.getD_cons_succ, List.getD_eq_getElem?_getD, List.getElem?_append_left (by omega), ← List.getD_eq_getElem?_getD]
  rw [← this]; exact p2
theorem num_back (x : Int) (hx : 0 ≤ x ∧ x < 18446744073709551616) (r : List Int) (most : Int) (hm : x ≤ most) : numR (numB x ++ r) false most = (x, r, false) := by
  unfold numR
  rw [numOf_of_ok (first_append x hx r) hm]
  simp only [Bool.false_eq_true, if_false]
  rw [List.drop_append_of_le_length (by rw [numB_length]; omega), List.drop_of_length_le (by rw [numB_length]; omega), List.nil_append]
theorem part_back (p r : List Int) (hp : p.length ≤ 1000000) (most : Int) (hm : (p.length : Int) ≤ most) : partR (blobB p ++ r) false most = (p, r, false) := by
  have hx : 0 ≤ (p.length : Int) ∧ (p.length : Int) < 18446744073709551616 := by omega
  have e : blobB p ++ r = numB p.length ++ (p ++ r) := by rw [blobB, List.append_assoc]
  have hd : (numB p.length ++ (p ++ r)).drop (1 + szI p.length) = p ++ r := by
    rw [List.drop_append_of_le_length (by rw [numB_length]; omega), List.drop_of_length_le (by rw [numB_length]; omega), List.nil_append]
  unfold partR
  rw [if_neg (by simp; omega), e, numOf_of_ok (first_append _ hx _) hm]
  simp only
  rw [if_neg (by rw [List.length_append, List.length_append, numB_length]; omega), hd, Int.toNat_natCast]
  simp
theorem sum_back (g r : List Int) (hg : g.length = 32) : sumR (g ++ r) false = (g, r, false) := by
  unfold sumR
  rw [if_neg (by simp; omega), List.take_append_of_le_length (by omega), List.take_of_length_le (by omega), List.drop_append_of_le_length (by omega), List.drop_of_length_le (by omega), List.nil_append]
/-- what is written in a round. -/
def itemB (n0 n1 n2 : Nat) (f : Nat → Int) (ps g : Nat → List Int) (i : Nat) : List Int :=
  (if i < n0 then numB (f i) else []) ++ ((if i < n1 then blobB (ps i) ++ blobB (ps i) else []) ++ (if i < n2 then g i else []))
theorem flatTo_split (it : Nat → List Int) : ∀ n k, k < n → ∃ r, flatTo it n = flatTo it k ++ (it k ++ r)
  | 0, k, h => by omega
  | n + 1, k, h => by
    by_cases e : k = n
    · subst e; exact ⟨[], by rw [flatTo, List.append_nil]⟩
    · obtain ⟨r, hr⟩ := flatTo_split it n k (by omega)
      exact ⟨r ++ it n, by rw [flatTo, hr, List.append_assoc, List.append_assoc]⟩
theorem rest_split (it : Nat → List Int) (n k : Nat) (h : k < n) (r : List Int) (hr : flatTo it k ++ r = flatTo it n) : ∃ r', r = it k ++ r' ∧ flatTo it (k + 1) ++ r' = flatTo it n := by
  obtain ⟨r', h'⟩ := flatTo_split it n k h
  rw [h'] at hr
  have := List.append_cancel_left hr
  exact ⟨r', this, by rw [flatTo, h', List.append_assoc]⟩

theorem open_u64s {H : Type} {enc : TypeId × Value → H} {w : World} {base b0 : Nat} {sp : Nat → Bool} {held : Bool} {r : Reach} {v : Value} {d : DataW H} {ps : List MemPlace}
    (hval : Value.okWide Try.prog w r b0 23 v) (hd : DataW.Trod enc Try.prog w base sp held 23 v d ps) : ∃ (n : Nat) (f : Nat → Int), isRow w v n (fun i => .int .u64 (f i)) ∧ ∀ i, i < n → 0 ≤ f i ∧ f i < 18446744073709551616 := by
  rcases open_any 1 Try.underlying23 (by kernel_rfl) hval hd with rfl | ⟨pb, po, len, cap, rfl, h1, h2, h3, h4⟩
  · exact ⟨0, fun _ => 0, Or.inl ⟨rfl, rfl⟩, fun i hi => by omega⟩
  · have each : ∀ i, i < len → ∃ z : Int, w.cell? ⟨pb, po + i, none⟩ = some (.int .u64 z) ∧ 0 ≤ z ∧ z < 18446744073709551616 := fun i hi => by
      obtain ⟨cs', n, D, g1, g2, g3⟩ := h4 i hi
      obtain ⟨z, rfl, _, hw⟩ := DataW.trod_int Try.underlying39 g3
      have := g2 0 (by omega)
      rw [Nat.mul_one, Nat.add_zero] at this
      exact ⟨z, this, bounds_u64 hw⟩
    obtain ⟨f, hf⟩ := choose_lt each
    exact ⟨len, f, Or.inr ⟨pb, po, cap, rfl, h3, by omega, fun i hi => (hf i hi).1⟩, fun i hi => (hf i hi).2⟩
theorem open_sums {H : Type} {enc : TypeId × Value → H} {w : World} {base b0 : Nat} {sp : Nat → Bool} {held : Bool} {r : Reach} {v : Value} {d : DataW H} {ps : List MemPlace}
    (hval : Value.okWide Try.prog w r b0 25 v) (hd : DataW.Trod enc Try.prog w base sp held 25 v d ps) : ∃ n g, isSums w v n g := by
  rcases open_any 32 Try.underlying25 (by kernel_rfl) hval hd with rfl | ⟨pb, po, len, cap, rfl, h1, h2, h3, h4⟩
  · exact ⟨0, fun _ => [], fun i hi => by omega, Or.inl ⟨rfl, rfl⟩⟩
  · have c8 : Try.prog.cellsOf 5 = 1 := by kernel_rfl
    have each : ∀ i, i < len → ∃ z : List Int, (z.length = 32 ∧ ∀ j, 0 ≤ z.getD j 0 ∧ z.getD j 0 ≤ 255) ∧ ∀ j, j < 32 → w.cell? ⟨pb, po + i * 32 + j, none⟩ = some (arrV z j) := fun i hi => by
      obtain ⟨cs', n, D, g1, g2, g3⟩ := h4 i hi
      obtain ⟨xs, m, _, _, hlen, _, hx⟩ := DataW.trod_array Try.underlying51 g3
      have hget : ∀ j, j < 32 → ∃ z : Int, cs'[j]? = some (.int .u8 z) ∧ 0 ≤ z ∧ z ≤ 255 := fun j hj => by
        have h1 := hx j hj
        rw [c8, Nat.mul_one] at h1
        have hxi : j < xs.length := by omega
        rw [List.getElem?_eq_getElem hxi] at h1
        obtain ⟨z, hz, _, hw⟩ := DataW.trod_int Try.underlying5 h1
        refine ⟨z, ?_, bounds_u8 hw⟩
        have := congrArg (fun l => l[0]?) hz
        simpa [List.getElem?_take, List.getElem?_drop] using this
      obtain ⟨f, hf⟩ := choose_lt hget
      have hg : ∀ j, j < 32 → ((List.range 32).map f).getD j 0 = f j := fun j hj => by
        rw [List.getD_eq_getElem?_getD, List.getElem?_map, List.getElem?_range hj]; rfl
      refine ⟨(List.range 32).map f, ⟨by simp, fun j => ?_⟩, fun j hj => ?_⟩
      · by_cases hj : j < 32
        · rw [hg j hj]; exact (hf j hj).2
        · rw [List.getD_eq_getElem?_getD, List.getElem?_eq_none (by simp; omega)]; exact ⟨by simp, by simp⟩
      · rw [g2 j hj, (hf j hj).1, arrV, hg j hj]
    obtain ⟨f, hf⟩ := choose_lt each
    exact ⟨len, f, fun i hi => (hf i hi).1, Or.inr ⟨pb, po, cap, rfl, h3, by omega, fun i hi => (hf i hi).2⟩⟩
/-- bytes in a cell that came in. -/
theorem open_inner {H : Type} {enc : TypeId × Value → H} {w : World} {base : Nat} {held : Bool} {n : Nat} {u : Value} {D : DataW H × List MemPlace}
    (hd : DataW.trod enc Try.prog w base (fun _ => true) held n 22 [u] = some D) : ∃ l, anyBytes w u l := by
  rcases open_slice1 Try.underlying22 (by kernel_rfl) hd with ⟨h0, _⟩ | ⟨a, len, cap, m, n', V, D', Pl, h0, _, h1, h2, h3, _, h4⟩
  · exact ⟨[], Or.inl (Or.inl ⟨by simpa using h0, rfl⟩)⟩
  · obtain rfl : u = .slice (some a) len cap := by simpa using h0
    simp only [if_true] at h3
    subst h3
    by_cases hc : m = 0
    · subst hc
      obtain rfl : len = 0 := by omega
      exact ⟨[], Or.inr ⟨⟨_, rfl⟩, rfl⟩⟩
    · have h00 := (h4 0 (by omega)).1
      have ha0 : a.add 0 = a := by unfold Addr.add; rw [if_pos rfl]
      rw [ha0] at h00
      have hsp : a.spot = none := by
        unfold World.cell? at h00
        split at h00
        · cases hs : a.spot with
          | none => rfl
          | some q => rw [hs] at h00; simp at h00
        · cases h00
      obtain ⟨pb, po, spot⟩ := a
      obtain rfl : spot = none := hsp
      have hlt := World.block_lt_of_cell? _ _ h00
      have each : ∀ i, i < len → ∃ z : Int, w.cell? ⟨pb, po + i, none⟩ = some (.int .u8 z) ∧ 0 ≤ z ∧ z ≤ 255 := fun i hi => by
        obtain ⟨e1, e2⟩ := h4 i (by omega)
        rw [Addr.add_mid] at e1
        obtain ⟨z, hz, _, hw⟩ := DataW.trod_int Try.underlying5 e2
        have hz' : V i = .int .u8 z := by simpa using hz
        exact ⟨z, by rw [e1, hz'], bounds_u8 hw⟩
      obtain ⟨f, hf⟩ := choose_lt each
      have hg : ∀ i, i < len → ((List.range len).map f).getD i 0 = f i := fun i hi => by
        rw [List.getD_eq_getElem?_getD, List.getElem?_map, List.getElem?_range hi]; rfl
      refine ⟨(List.range len).map f, Or.inl (Or.inr ⟨pb, po, m, by simp, by simpa using h1, h2, hlt, fun i hi => ?_, fun i => ?_⟩)⟩
      · have hi' : i < len := by simpa using hi
        rw [hg i hi']; exact (hf i hi').1
      · by_cases hi : i < len
        · rw [hg i hi]; exact (hf i hi).2
        · rw [List.getD_eq_getElem?_getD, List.getElem?_eq_none (by simp; omega)]; exact ⟨by simp, by simp⟩
theorem open_parts {H : Type} {enc : TypeId × Value → H} {w : World} {base b0 : Nat} {held : Bool} {r : Reach} {v : Value} {d : DataW H} {ps : List MemPlace}
    (hval : Value.okWide Try.prog w r b0 24 v) (hd : DataW.Trod enc Try.prog w base (fun _ => true) held 24 v d ps) : ∃ n p, isParts w v n p := by
  rcases open_any 1 Try.underlying24 (by kernel_rfl) hval hd with rfl | ⟨pb, po, len, cap, rfl, h1, h2, h3, h4⟩
  · exact ⟨0, fun _ => [], Or.inl ⟨rfl, rfl⟩⟩
  · have each : ∀ i, i < len → ∃ z : Value × List Int, w.cell? ⟨pb, po + i, none⟩ = some z.1 ∧ anyBytes w z.1 z.2 := fun i hi => by
      obtain ⟨cs', n, D, g1, g2, g3⟩ := h4 i hi
      match cs', g1 with
      | [u], _ =>
        obtain ⟨l, hl⟩ := open_inner g3
        have := g2 0 (by omega)
        rw [Nat.mul_one, Nat.add_zero] at this
        exact ⟨(u, l), this, hl⟩
    obtain ⟨f, hf⟩ := choose_lt each
    exact ⟨len, fun i => (f i).2, Or.inr ⟨pb, po, cap, fun i => (f i).1, rfl, h3, by omega, fun i hi => hf i hi⟩⟩
end Go.Proofs.Ytldjefhgbigplaa
