import Derived.Test.YtfgndamdhciaoaaDoorFrame
import Derived.Test.YtfgndamdhciaoaaDoorShaPartsW
import Derived.ChangeSlices
namespace Go.Proofs.YtfgndamdhciaoaaDoor
open Go.RowKit Go.Deep Go.ChangeShapes Go.WideShapes

theorem bounds_u16 {n : Int} (h : (Lit.int .u16 n).wf = true) : 0 ≤ n ∧ n ≤ 65535 := by
  simpa [Lit.wf, IntKind.min, IntKind.max, IntKind.signed, IntKind.bits] using h
/-- A SLICE OF NUMBERS, opened. -/
theorem open_slice_ints {H : Type} {enc : TypeId × Value → H} {P : Program} {w : World} {base b0 : Nat} {sp : Nat → Bool} {held : Bool} {r : Reach} {t e : TypeId} {k : IntKind} {v : Value} {d : DataW H} {ps : List MemPlace}
    (hu : P.underlying t = some (.slice e)) (he : P.underlying e = some (.int k)) (hc : P.cellsOf e = 1) (hval : Value.okWide P w r b0 t v) (hd : DataW.Trod enc P w base sp held t v d ps) :
    ∃ l : List Int, (∀ n ∈ l, (Lit.int k n).wf = true) ∧ ((v = .slice none 0 0 ∧ l = []) ∨ ∃ pb po cap : Nat, v = .slice (some ⟨pb, po, none⟩) l.length cap ∧ l.length ≤ cap ∧ cap ≤ maxLen ∧ pb < w.heap.size ∧
      ∀ i, i < l.length → w.cell? ⟨pb, po + i, none⟩ = some (.int k (l.getD i 0))) := by
  obtain ⟨a, len, cap, rfl⟩ := okWide_slice hu hval
  obtain ⟨fuel, hf⟩ := hd
  rcases open_ints hu he hc hf with ⟨h0, _⟩ | ⟨a', len', cap', zs, h0, _, h1, h2, h3, _, h4, h5⟩
  · refine ⟨[], (fun n hn => absurd hn List.not_mem_nil), Or.inl ⟨?_, rfl⟩⟩
    simpa [Value.cells] using h0
  · have h0' : a = some a' ∧ len = len' ∧ cap = cap' := by simpa [Value.cells] using h0
    obtain ⟨rfl, rfl, rfl⟩ := h0'
    have hlz : len ≤ zs.length := by rw [h3]; split <;> omega
    simp only [Value.okWide, hu, Cell.okWide, Cell.ok] at hval
    obtain ⟨_, _, _, hsp, row, cells, hsh, _⟩ := hval
    obtain ⟨pb, po, spot⟩ := a'
    obtain rfl : spot = none := hsp
    have hl : (zs.take len).length = len := by rw [List.length_take]; omega
    refine ⟨zs.take len, fun n hn => h5 n (List.mem_of_mem_take hn), Or.inr ⟨pb, po, cap, by rw [hl], by omega, h2, ?_, fun i hi => ?_⟩⟩
    · unfold World.shape? at hsh
      cases hq : w.heap[pb]? with
      | none => rw [hq] at hsh; cases hsh
      | some o => exact (Array.getElem?_eq_some_iff.1 hq).1
    · rw [hl] at hi
      have := h4 i (by omega)
      rw [Addr.add_mid] at this
      rw [this, List.getD_eq_getElem?_getD, List.getD_eq_getElem?_getD, List.getElem?_take, if_pos hi]
theorem open_slice_bytes {H : Type} {enc : TypeId × Value → H} {P : Program} {w : World} {base b0 : Nat} {sp : Nat → Bool} {held : Bool} {r : Reach} {t e : TypeId} {v : Value} {d : DataW H} {ps : List MemPlace}
    (hu : P.underlying t = some (.slice e)) (he : P.underlying e = some (.int .u8)) (hc : P.cellsOf e = 1) (hval : Value.okWide P w r b0 t v) (hd : DataW.Trod enc P w base sp held t v d ps) : ∃ l, bytesUnder w w.heap.size v l := by
  obtain ⟨l, h1, h2⟩ := open_slice_ints hu he hc hval hd
  refine ⟨l, ?_⟩
  rcases h2 with h | ⟨pb, po, cap, h3, h4, h5, h6, h7⟩
  · exact Or.inl h
  · refine Or.inr ⟨pb, po, cap, h3, h4, h5, h6, h7, fun i => ?_⟩
    by_cases hi : i < l.length
    · rw [List.getD_eq_getElem?_getD, List.getElem?_eq_getElem hi]
      exact bounds_u8 (h1 _ (List.getElem_mem hi))
    · rw [List.getD_eq_getElem?_getD, List.getElem?_eq_none (by omega)]; simp
theorem open_u16s {H : Type} {enc : TypeId × Value → H} {P : Program} {w : World} {base b0 : Nat} {sp : Nat → Bool} {held : Bool} {r : Reach} {t e : TypeId} {v : Value} {d : DataW H} {ps : List MemPlace}
    (hu : P.underlying t = some (.slice e)) (he : P.underlying e = some (.int .u16)) (hc : P.cellsOf e = 1) (hval : Value.okWide P w r b0 t v) (hd : DataW.Trod enc P w base sp held t v d ps) : ∃ n c, isU16s w v n c := by
  obtain ⟨l, h1, h2⟩ := open_slice_ints hu he hc hval hd
  have hb : ∀ i, 0 ≤ l.getD i 0 ∧ l.getD i 0 ≤ 65535 := fun i => by
    by_cases hi : i < l.length
    · rw [List.getD_eq_getElem?_getD, List.getElem?_eq_getElem hi]
      exact bounds_u16 (h1 _ (List.getElem_mem hi))
    · rw [List.getD_eq_getElem?_getD, List.getElem?_eq_none (by omega)]; simp
  refine ⟨l.length, fun i => l.getD i 0, ?_, hb, ?_⟩
  · rcases h2 with ⟨_, rfl⟩ | ⟨pb, po, cap, h3, h4, h5, h6, h7⟩
    · exact Nat.zero_le _
    · omega
  · rcases h2 with ⟨h, rfl⟩ | ⟨pb, po, cap, h3, h4, h5, h6, h7⟩
    · exact Or.inl ⟨h, rfl⟩
    · exact Or.inr ⟨pb, po, cap, h3, h6, h7⟩

theorem under_slice {w : World} {N : Nat} {v : Value} {l : List Int} (h : bytesUnder w N v l) : ∃ a c, v = .slice a l.length c := by
  rcases h with ⟨rfl, rfl⟩ | ⟨pb, po, cap, rfl, _⟩
  · exact ⟨_, _, rfl⟩
  · exact ⟨_, _, rfl⟩
theorem u16s_slice {w : World} {v : Value} {n : Nat} {c : Nat → Int} (h : isU16s w v n c) : ∃ a cp, v = .slice a n cp := by
  obtain ⟨_, _, ⟨rfl, rfl⟩ | ⟨pb, po, cap, rfl, _⟩⟩ := h
  · exact ⟨_, _, rfl⟩
  · exact ⟨_, _, rfl⟩
set_option maxHeartbeats 1000000 in
theorem parts_more (n m : Nat) (a b : Option Addr) (c d : Nat) (w : World) (ht : tabIs w) (h : 20000 < n ∨ 300 < m) :
    Calls Tryd.prog 7 #[.slice a n c, .slice b m d] w fun e w' => e = .returned (.bool true) ∧ Below w.heap.size w w' := by
  by_cases h1 : 20000 < n
  · have q0 : (20000 : Int) < (n : Int) := by omega
    go_enter Tryd.func7, Tryd.ntmps7
    go_wp2_with fail
    refine (awake_any w ht).mono ?_
    rintro e w1 ⟨rfl, hb1⟩
    go_wp2
    go_ret
    exact ⟨rfl, hb1⟩
  · have q0 : (n : Int) ≤ 20000 := by omega
    have q1 : (300 : Int) < (m : Int) := by omega
    go_enter Tryd.func7, Tryd.ntmps7
    go_wp2_with fail
    refine (awake_any _ ht).mono ?_
    rintro e w1 ⟨rfl, hb1⟩
    go_wp2
    go_ret
    exact ⟨rfl, hb1⟩
theorem parts_any (l : List Int) (bv cv : Value) (nc : Nat) (c : Nat → Int) (w : World) (ht : tabIs w) (hbv : bytesUnder w w.heap.size bv l) (hcv : isU16s w cv nc c) :
    Calls Tryd.prog 7 #[bv, cv] w fun e w' => e = .returned (.bool true) ∧ Below w.heap.size w w' := by
  by_cases h : 20000 < l.length ∨ 300 < nc
  · obtain ⟨a, x, rfl⟩ := under_slice hbv
    obtain ⟨b, y, rfl⟩ := u16s_slice hcv
    exact parts_more _ _ a b x y w ht h
  · exact parts_some l bv cv nc c w ht (by omega) hbv hcv (by omega)
end Go.Proofs.YtfgndamdhciaoaaDoor
