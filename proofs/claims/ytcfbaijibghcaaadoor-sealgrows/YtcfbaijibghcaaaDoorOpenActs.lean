import Derived.Test.YtcfbaijibghcaaaDoorOpenParts
import Derived.Test.YtcfbaijibghcaaaDoorSealHeavy
import Derived.SizedLaws
/- Acts that came in, opened. -/
namespace Go.Proofs.YtcfbaijibghcaaaDoor
set_option maxRecDepth 100000
open Go.RowKit Go.Deep Go.ChangeShapes Go.WideShapes

theorem trod_struct5 {H : Type} {enc : TypeId × Value → H} {P : Program} {w : World} {base : Nat} {spare : Nat → Bool} {held : Bool} {t : TypeId} {f0 f1 f2 f3 f4 : Field} {fuel : Nat} {cs : List Value} {x : DataW H × List MemPlace} (ht : P.underlying t = some (.struct #[f0, f1, f2, f3, f4])) (h : DataW.trod enc P w base spare held fuel t cs = some x) :
    ∃ y0 y1 y2 y3 y4 n, cs.length = P.cellsOf t ∧ DataW.trod enc P w base spare held n f0.type ((cs.drop f0.offset).take (P.cellsOf f0.type)) = some y0 ∧
      DataW.trod enc P w base spare held n f1.type ((cs.drop f1.offset).take (P.cellsOf f1.type)) = some y1 ∧ DataW.trod enc P w base spare held n f2.type ((cs.drop f2.offset).take (P.cellsOf f2.type)) = some y2 ∧
      DataW.trod enc P w base spare held n f3.type ((cs.drop f3.offset).take (P.cellsOf f3.type)) = some y3 ∧ DataW.trod enc P w base spare held n f4.type ((cs.drop f4.offset).take (P.cellsOf f4.type)) = some y4 := by
  obtain ⟨xs, n, _, rfl, hl, hlen, hf⟩ := DataW.trod_struct ht h
  match xs, hlen with
  | [y0, y1, y2, y3, y4], _ => exact ⟨y0, y1, y2, y3, y4, n, hl, by simpa using hf 0 f0 rfl, by simpa using hf 1 f1 rfl, by simpa using hf 2 f2 rfl, by simpa using hf 3 f3 rfl, by simpa using hf 4 f4 rfl⟩
/-- inner parts, opened. -/
theorem open_inner_parts {H : Type} {enc : TypeId × Value → H} {w : World} {base : Nat} {held : Bool} {n : Nat} {u : Value} {D : DataW H × List MemPlace}
    (hd : DataW.trod enc Tryd.prog w base (fun _ => true) held n 35 [u] = some D) : ∃ n p, anyParts w u n p := by
  rcases open_slice1 Tryd.underlying35 (by kernel_rfl) hd with ⟨h0, _⟩ | ⟨a, len, cap, m, n', V, D', Pl, h0, _, h1, h2, h3, _, h4⟩
  · exact ⟨0, fun _ => [], Or.inl (Or.inl ⟨by simpa using h0, rfl⟩)⟩
  · obtain rfl : u = .slice (some a) len cap := by simpa using h0
    simp only [if_true] at h3
    subst h3
    by_cases hc : m = 0
    · subst hc
      obtain rfl : len = 0 := by omega
      exact ⟨0, fun _ => [], Or.inr ⟨⟨_, rfl⟩, rfl⟩⟩
    · have h00 := (h4 0 (by omega)).1
      have ha0 : a.add 0 = a := by unfold Addr.add; rw [if_pos rfl]
      rw [ha0] at h00
      have hsp : a.spot = none := by
        unfold World.cell? at h00
        split at h00
        · cases hs : a.spot with
          | none => rfl
          | some q => rw [hs] at h00; simp at h00
        · cases h00
      obtain ⟨pb, po, spot⟩ := a
      obtain rfl : spot = none := hsp
      have hlt := World.block_lt_of_cell? _ _ h00
      have each : ∀ i, i < len → ∃ z : Value × List Int, w.cell? ⟨pb, po + i, none⟩ = some z.1 ∧ anyBytes w z.1 z.2 := fun i hi => by
        obtain ⟨e1, e2⟩ := h4 i (by omega)
        rw [Addr.add_mid] at e1
        obtain ⟨l, hl⟩ := open_inner e2
        exact ⟨(V i, l), e1, hl⟩
      obtain ⟨f, hf⟩ := choose_lt each
      exact ⟨len, fun i => (f i).2, Or.inl (Or.inr ⟨pb, po, m, fun i => (f i).1, rfl, hlt, by omega, fun i hi => hf i hi⟩)⟩
theorem drop_take1 {cs : List Value} {o : Nat} (h : o < cs.length) : (cs.drop o).take 1 = [cs[o]] := by
  rw [List.drop_eq_getElem_cons h]; rfl
theorem open_acts {H : Type} {enc : TypeId × Value → H} {w : World} {base b0 : Nat} {held : Bool} {r : Reach} {v : Value} {d : DataW H} {ps : List MemPlace}
    (hval : Value.okWide Tryd.prog w r b0 22 v) (hd : DataW.Trod enc Tryd.prog w base (fun _ => true) held 22 v d ps) : ∃ n acts, isActs w v n acts := by
  rcases open_any 36 Tryd.underlying22 (by kernel_rfl) hval hd with rfl | ⟨pb, po, len, cap, rfl, h1, h2, h3, h4⟩
  · exact ⟨0, fun _ => ⟨0, 0, 0, fun _ => [], [], []⟩, Or.inl ⟨rfl, rfl⟩⟩
  · have ci : Tryd.prog.cellsOf 3 = 1 := by kernel_rfl
    have cp : Tryd.prog.cellsOf 35 = 1 := by kernel_rfl
    have cb : Tryd.prog.cellsOf 36 = 1 := by kernel_rfl
    have cs32 : Tryd.prog.cellsOf 23 = 32 := by kernel_rfl
    have c8 : Tryd.prog.cellsOf 5 = 1 := by kernel_rfl
    have each : ∀ i, i < len → ∃ x : AR, actAt w pb (po + i * 36) x := fun i hi => by
      obtain ⟨cs', n, D, g1, g2, g3⟩ := h4 i hi
      obtain ⟨y0, y1, y2, y3, y4, m, _, t0, t1, t2, t3, t4⟩ := trod_struct5 Tryd.underlying38 g3
      simp only [ci, cp, cb, cs32] at t0 t1 t2 t3 t4
      rw [drop_take1 (by omega)] at t0 t1 t2 t4
      obtain ⟨z0, e0, _, _⟩ := DataW.trod_int (k := .i64) Tryd.underlying3 t0
      obtain ⟨z1, e1, _, _⟩ := DataW.trod_int (k := .i64) Tryd.underlying3 t1
      obtain ⟨pn, pp, hp⟩ := open_inner_parts t2
      obtain ⟨bl, hb⟩ := open_inner t4
      obtain ⟨xs, m', rfl, _, hlen, _, hx⟩ := DataW.trod_array Tryd.underlying23 t3
      have hsum : ∀ j, j < 32 → ∃ z : Int, cs'[3 + j]? = some (.int .u8 z) ∧ 0 ≤ z ∧ z ≤ 255 := fun j hj => by
        have h5 := hx j hj
        rw [c8, Nat.mul_one] at h5
        have hxj : j < xs.length := by omega
        rw [List.getElem?_eq_getElem hxj] at h5
        obtain ⟨z, hz, _, hw⟩ := DataW.trod_int Tryd.underlying5 h5
        refine ⟨z, ?_, bounds_u8 hw⟩
        have := congrArg (fun l => l[0]?) hz
        simp only [List.getElem?_take, List.getElem?_drop, List.getElem?_cons_zero] at this
        simpa [hj] using this
      obtain ⟨f, hf⟩ := choose_lt hsum
      have hg : ∀ j, j < 32 → ((List.range 32).map f).getD j 0 = f j := fun j hj => by
        rw [List.getD_eq_getElem?_getD, List.getElem?_map, List.getElem?_range hj]; rfl
      refine ⟨⟨z0, z1, pn, pp, (List.range 32).map f, bl⟩, _, _, fun j hj => ?_, hp, hb, ?_, fun j => ?_⟩
      · rw [g2 j hj]
        have e0' : cs'[0]? = some (.int .i64 z0) := by rw [List.getElem?_eq_getElem (by omega)]; simpa using e0
        have e1' : cs'[1]? = some (.int .i64 z1) := by rw [List.getElem?_eq_getElem (by omega)]; simpa using e1
        unfold actV
        by_cases j0 : j = 0
        · subst j0; exact e0'
        · rw [if_neg j0]
          by_cases j1 : j = 1
          · subst j1; exact e1'
          · rw [if_neg j1]
            by_cases j2 : j = 2
            · subst j2; rw [if_pos rfl]; exact List.getElem?_eq_getElem (by omega)
            · rw [if_neg j2]
              by_cases j3 : j < 35
              · rw [if_pos j3, arrV, hg (j - 3) (by omega)]
                have := (hf (j - 3) (by omega)).1
                rw [show 3 + (j - 3) = j by omega] at this; exact this
              · obtain rfl : j = 35 := by omega
                rw [if_neg j3]; exact List.getElem?_eq_getElem (by omega)
      · simp
      · by_cases hj : j < 32
        · show 0 ≤ ((List.range 32).map f).getD j 0 ∧ ((List.range 32).map f).getD j 0 ≤ 255
          rw [hg j hj]; exact (hf j hj).2
        · show 0 ≤ ((List.range 32).map f).getD j 0 ∧ ((List.range 32).map f).getD j 0 ≤ 255
          rw [List.getD_eq_getElem?_getD, List.getElem?_eq_none (by simp; omega)]; exact ⟨by simp, by simp⟩
    haveI : Inhabited AR := ⟨⟨0, 0, 0, fun _ => [], [], []⟩⟩
    obtain ⟨f, hf⟩ := choose_lt each
    exact ⟨len, f, Or.inr ⟨pb, po, cap, rfl, h3, h1, h2, fun i hi => hf i hi⟩⟩
theorem acts_sized {H : Type} {enc : TypeId × Value → H} {w : World} {base : Nat} {sp : Nat → Bool} {held : Bool} {v : Value} {d : DataW H} {pl : List MemPlace} {n : Nat} {acts : Nat → AR}
    (hd : DataW.Trod enc Tryd.prog w base sp held 22 v d pl) (h : isActs w v n acts) (hz : ∀ x ∈ d.weights Tryd.prog 22, x ≤ reachBytes) : (n + 1) * 96 ≤ 140737488355328 := by
  obtain ⟨a, cap, rfl, _, _, _⟩ := h.open
  obtain ⟨fuel, hf⟩ := hd
  rcases open_slice Tryd.underlying22 hf with ⟨h0, _⟩ | ⟨a', len, cap', m, n', D, Pl, h0, _, h1, h2, h3, hx, h4⟩
  · have : n = 0 := by
      have : a = none ∧ n = 0 ∧ cap = 0 := by simpa [Value.cells] using h0
      exact this.2.1
    omega
  · have h0' : a = some a' ∧ n = len ∧ cap = cap' := by simpa [Value.cells] using h0
    obtain ⟨rfl, rfl, rfl⟩ := h0'
    have hd' := (Prod.mk.inj hx).1
    have hb : Tryd.prog.bytesOf 38 = 96 := by kernel_rfl
    have hr : reachBytes = 140737488351232 := rfl
    have : n * 96 ≤ reachBytes := by
      refine Nat.le_trans ?_ (hz ((n + (m - n)) * Tryd.prog.bytesOf 38) ?_)
      · rw [hb]; exact Nat.mul_le_mul_right _ (by omega)
      · rw [hd']; simp [DataW.weights, Tryd.underlying22]
    omega
end Go.Proofs.YtcfbaijibghcaaaDoor
