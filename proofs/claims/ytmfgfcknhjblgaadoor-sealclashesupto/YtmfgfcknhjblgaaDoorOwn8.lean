import Derived.SizedLaws
import Derived.Test.YtmfgfcknhjblgaaDoorRows
import Derived.Test.YtmfgfcknhjblgaaDoorCards
import Derived.Deep.DeepHandedRow
import Derived.Lib.LaidTab
import Derived.Test.YtmfgfcknhjblgaaDoorOwn1
import Derived.Test.YtmfgfcknhjblgaaDoorOwn3
import Derived.Test.YtmfgfcknhjblgaaDoorOwn5
import Derived.Test.YtmfgfcknhjblgaaDoorOwn7
set_option linter.unusedVariables false
set_option linter.unusedSimpArgs false
/- Acts that came in, opened. -/
namespace Go.Proofs.YtmfgfcknhjblgaaDoor
set_option maxRecDepth 100000
open Go.RowKit Go.Deep Go.ChangeShapes Go.WideShapes

theorem trod_struct5 {H : Type} {enc : TypeId × Value → H} {P : Program} {w : World} {base : Nat} {spare : Nat → Bool} {held : Bool} {t : TypeId} {f0 f1 f2 f3 f4 : Field} {fuel : Nat} {cs : List Value} {x : DataW H × List MemPlace} (ht : P.underlying t = some (.struct #[f0, f1, f2, f3, f4])) (h : DataW.trod enc P w base spare held fuel t cs = some x) :
    ∃ y0 y1 y2 y3 y4 n, cs.length = P.cellsOf t ∧ DataW.trod enc P w base spare held n f0.type ((cs.drop f0.offset).take (P.cellsOf f0.type)) = some y0 ∧
      DataW.trod enc P w base spare held n f1.type ((cs.drop f1.offset).take (P.cellsOf f1.type)) = some y1 ∧ DataW.trod enc P w base spare held n f2.type ((cs.drop f2.offset).take (P.cellsOf f2.type)) = some y2 ∧
      DataW.trod enc P w base spare held n f3.type ((cs.drop f3.offset).take (P.cellsOf f3.type)) = some y3 ∧ DataW.trod enc P w base spare held n f4.type ((cs.drop f4.offset).take (P.cellsOf f4.type)) = some y4 := by
  obtain ⟨xs, n, _, rfl, hl, hlen, hf⟩ := DataW.trod_struct ht h
  match xs, hlen with
  | [y0, y1, y2, y3, y4], _ => exact ⟨y0, y1, y2, y3, y4, n, hl, by simpa using hf 0 f0 rfl, by simpa using hf 1 f1 rfl, by simpa using hf 2 f2 rfl, by simpa using hf 3 f3 rfl, by simpa using hf 4 f4 rfl⟩
theorem act_cells {H : Type} {enc : TypeId × Value → H} {w : World} {base : Nat} {held : Bool} {n : Nat} {cs' : List Value} {D : DataW H × List MemPlace} (g1 : cs'.length = 36)
    (g3 : DataW.trod enc Tryd.prog w base (fun _ => true) held n 49 cs' = some D) :
    ∃ (x : AR) (pv bv : Value), (∀ j, j < 36 → cs'[j]? = some (actV x.what x.kind pv bv x.sum j)) ∧ anyParts w pv x.n x.ps ∧ anyBytes w bv x.bytes ∧ isSum x.sum := by
  have ci : Tryd.prog.cellsOf 3 = 1 := by kernel_rfl
  have cp : Tryd.prog.cellsOf 22 = 1 := by kernel_rfl
  have cb : Tryd.prog.cellsOf 34 = 1 := by kernel_rfl
  have cs32 : Tryd.prog.cellsOf 30 = 32 := by kernel_rfl
  have c8 : Tryd.prog.cellsOf 5 = 1 := by kernel_rfl
  obtain ⟨y0, y1, y2, y3, y4, m, _, t0, t1, t2, t3, t4⟩ := trod_struct5 Tryd.underlying49 g3
  simp only [ci, cp, cb, cs32] at t0 t1 t2 t3 t4
  rw [drop_take1 (by omega)] at t0 t1 t2 t4
  obtain ⟨z0, e0, _, _⟩ := DataW.trod_int (k := .i64) Tryd.underlying3 t0
  obtain ⟨z1, e1, _, _⟩ := DataW.trod_int (k := .i64) Tryd.underlying3 t1
  obtain ⟨pn, pp, hp⟩ := open_inner_parts t2
  obtain ⟨bl, hb⟩ := open_inner t4
  obtain ⟨xs, m', rfl, _, hlen, _, hx⟩ := DataW.trod_array Tryd.underlying30 t3
  have hsum : ∀ j, j < 32 → ∃ z : Int, cs'[3 + j]? = some (.int .u8 z) ∧ 0 ≤ z ∧ z ≤ 255 := fun j hj => by
    have h5 := hx j hj
    rw [c8, Nat.mul_one] at h5
    have hxj : j < xs.length := by omega
    rw [List.getElem?_eq_getElem hxj] at h5
    obtain ⟨z, hz, _, hw⟩ := DataW.trod_int Tryd.underlying5 h5
    refine ⟨z, ?_, bounds_u8 hw⟩
    have := congrArg (fun l => l[0]?) hz
    simp only [List.getElem?_take, List.getElem?_drop, List.getElem?_cons_zero] at this
    simpa [hj] using this
  obtain ⟨f, hf⟩ := choose_lt hsum
  have hg : ∀ j, j < 32 → ((List.range 32).map f).getD j 0 = f j := fun j hj => by
    rw [List.getD_eq_getElem?_getD, List.getElem?_map, List.getElem?_range hj]; rfl
  refine ⟨⟨z0, z1, pn, pp, (List.range 32).map f, bl⟩, _, _, fun j hj => ?_, hp, hb, ?_, fun j => ?_⟩
  · have e0' : cs'[0]? = some (.int .i64 z0) := by rw [List.getElem?_eq_getElem (by omega)]; simpa using e0
    have e1' : cs'[1]? = some (.int .i64 z1) := by rw [List.getElem?_eq_getElem (by omega)]; simpa using e1
    unfold actV
    by_cases j0 : j = 0
    · subst j0; exact e0'
    · rw [if_neg j0]
      by_cases j1 : j = 1
      · subst j1; exact e1'
      · rw [if_neg j1]
        by_cases j2 : j = 2
        · subst j2; rw [if_pos rfl]; exact List.getElem?_eq_getElem (by omega)
        · rw [if_neg j2]
          by_cases j3 : j < 35
          · rw [if_pos j3, arrV, hg (j - 3) (by omega)]
            have := (hf (j - 3) (by omega)).1
            rw [show 3 + (j - 3) = j by omega] at this; exact this
          · obtain rfl : j = 35 := by omega
            rw [if_neg j3]; exact List.getElem?_eq_getElem (by omega)
  · simp
  · by_cases hj : j < 32
    · show 0 ≤ ((List.range 32).map f).getD j 0 ∧ ((List.range 32).map f).getD j 0 ≤ 255
      rw [hg j hj]; exact (hf j hj).2
    · show 0 ≤ ((List.range 32).map f).getD j 0 ∧ ((List.range 32).map f).getD j 0 ≤ 255
      rw [List.getD_eq_getElem?_getD, List.getElem?_eq_none (by simp; omega)]; exact ⟨by simp, by simp⟩
theorem open_acts {H : Type} {enc : TypeId × Value → H} {w : World} {base b0 : Nat} {held : Bool} {r : Reach} {v : Value} {d : DataW H} {ps : List MemPlace}
    (hval : Value.okWide Tryd.prog w r b0 51 v) (hd : DataW.Trod enc Tryd.prog w base (fun _ => true) held 51 v d ps) : ∃ n acts, isActs w v n acts := by
  rcases open_any 36 Tryd.underlying51 (by kernel_rfl) hval hd with rfl | ⟨pb, po, len, cap, rfl, h1, h2, h3, h4⟩
  · exact ⟨0, fun _ => ⟨0, 0, 0, fun _ => [], [], []⟩, Or.inl ⟨rfl, rfl⟩⟩
  · have each : ∀ i, i < len → ∃ x : AR, actAt w pb (po + i * 36) x := fun i hi => by
      obtain ⟨cs', n, D, g1, g2, g3⟩ := h4 i hi
      obtain ⟨x, pv, bv, e1, e2, e3, e4⟩ := act_cells (by omega) g3
      exact ⟨x, pv, bv, fun j hj => by rw [g2 j hj]; exact e1 j hj, e2, e3, e4⟩
    haveI : Inhabited AR := ⟨⟨0, 0, 0, fun _ => [], [], []⟩⟩
    obtain ⟨f, hf⟩ := choose_lt each
    exact ⟨len, f, Or.inr ⟨pb, po, cap, rfl, h3, h1, h2, fun i hi => hf i hi⟩⟩
theorem okWide_agg {P : Program} {w : World} {r : Reach} {b0 : Nat} {t : TypeId} {fs : Array Field} {v : Value} (hu : P.underlying t = some (.struct fs)) (hval : Value.okWide P w r b0 t v) : ∃ cs, v = .agg cs := by
  unfold Value.okWide at hval
  rw [hu] at hval
  obtain ⟨cs, rfl, _⟩ := hval
  exact ⟨cs, rfl⟩
theorem agg_row {cs : Array Value} {n : Nat} {f : Nat → Value} (hl : cs.toList.length = n) (h : ∀ j, j < n → cs.toList[j]? = some (f j)) : Value.agg cs = .agg (rowV n f) := by
  congr 1
  exact rowV_eq (by simpa using hl) fun i hi => by rw [← Array.getElem?_toList]; exact h i hi
theorem cells36 : Tryd.prog.cellsOf 49 = 36 := by kernel_rfl
theorem act_len {H : Type} {enc : TypeId × Value → H} {w : World} {base : Nat} {held : Bool} {n : Nat} {cs' : List Value} {D : DataW H × List MemPlace}
    (g3 : DataW.trod enc Tryd.prog w base (fun _ => true) held n 49 cs' = some D) : cs'.length = 36 := by
  obtain ⟨y0, y1, y2, y3, y4, m, hl, _⟩ := trod_struct5 Tryd.underlying49 g3
  rw [hl, cells36]
/-- one act that came in. -/
theorem open_act {H : Type} {enc : TypeId × Value → H} {w : World} {base b0 : Nat} {held : Bool} {r : Reach} {v : Value} {d : DataW H} {ps : List MemPlace}
    (hval : Value.okWide Tryd.prog w r b0 49 v) (hd : DataW.Trod enc Tryd.prog w base (fun _ => true) held 49 v d ps) :
    ∃ (x : AR) (pv bv : Value), v = .agg (rowV 36 (actV x.what x.kind pv bv x.sum)) ∧ anyParts w pv x.n x.ps ∧ anyBytes w bv x.bytes ∧ isSum x.sum := by
  obtain ⟨cs, rfl⟩ := okWide_agg Tryd.underlying49 hval
  obtain ⟨fuel, hf⟩ := hd
  have hlen : cs.toList.length = 36 := act_len hf
  obtain ⟨x, pv, bv, e1, e2, e3, e4⟩ := act_cells hlen hf
  exact ⟨x, pv, bv, agg_row hlen e1, e2, e3, e4⟩
def zeroAct : Value := .agg #[.int .i64 0, .int .i64 0, .slice none 0 0, .int .u8 0, .int .u8 0, .int .u8 0, .int .u8 0, .int .u8 0, .int .u8 0, .int .u8 0, .int .u8 0, .int .u8 0, .int .u8 0, .int .u8 0, .int .u8 0, .int .u8 0, .int .u8 0, .int .u8 0, .int .u8 0, .int .u8 0, .int .u8 0, .int .u8 0, .int .u8 0, .int .u8 0, .int .u8 0, .int .u8 0, .int .u8 0, .int .u8 0, .int .u8 0, .int .u8 0, .int .u8 0, .int .u8 0, .int .u8 0, .int .u8 0, .int .u8 0, .slice none 0 0]
def zeroActD {H : Type} : DataW H := .agg [.lit (.int .i64 0), .lit (.int .i64 0), .nil, .agg [.lit (.int .u8 0), .lit (.int .u8 0), .lit (.int .u8 0), .lit (.int .u8 0), .lit (.int .u8 0), .lit (.int .u8 0), .lit (.int .u8 0), .lit (.int .u8 0), .lit (.int .u8 0), .lit (.int .u8 0), .lit (.int .u8 0), .lit (.int .u8 0), .lit (.int .u8 0), .lit (.int .u8 0), .lit (.int .u8 0), .lit (.int .u8 0), .lit (.int .u8 0), .lit (.int .u8 0), .lit (.int .u8 0), .lit (.int .u8 0), .lit (.int .u8 0), .lit (.int .u8 0), .lit (.int .u8 0), .lit (.int .u8 0), .lit (.int .u8 0), .lit (.int .u8 0), .lit (.int .u8 0), .lit (.int .u8 0), .lit (.int .u8 0), .lit (.int .u8 0), .lit (.int .u8 0), .lit (.int .u8 0)], .nil]
theorem acts_sized {H : Type} {enc : TypeId × Value → H} {w : World} {base : Nat} {sp : Nat → Bool} {held : Bool} {v : Value} {d : DataW H} {pl : List MemPlace} {n : Nat} {acts : Nat → AR}
    (hd : DataW.Trod enc Tryd.prog w base sp held 51 v d pl) (h : isActs w v n acts) (hz : ∀ x ∈ d.weights Tryd.prog 51, x ≤ reachBytes) : (n + 1) * 96 ≤ 140737488355328 := by
  obtain ⟨a, cap, rfl, _, _, _⟩ := h.open
  obtain ⟨fuel, hf⟩ := hd
  rcases open_slice Tryd.underlying51 hf with ⟨h0, _⟩ | ⟨a', len, cap', m, n', D, Pl, h0, _, h1, h2, h3, hx, h4⟩
  · have : n = 0 := by
      have : a = none ∧ n = 0 ∧ cap = 0 := by simpa [Value.cells] using h0
      exact this.2.1
    omega
  · have h0' : a = some a' ∧ n = len ∧ cap = cap' := by simpa [Value.cells] using h0
    obtain ⟨rfl, rfl, rfl⟩ := h0'
    have hd' := (Prod.mk.inj hx).1
    have hb : Tryd.prog.bytesOf 49 = 96 := by kernel_rfl
    have hr : reachBytes = 140737488351232 := rfl
    have : n * 96 ≤ reachBytes := by
      refine Nat.le_trans ?_ (hz ((n + (m - n)) * Tryd.prog.bytesOf 49) ?_)
      · rw [hb]; exact Nat.mul_le_mul_right _ (by omega)
      · rw [hd']; simp [DataW.weights, Tryd.underlying51]
    omega
end Go.Proofs.YtmfgfcknhjblgaaDoor

/- append(append([]Act{}, l...), m...). -/
namespace Go.Proofs.YtmfgfcknhjblgaaDoor
set_option linter.unusedSimpArgs false
set_option linter.unusedVariables false
set_option maxRecDepth 100000
open Go.RowKit Go.Deep

theorem acts_join (w0 w : World) (hb0 : Below w0.heap.size w0 w) (v : Value) (n : Nat) (xs : List Value) (hv : ownActs w w0.heap.size v n xs) (u : Value) (m : Nat) (acts : Nat → AR) (hu : isActs w0 u m acts) (hs : (n + m) * 96 ≤ 140737488355328) :
    ∃ (a : Option Addr) (c : Nat) (w' : World) (ys : List Value), (Builtin.append_ #[51, 51] 51 #[v, u]).run Tryd.prog w = .ok (.slice a (n + m) c) w' ∧ ownActs w' w0.heap.size (.slice a (n + m) c) (n + m) (xs ++ ys) ∧ Below w0.heap.size w0 w' ∧
      ∀ i, i < m → ∃ pv bv, (∀ j, j < 36 → ys[i * 36 + j]? = some (actV (acts i).what (acts i).kind pv bv (acts i).sum j)) ∧ anyParts w0 pv (acts i).n (acts i).ps ∧ anyBytes w0 bv (acts i).bytes ∧ isSum (acts i).sum := by
  have hsz := hb0.size
  obtain ⟨f, hf, hop⟩ : ∃ f : Nat → Value, (∀ k, k < m * 36 → (f k).oneCell' = true) ∧ (∃ a c, u = .slice a m c ∧ (0 < m → ∃ qb qo, a = some ⟨qb, qo, none⟩ ∧ qb < w0.heap.size ∧ ∀ k, k < m * 36 → w0.cell? ⟨qb, qo + k, none⟩ = some (f k))) ∧
      ∀ i, i < m → ∃ pv bv, (∀ j, j < 36 → f (i * 36 + j) = actV (acts i).what (acts i).kind pv bv (acts i).sum j) ∧ anyParts w0 pv (acts i).n (acts i).ps ∧ anyBytes w0 bv (acts i).bytes ∧ isSum (acts i).sum := by
    rcases hu with ⟨rfl, rfl⟩ | ⟨qb, qo, cap, rfl, h2, h3, h4, h5⟩
    · exact ⟨fun _ => undef, fun k hk => by omega, ⟨none, 0, rfl, fun h => by omega⟩, fun i hi => by omega⟩
    · have hcell : ∀ k, k < m * 36 → ∃ u : Value, w0.cell? ⟨qb, qo + k, none⟩ = some u ∧ u.oneCell' = true := fun k hk => by
        obtain ⟨pv, bv, g1, g2, g3, g4⟩ := h5 (k / 36) (by omega)
        have := g1 (k % 36) (Nat.mod_lt _ (by omega))
        rw [show qo + k / 36 * 36 + k % 36 = qo + k by omega] at this
        exact ⟨_, this, actV_one _ _ _ _ _ _ g2.one g3.one⟩
      refine ⟨fun k => (w0.cell? ⟨qb, qo + k, none⟩).getD undef, fun k hk => ?_, ⟨_, _, rfl, fun _ => ⟨qb, qo, rfl, h2, fun k hk => ?_⟩⟩, fun i hi => ?_⟩
      · obtain ⟨u, h1, h2⟩ := hcell k hk
        simp only [h1, Option.getD_some]; exact h2
      · obtain ⟨u, h1, h2⟩ := hcell k hk
        simp only [h1, Option.getD_some]
      · obtain ⟨pv, bv, g1, g2, g3, g4⟩ := h5 i hi
        refine ⟨pv, bv, fun j hj => ?_, g2, g3, g4⟩
        have := g1 j hj
        rw [show qo + i * 36 + j = qo + (i * 36 + j) by omega] at this
        simp only [this, Option.getD_some]
  obtain ⟨⟨a0, c0, rfl, hcl⟩, hdesc⟩ := hop
  have hget : ∀ (j : Nat) (x : Value), ((List.range (m * 36)).map f)[j]? = some x → j < m * 36 ∧ x = f j := fun j x hx => by
    by_cases hj : j < m * 36
    · rw [List.getElem?_map, List.getElem?_range hj] at hx
      exact ⟨hj, (Option.some.inj hx).symm⟩
    · rw [List.getElem?_eq_none (by simp; omega)] at hx; cases hx
  obtain ⟨a, c, w', hr, ho, hg, hat⟩ := row_append (P := Tryd.prog) w 51 51 49 _ 36 96 Tryd.underlying51 infoAct (by simp [Value.cells, rowV_size]) (by omega)
    w0.heap.size v n xs hv (.slice a0 m c0) m ((List.range (m * 36)).map f) (by simp)
    ⟨a0, c0, rfl, fun h0 => by
      obtain ⟨qb, qo, rfl, hqb, hc⟩ := hcl h0
      exact ⟨qb, qo, rfl, fun j x hx => by
        obtain ⟨hj, rfl⟩ := hget j x hx
        exact (hb0.cell (p := ⟨qb, qo + j, none⟩) hqb).trans (hc j hj)⟩⟩
    (fun x hx => by
      obtain ⟨j, hj, rfl⟩ := List.mem_map.1 hx
      exact hf j (List.mem_range.1 hj)) (by unfold maxLen; omega) hs hsz
  refine ⟨a, c, w', _, hr, ho, hb0.trans (below_grown hg (fun k hk => (hv.block k hk).1) hsz), fun i hi => ?_⟩
  obtain ⟨pv, bv, g1, g2, g3, g4⟩ := hdesc i hi
  refine ⟨pv, bv, fun j hj => ?_, g2, g3, g4⟩
  have hlt : i * 36 + j < m * 36 := by have := Nat.mul_le_mul_right 36 (show i + 1 ≤ m from hi); omega
  rw [List.getElem?_map, List.getElem?_range hlt, Option.map_some, g1 j hj]
/-- both rows, one behind the other. -/
def bothA (n : Nat) (xs ys : Nat → AR) (i : Nat) : AR := if i < n then xs i else ys (i - n)
theorem both_acts (w : World) (l u : Value) (n m : Nat) (xs ys : Nat → AR) (hl : isActs w l n xs) (hu : isActs w u m ys) (hs : (n + m) * 96 ≤ 140737488355328) :
    ∃ (a1 : Option Addr) (c1 : Nat) (w1 : World) (a2 : Option Addr) (c2 : Nat) (w2 : World), (Builtin.append_ #[51, 51] 51 #[.slice (some ⟨w.heap.size, 0, none⟩) 0 0, l]).run Tryd.prog (w.alloc (.cells #[] 49)) = .ok (.slice a1 n c1) w1 ∧
      (Builtin.append_ #[51, 51] 51 #[.slice a1 n c1, u]).run Tryd.prog w1 = .ok (.slice a2 (n + m) c2) w2 ∧ isActs w2 (.slice a2 (n + m) c2) (n + m) (bothA n xs ys) ∧ Below w.heap.size w w2 := by
  have b0 : Below w.heap.size w (w.alloc (.cells #[] 49)) := (Below.refl _ _).alloc (Nat.le_refl _) _
  obtain ⟨a1, c1, w1, z1, hr1, ho1, hb1, hx1⟩ := acts_join w _ b0 _ 0 [] (ownActs.none w w.heap.size (Nat.le_refl _)) l n xs hl (by omega)
  rw [Nat.zero_add, List.nil_append] at ho1
  rw [Nat.zero_add] at hr1
  obtain ⟨a2, c2, w2, z2, hr2, ho2, hb2, hx2⟩ := acts_join w w1 hb1 _ n z1 ho1 u m ys hu hs
  have hz1 : z1.length = n * 36 := ho1.1
  refine ⟨a1, c1, w1, a2, c2, w2, hr1, hr2, ho2.acts _ (fun i hi => ?_), hb2⟩
  unfold bothA
  by_cases e : i < n
  · obtain ⟨pv, bv, g1, g2, g3, g4⟩ := hx1 i e
    simp only [if_pos e]
    refine ⟨pv, bv, fun j hj => ?_, g2.below hb2 (Nat.le_refl _), g3.below hb2 (Nat.le_refl _), g4⟩
    have hlt : i * 36 + j < n * 36 := by have := Nat.mul_le_mul_right 36 (show i + 1 ≤ n from e); omega
    rw [List.getElem?_append_left (by omega)]; exact g1 j hj
  · obtain ⟨pv, bv, g1, g2, g3, g4⟩ := hx2 (i - n) (by omega)
    simp only [if_neg e]
    refine ⟨pv, bv, fun j hj => ?_, g2.below hb2 (Nat.le_refl _), g3.below hb2 (Nat.le_refl _), g4⟩
    rw [List.getElem?_append_right (by omega), hz1, ← g1 j hj]
    congr 1
    have : i * 36 = n * 36 + (i - n) * 36 := by rw [← Nat.add_mul]; congr 1; omega
    omega
end Go.Proofs.YtmfgfcknhjblgaaDoor

/- SealClashes' walk. -/
namespace Go.Proofs.YtmfgfcknhjblgaaDoor
set_option linter.unusedSimpArgs false
set_option linter.unusedVariables false
open Go.RowKit Go.Deep

theorem pairX.far {w0 w w' : World} {F G : Nat → Prop} {kb kr : Nat} {N : List Nt} {c : Int} (h : pairX w0 w F G kb kr N c) (hb : ∀ j, F j ∨ G j → j < w.heap.size → w'.heap[j]? = w.heap[j]?) (hs : w.heap.size ≤ w'.heap.size) (hbw : Below w0.heap.size w0 w') : pairX w0 w' F G kb kr N c :=
  ⟨h.1.far (fun j hj hl => hb j (Or.inl hj) hl) hs, h.2.1.far (fun j hj hl => hb j (Or.inr hj) hl) hs, h.2.2.1, h.2.2.2.1, h.2.2.2.2.1, hbw⟩
theorem pairX.lt {w0 w : World} {F G : Nat → Prop} {kb kr : Nat} {N : List Nt} {c : Int} (h : pairX w0 w F G kb kr N c) (j : Nat) (hj : F j ∨ G j) : j < w.heap.size := by
  rcases hj with hj | hj
  · exact h.1.2.1 j hj
  · exact h.2.1.2.1 j hj
theorem bothA_fst {n : Nat} (xs ys : Nat → AR) {i : Nat} (h : i < n) : bothA n xs ys i = xs i := by unfold bothA; rw [if_pos h]
theorem bothA_snd (n : Nat) (xs ys : Nat → AR) (i : Nat) : bothA n xs ys (n + i) = ys i := by unfold bothA; rw [if_neg (by omega), Nat.add_sub_cancel_left]
/-- four new books. -/
def w4b (w : World) : World := (((w.alloc (.cells #[.pointer none] 64)).alloc (.cells #[.pointer none] 64)).alloc (.cells #[.slice none 0 0, .int .i64 0] 68)).alloc (.cells #[.slice none 0 0, .int .i64 0] 68)
theorem four_new (w : World) : (w4b w).heap.size = w.heap.size + 4 ∧ Below w.heap.size w (w4b w) ∧ bookAt (w4b w) (fun j => j = w.heap.size) w.heap.size [] 0 ∧ bookAt (w4b w) (fun j => j = w.heap.size + 1) (w.heap.size + 1) [] 0 ∧
    rbookAt (w4b w) (fun j => j = w.heap.size + 2) (w.heap.size + 2) [] 0 ∧ rbookAt (w4b w) (fun j => j = w.heap.size + 3) (w.heap.size + 3) [] 0 := by
  unfold w4b
  obtain ⟨w1, hw1⟩ : ∃ w1, w1 = w.alloc (.cells #[.pointer none] 64) := ⟨_, rfl⟩
  have s1 : w1.heap.size = w.heap.size + 1 := by rw [hw1]; simp
  have b1 : Below w.heap.size w w1 := by rw [hw1]; exact (Below.refl _ _).alloc (Nat.le_refl _) _
  have k1 : bookAt w1 (fun j => j = w.heap.size) w.heap.size [] 0 := bookAt.new w w1 w.heap.size (by
    rw [hw1]; exact rowIs_new w _ _ 1 _ rfl (fun i hi => by
      obtain rfl : i = 0 := by omega
      rfl))
  rw [← hw1]
  obtain ⟨w2, hw2⟩ : ∃ w2, w2 = w1.alloc (.cells #[.pointer none] 64) := ⟨_, rfl⟩
  have s2 : w2.heap.size = w.heap.size + 2 := by rw [hw2]; simp; omega
  have b2 : Below w1.heap.size w1 w2 := by rw [hw2]; exact (Below.refl _ _).alloc (Nat.le_refl _) _
  have k2 : bookAt w2 (fun j => j = w1.heap.size) w1.heap.size [] 0 := bookAt.new w1 w2 w1.heap.size (by
    rw [hw2]; exact rowIs_new w1 _ _ 1 _ rfl (fun i hi => by
      obtain rfl : i = 0 := by omega
      rfl))
  rw [← hw2]
  obtain ⟨w3, hw3⟩ : ∃ w3, w3 = w2.alloc (.cells #[.slice none 0 0, .int .i64 0] 68) := ⟨_, rfl⟩
  have s3 : w3.heap.size = w.heap.size + 3 := by rw [hw3]; simp; omega
  have b3 : Below w2.heap.size w2 w3 := by rw [hw3]; exact (Below.refl _ _).alloc (Nat.le_refl _) _
  have k3 : rbookAt w3 (fun j => j = w2.heap.size) w2.heap.size [] 0 := rbookAt.new w3 w2.heap.size (by
    rw [hw3]; exact rowIs_new w2 _ _ 2 _ rfl (fun i hi => by
      have : i = 0 ∨ i = 1 := by omega
      rcases this with rfl | rfl <;> rfl))
  rw [← hw3]
  obtain ⟨w4, hw4⟩ : ∃ w4, w4 = w3.alloc (.cells #[.slice none 0 0, .int .i64 0] 68) := ⟨_, rfl⟩
  have s4 : w4.heap.size = w.heap.size + 4 := by rw [hw4]; simp; omega
  have b4 : Below w3.heap.size w3 w4 := by rw [hw4]; exact (Below.refl _ _).alloc (Nat.le_refl _) _
  have k4 : rbookAt w4 (fun j => j = w3.heap.size) w3.heap.size [] 0 := rbookAt.new w4 w3.heap.size (by
    rw [hw4]; exact rowIs_new w3 _ _ 2 _ rfl (fun i hi => by
      have : i = 0 ∨ i = 1 := by omega
      rcases this with rfl | rfl <;> rfl))
  rw [← hw4]
  have c2 := (k2.below b3 (Nat.le_refl _)).below b4 (Nat.le_refl _)
  have c3 := k3.below b4 (Nat.le_refl _)
  rw [s1] at c2
  rw [s2] at c3
  rw [s3] at k4
  exact ⟨s4, ((b1.trans (b2.mono (by omega))).trans (b3.mono (by omega))).trans (b4.mono (by omega)), ((k1.below b2 (Nat.le_refl _)).below b3 (Nat.le_refl _)).below b4 (Nat.le_refl _), c2, c3, k4⟩
/-- behind k acts of the first row. -/
def oneRel (w2 : World) (xs : Nat → AR) (k : Nat) (wr : World) : Prop :=
  ∃ F G : Nat → Prop, pairX w2 wr F G w2.heap.size (w2.heap.size + 2) (notesTo xs k) (callsTo xs k) ∧ (∀ j, F j ∨ G j → j = w2.heap.size ∨ j = w2.heap.size + 2 ∨ w2.heap.size + 4 ≤ j) ∧
    wr.heap[w2.heap.size + 1]? = (w4b w2).heap[w2.heap.size + 1]? ∧ wr.heap[w2.heap.size + 3]? = (w4b w2).heap[w2.heap.size + 3]? ∧ w2.heap.size + 4 ≤ wr.heap.size
/-- behind k acts of the second one. -/
def twoRel (w2 wA : World) (FA GA : Nat → Prop) (NA : List Nt) (cA : Int) (ys : Nat → AR) (k : Nat) (wr : World) : Prop :=
  ∃ F G : Nat → Prop, pairX w2 wr F G (w2.heap.size + 1) (w2.heap.size + 3) (notesTo ys k) (callsTo ys k) ∧ (∀ j, F j ∨ G j → j = w2.heap.size + 1 ∨ j = w2.heap.size + 3 ∨ wA.heap.size ≤ j) ∧
    pairX w2 wr FA GA w2.heap.size (w2.heap.size + 2) NA cA ∧ wA.heap.size ≤ wr.heap.size
theorem Fr.size' {F : Nat → Prop} {w w' : World} (h : Fr F w w') : w.heap.size ≤ w'.heap.size := h.size
theorem oneRel.step {w2 wr w' : World} {xs : Nat → AR} {k : Nat} {F G : Nat → Prop} (hF : ∀ j, F j ∨ G j → j = w2.heap.size ∨ j = w2.heap.size + 2 ∨ w2.heap.size + 4 ≤ j) (h1 : wr.heap[w2.heap.size + 1]? = (w4b w2).heap[w2.heap.size + 1]?) (h3 : wr.heap[w2.heap.size + 3]? = (w4b w2).heap[w2.heap.size + 3]?) (hs : w2.heap.size + 4 ≤ wr.heap.size)
    (h : stepX w2 wr F G w' w2.heap.size (w2.heap.size + 2) (addN (notesTo xs k) (stepN (xs k))) (callsTo xs k + stepC (xs k))) : oneRel w2 xs (k + 1) w' := by
  obtain ⟨F', G', hp, hF', hf⟩ := h
  have hsz := hf.size
  refine ⟨F', G', hp, fun j hj => ?_, (hf.block _ (by omega) (fun h => by have := hF _ h; omega)).trans h1, (hf.block _ (by omega) (fun h => by have := hF _ h; omega)).trans h3, by omega⟩
  rcases hF' j hj with h | h
  · exact hF j h
  · exact Or.inr (Or.inr (by omega))
theorem oneRel.two {w2 wA : World} {xs ys : Nat → AR} {k : Nat} {F G : Nat → Prop} (hp : pairX w2 wA F G w2.heap.size (w2.heap.size + 2) (notesTo xs k) (callsTo xs k)) (h1 : wA.heap[w2.heap.size + 1]? = (w4b w2).heap[w2.heap.size + 1]?) (h3 : wA.heap[w2.heap.size + 3]? = (w4b w2).heap[w2.heap.size + 3]?) (hs : w2.heap.size + 4 ≤ wA.heap.size) :
    twoRel w2 wA F G (notesTo xs k) (callsTo xs k) ys 0 wA := by
  obtain ⟨s4, b4, _, kb, _, kr⟩ := four_new w2
  refine ⟨fun j => j = w2.heap.size + 1, fun j => j = w2.heap.size + 3, ⟨kb.far (fun j hj _ => by rw [hj]; exact h1) (by omega), kr.far (fun j hj _ => by rw [hj]; exact h3) (by omega), fun j hj => by omega, fun j hj => by omega, fun j hj hg => by omega, hp.2.2.2.2.2⟩, fun j hj => ?_, hp, Nat.le_refl _⟩
  rcases hj with h | h
  · exact Or.inl h
  · exact Or.inr (Or.inl h)
theorem twoRel.step {w2 wA wr w' : World} {FA GA F G : Nat → Prop} {NA : List Nt} {cA : Int} {ys : Nat → AR} {k : Nat} (hF : ∀ j, F j ∨ G j → j = w2.heap.size + 1 ∨ j = w2.heap.size + 3 ∨ wA.heap.size ≤ j) (hA : pairX w2 wr FA GA w2.heap.size (w2.heap.size + 2) NA cA) (hs : wA.heap.size ≤ wr.heap.size)
    (hFA : ∀ j, FA j ∨ GA j → (j = w2.heap.size ∨ j = w2.heap.size + 2 ∨ w2.heap.size + 4 ≤ j) ∧ j < wA.heap.size)
    (h : stepX w2 wr F G w' (w2.heap.size + 1) (w2.heap.size + 3) (addN (notesTo ys k) (stepN (ys k))) (callsTo ys k + stepC (ys k))) : twoRel w2 wA FA GA NA cA ys (k + 1) w' := by
  obtain ⟨F', G', hp, hF', hf⟩ := h
  have hsz := hf.size
  refine ⟨F', G', hp, fun j hj => ?_, hA.far (fun j hj hl => hf.block j hl (fun h => by have := hF _ h; have := hFA j hj; omega)) hsz hp.2.2.2.2.2, by omega⟩
  rcases hF' j hj with h | h
  · exact hF j h
  · exact Or.inr (Or.inr (by omega))
def threeN (NA NB : List Nt) (i : Nat) : List Nt := if i = 0 then NA else if i = 2 then NB else []
theorem joinF_three (NA NB : List Nt) : joinF (threeN NA NB) 0 3 = NA ++ NB := by simp [joinF, threeN]
theorem clashAnsS.open {w' : World} {B : Nat} {va vb : Value} {fb : Bool} {r : Option (ByteArray × ByteArray)} (h : clashAnsS w' B va vb fb r) :
    softB w' va (sBytes (clS1 r)) ∧ softB w' vb (sBytes (clS2 r)) ∧ (∀ j, va.ownBlock = some j → B ≤ j) ∧ (∀ j, vb.ownBlock = some j → B ≤ j) ∧ fb = r.isSome := by
  cases r with
  | none =>
    obtain ⟨rfl, rfl, rfl⟩ := h
    have hn : softB w' (.slice none 0 0) (sBytes ⟨#[]⟩) := ⟨Or.inl ⟨rfl, rfl⟩, softE_nil _⟩
    exact ⟨hn, hn, fun j hj => absurd hj (by simp [Value.ownBlock]), fun j hj => absurd hj (by simp [Value.ownBlock]), rfl⟩
  | some p => exact h
/-- append(.., s.Notes...). -/
theorem rjoin_run (w1 wb : World) (F : Nat → Prop) (v lv : Value) (N M : List Nt) (h : wb.ownsRow w1.heap.size 97 33 v N.length (N.flatMap noteL)) (hl : rlistAt w1 F lv M) (hb : Below w1.heap.size w1 wb) (hN : N.length < 1000000) (hM : M.length < 1000000) :
    ∃ a c wd, (Builtin.append_ #[66, 66] 66 #[v, lv]).run Tryd.prog wb = .ok (.slice a (N.length + M.length) c) wd ∧ wd.ownsRow w1.heap.size 97 33 (.slice a (N.length + M.length) c) (N ++ M).length ((N ++ M).flatMap noteL) ∧ Below w1.heap.size w1 wd := by
  obtain ⟨la, lc, rfl, h1, h2, h3⟩ := ownsRow_slice hl.1
  obtain ⟨a, c, wd, hr, ho, hg, hat⟩ := row_append (P := Tryd.prog) wb 66 66 97 _ 33 48 Tryd.underlying66 rinfoNote (by simp [Value.cells, rowV_size]) (by omega)
    w1.heap.size v N.length _ h (.slice la M.length lc) M.length (M.flatMap noteL) hl.1.1
    ⟨la, lc, rfl, fun h0 => by
      obtain ⟨g, rfl, hg, _, hc⟩ := h3 h0
      exact ⟨g, 0, rfl, fun j u hu => by rw [Nat.zero_add]; exact (hb.cell (p := ⟨g, j, none⟩) hg).trans (hc j u hu)⟩⟩
    (fun u hu => by
      obtain ⟨x, _, hx⟩ := List.mem_flatMap.1 hu
      rw [noteL, Array.mem_toList_iff] at hx
      obtain ⟨k, hk, rfl⟩ := Array.mem_iff_getElem.1 hx
      have hk' : k < 33 := by rw [rowV_size] at hk; exact hk
      have := rowV_get 33 (noteV x) k hk'
      rw [Array.getElem?_eq_getElem hk] at this
      rw [Option.some.inj this]; exact noteV_one _ _) (by unfold maxLen; omega) (by omega) (by have := hb.size; omega)
  refine ⟨a, c, wd, hr, by rw [List.length_append, List.flatMap_append]; exact ho, hb.trans (below_grown hg (fun k hk => (ownsRow_block h k hk).1) hb.size)⟩
set_option maxHeartbeats 8000000 in
set_option maxRecDepth 100000 in
theorem sealClashes_any (n m : Nat) (v u : Value) (xs ys : Nat → AR) (w : World) (ht : tabIs w) (h : isActs w v n xs) (hu : isActs w u m ys) (hs : (n + m) * 96 ≤ 140737488355328) :
    Calls Tryd.prog 8 #[v, u] w fun e w' => e = .returned (.bool true) ∧ Below w.heap.size w w' := by
  have ht0 := ht.1
  obtain ⟨a1, c1, w1, a2, c2, w2, r1, r2, A2, B2⟩ := both_acts w v u n m xs ys h hu hs
  have HV := heavy_any (n + m) _ _ w2 A2
  have T2 : tabIs w2 := ht.below B2 ht0
  have AW : Hid (∀ wz, Below w2.heap.size w2 wz → Calls Tryd.prog 22 #[] wz fun e w' => e = .returned (.bool true) ∧ Below wz.heap.size wz w') := (show ∀ wz, Below w2.heap.size w2 wz → Calls Tryd.prog 22 #[] wz fun e w' => e = .returned (.bool true) ∧ Below wz.heap.size wz w' from fun wz hz => awake_any wz (T2.below hz T2.1))
  have HA : Hid (isActs w2 v n xs) := (show isActs w2 v n xs from h.below B2 (Nat.le_refl _))
  have HU : Hid (isActs w2 u m ys) := (show isActs w2 u m ys from hu.below B2 (Nat.le_refl _))
  have HB2 : Hid (Below w.heap.size w w2) := (show Below w.heap.size w w2 from B2)
  have HT : Hid (tabIs w2) := (show tabIs w2 from T2)
  obtain ⟨a, cap, rfl, hc, hm, _⟩ := h.open
  obtain ⟨ua, uc, rfl, huc, hum, _⟩ := hu.open
  unfold maxLen at hm hum
  have q0 : (n : Int) ≤ 9223372036854775807 := by omega
  have q0' : (m : Int) ≤ 9223372036854775807 := by omega
  have R1 : Hid _ := r1
  have R2 : Hid _ := r2
  clear h hu A2 B2 hs hc hm huc hum T2 r1 r2
  go_enter Tryd.func8, Tryd.ntmps8
  go_wp2_with (first | (refine wpList_run rfl (exec_bslice0 51 0 rfl (build_act0 _)) ?_; try simp only [Act.put, List.setIfInBounds_toArray, List.set_cons_zero, List.set_cons_succ]) | (at_builtin; refine wpList_append_run rfl (.tmp 17) (.tmp 18) _ rfl rfl rfl R1.out ?_; try simp only [Act.put, List.setIfInBounds_toArray, List.set_cons_zero, List.set_cons_succ]; clear R1) | (at_builtin; refine wpList_append_run rfl (.tmp 19) (.tmp 20) _ rfl rfl rfl R2.out ?_; try simp only [Act.put, List.setIfInBounds_toArray, List.set_cons_zero, List.set_cons_succ]))
  refine HV.mono ?_
  rintro e w' ⟨r, rfl, hw, hl⟩
  obtain rfl := hw.symm
  clear hw HV R2
  cases r with
  | true =>
    clear hl
    go_wp2_with fail
    refine (AW.out w2 (Below.refl _ _)).mono ?_
    rintro e w9 ⟨rfl, b9⟩
    go_wp2
    go_ret
    exact ⟨rfl, HB2.out.trans (b9.mono HB2.out.size)⟩
  | false =>
    obtain ⟨h200, h500, hwt⟩ := hl rfl
    clear hl
    have hxa : ∀ i, i < n → (xs i).n ≤ 500 ∧ (xs i).bytes.length + (flatTo (xs i).ps (xs i).n).length ≤ 60000 := fun i hi => by
      have h1 := h500 i (by omega)
      have h2 := wtA_one (bothA n xs ys) (n + m) i (by omega)
      rw [bothA_fst xs ys hi] at h1 h2
      exact ⟨h1, by omega⟩
    have hya : ∀ i, i < m → (ys i).n ≤ 500 ∧ (ys i).bytes.length + (flatTo (ys i).ps (ys i).n).length ≤ 60000 := fun i hi => by
      have h1 := h500 (n + i) (by omega)
      have h2 := wtA_one (bothA n xs ys) (n + m) (n + i) (by omega)
      rw [bothA_snd] at h1 h2
      exact ⟨h1, by omega⟩
    have htx : ∀ k, k ≤ n → ∀ x ∈ notesTo xs k, x.2.size ≤ 100000 := fun k hk => notesTo_size xs k (fun i hi => stepN_size _ (hxa i (by omega)).1 (hxa i (by omega)).2)
    have hty : ∀ k, k ≤ m → ∀ x ∈ notesTo ys k, x.2.size ≤ 100000 := fun k hk => notesTo_size ys k (fun i hi => stepN_size _ (hya i (by omega)).1 (hya i (by omega)).2)
    have q1 : (n : Int) ≤ 200 := by omega
    have q2 : (m : Int) ≤ 200 := by omega
    have hn200 : n ≤ 200 := by omega
    have hm200 : m ≤ 200 := by omega
    have HXA : Hid _ := hxa
    have HYA : Hid _ := hya
    have HTX : Hid _ := htx
    have HTY : Hid _ := hty
    have P0 : Hid (oneRel w2 xs 0 (w4b w2)) := (show oneRel w2 xs 0 (w4b w2) from by
      obtain ⟨s4, b4, ka, _, kr, _⟩ := four_new w2
      exact ⟨_, _, ⟨ka, kr, fun j hj => by omega, fun j hj => by omega, fun j hj hg => by omega, b4⟩, fun j hj => by omega, rfl, rfl, by omega⟩)
    have zb := zero_rbook
    clear h500 hwt hxa hya htx hty h200
    go_wp2
    go_loopw [9] (fun i wr => ∃ k : Nat, k ≤ n ∧ i = .int .i64 k ∧ oneRel w2 xs k wr) (fun i _ => n - (intOf i).toNat)
    case atStart => exact ⟨0, by omega, rfl, P0.out⟩
    case round =>
      obtain ⟨k, hk, rfl, F, G, hpr, hFG, g1, g3, hsz⟩ := hrel
      clear P0
      have p0 : (0 : Int) ≤ (k : Int) := by omega
      have nl := notesTo_length xs k
      have cl := callsTo_le xs k
      by_cases hlt : k < n
      · have p1 : (k : Int) < (n : Int) := by omega
        obtain ⟨a', cap', ha, _, _, hopen⟩ := isActs.open HA.out
        obtain ⟨qb, qo, ha2, hqb, pv, bv, hcell, hpv, hbv, hsum⟩ := hopen k hlt
        have ha3 : a = some ⟨qb, qo, none⟩ := by
          have : a = a' ∧ cap = cap' := by simpa using ha
          rw [this.1]; exact ha2
        subst ha3
        clear ha ha2 hopen
        have hbw : Below w2.heap.size w2 wr := hpr.2.2.2.2.2
        have ld : ∀ i, i < 36 → wr.cell? ⟨qb, qo + k * 36 + i, none⟩ = some (actV (xs k).what (xs k).kind pv bv (xs k).sum i) := fun i hi => (hbw.cell (p := ⟨qb, qo + k * 36 + i, none⟩) hqb).trans (hcell i hi)
        have X := done_x w2 wr F G w2.heap.size (w2.heap.size + 2) (notesTo xs k) (callsTo xs k) (xs k) pv bv hpr hpv hbv hsum HT.out (HXA.out k hlt).1 (HXA.out k hlt).2 (by omega) ⟨cl.1, by omega⟩
        have LD : Hid _ := ld
        have STEP : Hid (∀ w', stepX w2 wr F G w' w2.heap.size (w2.heap.size + 2) (addN (notesTo xs k) (stepN (xs k))) (callsTo xs k + stepC (xs k)) → oneRel w2 xs (k + 1) w') := (show ∀ w', stepX w2 wr F G w' w2.heap.size (w2.heap.size + 2) (addN (notesTo xs k) (stepN (xs k))) (callsTo xs k + stepC (xs k)) → oneRel w2 xs (k + 1) w' from fun w' h => oneRel.step hFG g1 g3 hsz h)
        clear ld hcell hpv hbv hsum hpr hbw hFG g1 g3 hsz
        go_wp2_with (first | (refine wpList_load_seg rfl 49 _ rfl qb (qo + k * 36) 36 (actV (xs k).what (xs k).kind pv bv (xs k).sum) rfl _ Tryd.underlying49 rfl hi36 LD.out ?_))
        refine X.mono ?_
        rintro e w3 ⟨rfl, p3⟩
        have P3 : Hid _ := STEP.out w3 p3
        clear X LD p3 STEP
        go_wp2
        go_light
        exact ⟨⟨k + 1, by omega, by go_num, P3.out⟩, by simp [intOf]; omega⟩
      · obtain rfl : k = n := by omega
        rename World => wA
        have hlA := hpr.lt
        have Q0 : Hid (twoRel w2 wA F G (notesTo xs k) (callsTo xs k) ys 0 wA) := (show twoRel w2 wA F G (notesTo xs k) (callsTo xs k) ys 0 wA from oneRel.two hpr g1 g3 hsz)
        have HFA : Hid (∀ j, F j ∨ G j → (j = w2.heap.size ∨ j = w2.heap.size + 2 ∨ w2.heap.size + 4 ≤ j) ∧ j < wA.heap.size) := (show ∀ j, F j ∨ G j → (j = w2.heap.size ∨ j = w2.heap.size + 2 ∨ w2.heap.size + 4 ≤ j) ∧ j < wA.heap.size from fun j hj => ⟨hFG j hj, hlA j hj⟩)
        have htA := HTX.out k (Nat.le_refl _)
        obtain ⟨NA, hNA⟩ : ∃ NA, NA = notesTo xs k := ⟨_, rfl⟩
        obtain ⟨cA, hcA⟩ : ∃ cA, cA = callsTo xs k := ⟨_, rfl⟩
        rw [← hNA, ← hcA] at Q0
        rw [← hNA] at htA nl
        have HNA : Hid (NA.length ≤ 200 ∧ ∀ x ∈ NA, x.2.size ≤ 1000000000) := (show NA.length ≤ 200 ∧ ∀ x ∈ NA, x.2.size ≤ 1000000000 from ⟨by omega, fun x hx => by have := htA x hx; omega⟩)
        clear hNA hcA hpr hFG g1 g3 hsz hlA htA nl cl HTX HXA
        go_wp2
        go_loopw [10] (fun i wr => ∃ j : Nat, j ≤ m ∧ i = .int .i64 j ∧ twoRel w2 wA F G NA cA ys j wr) (fun i _ => m - (intOf i).toNat)
        case atStart => exact ⟨0, by omega, rfl, Q0.out⟩
        case round =>
          obtain ⟨j, hj, rfl, F', G', hpr, hFG, hA, hsz⟩ := hrel
          clear Q0
          have p2 : (0 : Int) ≤ (j : Int) := by omega
          have nl := notesTo_length ys j
          have cl := callsTo_le ys j
          by_cases hlt2 : j < m
          · have p3 : (j : Int) < (m : Int) := by omega
            obtain ⟨a', cap', ha, _, _, hopen⟩ := isActs.open HU.out
            obtain ⟨qb, qo, ha2, hqb, pv, bv, hcell, hpv, hbv, hsum⟩ := hopen j hlt2
            have ha3 : ua = some ⟨qb, qo, none⟩ := by
              have : ua = a' ∧ uc = cap' := by simpa using ha
              rw [this.1]; exact ha2
            subst ha3
            clear ha ha2 hopen
            have hbw : Below w2.heap.size w2 wr := hpr.2.2.2.2.2
            have ld : ∀ i, i < 36 → wr.cell? ⟨qb, qo + j * 36 + i, none⟩ = some (actV (ys j).what (ys j).kind pv bv (ys j).sum i) := fun i hi => (hbw.cell (p := ⟨qb, qo + j * 36 + i, none⟩) hqb).trans (hcell i hi)
            have X := done_x w2 wr F' G' (w2.heap.size + 1) (w2.heap.size + 3) (notesTo ys j) (callsTo ys j) (ys j) pv bv hpr hpv hbv hsum HT.out (HYA.out j hlt2).1 (HYA.out j hlt2).2 (by omega) ⟨cl.1, by omega⟩
            have LD : Hid _ := ld
            have STEP : Hid (∀ w', stepX w2 wr F' G' w' (w2.heap.size + 1) (w2.heap.size + 3) (addN (notesTo ys j) (stepN (ys j))) (callsTo ys j + stepC (ys j)) → twoRel w2 wA F G NA cA ys (j + 1) w') := (show ∀ w', stepX w2 wr F' G' w' (w2.heap.size + 1) (w2.heap.size + 3) (addN (notesTo ys j) (stepN (ys j))) (callsTo ys j + stepC (ys j)) → twoRel w2 wA F G NA cA ys (j + 1) w' from fun w' h => twoRel.step hFG hA hsz HFA.out h)
            clear ld hcell hpv hbv hsum hpr hbw hFG hA hsz
            go_wp2_with (first | (refine wpList_load_seg rfl 49 _ rfl qb (qo + j * 36) 36 (actV (ys j).what (ys j).kind pv bv (ys j).sum) rfl _ Tryd.underlying49 rfl hi36 LD.out ?_))
            refine X.mono ?_
            rintro e w3 ⟨rfl, p3'⟩
            have P3 : Hid _ := STEP.out w3 p3'
            clear X LD p3' STEP
            go_wp2
            go_light
            exact ⟨⟨j + 1, by omega, by go_num, P3.out⟩, by simp [intOf]; omega⟩
          · obtain rfl : j = m := by omega
            have htB := HTY.out j (Nat.le_refl _)
            obtain ⟨NB, hNB⟩ : ∃ NB, NB = notesTo ys j := ⟨_, rfl⟩
            obtain ⟨cB, hcB⟩ : ∃ cB, cB = callsTo ys j := ⟨_, rfl⟩
            rw [← hNB, ← hcB] at hpr
            rw [← hNB] at htB nl
            have HNB : Hid (NB.length ≤ 200 ∧ ∀ x ∈ NB, x.2.size ≤ 1000000000) := (show NB.length ≤ 200 ∧ ∀ x ∈ NB, x.2.size ≤ 1000000000 from ⟨by omega, fun x hx => by have := htB x hx; omega⟩)
            have hbw : Below w2.heap.size w2 wr := hpr.2.2.2.2.2
            have PA : Hid (∀ wz, Below wr.heap.size wr wz → pairX w2 wz F G w2.heap.size (w2.heap.size + 2) NA cA) := (show ∀ wz, Below wr.heap.size wr wz → pairX w2 wz F G w2.heap.size (w2.heap.size + 2) NA cA from fun wz hz => hA.below hz)
            have PB : Hid (∀ wz, Below wr.heap.size wr wz → pairX w2 wz F' G' (w2.heap.size + 1) (w2.heap.size + 3) NB cB) := (show ∀ wz, Below wr.heap.size wr wz → pairX w2 wz F' G' (w2.heap.size + 1) (w2.heap.size + 3) NB cB from fun wz hz => hpr.below hz)
            have BW : Hid (∀ wz, Below wr.heap.size wr wz → Below w2.heap.size w2 wz) := (show ∀ wz, Below wr.heap.size wr wz → Below w2.heap.size w2 wz from fun wz hz => hbw.trans (hz.mono hbw.size))
            clear hNB hcB hpr hFG hA hsz hbw htB nl cl HTY HYA HFA
            obtain ⟨w4, hw4⟩ : ∃ w4, w4 = wr.alloc (.cells #[.pointer (some ⟨w2.heap.size, 0, none⟩), .pointer none, .pointer (some ⟨w2.heap.size + 1, 0, none⟩)] 52) := ⟨_, rfl⟩
            have b4 : Below wr.heap.size wr w4 := by rw [hw4]; exact (Below.refl _ _).alloc (Nat.le_refl _) _
            have s4 : wr.heap.size < w4.heap.size := by rw [hw4]; simp
            have hbk : isBooks w4 (.slice (some ⟨wr.heap.size, 0, none⟩) 3 3) 3 (threeN NA NB) := by
              refine Or.inr ⟨wr.heap.size, 0, 3, fun i => if i = 0 then .pointer (some ⟨w2.heap.size, 0, none⟩) else if i = 2 then .pointer (some ⟨w2.heap.size + 1, 0, none⟩) else .pointer none, rfl, s4, by unfold maxLen; omega, fun i hi => ⟨?_, ?_⟩⟩
              · have hr := rowIs_new wr #[.pointer (some ⟨w2.heap.size, 0, none⟩), .pointer none, .pointer (some ⟨w2.heap.size + 1, 0, none⟩)] 52 3 (fun i => if i = 0 then .pointer (some ⟨w2.heap.size, 0, none⟩) else if i = 2 then .pointer (some ⟨w2.heap.size + 1, 0, none⟩) else .pointer none) rfl (fun i hi => by
                  have : i = 0 ∨ i = 1 ∨ i = 2 := by omega
                  rcases this with rfl | rfl | rfl <;> rfl)
                rw [Nat.zero_add, hw4]; exact hr.cell hi
              · have : i = 0 ∨ i = 1 ∨ i = 2 := by omega
                rcases this with rfl | rfl | rfl
                · exact Or.inr ⟨_, F, cA, rfl, (PA.out w4 b4).1⟩
                · exact Or.inl ⟨rfl, rfl⟩
                · exact Or.inr ⟨_, F', cB, rfl, (PB.out w4 b4).1⟩
            have X := clash_soft 3 _ (threeN NA NB) w4 hbk (by rw [joinF_three, List.length_append]; have := HNA.out.1; have := HNB.out.1; omega) (fun i hi x hx => by
              have : i = 0 ∨ i = 1 ∨ i = 2 := by omega
              rcases this with rfl | rfl | rfl
              · exact HNA.out.2 x hx
              · simp [threeN] at hx
              · exact HNB.out.2 x hx)
            rw [joinF_three] at X
            have B4 : Hid _ := b4
            clear b4 hbk s4
            go_wp2_with fail
            rw [← hw4]
            clear hw4
            refine X.mono ?_
            rintro e w5 ⟨va, vb, fb, rfl, hans, b5⟩
            clear X
            obtain ⟨sa, sb, oa, ob, rfl⟩ := hans.open
            have b5' : Below wr.heap.size wr w5 := B4.out.trans (b5.mono B4.out.size)
            have hov : (∀ j, va.ownBlock = some j → wr.heap.size ≤ j) ∧ ∀ j, vb.ownBlock = some j → wr.heap.size ≤ j := ⟨fun j hj => Nat.le_trans B4.out.size (oa j hj), fun j hj => Nat.le_trans B4.out.size (ob j hj)⟩
            obtain ⟨xa, xm, xc, rfl, hxp⟩ := sa.1.clearable
            obtain ⟨ya, ym, yc, rfl, hyp⟩ := sb.1.clearable
            obtain ⟨_, gA, _, _, _, _⟩ := PA.out w5 b5'
            obtain ⟨_, gB, _, _, _, _⟩ := PB.out w5 b5'
            obtain ⟨hAk, hAl, lvA, rowA, listA, sumA⟩ := gA
            obtain ⟨hBk, hBl, lvB, rowB, listB, sumB⟩ := gB
            obtain ⟨la, lc, rfl, _, _, _⟩ := listA.shape
            obtain ⟨ma, mc, rfl, _, _, _⟩ := listB.shape
            have lkA := hAl _ hAk
            have lkB := hBl _ hBk
            have KA : Hid (∀ wz, Below w5.heap.size w5 wz → wz.cell? ⟨w2.heap.size + 2, 0, none⟩ = some (.slice la NA.length lc)) := (show ∀ wz, Below w5.heap.size w5 wz → wz.cell? ⟨w2.heap.size + 2, 0, none⟩ = some (.slice la NA.length lc) from fun wz hz => (hz.cell (p := ⟨w2.heap.size + 2, 0, none⟩) lkA).trans (rowA.cell (i := 0) (by omega)))
            have KB : Hid (∀ wz, Below w5.heap.size w5 wz → wz.cell? ⟨w2.heap.size + 3, 0, none⟩ = some (.slice ma NB.length mc)) := (show ∀ wz, Below w5.heap.size w5 wz → wz.cell? ⟨w2.heap.size + 3, 0, none⟩ = some (.slice ma NB.length mc) from fun wz hz => (hz.cell (p := ⟨w2.heap.size + 3, 0, none⟩) lkB).trans (rowB.cell (i := 0) (by omega)))
            have LA : Hid (∃ Z : Nat → Prop, rlistAt w5 Z (.slice la NA.length lc) NA) := (show ∃ Z : Nat → Prop, rlistAt w5 Z (.slice la NA.length lc) NA from ⟨_, listA⟩)
            have LB : Hid (∃ Z : Nat → Prop, rlistAt w5 Z (.slice ma NB.length mc) NB) := (show ∃ Z : Nat → Prop, rlistAt w5 Z (.slice ma NB.length mc) NB from ⟨_, listB⟩)
            have HSS : Hid (∀ x ∈ NA ++ NB, isSum x.1) := (show ∀ x ∈ NA ++ NB, isSum x.1 from fun x hx => by
                          rcases List.mem_append.1 hx with h | h
                          · exact sumA x h
                          · exact sumB x h)
            have SA : Hid (softB w5 (.slice xa xm xc) (sBytes (clS1 (clashGo [] (NA ++ NB))))) := (show softB w5 (.slice xa xm xc) (sBytes (clS1 (clashGo [] (NA ++ NB)))) from sa)
            have SB : Hid (softB w5 (.slice ya ym yc) (sBytes (clS2 (clashGo [] (NA ++ NB))))) := (show softB w5 (.slice ya ym yc) (sBytes (clS2 (clashGo [] (NA ++ NB)))) from sb)
            have HOV : Hid ((∀ j, (Value.slice xa xm xc).ownBlock = some j → wr.heap.size ≤ j) ∧ ∀ j, (Value.slice ya ym yc).ownBlock = some j → wr.heap.size ≤ j) := (show (∀ j, (Value.slice xa xm xc).ownBlock = some j → wr.heap.size ≤ j) ∧ ∀ j, (Value.slice ya ym yc).ownBlock = some j → wr.heap.size ≤ j from hov)
            have HXP : Hid ((0 < xm → ∃ pb po, xa = some ⟨pb, po, none⟩) ∧ (0 < ym → ∃ pb po, ya = some ⟨pb, po, none⟩)) := (show (0 < xm → ∃ pb po, xa = some ⟨pb, po, none⟩) ∧ (0 < ym → ∃ pb po, ya = some ⟨pb, po, none⟩) from ⟨hxp, hyp⟩)
            have B5 : Hid (Below wr.heap.size wr w5) := (show Below wr.heap.size wr w5 from b5')
            clear sa sb oa ob hov hxp hyp hAk hAl hBk hBl rowA rowB listA listB sumA sumB lkA lkB b5 b5' hans B4
            have hNA := HNA.out.1
            have hNB := HNB.out.1
            obtain ⟨R, hR⟩ : ∃ R, R = clashGo [] (NA ++ NB) := ⟨_, rfl⟩
            rw [← hR] at SA SB ⊢
            have HR : Hid _ := hR
            clear hR
            go_upto_region 16 with fail
            refine wp_region_noPanic ?_
            refine wp_region_held_drew (S := fun w' => Below w5.heap.size w5 w') (by kernel_rfl) ((Below.refl _ w5).drew) (fun hHeld => ?_)
            refine take_op (i := 1) (v := ?vr1) rfl (by kernel_rfl) (by kernel_rfl) (by kernel_rfl) (fun _ _ _ h => h) rfl hHeld ?yr1 ?rr1
            case yr1 => (intro wz hz; go_simp; first | done | with_reducible rfl)
            try simp only [Act.put, List.setIfInBounds_toArray, List.set_cons_zero, List.set_cons_succ]
            refine take_op (i := 2) (v := ?vr2) rfl (by kernel_rfl) (by kernel_rfl) (by kernel_rfl) (fun _ _ _ h => h) rfl hHeld ?yr2 ?rr2
            case yr2 => (intro wz hz; go_simp; first | done | with_reducible rfl)
            try simp only [Act.put, List.setIfInBounds_toArray, List.set_cons_zero, List.set_cons_succ]
            refine take_op (i := 3) (v := ?vr3) rfl (by kernel_rfl) (by kernel_rfl) (by kernel_rfl) (fun _ _ _ h => h) rfl hHeld ?yr3 ?rr3
            case yr3 => (intro wz hz; go_simp; first | done | with_reducible rfl)
            try simp only [Act.put, List.setIfInBounds_toArray, List.set_cons_zero, List.set_cons_succ]
            refine take_op (i := 4) (v := ?vr4) rfl (by kernel_rfl) (by kernel_rfl) (by kernel_rfl) (fun _ _ _ h => h) rfl hHeld ?yr4 ?rr4
            case yr4 => (intro wz hz; have hcz := KA.out wz hz; go_simp; first | done | with_reducible rfl)
            try simp only [Act.put, List.setIfInBounds_toArray, List.set_cons_zero, List.set_cons_succ]
            refine take_op (i := 6) (v := ?vr6) rfl (by kernel_rfl) (by kernel_rfl) (by kernel_rfl) (fun _ _ _ h => h) rfl hHeld ?yr6 ?rr6
            case yr6 => (intro wz hz; go_simp; first | done | with_reducible rfl)
            try simp only [Act.put, List.setIfInBounds_toArray, List.set_cons_zero, List.set_cons_succ]
            refine take_op (i := 7) (v := ?vr7) rfl (by kernel_rfl) (by kernel_rfl) (by kernel_rfl) (fun _ _ _ h => h) rfl hHeld ?yr7 ?rr7
            case yr7 => (intro wz hz; go_simp; first | done | with_reducible rfl)
            try simp only [Act.put, List.setIfInBounds_toArray, List.set_cons_zero, List.set_cons_succ]
            refine take_op (i := 8) (v := ?vr8) rfl (by kernel_rfl) (by kernel_rfl) (by kernel_rfl) (fun _ _ _ h => h) rfl hHeld ?yr8 ?rr8
            case yr8 => (intro wz hz; go_simp; first | done | with_reducible rfl)
            try simp only [Act.put, List.setIfInBounds_toArray, List.set_cons_zero, List.set_cons_succ]
            refine take_op (i := 9) (v := ?vr9) rfl (by kernel_rfl) (by kernel_rfl) (by kernel_rfl) (fun _ _ _ h => h) rfl hHeld ?yr9 ?rr9
            case yr9 => (intro wz hz; have hcz := KB.out wz hz; go_simp; first | done | with_reducible rfl)
            try simp only [Act.put, List.setIfInBounds_toArray, List.set_cons_zero, List.set_cons_succ]
            refine take_one (i := 0) rfl (by kernel_rfl) rfl (fun K hK => ?_)
            refine wp_of_run (exec_bslice0 66 0 rfl (rbuild_none _)) ?_
            have hb6 : Below w5.heap.size w5 (w5.drew.alloc (.cells #[] 97)) := hHeld.alloc hHeld.size _
            have e0 : (w5.drew.alloc (.cells #[] 97)).heap[w5.drew.heap.size]? = some (.cells #[] 97 (0, 0)) := blk_alloc_new _ _
            refine hK.out _ _ hb6 (fun _ => ?_)
            clear hK K
            try simp only [Act.put, List.setIfInBounds_toArray, List.set_cons_zero, List.set_cons_succ]
            obtain ⟨ZA, listA⟩ := LA.out
            obtain ⟨ZB, listB⟩ := LB.out
            obtain ⟨a6, c6, wb, hr6, ow6, bb6, _, _, _⟩ := rcopy_run w5 _ ZA _ NA listA hb6 _ e0 (Nat.le_refl _) (by omega)
            refine take_one (i := 5) rfl (by kernel_rfl) rfl (fun K hK => ?_)
            refine wp_append_run (.tmp 69) (.tmp 73) 66 rfl rfl rfl hr6 ?_
            refine hK.out _ _ bb6 (fun _ => ?_)
            clear hK K hr6
            try simp only [Act.put, List.setIfInBounds_toArray, List.set_cons_zero, List.set_cons_succ]
            obtain ⟨a7, c7, wd, hr7, ow7, bd⟩ := rjoin_run w5 wb ZB _ _ NA NB ow6 listB bb6 (by omega) (by omega)
            refine take_one (i := 10) rfl (by kernel_rfl) rfl (fun K hK => ?_)
            refine wp_append_run (.tmp 74) (.tmp 78) 66 rfl rfl rfl hr7 ?_
            refine hK.out _ _ bd (fun _ => ?_)
            clear hK K hr7
            try simp only [Act.put, List.setIfInBounds_toArray, List.set_cons_zero, List.set_cons_succ]
            have Z := rclash_any (NA ++ NB) _ wd (rnotes_of ow7) HSS.out (by rw [List.length_append]; omega)
            rw [← HR.out] at Z
            refine take_one (i := 11) rfl (by kernel_rfl) rfl (fun K hK => ?_)
            go_simp
            refine Calls.mono Z ?_
            rintro e w8 ⟨rfl, b8⟩
            clear Z
            have b8' : Below w5.heap.size w5 w8 := bd.trans (b8.mono bd.size)
            refine hK.out _ _ b8' (fun hHeld => ?_)
            clear hK K
            try simp only [Act.put, List.setIfInBounds_toArray, List.set_cons_zero, List.set_cons_succ]
            refine take_op (i := 12) (v := ?vr12) rfl (by kernel_rfl) (by kernel_rfl) (by kernel_rfl) (fun _ _ _ h => h) rfl hHeld ?yr12 ?rr12
            case yr12 => (intro wz hz; go_simp; first | done | with_reducible rfl)
            try simp only [Act.put, List.setIfInBounds_toArray, List.set_cons_zero, List.set_cons_succ]
            refine take_op (i := 13) (v := ?vr13) rfl (by kernel_rfl) (by kernel_rfl) (by kernel_rfl) (fun _ _ _ h => h) rfl hHeld ?yr13 ?rr13
            case yr13 => (intro wz hz; go_simp; first | done | with_reducible rfl)
            try simp only [Act.put, List.setIfInBounds_toArray, List.set_cons_zero, List.set_cons_succ]
            refine take_op (i := 14) (v := ?vr14) rfl (by kernel_rfl) (by kernel_rfl) (by kernel_rfl) (fun _ _ _ h => h) rfl hHeld ?yr14 ?rr14
            case yr14 => (intro wz hz; go_simp; first | done | with_reducible rfl)
            try simp only [Act.put, List.setIfInBounds_toArray, List.set_cons_zero, List.set_cons_succ]
            refine take_op (i := 15) (v := ?vr15) rfl (by kernel_rfl) (by kernel_rfl) (by kernel_rfl) (fun _ _ _ h => h) rfl hHeld ?yr15 ?rr15
            case yr15 => (intro wz hz; go_simp; first | done | with_reducible rfl)
            try simp only [Act.put, List.setIfInBounds_toArray, List.set_cons_zero, List.set_cons_succ]
            refine take_op (i := 16) (v := ?vr16) rfl (by kernel_rfl) (by kernel_rfl) (by kernel_rfl) (fun _ _ _ h => h) rfl hHeld ?yr16 ?rr16
            case yr16 => (intro wz hz; go_simp; first | done | with_reducible rfl)
            try simp only [Act.put, List.setIfInBounds_toArray, List.set_cons_zero, List.set_cons_succ]
            refine take_op (i := 17) (v := ?vr17) rfl (by kernel_rfl) (by kernel_rfl) (by kernel_rfl) (fun _ _ _ h => h) rfl hHeld ?yr17 ?rr17
            case yr17 => (intro wz hz; go_simp; first | done | with_reducible rfl)
            try simp only [Act.put, List.setIfInBounds_toArray, List.set_cons_zero, List.set_cons_succ]
            refine take_op (i := 18) (v := ?vr18) rfl (by kernel_rfl) (by kernel_rfl) (by kernel_rfl) (fun _ _ _ h => h) rfl hHeld ?yr18 ?rr18
            case yr18 => (intro wz hz; go_simp; first | done | with_reducible rfl)
            try simp only [Act.put, List.setIfInBounds_toArray, List.set_cons_zero, List.set_cons_succ]
            refine wpAnyH_done (by kernel_rfl) ?_ _
            refine NoPanic.normal ?_
            have cva : (convert 34 9 (.slice xa xm xc)).run Tryd.prog w8 = .ok (.string (clS1 R)) w8 := by
              have := conv8 w8 _ _ (SA.out.1.below b8' (Nat.le_refl _))
              rw [strOf_sBytes] at this; exact this
            have cvb : (convert 34 9 (.slice ya ym yc)).run Tryd.prog w8 = .ok (.string (clS2 R)) w8 := by
              have := conv8 w8 _ _ (SB.out.1.below b8' (Nat.le_refl _))
              rw [strOf_sBytes] at this; exact this
            have sa8 := softB.below SA.out b8' (Nat.le_refl _)
            have sb8 := softB.below SB.out b8' (Nat.le_refl _)
            obtain ⟨w9, hr9, hz9, o1, o2, o3, hb9, ht9⟩ := soft_clear w8 _ xa xm xc rfl HXP.out.1 sa8.2
            have sb9 : softE w9 (.slice ya ym yc) := fun pb o n c e => ht9 _ _ _ (sb8.2 pb o n c e)
            obtain ⟨w10, hr10, hz10, u1, u2, u3, hb10, _⟩ := soft_clear w9 _ ya ym yc rfl HXP.out.2 sb9
            have b8w : Below wr.heap.size wr w8 := B5.out.trans (b8'.mono B5.out.size)
            have b10 : Below wr.heap.size wr w10 := ⟨(u1.trans o1).trans b8w.os, (u2.trans o2).trans b8w.tape, (u3.trans o3).trans b8w.output, by have := b8w.size; omega, fun k hk => (hb10 k (fun e => by have := HOV.out.2 k e; omega)).trans ((hb9 k (fun e => by have := HOV.out.1 k e; omega)).trans (b8w.block k hk))⟩
            have X1 := stands_x w2 w10 F G w2.heap.size (w2.heap.size + 2) NA cA (PA.out w10 b10) (by omega) HNA.out.2
            obtain ⟨S1, hS1⟩ : ∃ S1, S1 = clS1 R := ⟨_, rfl⟩
            obtain ⟨S2, hS2⟩ : ∃ S2, S2 = clS2 R := ⟨_, rfl⟩
            obtain ⟨bf, hbf⟩ : ∃ bf, bf = R.isSome := ⟨_, rfl⟩
            rw [← hS1] at cva ⊢
            rw [← hS2] at cvb ⊢
            rw [← hbf]
            have B10 : Hid _ := b10
            clear hS1 hS2 hbf sa8 sb8 sb9 hb9 hb10 ht9 o1 o2 o3 u1 u2 u3 hz9 hz10 b8w b10 b8 b8' hHeld bd ow7 ow6 bb6 hb6 e0 listA listB KA KB LA LB SA SB HOV HXP
            go_wp2_with fail
            refine X1.mono ?_
            rintro e w11 ⟨rfl, b11⟩
            clear X1 cva cvb hr9 hr10
            have b11' : Below wr.heap.size wr w11 := B10.out.trans (b11.mono B10.out.size)
            have X2 := stands_x w2 w11 F' G' (w2.heap.size + 1) (w2.heap.size + 3) NB cB (PB.out w11 b11') (by omega) HNB.out.2
            have B11 : Hid _ := b11'
            clear b11 b11'
            go_wp2_with fail
            refine X2.mono ?_
            rintro e w12 ⟨rfl, b12⟩
            clear X2
            have b12' : Below w2.heap.size w2 w12 := BW.out w12 (B11.out.trans (b12.mono B11.out.size))
            have X3 := AW.out w12 b12'
            have B12 : Hid _ := b12'
            clear b12 b12'
            go_wp2_with fail
            refine X3.mono ?_
            rintro e w13 ⟨rfl, b13⟩
            have RES : Hid (Below w.heap.size w w13) := (show Below w.heap.size w w13 from HB2.out.trans ((B12.out.trans (b13.mono B12.out.size)).mono HB2.out.size))
            clear X3 b13
            go_wp2
            go_ret
            exact ⟨rfl, RES.out⟩
end Go.Proofs.YtmfgfcknhjblgaaDoor

/- How many acts a reading of some bulk has. -/
namespace Go.Proofs.YtmfgfcknhjblgaaDoor
open Go.RowKit Go.Deep Go.ChangeShapes Go.WideShapes Go.ChangeAt
theorem bulk_one {H : Type} (d : DataW H) : 1 ≤ Rows.uptoBulk d := by
  cases d with
  | lit l => cases l <;> simp [Rows.uptoBulk]
  | nil => simp [Rows.uptoBulk]
  | ptr d => simp [Rows.uptoBulk]
  | slice elems spare => simp [Rows.uptoBulk]
  | agg parts => simp [Rows.uptoBulk]
  | iface t d => simp [Rows.uptoBulk]
  | map entries => simp [Rows.uptoBulk]
  | held h => simp [Rows.uptoBulk]
theorem bulk_length {H : Type} (l : List (DataW H)) : l.length ≤ Rows.uptoBulkAll l := by
  induction l with
  | nil => simp [Rows.uptoBulkAll]
  | cons x r ih => have := bulk_one x; simp only [Rows.uptoBulkAll, List.length_cons]; omega
theorem acts_bulk {H : Type} {enc : TypeId × Value → H} {w : World} {base : Nat} {sp : Nat → Bool} {held : Bool} {v : Value} {d : DataW H} {pl : List MemPlace} {n : Nat} {acts : Nat → AR}
    (hd : DataW.Trod enc Tryd.prog w base sp held 51 v d pl) (h : isActs w v n acts) : n ≤ Rows.uptoBulk d := by
  obtain ⟨a, cap, rfl, _, _, _⟩ := h.open
  obtain ⟨fuel, hf⟩ := hd
  rcases open_slice Tryd.underlying51 hf with ⟨h0, _⟩ | ⟨a', len, cap', m, n', D, Pl, h0, _, h1, h2, h3, hx, h4⟩
  · have : n = 0 := by
      have : a = none ∧ n = 0 ∧ cap = 0 := by simpa [Value.cells] using h0
      exact this.2.1
    omega
  · have h0' : a = some a' ∧ n = len ∧ cap = cap' := by simpa [Value.cells] using h0
    obtain ⟨rfl, rfl, rfl⟩ := h0'
    have hd' := (Prod.mk.inj hx).1
    rw [hd']
    have := bulk_length ((List.range n).map D)
    simp only [Rows.uptoBulk]
    simp only [List.length_map, List.length_range] at this
    omega
/-- two arguments' bulk. -/
theorem bulk_two {H : Type} {d0 d1 : DataW H} (hk : Rows.uptoSmall H ([d0, d1] ++ []) = true) : Rows.uptoBulk d0 + Rows.uptoBulk d1 ≤ 1048576 := by
  have h := of_decide_eq_true hk
  simp only [List.append_nil, Rows.uptoBulkAll] at h
  omega
end Go.Proofs.YtmfgfcknhjblgaaDoor

/- The table of the rounds' constants, as the row lists it; a world that holds it, for the witness. -/
namespace Go.Proofs.YtmfgfcknhjblgaaDoor
set_option maxRecDepth 100000
open Go.RowKit Go.Deep Go.ChangeShapes Go.WideShapes Go.ChangeAt

/-- the table's name. -/
def tabName : String := Rows.sealNotesRow.named.getD 0 ""
theorem gTab : Tryd.prog.globalNamed tabName = some 0 := by kernel_rfl
theorem gTabType : (Tryd.prog.globals[0]?).map (·.type) = some 110 := by kernel_rfl
theorem cellsTab : Tryd.prog.cellsOf 110 = 64 := by kernel_rfl
theorem cellsWord : Tryd.prog.cellsOf 38 = 1 := by kernel_rfl
/-- what the row's list gives. -/
theorem laid_tab {W : World} (h : laidMetH Tryd.prog Rows.sealNotesRow.laid W) : tabIs W := by
  have ht : Lib.TabIs Tryd.prog W tabName .u32 kList := Lib.tabIs_of_head (rest := []) gTab gTabType Tryd.underlying110 Tryd.underlying38 cellsWord cellsTab h
  refine ⟨?_, fun i hi => ht.cell gTab i (by simpa [kList] using hi)⟩
  have h0 := ht.cell gTab 0 (by decide)
  exact block_lt_of_cell h0
/-- the table's block, laid. -/
def kObj : Obj → Obj
  | .cells _ t frozen => .cells #[.int .u32 1116352408, .int .u32 1899447441, .int .u32 3049323471, .int .u32 3921009573, .int .u32 961987163, .int .u32 1508970993, .int .u32 2453635748, .int .u32 2870763221, .int .u32 3624381080, .int .u32 310598401, .int .u32 607225278, .int .u32 1426881987, .int .u32 1925078388, .int .u32 2162078206, .int .u32 2614888103, .int .u32 3248222580, .int .u32 3835390401, .int .u32 4022224774, .int .u32 264347078, .int .u32 604807628, .int .u32 770255983, .int .u32 1249150122, .int .u32 1555081692, .int .u32 1996064986, .int .u32 2554220882, .int .u32 2821834349, .int .u32 2952996808, .int .u32 3210313671, .int .u32 3336571891, .int .u32 3584528711, .int .u32 113926993, .int .u32 338241895, .int .u32 666307205, .int .u32 773529912, .int .u32 1294757372, .int .u32 1396182291, .int .u32 1695183700, .int .u32 1986661051, .int .u32 2177026350, .int .u32 2456956037, .int .u32 2730485921, .int .u32 2820302411, .int .u32 3259730800, .int .u32 3345764771, .int .u32 3516065817, .int .u32 3600352804, .int .u32 4094571909, .int .u32 275423344, .int .u32 430227734, .int .u32 506948616, .int .u32 659060556, .int .u32 883997877, .int .u32 958139571, .int .u32 1322822218, .int .u32 1537002063, .int .u32 1747873779, .int .u32 1955562222, .int .u32 2024104815, .int .u32 2227730452, .int .u32 2361852424, .int .u32 2428436474, .int .u32 2756734187, .int .u32 3204031479, .int .u32 3329325298] t frozen
  | o => o
end Go.Proofs.YtmfgfcknhjblgaaDoor
