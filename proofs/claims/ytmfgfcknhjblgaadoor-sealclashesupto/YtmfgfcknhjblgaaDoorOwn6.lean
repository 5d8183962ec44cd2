import Derived.Deep.Light
import Derived.BigRegion
import Derived.RegionTactic
import Derived.Deep.CutBlock
import Derived.Test.YtmfgfcknhjblgaaDoorOwn1
import Derived.Test.YtmfgfcknhjblgaaDoorOwn3
import Derived.Test.YtmfgfcknhjblgaaDoorOwn4
import Derived.Test.YtmfgfcknhjblgaaDoorOwn5
set_option linter.unusedVariables false
set_option linter.unusedSimpArgs false
/- The document's book: Add, Find. -/
namespace Go.Proofs.YtmfgfcknhjblgaaDoor
set_option linter.unusedSimpArgs false
set_option linter.unusedVariables false
open Go.RowKit Go.Deep

section
variable {P : Program} {md : Region.Mode} {l : List Oper} {Q : Exit → Act → World → Prop} {S : World → Prop}
/-- three operations of which any may come up. -/
theorem take_three {i j k : Nat} {oi oj ok : Oper} {fuel : Nat} {listed : Array Bool} {a : Act} {w : World} (hi : l[i]? = some oi) (hj : l[j]? = some oj) (hk : l[k]? = some ok) (hr : Region.ready md l.toArray listed = [i, j, k])
    (hw : Region.wanted oi (yielded l.toArray a.tmps) = true) (hv : Region.wanted oj (yielded l.toArray a.tmps) = true) (hu : Region.wanted ok (yielded l.toArray a.tmps) = true)
    (h1 : ∀ K' : Act → World → Prop, Shut (∀ a w, S w → (S w → wpAnyH P md l.toArray Q S fuel (listed.setIfInBounds i true) a w) → K' a w) → Oper.wp P oi a w K' Q)
    (h2 : ∀ K' : Act → World → Prop, Shut (∀ a w, S w → (S w → wpAnyH P md l.toArray Q S fuel (listed.setIfInBounds j true) a w) → K' a w) → Oper.wp P oj a w K' Q)
    (h3 : ∀ K' : Act → World → Prop, Shut (∀ a w, S w → (S w → wpAnyH P md l.toArray Q S fuel (listed.setIfInBounds k true) a w) → K' a w) → Oper.wp P ok a w K' Q) : wpAnyH P md l.toArray Q S (fuel + 1) listed a w :=
  wpAnyH_ready hr (by simp) (AllReadyH.cons ((list_toArray_get l i).trans hi) (fun K' hK => by rw [if_pos hw]; exact h1 K' hK)
    (AllReadyH.cons ((list_toArray_get l j).trans hj) (fun K' hK => by rw [if_pos hv]; exact h2 K' hK) (AllReadyH.cons ((list_toArray_get l k).trans hk) (fun K' hK => by rw [if_pos hu]; exact h3 K' hK) AllReadyH.nil)))
end
theorem anyBytes.far' {w w' : World} {v : Value} {l : List Int} (h : anyBytes w v l) (hb : 0 < l.length → ∀ k, v.ownBlock = some k → w'.heap[k]? = w.heap[k]?) (hs : w.heap.size ≤ w'.heap.size) : anyBytes w' v l := by
  rcases h with h | h
  · exact Or.inl (h.far' hb hs)
  · exact Or.inr h
theorem anyBytes.blk {w : World} {v : Value} {l : List Int} (h : anyBytes w v l) (hl : 0 < l.length) (k : Nat) (hk : v.ownBlock = some k) : k < w.heap.size := by
  rcases h with h | ⟨_, rfl⟩
  · exact h.block k hk
  · simp at hl
def rlistAt (w : World) (F : Nat → Prop) (v : Value) (N : List Nt) : Prop := w.ownsRow 0 97 33 v N.length (N.flatMap noteL) ∧ ∀ k, v.ownBlock = some k → F k
theorem rlistAt.far {w w' : World} {F G : Nat → Prop} {v : Value} {N : List Nt} (h : rlistAt w F v N) (hb : ∀ k, F k → k < w.heap.size → w'.heap[k]? = w.heap[k]?) (hG : ∀ k, F k → G k) : rlistAt w' G v N :=
  ⟨ownsRow_far h.1 (fun k hk => hb k (h.2 k hk) (ownsRow_block h.1 k hk).2), fun k hk => hG k (h.2 k hk)⟩
theorem rlistAt.shape {w : World} {F : Nat → Prop} {v : Value} {N : List Nt} (h : rlistAt w F v N) : ∃ a cap, v = .slice a N.length cap ∧ N.length ≤ cap ∧ cap ≤ maxLen ∧ ∀ i x, N[i]? = some x → ∃ g, a = some ⟨g, 0, none⟩ ∧ F g ∧ g < w.heap.size ∧ ∀ j, j < 33 → w.cell? ⟨g, i * 33 + j, none⟩ = some (noteV x j) := by
  obtain ⟨a, c, rfl, h1, h2, h3⟩ := ownsRow_slice h.1
  refine ⟨a, c, rfl, h1, h2, fun i x hx => ?_⟩
  have hi := (List.getElem?_eq_some_iff.1 hx).1
  obtain ⟨g, rfl, hg, _, hc⟩ := h3 (by omega)
  exact ⟨g, rfl, h.2 g rfl, hg, fun j hj => hc _ _ (notes_get N i j x hx hj)⟩
/-- a book's cells. -/
def rbookV (lv : Value) (c : Int) (i : Nat) : Value := if i = 0 then lv else .int .i64 c
def rbookAt (w : World) (F : Nat → Prop) (k : Nat) (N : List Nt) (c : Int) : Prop :=
  F k ∧ (∀ j, F j → j < w.heap.size) ∧ ∃ lv, w.rowIs k 68 2 (rbookV lv c) ∧ rlistAt w (fun j => F j ∧ j ≠ k) lv N ∧ ∀ x ∈ N, isSum x.1
theorem rbookAt.far {w w' : World} {F : Nat → Prop} {k : Nat} {N : List Nt} {c : Int} (h : rbookAt w F k N c) (hb : ∀ j, F j → j < w.heap.size → w'.heap[j]? = w.heap[j]?) (hs : w.heap.size ≤ w'.heap.size) : rbookAt w' F k N c := by
  obtain ⟨h1, h2, lv, h3, h4, h5⟩ := h
  exact ⟨h1, fun j hj => Nat.lt_of_lt_of_le (h2 j hj) hs, lv, h3.of_block (hb k h1 (h2 k h1)), h4.far (fun j hj hl => hb j hj.1 hl) (fun _ h => h), h5⟩
theorem rbookAt.below {w w' : World} {F : Nat → Prop} {k B : Nat} {N : List Nt} {c : Int} (h : rbookAt w F k N c) (hb : Below B w w') (hB : w.heap.size ≤ B) : rbookAt w' F k N c :=
  h.far (fun j _ hj => hb.block j (Nat.lt_of_lt_of_le hj hB)) hb.size
theorem rbookAt.grow {w : World} {F G : Nat → Prop} {k : Nat} {N : List Nt} {c : Int} (h : rbookAt w F k N c) (hG : ∀ k, F k → G k) (hl : ∀ k, G k → k < w.heap.size) : rbookAt w G k N c := by
  obtain ⟨h1, h2, lv, h3, h4, h5⟩ := h
  exact ⟨hG _ h1, hl, lv, h3, h4.far (fun _ _ _ => rfl) (fun j hj => ⟨hG j hj.1, hj.2⟩), h5⟩
theorem rbookAt.gr {w w' : World} {F : Nat → Prop} {k : Nat} {N : List Nt} {c : Int} (h : rbookAt w F k N c) (hb : Below w.heap.size w w') : rbookAt w' (Gr F w w') k N c :=
  (h.below hb (Nat.le_refl _)).grow (fun _ h => Or.inl h) (fun j hj => by
    rcases hj with hj | hj
    · exact Nat.lt_of_lt_of_le (h.2.1 j hj) hb.size
    · exact hj.2)
theorem rbookAt.new (W : World) (k : Nat) (hW : W.rowIs k 68 2 (rbookV (.slice none 0 0) 0)) : rbookAt W (fun j => j = k) k [] 0 :=
  ⟨rfl, fun j hj => hj ▸ hW.lt, _, hW, ⟨⟨rfl, Or.inl ⟨rfl, rfl⟩⟩, fun k hk => by cases hk⟩, fun x hx => by simp at hx⟩
theorem rinfoNote : (Tryd.prog.info? 97).map (fun i => (i.zero, i.size, i.bytes)) = some (some (.agg (rowV 33 (noteV (List.replicate 32 0, ByteArray.empty)))), 33, 48) := by kernel_rfl
theorem rbuild_none (w : World) : (Instr.buildSlice 66 0 #[]).run Tryd.prog w = .ok (.slice (some ⟨w.heap.size, 0, none⟩) 0 0) (w.alloc (.cells #[] 97)) := by
  show (_ : Result Value) = _
  kernel_rfl
theorem rbuild_one (g : Nat → Value) (w : World) : (Instr.buildSlice 66 1 #[(0, .agg (rowV 33 g))]).run Tryd.prog w = .ok (.slice (some ⟨w.heap.size, 0, none⟩) 1 1) (w.alloc (.cells (rowV 33 g) 97)) := by
  show (_ : Result Value) = _
  kernel_rfl
theorem rbuild_note (q : List Int) (t : ByteArray) (w : World) : (Instr.build 97 #[(0, .agg (rowV 32 (arrV q))), (1, .string t)]).run Tryd.prog w = .ok (.agg (rowV 33 (noteV (q, t)))) w := by
  show (_ : Result Value) = _
  kernel_rfl
/-- append([]Note{}, k.Notes...). -/
theorem rcopy_run (w1 wa : World) (F : Nat → Prop) (lv : Value) (N : List Nt) (h : rlistAt w1 F lv N) (hb : Below w1.heap.size w1 wa) (b : Nat) (hbk : wa.heap[b]? = some (.cells #[] 97 (0, 0))) (hB : w1.heap.size ≤ b) (hN : N.length < 1000000) :
    ∃ a c wb, (Builtin.append_ #[66, 66] 66 #[.slice (some ⟨b, 0, none⟩) 0 0, lv]).run Tryd.prog wa = .ok (.slice a N.length c) wb ∧ wb.ownsRow w1.heap.size 97 33 (.slice a N.length c) N.length (N.flatMap noteL) ∧
      Below w1.heap.size w1 wb ∧ wa.heap.size ≤ wb.heap.size ∧ (∀ j, j < wa.heap.size → j ≠ b → wb.heap[j]? = wa.heap[j]?) ∧ ((Value.slice a N.length c).ownBlock = some b ∨ (Value.slice a N.length c).ownBlock = some wa.heap.size) := by
  obtain ⟨la, lc, rfl, h1, h2, h3⟩ := ownsRow_slice h.1
  have hl := h.1.1
  obtain ⟨a, c, wb, hr, ho, hg, hat⟩ := row_append (P := Tryd.prog) wa 66 66 97 _ 33 48 Tryd.underlying66 rinfoNote (by simp [Value.cells, rowV_size]) (by omega)
    w1.heap.size _ 0 [] (ownsRow_empty wa 97 33 w1.heap.size b hbk hB) (.slice la N.length lc) N.length (N.flatMap noteL) hl
    ⟨la, lc, rfl, fun h0 => by
      obtain ⟨g, rfl, hg, _, hc⟩ := h3 h0
      exact ⟨g, 0, rfl, fun j u hu => by rw [Nat.zero_add]; exact (hb.cell (p := ⟨g, j, none⟩) hg).trans (hc j u hu)⟩⟩
    (fun u hu => by
      obtain ⟨x, _, hx⟩ := List.mem_flatMap.1 hu
      rw [noteL, Array.mem_toList_iff] at hx
      obtain ⟨k, hk, rfl⟩ := Array.mem_iff_getElem.1 hx
      have hk' : k < 33 := by rw [rowV_size] at hk; exact hk
      have := rowV_get 33 (noteV x) k hk'
      rw [Array.getElem?_eq_getElem hk] at this
      rw [Option.some.inj this]; exact noteV_one _ _) (by unfold maxLen; omega) (by omega) (by have := hb.size; omega)
  rw [Nat.zero_add] at hr ho hat
  rw [List.nil_append] at ho
  refine ⟨a, c, wb, hr, ho, ⟨hg.os.trans hb.os, hg.tape.trans hb.tape, hg.output.trans hb.output, Nat.le_trans hb.size hg.size, fun j hj => (hg.block j (by have := hb.size; omega) (fun e => by simp [Value.ownBlock] at e; omega)).trans (hb.block j hj)⟩, hg.size, fun j hj hne => hg.block j hj (fun e => hne (by simpa [Value.ownBlock] using e)), ?_⟩
  rcases hat with e | e
  · exact Or.inl e
  · exact Or.inr e
/-- append(.., Note{s, t}). -/
theorem rput_run (w1 wb : World) (v : Value) (N : List Nt) (x : Nt) (h : wb.ownsRow w1.heap.size 97 33 v N.length (N.flatMap noteL)) (hb : Below w1.heap.size w1 wb) (b : Nat) (hr : wb.rowIs b 97 33 (noteV x)) (hN : N.length < 1000000) :
    ∃ a c wd, (Builtin.append_ #[66, 66] 66 #[v, .slice (some ⟨b, 0, none⟩) 1 1]).run Tryd.prog wb = .ok (.slice a (N.length + 1) c) wd ∧ wd.ownsRow w1.heap.size 97 33 (.slice a (N.length + 1) c) (N.length + 1) ((N ++ [x]).flatMap noteL) ∧ Below w1.heap.size w1 wd := by
  obtain ⟨a, c, wd, hr, ho, hg, hat⟩ := row_append (P := Tryd.prog) wb 66 66 97 _ 33 48 Tryd.underlying66 rinfoNote (by simp [Value.cells, rowV_size]) (by omega)
    w1.heap.size v N.length _ h (.slice (some ⟨b, 0, none⟩) 1 1) 1 (noteL x) (by rw [noteL_length])
    ⟨_, _, rfl, fun _ => ⟨b, 0, rfl, fun j u hu => by
      have hj : j < 33 := by have := (List.getElem?_eq_some_iff.1 hu).1; rwa [noteL_length] at this
      rw [noteL_get x j hj] at hu
      rw [Nat.zero_add, hr.cell hj]; exact hu⟩⟩
    (fun u hu => by
      rw [noteL, Array.mem_toList_iff] at hu
      obtain ⟨k, hk, rfl⟩ := Array.mem_iff_getElem.1 hu
      have hk' : k < 33 := by rw [rowV_size] at hk; exact hk
      have := rowV_get 33 (noteV x) k hk'
      rw [Array.getElem?_eq_getElem hk] at this
      rw [Option.some.inj this]; exact noteV_one _ _) (by unfold maxLen; omega) (by omega) (by have := hb.size; omega)
  refine ⟨a, c, wd, hr, ?_, ⟨hg.os.trans hb.os, hg.tape.trans hb.tape, hg.output.trans hb.output, Nat.le_trans hb.size hg.size, fun j hj => (hg.block j (by have := hb.size; omega) (fun e => by have := (ownsRow_block h j e.symm).1; omega)).trans (hb.block j hj)⟩⟩
  rw [List.flatMap_append]
  simpa using ho
theorem radd_fin (w w1 wd : World) (F : Nat → Prop) (k : Nat) (N : List Nt) (c : Int) (x : Nt) (v : Value) (h : rbookAt w F k N c) (hx : isSum x.1) (b1 : Below w.heap.size w w1) (bd : Below w1.heap.size w1 wd) (ho : wd.ownsRow w1.heap.size 97 33 v (N.length + 1) ((N ++ [x]).flatMap noteL)) :
    rbookAt (wd.setCell ⟨k, 0, none⟩ v) (Gr F w (wd.setCell ⟨k, 0, none⟩ v)) k (N ++ [x]) c ∧ Fr F w (wd.setCell ⟨k, 0, none⟩ v) := by
  obtain ⟨h1, h2, lv, h3, h4, h5⟩ := h
  have hk := h2 k h1
  have s1 := b1.size
  have s2 := bd.size
  have bw : Below w.heap.size w wd := b1.trans (bd.mono s1)
  have rd := bw.row h3 hk
  refine ⟨⟨Or.inl h1, fun j hj => ?_, v, (World.rowIs.set rd 0 _).congr fun i hi => ?_, ⟨by rw [List.length_append]; exact ownsRow_lower (ownsRow_far ho fun j hj => blk_setCell_other _ _ _ _ (fun e => by have h8 := ownsRow_block ho j hj; have h9 : j = k := e; omega)) (Nat.zero_le _), fun j hj => ?_⟩, fun y hy => ?_⟩, ⟨bw.os, bw.tape, bw.output, by rw [nblk_setCell]; exact bw.size, fun j hj hn => (blk_setCell_other _ _ _ _ (fun e => hn (by rw [e]; exact h1))).trans (bw.block j hj)⟩⟩
  · rw [nblk_setCell]
    rcases hj with hj | hj
    · have := h2 j hj; have := bw.size; omega
    · have := hj.2; rwa [nblk_setCell] at this
  · have : i = 0 ∨ i = 1 := by omega
    rcases this with rfl | rfl <;> simp [rbookV]
  · have := ownsRow_block ho j hj
    exact ⟨Or.inr ⟨by omega, by rw [nblk_setCell]; omega⟩, by omega⟩
  · rcases List.mem_append.1 hy with hy | hy
    · exact h5 y hy
    · rw [List.mem_singleton.1 hy]; exact hx
theorem eql_sums {p q : List Int} (hp : isSum p) (hq : isSum q) (wx : World) : (binOp .eql 30 (.agg (rowV 32 (arrV p))) (.agg (rowV 32 (arrV q)))).run Tryd.prog wx = .ok (.bool (decide (p = q))) wx := by
  have := run_eql_arr (P := Tryd.prog) wx 30 5 .u8 32 (fun i => p.getD i 0) (fun i => q.getD i 0) Tryd.underlying30 Tryd.underlying5 (by kernel_rfl) (by kernel_rfl)
  rw [arrEq_list hp hq] at this
  exact this
theorem exec_eql {P : Program} {o : Oper} {ev : Operand → Value} {w : World} {a b v : Value} (t u : TypeId) (x y : Operand) (ho : o.op = .binOp .eql t x y u) (hx : ev x = a) (hy : ev y = b) (hg : (eqGuard .eql t x y a b).run P w = .ok () w) (hr : (binOp .eql t a b).run P w = .ok v w) : (execOp ev o).run P w = .ok (.value v) w := by
  unfold execOp
  simp only [ho, hx, hy, Sem.run_bind, hg, hr, Result.andThen_ok, Sem.run_pure]
set_option maxHeartbeats 2000000 in
set_option maxRecDepth 100000 in
theorem radd_any (F : Nat → Prop) (k : Nat) (N : List Nt) (c : Int) (q l : List Int) (v : Value) (w : World) (h : rbookAt w F k N c) (hq : isSum q) (hv : anyBytes w v l) (hvF : 0 < l.length → ∀ j, v.ownBlock = some j → ¬ F j) (hN : N.length < 1000000) :
    Calls Tryd.prog 48 #[.pointer (some ⟨k, 0, none⟩), sumV q, v] w fun e w' => e = .returned (.tuple #[]) ∧ rbookAt w' (Gr F w w') k (addN N (q, strOf l)) c ∧ Fr F w w' := by
  have HB : Hid (rbookAt w F k N c) := (show rbookAt w F k N c from h)
  obtain ⟨hF, hlt, lv, hrow, hl, hNs⟩ := h
  have hk := hlt k hF
  obtain ⟨w1, hw1⟩ : ∃ w1, w1 = w.alloc (.cells (rowV 32 (arrV q)) 30) := ⟨_, rfl⟩
  have b1 : Below w.heap.size w w1 := by rw [hw1]; exact (Below.refl _ _).alloc (Nat.le_refl _) _
  have rq : w1.rowIs w.heap.size 30 32 (arrV q) := by rw [hw1]; exact rowIs_box w _ _ _
  have s1 : w1.heap.size = w.heap.size + 1 := by rw [hw1]; simp
  have hl1 := hl.far (G := fun _ => True) (w' := w1) (fun j hj hlj => b1.block j hlj) (fun _ _ => trivial)
  have hr1 := b1.row hrow hk
  obtain ⟨la, lc, rfl, hlc, hlm, hcell⟩ := hl.shape
  have K0 : Hid (∀ wz, Below w1.heap.size w1 wz → wz.cell? ⟨k, 0, none⟩ = some (.slice la N.length lc)) := (show ∀ wz, Below w1.heap.size w1 wz → wz.cell? ⟨k, 0, none⟩ = some (.slice la N.length lc) from fun wz hz => (hz.cell (p := ⟨k, 0, none⟩) (show k < w1.heap.size by omega)).trans (hr1.cell (i := 0) (by omega)))
  have KQ : Hid (∀ wz, Below w1.heap.size w1 wz → ∀ i, i < 32 → wz.cell? ⟨w.heap.size, 0 + i, none⟩ = some (arrV q i)) := (show ∀ wz, Below w1.heap.size w1 wz → ∀ i, i < 32 → wz.cell? ⟨w.heap.size, 0 + i, none⟩ = some (arrV q i) from fun wz hz i hi => by rw [Nat.zero_add]; exact (hz.cell (p := ⟨w.heap.size, i, none⟩) (show w.heap.size < w1.heap.size by omega)).trans (rq.cell hi))
  have KV : Hid (∀ wz, Below w1.heap.size w1 wz → (convert 34 9 v).run Tryd.prog wz = .ok (.string (strOf l)) wz) := (show ∀ wz, Below w1.heap.size w1 wz → (convert 34 9 v).run Tryd.prog wz = .ok (.string (strOf l)) wz from fun wz hz => convA wz v l ((hv.below b1 (Nat.le_refl _)).below hz (Nat.le_refl _)))
  have KN : Hid (∀ (i : Nat) (hi : i < N.length), ∃ g, la = some ⟨g, 0, none⟩ ∧ ∀ wz, Below w1.heap.size w1 wz → ∀ j, j < 33 → wz.cell? ⟨g, i * 33 + j, none⟩ = some (noteV N[i] j)) := (show ∀ (i : Nat) (hi : i < N.length), ∃ g, la = some ⟨g, 0, none⟩ ∧ ∀ wz, Below w1.heap.size w1 wz → ∀ j, j < 33 → wz.cell? ⟨g, i * 33 + j, none⟩ = some (noteV N[i] j) from fun i hi => by
      obtain ⟨g, h1, _, h2, h3⟩ := hcell i _ (List.getElem?_eq_getElem hi)
      exact ⟨g, h1, fun wz hz j hj => (hz.cell (p := ⟨g, i * 33 + j, none⟩) (show g < w1.heap.size by omega)).trans ((b1.cell (p := ⟨g, i * 33 + j, none⟩) h2).trans (h3 j hj))⟩)
  have HL1 : Hid (rlistAt w1 (fun _ => True) (.slice la N.length lc) N) := (show rlistAt w1 (fun _ => True) (.slice la N.length lc) N from hl1)
  have B1 : Hid (Below w.heap.size w w1) := (show Below w.heap.size w w1 from b1)
  have HS : Hid (∀ x ∈ N, isSum x.1) := (show ∀ x ∈ N, isSum x.1 from hNs)
  have FQ : Hid (∀ wz, Fr F w1 wz → ∀ i, i < 32 → wz.cell? ⟨w.heap.size, 0 + i, none⟩ = some (arrV q i)) := (show ∀ wz, Fr F w1 wz → ∀ i, i < 32 → wz.cell? ⟨w.heap.size, 0 + i, none⟩ = some (arrV q i) from fun wz hz i hi => by rw [Nat.zero_add]; exact (World.cell?_of_block (a := ⟨w.heap.size, i, none⟩) (hz.block w.heap.size (by omega) (fun hf => by have := hlt _ hf; omega))).trans (rq.cell hi))
  have FV : Hid (∀ wz, Fr F w1 wz → (convert 34 9 v).run Tryd.prog wz = .ok (.string (strOf l)) wz) := (show ∀ wz, Fr F w1 wz → (convert 34 9 v).run Tryd.prog wz = .ok (.string (strOf l)) wz from fun wz hz => convA wz v l ((hv.below b1 (Nat.le_refl _)).far' (fun hl j hj => hz.block j ((hv.below b1 (Nat.le_refl _)).blk hl j hj) (hvF hl j hj)) hz.size))
  have HR1 : Hid (w1.rowIs k 68 2 (rbookV (.slice la N.length lc) c)) := (show w1.rowIs k 68 2 (rbookV (.slice la N.length lc) c) from hr1)
  have HK : Hid (F k ∧ k < w1.heap.size) := (show F k ∧ k < w1.heap.size from ⟨hF, by omega⟩)
  obtain ⟨va, vc, rfl, _⟩ := hv.slice
  have q0 : (N.length : Int) ≤ 1000000 := by omega
  clear hF hlt hrow hl hNs hk rq hl1 hr1 hcell hlc hlm hv hvF b1
  unfold sumV
  go_enter Tryd.func48, Tryd.ntmps48
  go_upto_region 1 with fail
  rw [← hw1]
  have HW1 : Hid _ := hw1
  have HS1 : Hid _ := s1
  clear hw1 s1
  go_wp2
  go_loopw [6] (fun i wr => ∃ j : Nat, j ≤ N.length ∧ i = .int .i64 j ∧ Below w1.heap.size w1 wr ∧ ∀ i (hi : i < N.length), i < j → N[i] ≠ (q, strOf l)) (fun i _ => N.length - (intOf i).toNat)
  case atStart => exact ⟨0, by omega, rfl, Below.refl _ _, fun i _ hi => by omega⟩
  case round =>
    obtain ⟨j, hj, rfl, hbw, hno⟩ := hrel
    have p0 : (0 : Int) ≤ (j : Int) := by omega
    have kr := K0.out wr hbw
    have HNO : Hid _ := hno
    have HW : Hid _ := hbw
    clear hno hbw
    by_cases hlt : j < N.length
    · have p1 : (j : Int) < (N.length : Int) := by omega
      obtain ⟨g, hg, hgc⟩ := KN.out j hlt
      subst hg
      obtain ⟨y, hy⟩ : ∃ y, y = N[j] := ⟨_, rfl⟩
      have hys : isSum y.1 := by rw [hy]; exact HS.out _ (List.getElem_mem _)
      rw [← hy] at hgc
      have HY : Hid _ := hy
      have KS : Hid (∀ wz, Below w1.heap.size w1 wz → ∀ i, i < 32 → wz.cell? ⟨g, j * 33 + i, none⟩ = some (arrV y.1 i)) := (show ∀ wz, Below w1.heap.size w1 wz → ∀ i, i < 32 → wz.cell? ⟨g, j * 33 + i, none⟩ = some (arrV y.1 i) from fun wz hz i hi => by have := hgc wz hz i (by omega); rw [noteV, if_pos hi] at this; exact this)
      have KT : Hid (∀ wz, Below w1.heap.size w1 wz → wz.cell? ⟨g, j * 33 + 32, none⟩ = some (.string y.2)) := (show ∀ wz, Below w1.heap.size w1 wz → wz.cell? ⟨g, j * 33 + 32, none⟩ = some (.string y.2) from fun wz hz => by have := hgc wz hz 32 (by omega); rw [noteV, if_neg (by omega)] at this; exact this)
      clear hgc hy
      by_cases hyq : y.1 = q
      · have E : ∀ wx, (binOp .eql 30 (.agg (rowV 32 (arrV y.1))) (.agg (rowV 32 (arrV q)))).run Tryd.prog wx = .ok (.bool true) wx := fun wx => by rw [eql_sums hys hq, decide_eq_true hyq]
        have HYQ : Hid _ := hyq
        clear hyq
        go_upto_region 4 with fail
        go_cut [6, 38] from 7 to 38 (fun i c wx => i = .int .i64 (j : Int) ∧ c = .bool ((y.2).toList == (strOf l).toList) ∧ Below w1.heap.size w1 wx)
        case first =>
          refine wp_region_noPanic ?_
          refine wp_region_held_drew (S := fun w' => Below w1.heap.size w1 w') (by kernel_rfl) (HW.out.drew) (fun hHeld => ?_)
          refine take_op (i := 0) (v := ?va0) rfl (by kernel_rfl) (by kernel_rfl) (by kernel_rfl) (fun _ _ _ h => h) rfl hHeld ?ya0 ?ra0
          case ya0 => (intro wz hz; go_simp; first | done | with_reducible rfl)
          try simp only [Act.put, List.setIfInBounds_toArray, List.set_cons_zero, List.set_cons_succ]
          refine take_op (i := 1) (v := ?va1) rfl (by kernel_rfl) (by kernel_rfl) (by kernel_rfl) (fun _ _ _ h => h) rfl hHeld ?ya1 ?ra1
          case ya1 => (intro wz hz; go_simp; first | done | with_reducible rfl)
          try simp only [Act.put, List.setIfInBounds_toArray, List.set_cons_zero, List.set_cons_succ]
          refine take_op (i := 2) (v := ?va2) rfl (by kernel_rfl) (by kernel_rfl) (by kernel_rfl) (fun _ _ _ h => h) rfl hHeld ?ya2 ?ra2
          case ya2 => (intro wz hz; go_simp; first | done | with_reducible rfl)
          try simp only [Act.put, List.setIfInBounds_toArray, List.set_cons_zero, List.set_cons_succ]
          refine take_op (i := 3) (v := ?va3) rfl (by kernel_rfl) (by kernel_rfl) (by kernel_rfl) (fun _ _ _ h => h) rfl hHeld ?ya3 ?ra3
          case ya3 => (intro wz hz; have hcz := K0.out wz hz; go_simp; first | done | with_reducible rfl)
          try simp only [Act.put, List.setIfInBounds_toArray, List.set_cons_zero, List.set_cons_succ]
          refine take_op (i := 4) (v := ?va4) rfl (by kernel_rfl) (by kernel_rfl) (by kernel_rfl) (fun _ _ _ h => h) rfl hHeld ?ya4 ?ra4
          case ya4 => (intro wz hz; go_simp; first | done | with_reducible rfl)
          try simp only [Act.put, List.setIfInBounds_toArray, List.set_cons_zero, List.set_cons_succ]
          refine take_op (i := 5) (v := ?va5) rfl (by kernel_rfl) (by kernel_rfl) (by kernel_rfl) (fun _ _ _ h => h) rfl hHeld ?ya5 ?ra5
          case ya5 => (intro wz hz; go_simp; first | done | with_reducible rfl)
          try simp only [Act.put, List.setIfInBounds_toArray, List.set_cons_zero, List.set_cons_succ]
          refine take_op (i := 6) (v := ?va6) rfl (by kernel_rfl) (by kernel_rfl) (by kernel_rfl) (fun _ _ _ h => h) rfl hHeld ?ya6 ?ra6
          case ya6 => (intro wz hz; go_simp; first | done | with_reducible rfl)
          try simp only [Act.put, List.setIfInBounds_toArray, List.set_cons_zero, List.set_cons_succ]
          refine take_load (i := 7) rfl (by kernel_rfl) (by kernel_rfl) (by kernel_rfl) 30 _ rfl g (j * 33) 32 (arrV y.1) rfl _ Tryd.underlying30 rfl (by kernel_rfl) (fun _ _ _ h => h) rfl hHeld (fun wz hz => KS.out wz hz) ?_
          try simp only [Act.put, List.setIfInBounds_toArray, List.set_cons_zero, List.set_cons_succ]
          refine take_load (i := 8) rfl (by kernel_rfl) (by kernel_rfl) (by kernel_rfl) 30 _ rfl w.heap.size 0 32 (arrV q) rfl _ Tryd.underlying30 rfl (by kernel_rfl) (fun _ _ _ h => h) rfl hHeld (fun wz hz => KQ.out wz hz) ?_
          try simp only [Act.put, List.setIfInBounds_toArray, List.set_cons_zero, List.set_cons_succ]
          refine take_op (i := 9) (v := ?va9) rfl (by kernel_rfl) (by kernel_rfl) (by kernel_rfl) (fun _ _ _ h => h) rfl hHeld ?ya9 ?ra9
          case ya9 => (intro wz hz; go_simp; first | done | with_reducible rfl)
          try simp only [Act.put, List.setIfInBounds_toArray, List.set_cons_zero, List.set_cons_succ]
          refine take_op (i := 10) (v := ?va10) rfl (by kernel_rfl) (by kernel_rfl) (by kernel_rfl) (fun _ _ _ h => h) rfl hHeld ?ya10 ?ra10
          case ya10 => (intro wz hz; go_simp; first | done | with_reducible rfl)
          try simp only [Act.put, List.setIfInBounds_toArray, List.set_cons_zero, List.set_cons_succ]
          refine take_op (i := 11) (v := ?va11) rfl (by kernel_rfl) (by kernel_rfl) (by kernel_rfl) (fun _ _ _ h => h) rfl hHeld ?ya11 ?ra11
          case ya11 => (intro wz hz; go_simp; first | done | with_reducible rfl)
          try simp only [Act.put, List.setIfInBounds_toArray, List.set_cons_zero, List.set_cons_succ]
          refine take_op (i := 12) (v := ?va12) rfl (by kernel_rfl) (by kernel_rfl) (by kernel_rfl) (fun _ _ _ h => h) rfl hHeld ?ya12 ?ra12
          case ya12 => (intro wz hz; go_simp; first | done | with_reducible rfl)
          try simp only [Act.put, List.setIfInBounds_toArray, List.set_cons_zero, List.set_cons_succ]
          refine take_op (i := 13) (v := ?va13) rfl (by kernel_rfl) (by kernel_rfl) (by kernel_rfl) (fun _ _ _ h => h) rfl hHeld ?ya13 ?ra13
          case ya13 => (intro wz hz; go_simp; first | done | with_reducible rfl)
          try simp only [Act.put, List.setIfInBounds_toArray, List.set_cons_zero, List.set_cons_succ]
          refine take_op (i := 14) (v := ?va14) rfl (by kernel_rfl) (by kernel_rfl) (by kernel_rfl) (fun _ _ _ h => h) rfl hHeld ?ya14 ?ra14
          case ya14 => (intro wz hz; have hcz := K0.out wz hz; go_simp; first | done | with_reducible rfl)
          try simp only [Act.put, List.setIfInBounds_toArray, List.set_cons_zero, List.set_cons_succ]
          refine take_op (i := 15) (v := ?va15) rfl (by kernel_rfl) (by kernel_rfl) (by kernel_rfl) (fun _ _ _ h => h) rfl hHeld ?ya15 ?ra15
          case ya15 => (intro wz hz; go_simp; first | done | with_reducible rfl)
          try simp only [Act.put, List.setIfInBounds_toArray, List.set_cons_zero, List.set_cons_succ]
          refine take_op (i := 16) (v := ?va16) rfl (by kernel_rfl) (by kernel_rfl) (by kernel_rfl) (fun _ _ _ h => h) rfl hHeld ?ya16 ?ra16
          case ya16 => (intro wz hz; go_simp; first | done | with_reducible rfl)
          try simp only [Act.put, List.setIfInBounds_toArray, List.set_cons_zero, List.set_cons_succ]
          refine take_op (i := 17) (v := ?va17) rfl (by kernel_rfl) (by kernel_rfl) (by kernel_rfl) (fun _ _ _ h => h) rfl hHeld ?ya17 ?ra17
          case ya17 => (intro wz hz; go_simp; first | done | with_reducible rfl)
          try simp only [Act.put, List.setIfInBounds_toArray, List.set_cons_zero, List.set_cons_succ]
          refine take_op (i := 18) (v := ?va18) rfl (by kernel_rfl) (by kernel_rfl) (by kernel_rfl) (fun _ _ _ h => h) rfl hHeld ?ya18 ?ra18
          case ya18 => (intro wz hz; have hcz := KT.out wz hz; go_simp; first | done | with_reducible rfl)
          try simp only [Act.put, List.setIfInBounds_toArray, List.set_cons_zero, List.set_cons_succ]
          refine take_op (i := 19) (v := ?va19) rfl (by kernel_rfl) (by kernel_rfl) (by kernel_rfl) (fun _ _ _ h => h) rfl hHeld ?ya19 ?ra19
          case ya19 => (intro wz hz; go_simp; first | done | with_reducible rfl)
          try simp only [Act.put, List.setIfInBounds_toArray, List.set_cons_zero, List.set_cons_succ]
          refine take_op (i := 20) (v := ?va20) rfl (by kernel_rfl) (by kernel_rfl) (by kernel_rfl) (fun _ _ _ h => h) rfl hHeld ?ya20 ?ra20
          case ya20 => (intro wz hz; have hcz := KV.out wz hz; go_simp; first | done | with_reducible rfl)
          try simp only [Act.put, List.setIfInBounds_toArray, List.set_cons_zero, List.set_cons_succ]
          refine take_op (i := 21) (v := ?va21) rfl (by kernel_rfl) (by kernel_rfl) (by kernel_rfl) (fun _ _ _ h => h) rfl hHeld ?ya21 ?ra21
          case ya21 => (intro wz hz; go_simp; first | done | with_reducible rfl)
          try simp only [Act.put, List.setIfInBounds_toArray, List.set_cons_zero, List.set_cons_succ]
          refine take_op (i := 22) (v := ?va22) rfl (by kernel_rfl) (by kernel_rfl) (by kernel_rfl) (fun _ _ _ h => h) rfl hHeld ?ya22 ?ra22
          case ya22 => (intro wz hz; go_simp; first | done | with_reducible rfl)
          try simp only [Act.put, List.setIfInBounds_toArray, List.set_cons_zero, List.set_cons_succ]
          refine wpAnyH_done (by kernel_rfl) ?_ _
          refine NoPanic.normal ?_
          have HB2 : Hid _ := hHeld
          clear hHeld
          go_wp2_with fail
          go_meet
          case rel => exact ⟨rfl, rfl, HB2.out⟩
        case rest =>
          obtain ⟨rfl, rfl, hb2⟩ := hcut
          have HB2 : Hid _ := hb2
          clear hb2 KS KT KV KQ E kr
          by_cases hxe : y.2 = strOf l
          · have hd : decide (y.2 = strOf l) = true := decide_eq_true hxe
            have HX : Hid ((q, strOf l) ∈ N) := (show (q, strOf l) ∈ N from by rw [← hxe, ← HYQ.out]; rw [show (y.1, y.2) = N[j] from HY.out]; exact List.getElem_mem _)
            rw [str_beq, hd]
            clear hd hxe
            go_wp2
            refine bodyPost_ret (results_none rfl _ _ _) rfl ⟨rfl, ?_, ?_⟩
            · rw [addN_in HX.out]; exact rbookAt.gr HB.out (B1.out.trans (HB2.out.mono (by have := HS1.out; omega)))
            · exact Fr.of_below F (B1.out.trans (HB2.out.mono (by have := HS1.out; omega)))
          · have hd : decide (y.2 = strOf l) = false := decide_eq_false hxe
            have HX : Hid (y ≠ (q, strOf l)) := (show y ≠ (q, strOf l) from fun h => hxe (by rw [h]))
            rw [str_beq, hd]
            clear hd hxe
            go_wp2
            go_light
            refine ⟨⟨j + 1, by omega, by go_num, HB2.out, fun i hi hij => ?_⟩, by simp [intOf]; omega⟩
            by_cases e : i < j
            · exact HNO.out i hi e
            · obtain rfl : i = j := by omega
              rw [← HY.out]; exact HX.out
      · have E : ∀ wx, (binOp .eql 30 (.agg (rowV 32 (arrV y.1))) (.agg (rowV 32 (arrV q)))).run Tryd.prog wx = .ok (.bool false) wx := fun wx => by rw [eql_sums hys hq, decide_eq_false hyq]
        have HX : Hid (y ≠ (q, strOf l)) := (show y ≠ (q, strOf l) from fun h => hyq (by rw [h]))
        clear hyq
        go_upto_region 4 with fail
        go_cut [6, 38] from 7 to 38 (fun i c wx => i = .int .i64 (j : Int) ∧ c = .bool false ∧ Below w1.heap.size w1 wx)
        case first =>
          refine wp_region_noPanic ?_
          refine wp_region_held_drew (S := fun w' => Below w1.heap.size w1 w') (by kernel_rfl) (HW.out.drew) (fun hHeld => ?_)
          refine take_op (i := 0) (v := ?vb0) rfl (by kernel_rfl) (by kernel_rfl) (by kernel_rfl) (fun _ _ _ h => h) rfl hHeld ?yb0 ?rb0
          case yb0 => (intro wz hz; go_simp; first | done | with_reducible rfl)
          try simp only [Act.put, List.setIfInBounds_toArray, List.set_cons_zero, List.set_cons_succ]
          refine take_op (i := 1) (v := ?vb1) rfl (by kernel_rfl) (by kernel_rfl) (by kernel_rfl) (fun _ _ _ h => h) rfl hHeld ?yb1 ?rb1
          case yb1 => (intro wz hz; go_simp; first | done | with_reducible rfl)
          try simp only [Act.put, List.setIfInBounds_toArray, List.set_cons_zero, List.set_cons_succ]
          refine take_op (i := 2) (v := ?vb2) rfl (by kernel_rfl) (by kernel_rfl) (by kernel_rfl) (fun _ _ _ h => h) rfl hHeld ?yb2 ?rb2
          case yb2 => (intro wz hz; go_simp; first | done | with_reducible rfl)
          try simp only [Act.put, List.setIfInBounds_toArray, List.set_cons_zero, List.set_cons_succ]
          refine take_op (i := 3) (v := ?vb3) rfl (by kernel_rfl) (by kernel_rfl) (by kernel_rfl) (fun _ _ _ h => h) rfl hHeld ?yb3 ?rb3
          case yb3 => (intro wz hz; have hcz := K0.out wz hz; go_simp; first | done | with_reducible rfl)
          try simp only [Act.put, List.setIfInBounds_toArray, List.set_cons_zero, List.set_cons_succ]
          refine take_op (i := 4) (v := ?vb4) rfl (by kernel_rfl) (by kernel_rfl) (by kernel_rfl) (fun _ _ _ h => h) rfl hHeld ?yb4 ?rb4
          case yb4 => (intro wz hz; go_simp; first | done | with_reducible rfl)
          try simp only [Act.put, List.setIfInBounds_toArray, List.set_cons_zero, List.set_cons_succ]
          refine take_op (i := 5) (v := ?vb5) rfl (by kernel_rfl) (by kernel_rfl) (by kernel_rfl) (fun _ _ _ h => h) rfl hHeld ?yb5 ?rb5
          case yb5 => (intro wz hz; go_simp; first | done | with_reducible rfl)
          try simp only [Act.put, List.setIfInBounds_toArray, List.set_cons_zero, List.set_cons_succ]
          refine take_op (i := 6) (v := ?vb6) rfl (by kernel_rfl) (by kernel_rfl) (by kernel_rfl) (fun _ _ _ h => h) rfl hHeld ?yb6 ?rb6
          case yb6 => (intro wz hz; go_simp; first | done | with_reducible rfl)
          try simp only [Act.put, List.setIfInBounds_toArray, List.set_cons_zero, List.set_cons_succ]
          refine take_load (i := 7) rfl (by kernel_rfl) (by kernel_rfl) (by kernel_rfl) 30 _ rfl g (j * 33) 32 (arrV y.1) rfl _ Tryd.underlying30 rfl (by kernel_rfl) (fun _ _ _ h => h) rfl hHeld (fun wz hz => KS.out wz hz) ?_
          try simp only [Act.put, List.setIfInBounds_toArray, List.set_cons_zero, List.set_cons_succ]
          refine take_load (i := 8) rfl (by kernel_rfl) (by kernel_rfl) (by kernel_rfl) 30 _ rfl w.heap.size 0 32 (arrV q) rfl _ Tryd.underlying30 rfl (by kernel_rfl) (fun _ _ _ h => h) rfl hHeld (fun wz hz => KQ.out wz hz) ?_
          try simp only [Act.put, List.setIfInBounds_toArray, List.set_cons_zero, List.set_cons_succ]
          refine take_op (i := 9) (v := ?vb9) rfl (by kernel_rfl) (by kernel_rfl) (by kernel_rfl) (fun _ _ _ h => h) rfl hHeld ?yb9 ?rb9
          case yb9 => (intro wz hz; go_simp; first | done | with_reducible rfl)
          try simp only [Act.put, List.setIfInBounds_toArray, List.set_cons_zero, List.set_cons_succ]
          refine take_op (i := 10) (v := ?vb10) rfl (by kernel_rfl) (by kernel_rfl) (by kernel_rfl) (fun _ _ _ h => h) rfl hHeld ?yb10 ?rb10
          case yb10 => (intro wz hz; go_simp; first | done | with_reducible rfl)
          try simp only [Act.put, List.setIfInBounds_toArray, List.set_cons_zero, List.set_cons_succ]
          refine take_not (i := 11) rfl (by kernel_rfl) (by kernel_rfl) (by kernel_rfl) (fun _ _ _ h => h) rfl hHeld ?_
          try simp only [Act.put, List.setIfInBounds_toArray, List.set_cons_zero, List.set_cons_succ]
          refine take_not (i := 12) rfl (by kernel_rfl) (by kernel_rfl) (by kernel_rfl) (fun _ _ _ h => h) rfl hHeld ?_
          try simp only [Act.put, List.setIfInBounds_toArray, List.set_cons_zero, List.set_cons_succ]
          refine take_not (i := 13) rfl (by kernel_rfl) (by kernel_rfl) (by kernel_rfl) (fun _ _ _ h => h) rfl hHeld ?_
          try simp only [Act.put, List.setIfInBounds_toArray, List.set_cons_zero, List.set_cons_succ]
          refine take_not (i := 14) rfl (by kernel_rfl) (by kernel_rfl) (by kernel_rfl) (fun _ _ _ h => h) rfl hHeld ?_
          try simp only [Act.put, List.setIfInBounds_toArray, List.set_cons_zero, List.set_cons_succ]
          refine take_not (i := 15) rfl (by kernel_rfl) (by kernel_rfl) (by kernel_rfl) (fun _ _ _ h => h) rfl hHeld ?_
          try simp only [Act.put, List.setIfInBounds_toArray, List.set_cons_zero, List.set_cons_succ]
          refine take_not (i := 16) rfl (by kernel_rfl) (by kernel_rfl) (by kernel_rfl) (fun _ _ _ h => h) rfl hHeld ?_
          try simp only [Act.put, List.setIfInBounds_toArray, List.set_cons_zero, List.set_cons_succ]
          refine take_not (i := 17) rfl (by kernel_rfl) (by kernel_rfl) (by kernel_rfl) (fun _ _ _ h => h) rfl hHeld ?_
          try simp only [Act.put, List.setIfInBounds_toArray, List.set_cons_zero, List.set_cons_succ]
          refine take_not (i := 18) rfl (by kernel_rfl) (by kernel_rfl) (by kernel_rfl) (fun _ _ _ h => h) rfl hHeld ?_
          try simp only [Act.put, List.setIfInBounds_toArray, List.set_cons_zero, List.set_cons_succ]
          refine take_not (i := 19) rfl (by kernel_rfl) (by kernel_rfl) (by kernel_rfl) (fun _ _ _ h => h) rfl hHeld ?_
          try simp only [Act.put, List.setIfInBounds_toArray, List.set_cons_zero, List.set_cons_succ]
          refine take_not (i := 20) rfl (by kernel_rfl) (by kernel_rfl) (by kernel_rfl) (fun _ _ _ h => h) rfl hHeld ?_
          try simp only [Act.put, List.setIfInBounds_toArray, List.set_cons_zero, List.set_cons_succ]
          refine take_not (i := 21) rfl (by kernel_rfl) (by kernel_rfl) (by kernel_rfl) (fun _ _ _ h => h) rfl hHeld ?_
          try simp only [Act.put, List.setIfInBounds_toArray, List.set_cons_zero, List.set_cons_succ]
          refine take_op (i := 22) (v := ?vb22) rfl (by kernel_rfl) (by kernel_rfl) (by kernel_rfl) (fun _ _ _ h => h) rfl hHeld ?yb22 ?rb22
          case yb22 => (intro wz hz; go_simp; first | done | with_reducible rfl)
          try simp only [Act.put, List.setIfInBounds_toArray, List.set_cons_zero, List.set_cons_succ]
          refine wpAnyH_done (by kernel_rfl) ?_ _
          refine NoPanic.normal ?_
          have HB2 : Hid _ := hHeld
          clear hHeld
          go_wp2_with fail
          go_meet
          case rel => exact ⟨rfl, rfl, HB2.out⟩
        case rest =>
          obtain ⟨rfl, rfl, hb2⟩ := hcut
          have HB2 : Hid _ := hb2
          clear hb2 KS KT KV KQ E kr
          go_wp2
          go_light
          refine ⟨⟨j + 1, by omega, by go_num, HB2.out, fun i hi hij => ?_⟩, by simp [intOf]; omega⟩
          by_cases e : i < j
          · exact HNO.out i hi e
          · obtain rfl : i = j := by omega
            rw [← HY.out]; exact HX.out
    · obtain rfl : j = N.length := by omega
      have HX : Hid (¬ (q, strOf l) ∈ N) := (show ¬ (q, strOf l) ∈ N from fun h => by
        obtain ⟨i, hi, he⟩ := List.mem_iff_getElem.1 h
        exact HNO.out i hi hi he)
      have BN := rbuild_note q (strOf l)
      clear HNO
      go_upto_region 5 with fail
      refine wp_region_noPanic ?_
      refine wp_region_held_drew (S := fun w' => Fr F w1 w') (by kernel_rfl) ((Fr.of_below F HW.out).drew) (fun hHeld => ?_)
      refine take_op (i := 0) (v := ?vc0) rfl (by kernel_rfl) (by kernel_rfl) (by kernel_rfl) (fun _ _ _ h => h) rfl hHeld ?yc0 ?rc0
      case yc0 => (intro wz hz; go_simp; first | done | with_reducible rfl)
      try simp only [Act.put, List.setIfInBounds_toArray, List.set_cons_zero, List.set_cons_succ]
      refine take_op (i := 2) (v := ?vc2) rfl (by kernel_rfl) (by kernel_rfl) (by kernel_rfl) (fun _ _ _ h => h) rfl hHeld ?yc2 ?rc2
      case yc2 => (intro wz hz; go_simp; first | done | with_reducible rfl)
      try simp only [Act.put, List.setIfInBounds_toArray, List.set_cons_zero, List.set_cons_succ]
      refine take_op (i := 3) (v := ?vc3) rfl (by kernel_rfl) (by kernel_rfl) (by kernel_rfl) (fun _ _ _ h => h) rfl hHeld ?yc3 ?rc3
      case yc3 => (intro wz hz; go_simp; first | done | with_reducible rfl)
      try simp only [Act.put, List.setIfInBounds_toArray, List.set_cons_zero, List.set_cons_succ]
      refine take_op (i := 4) (v := ?vc4) rfl (by kernel_rfl) (by kernel_rfl) (by kernel_rfl) (fun _ _ _ h => h) rfl hHeld ?yc4 ?rc4
      case yc4 => (intro wz hz; go_simp; first | done | with_reducible rfl)
      try simp only [Act.put, List.setIfInBounds_toArray, List.set_cons_zero, List.set_cons_succ]
      refine take_load (i := 7) rfl (by kernel_rfl) (by kernel_rfl) (by kernel_rfl) 30 _ rfl w.heap.size 0 32 (arrV q) rfl _ Tryd.underlying30 rfl (by kernel_rfl) (fun _ _ _ h => h) rfl hHeld (fun wz hz => FQ.out wz hz) ?_
      try simp only [Act.put, List.setIfInBounds_toArray, List.set_cons_zero, List.set_cons_succ]
      refine take_op (i := 8) (v := ?vc8) rfl (by kernel_rfl) (by kernel_rfl) (by kernel_rfl) (fun _ _ _ h => h) rfl hHeld ?yc8 ?rc8
      case yc8 => (intro wz hz; go_simp; first | done | with_reducible rfl)
      try simp only [Act.put, List.setIfInBounds_toArray, List.set_cons_zero, List.set_cons_succ]
      refine take_op (i := 9) (v := ?vc9) rfl (by kernel_rfl) (by kernel_rfl) (by kernel_rfl) (fun _ _ _ h => h) rfl hHeld ?yc9 ?rc9
      case yc9 => (intro wz hz; have hcz := FV.out wz hz; go_simp; first | done | with_reducible rfl)
      try simp only [Act.put, List.setIfInBounds_toArray, List.set_cons_zero, List.set_cons_succ]
      refine take_op (i := 10) (v := .agg (rowV 33 (noteV (q, strOf l)))) rfl (by kernel_rfl) (by kernel_rfl) (by kernel_rfl) (fun _ _ _ h => h) rfl hHeld (fun wz _ => exec_build2 97 0 1 (.tmp 46) (.tmp 48) _ _ rfl rfl rfl (BN wz)) ?_
      try simp only [Act.put, List.setIfInBounds_toArray, List.set_cons_zero, List.set_cons_succ]
      have hb : Below w1.heap.size w1 wr.drew := HW.out.drew
      clear KV KQ FQ FV
      refine take_three (i := 1) (j := 5) (k := 11) rfl rfl rfl (by kernel_rfl) rfl rfl rfl (fun K hK => ?_) (fun K hK => ?_) (fun K hK => ?_)
      · refine wp_of_run (exec_bslice0 66 0 rfl (rbuild_none _)) ?_
        have hb : Below w1.heap.size w1 (wr.drew.alloc (.cells #[] 97)) := hb.alloc hb.size _
        have e0 : (wr.drew.alloc (.cells #[] 97)).heap[wr.drew.heap.size]? = some (.cells #[] 97 (0, 0)) := blk_alloc_new _ _
        have g0 : w1.heap.size ≤ wr.drew.heap.size := Below.size (w := w1) (B := w1.heap.size) (by assumption)
        refine hK.out _ _ (Fr.of_below F hb) (fun _ => ?_)
        clear hK K
        try simp only [Act.put, List.setIfInBounds_toArray, List.set_cons_zero, List.set_cons_succ]
        refine take_pair (i := 5) (j := 11) rfl rfl (by kernel_rfl) rfl rfl (fun K hK => ?_) (fun K hK => ?_)
        · refine wp_of_run (w' := (wr.drew.alloc (.cells #[] 97))) (v := .slice la N.length lc) ?y2 ?_
          case y2 => (have hcz := K0.out _ hb; revert hcz; generalize (wr.drew.alloc (.cells #[] 97)) = wg; intro hcz; go_simp; first | done | with_reducible rfl)
          refine hK.out _ _ (Fr.of_below F hb) (fun _ => ?_)
          clear hK K
          try simp only [Act.put, List.setIfInBounds_toArray, List.set_cons_zero, List.set_cons_succ]
          refine take_pair (i := 6) (j := 11) rfl rfl (by kernel_rfl) rfl rfl (fun K hK => ?_) (fun K hK => ?_)
          · obtain ⟨a1, c1, wb, hr1, OW, hb2, hsz, hkp, _⟩ := rcopy_run w1 (wr.drew.alloc (.cells #[] 97)) _ _ N HL1.out hb _ e0 g0 hN
            refine wp_append_run (.tmp 40) (.tmp 44) 66 rfl rfl rfl hr1 ?_
            have hb := hb2
            refine hK.out _ _ (Fr.of_below F hb) (fun _ => ?_)
            clear hr1
            clear hK K
            try simp only [Act.put, List.setIfInBounds_toArray, List.set_cons_zero, List.set_cons_succ]
            refine take_one (i := 11) rfl (by kernel_rfl) rfl (fun K hK => ?_)
            refine wp_of_run (exec_bslice1 66 1 0 (.tmp 49) (.agg (rowV 33 (noteV (q, strOf l)))) rfl rfl (rbuild_one _ _)) ?_
            have hb : Below w1.heap.size w1 (wb.alloc (.cells (rowV 33 (noteV (q, strOf l))) 97)) := hb.alloc hb.size _
            have r1 : (wb.alloc (.cells (rowV 33 (noteV (q, strOf l))) 97)).rowIs wb.heap.size 97 33 (noteV (q, strOf l)) := rowIs_box _ _ _ _
            have l1 : wb.heap.size < (wb.alloc (.cells (rowV 33 (noteV (q, strOf l))) 97)).heap.size := by simp
            have OW : (wb.alloc (.cells (rowV 33 (noteV (q, strOf l))) 97)).ownsRow w1.heap.size 97 33 (.slice a1 N.length c1) N.length (N.flatMap noteL) := ownsRow_far OW (fun j hj => blk_alloc_lt _ _ _ (ownsRow_block OW j hj).2)
            refine hK.out _ _ (Fr.of_below F hb) (fun _ => ?_)
            clear hK K
            try simp only [Act.put, List.setIfInBounds_toArray, List.set_cons_zero, List.set_cons_succ]
            refine take_one (i := 12) rfl (by kernel_rfl) rfl (fun K hK => ?_)
            obtain ⟨a2, c2, wd, hr2, ho2, bd⟩ := rput_run w1 (wb.alloc (.cells (rowV 33 (noteV (q, strOf l))) 97)) _ N (q, strOf l) OW hb _ r1 hN
            refine wp_append_run (.tmp 45) (.tmp 50) 66 rfl rfl rfl hr2 ?_
            refine hK.out _ _ (Fr.of_below F bd) (fun hHeld => ?_)
            clear hr2
            clear hK K
            try simp only [Act.put, List.setIfInBounds_toArray, List.set_cons_zero, List.set_cons_succ]
            refine take_op (i := 13) (v := ?vt513) rfl (by kernel_rfl) (by kernel_rfl) (by kernel_rfl) (fun _ _ _ h => h) rfl hHeld ?yt513 ?rt513
            case yt513 => (intro wz hz; go_simp; first | done | with_reducible rfl)
            try simp only [Act.put, List.setIfInBounds_toArray, List.set_cons_zero, List.set_cons_succ]
            refine take_op (i := 14) (v := ?vt514) rfl (by kernel_rfl) (by kernel_rfl) (by kernel_rfl) (fun _ _ _ h => h) rfl hHeld ?yt514 ?rt514
            case yt514 => (intro wz hz; go_simp; first | done | with_reducible rfl)
            try simp only [Act.put, List.setIfInBounds_toArray, List.set_cons_zero, List.set_cons_succ]
            refine take_one (i := 15) rfl (by kernel_rfl) rfl (fun K hK => ?_)
            have FIN := radd_fin w w1 wd F k N c (q, strOf l) _ HB.out hq B1.out bd ho2
            have hrd := bd.row HR1.out HK.out.2
            have cd : wd.cell? ⟨k, 0, none⟩ = some (.slice la N.length lc) := hrd.cell (i := 0) (by omega)
            have fd : wd.frozen? ⟨k, 0, none⟩ = false := hrd.frozen 0
            go_simp
            refine hK.out _ _ (Fr.setCell (Fr.of_below F bd) (p := ⟨k, 0, none⟩) (Or.inl HK.out.1) _) (fun hHeld => ?_)
            have FIN2 : Hid _ := FIN
            clear FIN
            clear hK K
            try simp only [Act.put, List.setIfInBounds_toArray, List.set_cons_zero, List.set_cons_succ]
            refine wpAnyH_done (by kernel_rfl) ?_ _
            refine NoPanic.normal ?_
            clear hHeld hrd cd fd bd ho2
            go_wp2
            go_end0
            exact ⟨rfl, by rw [addN_out HX.out]; exact FIN2.out⟩
          · refine wp_of_run (exec_bslice1 66 1 0 (.tmp 49) (.agg (rowV 33 (noteV (q, strOf l)))) rfl rfl (rbuild_one _ _)) ?_
            have hb : Below w1.heap.size w1 ((wr.drew.alloc (.cells #[] 97)).alloc (.cells (rowV 33 (noteV (q, strOf l))) 97)) := hb.alloc hb.size _
            have r1 : ((wr.drew.alloc (.cells #[] 97)).alloc (.cells (rowV 33 (noteV (q, strOf l))) 97)).rowIs (wr.drew.alloc (.cells #[] 97)).heap.size 97 33 (noteV (q, strOf l)) := rowIs_box _ _ _ _
            have l1 : (wr.drew.alloc (.cells #[] 97)).heap.size < ((wr.drew.alloc (.cells #[] 97)).alloc (.cells (rowV 33 (noteV (q, strOf l))) 97)).heap.size := by simp
            have ne : (wr.drew.alloc (.cells #[] 97)).heap.size ≠ wr.drew.heap.size := fun e => by have := (Array.getElem?_eq_some_iff.1 e0).1; rw [← e] at this; exact Nat.lt_irrefl _ this
            have e0 : ((wr.drew.alloc (.cells #[] 97)).alloc (.cells (rowV 33 (noteV (q, strOf l))) 97)).heap[wr.drew.heap.size]? = some (.cells #[] 97 (0, 0)) := (blk_alloc_lt _ _ _ (Array.getElem?_eq_some_iff.1 e0).1).trans e0
            refine hK.out _ _ (Fr.of_below F hb) (fun _ => ?_)
            clear hK K
            try simp only [Act.put, List.setIfInBounds_toArray, List.set_cons_zero, List.set_cons_succ]
            refine take_one (i := 6) rfl (by kernel_rfl) rfl (fun K hK => ?_)
            obtain ⟨a1, c1, wb, hr1, OW, hb2, hsz, hkp, _⟩ := rcopy_run w1 ((wr.drew.alloc (.cells #[] 97)).alloc (.cells (rowV 33 (noteV (q, strOf l))) 97)) _ _ N HL1.out hb _ e0 g0 hN
            refine wp_append_run (.tmp 40) (.tmp 44) 66 rfl rfl rfl hr1 ?_
            have r1 : wb.rowIs (wr.drew.alloc (.cells #[] 97)).heap.size 97 33 (noteV (q, strOf l)) := World.rowIs.of_block r1 (hkp _ l1 ne)
            have l1 : (wr.drew.alloc (.cells #[] 97)).heap.size < wb.heap.size := Nat.lt_of_lt_of_le l1 hsz
            have hb := hb2
            refine hK.out _ _ (Fr.of_below F hb) (fun _ => ?_)
            clear hr1
            clear hK K
            try simp only [Act.put, List.setIfInBounds_toArray, List.set_cons_zero, List.set_cons_succ]
            refine take_one (i := 12) rfl (by kernel_rfl) rfl (fun K hK => ?_)
            obtain ⟨a2, c2, wd, hr2, ho2, bd⟩ := rput_run w1 wb _ N (q, strOf l) OW hb _ r1 hN
            refine wp_append_run (.tmp 45) (.tmp 50) 66 rfl rfl rfl hr2 ?_
            refine hK.out _ _ (Fr.of_below F bd) (fun hHeld => ?_)
            clear hr2
            clear hK K
            try simp only [Act.put, List.setIfInBounds_toArray, List.set_cons_zero, List.set_cons_succ]
            refine take_op (i := 13) (v := ?vt913) rfl (by kernel_rfl) (by kernel_rfl) (by kernel_rfl) (fun _ _ _ h => h) rfl hHeld ?yt913 ?rt913
            case yt913 => (intro wz hz; go_simp; first | done | with_reducible rfl)
            try simp only [Act.put, List.setIfInBounds_toArray, List.set_cons_zero, List.set_cons_succ]
            refine take_op (i := 14) (v := ?vt914) rfl (by kernel_rfl) (by kernel_rfl) (by kernel_rfl) (fun _ _ _ h => h) rfl hHeld ?yt914 ?rt914
            case yt914 => (intro wz hz; go_simp; first | done | with_reducible rfl)
            try simp only [Act.put, List.setIfInBounds_toArray, List.set_cons_zero, List.set_cons_succ]
            refine take_one (i := 15) rfl (by kernel_rfl) rfl (fun K hK => ?_)
            have FIN := radd_fin w w1 wd F k N c (q, strOf l) _ HB.out hq B1.out bd ho2
            have hrd := bd.row HR1.out HK.out.2
            have cd : wd.cell? ⟨k, 0, none⟩ = some (.slice la N.length lc) := hrd.cell (i := 0) (by omega)
            have fd : wd.frozen? ⟨k, 0, none⟩ = false := hrd.frozen 0
            go_simp
            refine hK.out _ _ (Fr.setCell (Fr.of_below F bd) (p := ⟨k, 0, none⟩) (Or.inl HK.out.1) _) (fun hHeld => ?_)
            have FIN2 : Hid _ := FIN
            clear FIN
            clear hK K
            try simp only [Act.put, List.setIfInBounds_toArray, List.set_cons_zero, List.set_cons_succ]
            refine wpAnyH_done (by kernel_rfl) ?_ _
            refine NoPanic.normal ?_
            clear hHeld hrd cd fd bd ho2
            go_wp2
            go_end0
            exact ⟨rfl, by rw [addN_out HX.out]; exact FIN2.out⟩
        · refine wp_of_run (exec_bslice1 66 1 0 (.tmp 49) (.agg (rowV 33 (noteV (q, strOf l)))) rfl rfl (rbuild_one _ _)) ?_
          have hb : Below w1.heap.size w1 ((wr.drew.alloc (.cells #[] 97)).alloc (.cells (rowV 33 (noteV (q, strOf l))) 97)) := hb.alloc hb.size _
          have r1 : ((wr.drew.alloc (.cells #[] 97)).alloc (.cells (rowV 33 (noteV (q, strOf l))) 97)).rowIs (wr.drew.alloc (.cells #[] 97)).heap.size 97 33 (noteV (q, strOf l)) := rowIs_box _ _ _ _
          have l1 : (wr.drew.alloc (.cells #[] 97)).heap.size < ((wr.drew.alloc (.cells #[] 97)).alloc (.cells (rowV 33 (noteV (q, strOf l))) 97)).heap.size := by simp
          have ne : (wr.drew.alloc (.cells #[] 97)).heap.size ≠ wr.drew.heap.size := fun e => by have := (Array.getElem?_eq_some_iff.1 e0).1; rw [← e] at this; exact Nat.lt_irrefl _ this
          have e0 : ((wr.drew.alloc (.cells #[] 97)).alloc (.cells (rowV 33 (noteV (q, strOf l))) 97)).heap[wr.drew.heap.size]? = some (.cells #[] 97 (0, 0)) := (blk_alloc_lt _ _ _ (Array.getElem?_eq_some_iff.1 e0).1).trans e0
          refine hK.out _ _ (Fr.of_below F hb) (fun _ => ?_)
          clear hK K
          try simp only [Act.put, List.setIfInBounds_toArray, List.set_cons_zero, List.set_cons_succ]
          refine take_one (i := 5) rfl (by kernel_rfl) rfl (fun K hK => ?_)
          refine wp_of_run (w' := ((wr.drew.alloc (.cells #[] 97)).alloc (.cells (rowV 33 (noteV (q, strOf l))) 97))) (v := .slice la N.length lc) ?y12 ?_
          case y12 => (have hcz := K0.out _ hb; revert hcz; generalize ((wr.drew.alloc (.cells #[] 97)).alloc (.cells (rowV 33 (noteV (q, strOf l))) 97)) = wg; intro hcz; go_simp; first | done | with_reducible rfl)
          refine hK.out _ _ (Fr.of_below F hb) (fun _ => ?_)
          clear hK K
          try simp only [Act.put, List.setIfInBounds_toArray, List.set_cons_zero, List.set_cons_succ]
          refine take_one (i := 6) rfl (by kernel_rfl) rfl (fun K hK => ?_)
          obtain ⟨a1, c1, wb, hr1, OW, hb2, hsz, hkp, _⟩ := rcopy_run w1 ((wr.drew.alloc (.cells #[] 97)).alloc (.cells (rowV 33 (noteV (q, strOf l))) 97)) _ _ N HL1.out hb _ e0 g0 hN
          refine wp_append_run (.tmp 40) (.tmp 44) 66 rfl rfl rfl hr1 ?_
          have r1 : wb.rowIs (wr.drew.alloc (.cells #[] 97)).heap.size 97 33 (noteV (q, strOf l)) := World.rowIs.of_block r1 (hkp _ l1 ne)
          have l1 : (wr.drew.alloc (.cells #[] 97)).heap.size < wb.heap.size := Nat.lt_of_lt_of_le l1 hsz
          have hb := hb2
          refine hK.out _ _ (Fr.of_below F hb) (fun _ => ?_)
          clear hr1
          clear hK K
          try simp only [Act.put, List.setIfInBounds_toArray, List.set_cons_zero, List.set_cons_succ]
          refine take_one (i := 12) rfl (by kernel_rfl) rfl (fun K hK => ?_)
          obtain ⟨a2, c2, wd, hr2, ho2, bd⟩ := rput_run w1 wb _ N (q, strOf l) OW hb _ r1 hN
          refine wp_append_run (.tmp 45) (.tmp 50) 66 rfl rfl rfl hr2 ?_
          refine hK.out _ _ (Fr.of_below F bd) (fun hHeld => ?_)
          clear hr2
          clear hK K
          try simp only [Act.put, List.setIfInBounds_toArray, List.set_cons_zero, List.set_cons_succ]
          refine take_op (i := 13) (v := ?vt1413) rfl (by kernel_rfl) (by kernel_rfl) (by kernel_rfl) (fun _ _ _ h => h) rfl hHeld ?yt1413 ?rt1413
          case yt1413 => (intro wz hz; go_simp; first | done | with_reducible rfl)
          try simp only [Act.put, List.setIfInBounds_toArray, List.set_cons_zero, List.set_cons_succ]
          refine take_op (i := 14) (v := ?vt1414) rfl (by kernel_rfl) (by kernel_rfl) (by kernel_rfl) (fun _ _ _ h => h) rfl hHeld ?yt1414 ?rt1414
          case yt1414 => (intro wz hz; go_simp; first | done | with_reducible rfl)
          try simp only [Act.put, List.setIfInBounds_toArray, List.set_cons_zero, List.set_cons_succ]
          refine take_one (i := 15) rfl (by kernel_rfl) rfl (fun K hK => ?_)
          have FIN := radd_fin w w1 wd F k N c (q, strOf l) _ HB.out hq B1.out bd ho2
          have hrd := bd.row HR1.out HK.out.2
          have cd : wd.cell? ⟨k, 0, none⟩ = some (.slice la N.length lc) := hrd.cell (i := 0) (by omega)
          have fd : wd.frozen? ⟨k, 0, none⟩ = false := hrd.frozen 0
          go_simp
          refine hK.out _ _ (Fr.setCell (Fr.of_below F bd) (p := ⟨k, 0, none⟩) (Or.inl HK.out.1) _) (fun hHeld => ?_)
          have FIN2 : Hid _ := FIN
          clear FIN
          clear hK K
          try simp only [Act.put, List.setIfInBounds_toArray, List.set_cons_zero, List.set_cons_succ]
          refine wpAnyH_done (by kernel_rfl) ?_ _
          refine NoPanic.normal ?_
          clear hHeld hrd cd fd bd ho2
          go_wp2
          go_end0
          exact ⟨rfl, by rw [addN_out HX.out]; exact FIN2.out⟩
      · refine wp_of_run (w' := wr.drew) (v := .slice la N.length lc) ?y16 ?_
        case y16 => (have hcz := K0.out _ hb; revert hcz; generalize wr.drew = wg; intro hcz; go_simp; first | done | with_reducible rfl)
        refine hK.out _ _ (Fr.of_below F hb) (fun _ => ?_)
        clear hK K
        try simp only [Act.put, List.setIfInBounds_toArray, List.set_cons_zero, List.set_cons_succ]
        refine take_pair (i := 1) (j := 11) rfl rfl (by kernel_rfl) rfl rfl (fun K hK => ?_) (fun K hK => ?_)
        · refine wp_of_run (exec_bslice0 66 0 rfl (rbuild_none _)) ?_
          have hb : Below w1.heap.size w1 (wr.drew.alloc (.cells #[] 97)) := hb.alloc hb.size _
          have e0 : (wr.drew.alloc (.cells #[] 97)).heap[wr.drew.heap.size]? = some (.cells #[] 97 (0, 0)) := blk_alloc_new _ _
          have g0 : w1.heap.size ≤ wr.drew.heap.size := Below.size (w := w1) (B := w1.heap.size) (by assumption)
          refine hK.out _ _ (Fr.of_below F hb) (fun _ => ?_)
          clear hK K
          try simp only [Act.put, List.setIfInBounds_toArray, List.set_cons_zero, List.set_cons_succ]
          refine take_pair (i := 6) (j := 11) rfl rfl (by kernel_rfl) rfl rfl (fun K hK => ?_) (fun K hK => ?_)
          · obtain ⟨a1, c1, wb, hr1, OW, hb2, hsz, hkp, _⟩ := rcopy_run w1 (wr.drew.alloc (.cells #[] 97)) _ _ N HL1.out hb _ e0 g0 hN
            refine wp_append_run (.tmp 40) (.tmp 44) 66 rfl rfl rfl hr1 ?_
            have hb := hb2
            refine hK.out _ _ (Fr.of_below F hb) (fun _ => ?_)
            clear hr1
            clear hK K
            try simp only [Act.put, List.setIfInBounds_toArray, List.set_cons_zero, List.set_cons_succ]
            refine take_one (i := 11) rfl (by kernel_rfl) rfl (fun K hK => ?_)
            refine wp_of_run (exec_bslice1 66 1 0 (.tmp 49) (.agg (rowV 33 (noteV (q, strOf l)))) rfl rfl (rbuild_one _ _)) ?_
            have hb : Below w1.heap.size w1 (wb.alloc (.cells (rowV 33 (noteV (q, strOf l))) 97)) := hb.alloc hb.size _
            have r1 : (wb.alloc (.cells (rowV 33 (noteV (q, strOf l))) 97)).rowIs wb.heap.size 97 33 (noteV (q, strOf l)) := rowIs_box _ _ _ _
            have l1 : wb.heap.size < (wb.alloc (.cells (rowV 33 (noteV (q, strOf l))) 97)).heap.size := by simp
            have OW : (wb.alloc (.cells (rowV 33 (noteV (q, strOf l))) 97)).ownsRow w1.heap.size 97 33 (.slice a1 N.length c1) N.length (N.flatMap noteL) := ownsRow_far OW (fun j hj => blk_alloc_lt _ _ _ (ownsRow_block OW j hj).2)
            refine hK.out _ _ (Fr.of_below F hb) (fun _ => ?_)
            clear hK K
            try simp only [Act.put, List.setIfInBounds_toArray, List.set_cons_zero, List.set_cons_succ]
            refine take_one (i := 12) rfl (by kernel_rfl) rfl (fun K hK => ?_)
            obtain ⟨a2, c2, wd, hr2, ho2, bd⟩ := rput_run w1 (wb.alloc (.cells (rowV 33 (noteV (q, strOf l))) 97)) _ N (q, strOf l) OW hb _ r1 hN
            refine wp_append_run (.tmp 45) (.tmp 50) 66 rfl rfl rfl hr2 ?_
            refine hK.out _ _ (Fr.of_below F bd) (fun hHeld => ?_)
            clear hr2
            clear hK K
            try simp only [Act.put, List.setIfInBounds_toArray, List.set_cons_zero, List.set_cons_succ]
            refine take_op (i := 13) (v := ?vt2013) rfl (by kernel_rfl) (by kernel_rfl) (by kernel_rfl) (fun _ _ _ h => h) rfl hHeld ?yt2013 ?rt2013
            case yt2013 => (intro wz hz; go_simp; first | done | with_reducible rfl)
            try simp only [Act.put, List.setIfInBounds_toArray, List.set_cons_zero, List.set_cons_succ]
            refine take_op (i := 14) (v := ?vt2014) rfl (by kernel_rfl) (by kernel_rfl) (by kernel_rfl) (fun _ _ _ h => h) rfl hHeld ?yt2014 ?rt2014
            case yt2014 => (intro wz hz; go_simp; first | done | with_reducible rfl)
            try simp only [Act.put, List.setIfInBounds_toArray, List.set_cons_zero, List.set_cons_succ]
            refine take_one (i := 15) rfl (by kernel_rfl) rfl (fun K hK => ?_)
            have FIN := radd_fin w w1 wd F k N c (q, strOf l) _ HB.out hq B1.out bd ho2
            have hrd := bd.row HR1.out HK.out.2
            have cd : wd.cell? ⟨k, 0, none⟩ = some (.slice la N.length lc) := hrd.cell (i := 0) (by omega)
            have fd : wd.frozen? ⟨k, 0, none⟩ = false := hrd.frozen 0
            go_simp
            refine hK.out _ _ (Fr.setCell (Fr.of_below F bd) (p := ⟨k, 0, none⟩) (Or.inl HK.out.1) _) (fun hHeld => ?_)
            have FIN2 : Hid _ := FIN
            clear FIN
            clear hK K
            try simp only [Act.put, List.setIfInBounds_toArray, List.set_cons_zero, List.set_cons_succ]
            refine wpAnyH_done (by kernel_rfl) ?_ _
            refine NoPanic.normal ?_
            clear hHeld hrd cd fd bd ho2
            go_wp2
            go_end0
            exact ⟨rfl, by rw [addN_out HX.out]; exact FIN2.out⟩
          · refine wp_of_run (exec_bslice1 66 1 0 (.tmp 49) (.agg (rowV 33 (noteV (q, strOf l)))) rfl rfl (rbuild_one _ _)) ?_
            have hb : Below w1.heap.size w1 ((wr.drew.alloc (.cells #[] 97)).alloc (.cells (rowV 33 (noteV (q, strOf l))) 97)) := hb.alloc hb.size _
            have r1 : ((wr.drew.alloc (.cells #[] 97)).alloc (.cells (rowV 33 (noteV (q, strOf l))) 97)).rowIs (wr.drew.alloc (.cells #[] 97)).heap.size 97 33 (noteV (q, strOf l)) := rowIs_box _ _ _ _
            have l1 : (wr.drew.alloc (.cells #[] 97)).heap.size < ((wr.drew.alloc (.cells #[] 97)).alloc (.cells (rowV 33 (noteV (q, strOf l))) 97)).heap.size := by simp
            have ne : (wr.drew.alloc (.cells #[] 97)).heap.size ≠ wr.drew.heap.size := fun e => by have := (Array.getElem?_eq_some_iff.1 e0).1; rw [← e] at this; exact Nat.lt_irrefl _ this
            have e0 : ((wr.drew.alloc (.cells #[] 97)).alloc (.cells (rowV 33 (noteV (q, strOf l))) 97)).heap[wr.drew.heap.size]? = some (.cells #[] 97 (0, 0)) := (blk_alloc_lt _ _ _ (Array.getElem?_eq_some_iff.1 e0).1).trans e0
            refine hK.out _ _ (Fr.of_below F hb) (fun _ => ?_)
            clear hK K
            try simp only [Act.put, List.setIfInBounds_toArray, List.set_cons_zero, List.set_cons_succ]
            refine take_one (i := 6) rfl (by kernel_rfl) rfl (fun K hK => ?_)
            obtain ⟨a1, c1, wb, hr1, OW, hb2, hsz, hkp, _⟩ := rcopy_run w1 ((wr.drew.alloc (.cells #[] 97)).alloc (.cells (rowV 33 (noteV (q, strOf l))) 97)) _ _ N HL1.out hb _ e0 g0 hN
            refine wp_append_run (.tmp 40) (.tmp 44) 66 rfl rfl rfl hr1 ?_
            have r1 : wb.rowIs (wr.drew.alloc (.cells #[] 97)).heap.size 97 33 (noteV (q, strOf l)) := World.rowIs.of_block r1 (hkp _ l1 ne)
            have l1 : (wr.drew.alloc (.cells #[] 97)).heap.size < wb.heap.size := Nat.lt_of_lt_of_le l1 hsz
            have hb := hb2
            refine hK.out _ _ (Fr.of_below F hb) (fun _ => ?_)
            clear hr1
            clear hK K
            try simp only [Act.put, List.setIfInBounds_toArray, List.set_cons_zero, List.set_cons_succ]
            refine take_one (i := 12) rfl (by kernel_rfl) rfl (fun K hK => ?_)
            obtain ⟨a2, c2, wd, hr2, ho2, bd⟩ := rput_run w1 wb _ N (q, strOf l) OW hb _ r1 hN
            refine wp_append_run (.tmp 45) (.tmp 50) 66 rfl rfl rfl hr2 ?_
            refine hK.out _ _ (Fr.of_below F bd) (fun hHeld => ?_)
            clear hr2
            clear hK K
            try simp only [Act.put, List.setIfInBounds_toArray, List.set_cons_zero, List.set_cons_succ]
            refine take_op (i := 13) (v := ?vt2413) rfl (by kernel_rfl) (by kernel_rfl) (by kernel_rfl) (fun _ _ _ h => h) rfl hHeld ?yt2413 ?rt2413
            case yt2413 => (intro wz hz; go_simp; first | done | with_reducible rfl)
            try simp only [Act.put, List.setIfInBounds_toArray, List.set_cons_zero, List.set_cons_succ]
            refine take_op (i := 14) (v := ?vt2414) rfl (by kernel_rfl) (by kernel_rfl) (by kernel_rfl) (fun _ _ _ h => h) rfl hHeld ?yt2414 ?rt2414
            case yt2414 => (intro wz hz; go_simp; first | done | with_reducible rfl)
            try simp only [Act.put, List.setIfInBounds_toArray, List.set_cons_zero, List.set_cons_succ]
            refine take_one (i := 15) rfl (by kernel_rfl) rfl (fun K hK => ?_)
            have FIN := radd_fin w w1 wd F k N c (q, strOf l) _ HB.out hq B1.out bd ho2
            have hrd := bd.row HR1.out HK.out.2
            have cd : wd.cell? ⟨k, 0, none⟩ = some (.slice la N.length lc) := hrd.cell (i := 0) (by omega)
            have fd : wd.frozen? ⟨k, 0, none⟩ = false := hrd.frozen 0
            go_simp
            refine hK.out _ _ (Fr.setCell (Fr.of_below F bd) (p := ⟨k, 0, none⟩) (Or.inl HK.out.1) _) (fun hHeld => ?_)
            have FIN2 : Hid _ := FIN
            clear FIN
            clear hK K
            try simp only [Act.put, List.setIfInBounds_toArray, List.set_cons_zero, List.set_cons_succ]
            refine wpAnyH_done (by kernel_rfl) ?_ _
            refine NoPanic.normal ?_
            clear hHeld hrd cd fd bd ho2
            go_wp2
            go_end0
            exact ⟨rfl, by rw [addN_out HX.out]; exact FIN2.out⟩
        · refine wp_of_run (exec_bslice1 66 1 0 (.tmp 49) (.agg (rowV 33 (noteV (q, strOf l)))) rfl rfl (rbuild_one _ _)) ?_
          have hb : Below w1.heap.size w1 (wr.drew.alloc (.cells (rowV 33 (noteV (q, strOf l))) 97)) := hb.alloc hb.size _
          have r1 : (wr.drew.alloc (.cells (rowV 33 (noteV (q, strOf l))) 97)).rowIs wr.drew.heap.size 97 33 (noteV (q, strOf l)) := rowIs_box _ _ _ _
          have l1 : wr.drew.heap.size < (wr.drew.alloc (.cells (rowV 33 (noteV (q, strOf l))) 97)).heap.size := by simp
          refine hK.out _ _ (Fr.of_below F hb) (fun _ => ?_)
          clear hK K
          try simp only [Act.put, List.setIfInBounds_toArray, List.set_cons_zero, List.set_cons_succ]
          refine take_one (i := 1) rfl (by kernel_rfl) rfl (fun K hK => ?_)
          refine wp_of_run (exec_bslice0 66 0 rfl (rbuild_none _)) ?_
          have hb : Below w1.heap.size w1 ((wr.drew.alloc (.cells (rowV 33 (noteV (q, strOf l))) 97)).alloc (.cells #[] 97)) := hb.alloc hb.size _
          have e0 : ((wr.drew.alloc (.cells (rowV 33 (noteV (q, strOf l))) 97)).alloc (.cells #[] 97)).heap[(wr.drew.alloc (.cells (rowV 33 (noteV (q, strOf l))) 97)).heap.size]? = some (.cells #[] 97 (0, 0)) := blk_alloc_new _ _
          have g0 : w1.heap.size ≤ (wr.drew.alloc (.cells (rowV 33 (noteV (q, strOf l))) 97)).heap.size := Below.size (w := w1) (B := w1.heap.size) (by assumption)
          have r1 : ((wr.drew.alloc (.cells (rowV 33 (noteV (q, strOf l))) 97)).alloc (.cells #[] 97)).rowIs wr.drew.heap.size 97 33 (noteV (q, strOf l)) := ((Below.refl (wr.drew.alloc (.cells (rowV 33 (noteV (q, strOf l))) 97)).heap.size (wr.drew.alloc (.cells (rowV 33 (noteV (q, strOf l))) 97))).alloc (Nat.le_refl _) _).row r1 l1
          have ne : wr.drew.heap.size ≠ (wr.drew.alloc (.cells (rowV 33 (noteV (q, strOf l))) 97)).heap.size := Nat.ne_of_lt l1
          have l1 : wr.drew.heap.size < ((wr.drew.alloc (.cells (rowV 33 (noteV (q, strOf l))) 97)).alloc (.cells #[] 97)).heap.size := Nat.lt_of_lt_of_le l1 (by simp)
          refine hK.out _ _ (Fr.of_below F hb) (fun _ => ?_)
          clear hK K
          try simp only [Act.put, List.setIfInBounds_toArray, List.set_cons_zero, List.set_cons_succ]
          refine take_one (i := 6) rfl (by kernel_rfl) rfl (fun K hK => ?_)
          obtain ⟨a1, c1, wb, hr1, OW, hb2, hsz, hkp, _⟩ := rcopy_run w1 ((wr.drew.alloc (.cells (rowV 33 (noteV (q, strOf l))) 97)).alloc (.cells #[] 97)) _ _ N HL1.out hb _ e0 g0 hN
          refine wp_append_run (.tmp 40) (.tmp 44) 66 rfl rfl rfl hr1 ?_
          have r1 : wb.rowIs wr.drew.heap.size 97 33 (noteV (q, strOf l)) := World.rowIs.of_block r1 (hkp _ l1 ne)
          have l1 : wr.drew.heap.size < wb.heap.size := Nat.lt_of_lt_of_le l1 hsz
          have hb := hb2
          refine hK.out _ _ (Fr.of_below F hb) (fun _ => ?_)
          clear hr1
          clear hK K
          try simp only [Act.put, List.setIfInBounds_toArray, List.set_cons_zero, List.set_cons_succ]
          refine take_one (i := 12) rfl (by kernel_rfl) rfl (fun K hK => ?_)
          obtain ⟨a2, c2, wd, hr2, ho2, bd⟩ := rput_run w1 wb _ N (q, strOf l) OW hb _ r1 hN
          refine wp_append_run (.tmp 45) (.tmp 50) 66 rfl rfl rfl hr2 ?_
          refine hK.out _ _ (Fr.of_below F bd) (fun hHeld => ?_)
          clear hr2
          clear hK K
          try simp only [Act.put, List.setIfInBounds_toArray, List.set_cons_zero, List.set_cons_succ]
          refine take_op (i := 13) (v := ?vt2913) rfl (by kernel_rfl) (by kernel_rfl) (by kernel_rfl) (fun _ _ _ h => h) rfl hHeld ?yt2913 ?rt2913
          case yt2913 => (intro wz hz; go_simp; first | done | with_reducible rfl)
          try simp only [Act.put, List.setIfInBounds_toArray, List.set_cons_zero, List.set_cons_succ]
          refine take_op (i := 14) (v := ?vt2914) rfl (by kernel_rfl) (by kernel_rfl) (by kernel_rfl) (fun _ _ _ h => h) rfl hHeld ?yt2914 ?rt2914
          case yt2914 => (intro wz hz; go_simp; first | done | with_reducible rfl)
          try simp only [Act.put, List.setIfInBounds_toArray, List.set_cons_zero, List.set_cons_succ]
          refine take_one (i := 15) rfl (by kernel_rfl) rfl (fun K hK => ?_)
          have FIN := radd_fin w w1 wd F k N c (q, strOf l) _ HB.out hq B1.out bd ho2
          have hrd := bd.row HR1.out HK.out.2
          have cd : wd.cell? ⟨k, 0, none⟩ = some (.slice la N.length lc) := hrd.cell (i := 0) (by omega)
          have fd : wd.frozen? ⟨k, 0, none⟩ = false := hrd.frozen 0
          go_simp
          refine hK.out _ _ (Fr.setCell (Fr.of_below F bd) (p := ⟨k, 0, none⟩) (Or.inl HK.out.1) _) (fun hHeld => ?_)
          have FIN2 : Hid _ := FIN
          clear FIN
          clear hK K
          try simp only [Act.put, List.setIfInBounds_toArray, List.set_cons_zero, List.set_cons_succ]
          refine wpAnyH_done (by kernel_rfl) ?_ _
          refine NoPanic.normal ?_
          clear hHeld hrd cd fd bd ho2
          go_wp2
          go_end0
          exact ⟨rfl, by rw [addN_out HX.out]; exact FIN2.out⟩
      · refine wp_of_run (exec_bslice1 66 1 0 (.tmp 49) (.agg (rowV 33 (noteV (q, strOf l)))) rfl rfl (rbuild_one _ _)) ?_
        have hb : Below w1.heap.size w1 (wr.drew.alloc (.cells (rowV 33 (noteV (q, strOf l))) 97)) := hb.alloc hb.size _
        have r1 : (wr.drew.alloc (.cells (rowV 33 (noteV (q, strOf l))) 97)).rowIs wr.drew.heap.size 97 33 (noteV (q, strOf l)) := rowIs_box _ _ _ _
        have l1 : wr.drew.heap.size < (wr.drew.alloc (.cells (rowV 33 (noteV (q, strOf l))) 97)).heap.size := by simp
        refine hK.out _ _ (Fr.of_below F hb) (fun _ => ?_)
        clear hK K
        try simp only [Act.put, List.setIfInBounds_toArray, List.set_cons_zero, List.set_cons_succ]
        refine take_pair (i := 1) (j := 5) rfl rfl (by kernel_rfl) rfl rfl (fun K hK => ?_) (fun K hK => ?_)
        · refine wp_of_run (exec_bslice0 66 0 rfl (rbuild_none _)) ?_
          have hb : Below w1.heap.size w1 ((wr.drew.alloc (.cells (rowV 33 (noteV (q, strOf l))) 97)).alloc (.cells #[] 97)) := hb.alloc hb.size _
          have e0 : ((wr.drew.alloc (.cells (rowV 33 (noteV (q, strOf l))) 97)).alloc (.cells #[] 97)).heap[(wr.drew.alloc (.cells (rowV 33 (noteV (q, strOf l))) 97)).heap.size]? = some (.cells #[] 97 (0, 0)) := blk_alloc_new _ _
          have g0 : w1.heap.size ≤ (wr.drew.alloc (.cells (rowV 33 (noteV (q, strOf l))) 97)).heap.size := Below.size (w := w1) (B := w1.heap.size) (by assumption)
          have r1 : ((wr.drew.alloc (.cells (rowV 33 (noteV (q, strOf l))) 97)).alloc (.cells #[] 97)).rowIs wr.drew.heap.size 97 33 (noteV (q, strOf l)) := ((Below.refl (wr.drew.alloc (.cells (rowV 33 (noteV (q, strOf l))) 97)).heap.size (wr.drew.alloc (.cells (rowV 33 (noteV (q, strOf l))) 97))).alloc (Nat.le_refl _) _).row r1 l1
          have ne : wr.drew.heap.size ≠ (wr.drew.alloc (.cells (rowV 33 (noteV (q, strOf l))) 97)).heap.size := Nat.ne_of_lt l1
          have l1 : wr.drew.heap.size < ((wr.drew.alloc (.cells (rowV 33 (noteV (q, strOf l))) 97)).alloc (.cells #[] 97)).heap.size := Nat.lt_of_lt_of_le l1 (by simp)
          refine hK.out _ _ (Fr.of_below F hb) (fun _ => ?_)
          clear hK K
          try simp only [Act.put, List.setIfInBounds_toArray, List.set_cons_zero, List.set_cons_succ]
          refine take_one (i := 5) rfl (by kernel_rfl) rfl (fun K hK => ?_)
          refine wp_of_run (w' := ((wr.drew.alloc (.cells (rowV 33 (noteV (q, strOf l))) 97)).alloc (.cells #[] 97))) (v := .slice la N.length lc) ?y33 ?_
          case y33 => (have hcz := K0.out _ hb; revert hcz; generalize ((wr.drew.alloc (.cells (rowV 33 (noteV (q, strOf l))) 97)).alloc (.cells #[] 97)) = wg; intro hcz; go_simp; first | done | with_reducible rfl)
          refine hK.out _ _ (Fr.of_below F hb) (fun _ => ?_)
          clear hK K
          try simp only [Act.put, List.setIfInBounds_toArray, List.set_cons_zero, List.set_cons_succ]
          refine take_one (i := 6) rfl (by kernel_rfl) rfl (fun K hK => ?_)
          obtain ⟨a1, c1, wb, hr1, OW, hb2, hsz, hkp, _⟩ := rcopy_run w1 ((wr.drew.alloc (.cells (rowV 33 (noteV (q, strOf l))) 97)).alloc (.cells #[] 97)) _ _ N HL1.out hb _ e0 g0 hN
          refine wp_append_run (.tmp 40) (.tmp 44) 66 rfl rfl rfl hr1 ?_
          have r1 : wb.rowIs wr.drew.heap.size 97 33 (noteV (q, strOf l)) := World.rowIs.of_block r1 (hkp _ l1 ne)
          have l1 : wr.drew.heap.size < wb.heap.size := Nat.lt_of_lt_of_le l1 hsz
          have hb := hb2
          refine hK.out _ _ (Fr.of_below F hb) (fun _ => ?_)
          clear hr1
          clear hK K
          try simp only [Act.put, List.setIfInBounds_toArray, List.set_cons_zero, List.set_cons_succ]
          refine take_one (i := 12) rfl (by kernel_rfl) rfl (fun K hK => ?_)
          obtain ⟨a2, c2, wd, hr2, ho2, bd⟩ := rput_run w1 wb _ N (q, strOf l) OW hb _ r1 hN
          refine wp_append_run (.tmp 45) (.tmp 50) 66 rfl rfl rfl hr2 ?_
          refine hK.out _ _ (Fr.of_below F bd) (fun hHeld => ?_)
          clear hr2
          clear hK K
          try simp only [Act.put, List.setIfInBounds_toArray, List.set_cons_zero, List.set_cons_succ]
          refine take_op (i := 13) (v := ?vt3513) rfl (by kernel_rfl) (by kernel_rfl) (by kernel_rfl) (fun _ _ _ h => h) rfl hHeld ?yt3513 ?rt3513
          case yt3513 => (intro wz hz; go_simp; first | done | with_reducible rfl)
          try simp only [Act.put, List.setIfInBounds_toArray, List.set_cons_zero, List.set_cons_succ]
          refine take_op (i := 14) (v := ?vt3514) rfl (by kernel_rfl) (by kernel_rfl) (by kernel_rfl) (fun _ _ _ h => h) rfl hHeld ?yt3514 ?rt3514
          case yt3514 => (intro wz hz; go_simp; first | done | with_reducible rfl)
          try simp only [Act.put, List.setIfInBounds_toArray, List.set_cons_zero, List.set_cons_succ]
          refine take_one (i := 15) rfl (by kernel_rfl) rfl (fun K hK => ?_)
          have FIN := radd_fin w w1 wd F k N c (q, strOf l) _ HB.out hq B1.out bd ho2
          have hrd := bd.row HR1.out HK.out.2
          have cd : wd.cell? ⟨k, 0, none⟩ = some (.slice la N.length lc) := hrd.cell (i := 0) (by omega)
          have fd : wd.frozen? ⟨k, 0, none⟩ = false := hrd.frozen 0
          go_simp
          refine hK.out _ _ (Fr.setCell (Fr.of_below F bd) (p := ⟨k, 0, none⟩) (Or.inl HK.out.1) _) (fun hHeld => ?_)
          have FIN2 : Hid _ := FIN
          clear FIN
          clear hK K
          try simp only [Act.put, List.setIfInBounds_toArray, List.set_cons_zero, List.set_cons_succ]
          refine wpAnyH_done (by kernel_rfl) ?_ _
          refine NoPanic.normal ?_
          clear hHeld hrd cd fd bd ho2
          go_wp2
          go_end0
          exact ⟨rfl, by rw [addN_out HX.out]; exact FIN2.out⟩
        · refine wp_of_run (w' := (wr.drew.alloc (.cells (rowV 33 (noteV (q, strOf l))) 97))) (v := .slice la N.length lc) ?y37 ?_
          case y37 => (have hcz := K0.out _ hb; revert hcz; generalize (wr.drew.alloc (.cells (rowV 33 (noteV (q, strOf l))) 97)) = wg; intro hcz; go_simp; first | done | with_reducible rfl)
          refine hK.out _ _ (Fr.of_below F hb) (fun _ => ?_)
          clear hK K
          try simp only [Act.put, List.setIfInBounds_toArray, List.set_cons_zero, List.set_cons_succ]
          refine take_one (i := 1) rfl (by kernel_rfl) rfl (fun K hK => ?_)
          refine wp_of_run (exec_bslice0 66 0 rfl (rbuild_none _)) ?_
          have hb : Below w1.heap.size w1 ((wr.drew.alloc (.cells (rowV 33 (noteV (q, strOf l))) 97)).alloc (.cells #[] 97)) := hb.alloc hb.size _
          have e0 : ((wr.drew.alloc (.cells (rowV 33 (noteV (q, strOf l))) 97)).alloc (.cells #[] 97)).heap[(wr.drew.alloc (.cells (rowV 33 (noteV (q, strOf l))) 97)).heap.size]? = some (.cells #[] 97 (0, 0)) := blk_alloc_new _ _
          have g0 : w1.heap.size ≤ (wr.drew.alloc (.cells (rowV 33 (noteV (q, strOf l))) 97)).heap.size := Below.size (w := w1) (B := w1.heap.size) (by assumption)
          have r1 : ((wr.drew.alloc (.cells (rowV 33 (noteV (q, strOf l))) 97)).alloc (.cells #[] 97)).rowIs wr.drew.heap.size 97 33 (noteV (q, strOf l)) := ((Below.refl (wr.drew.alloc (.cells (rowV 33 (noteV (q, strOf l))) 97)).heap.size (wr.drew.alloc (.cells (rowV 33 (noteV (q, strOf l))) 97))).alloc (Nat.le_refl _) _).row r1 l1
          have ne : wr.drew.heap.size ≠ (wr.drew.alloc (.cells (rowV 33 (noteV (q, strOf l))) 97)).heap.size := Nat.ne_of_lt l1
          have l1 : wr.drew.heap.size < ((wr.drew.alloc (.cells (rowV 33 (noteV (q, strOf l))) 97)).alloc (.cells #[] 97)).heap.size := Nat.lt_of_lt_of_le l1 (by simp)
          refine hK.out _ _ (Fr.of_below F hb) (fun _ => ?_)
          clear hK K
          try simp only [Act.put, List.setIfInBounds_toArray, List.set_cons_zero, List.set_cons_succ]
          refine take_one (i := 6) rfl (by kernel_rfl) rfl (fun K hK => ?_)
          obtain ⟨a1, c1, wb, hr1, OW, hb2, hsz, hkp, _⟩ := rcopy_run w1 ((wr.drew.alloc (.cells (rowV 33 (noteV (q, strOf l))) 97)).alloc (.cells #[] 97)) _ _ N HL1.out hb _ e0 g0 hN
          refine wp_append_run (.tmp 40) (.tmp 44) 66 rfl rfl rfl hr1 ?_
          have r1 : wb.rowIs wr.drew.heap.size 97 33 (noteV (q, strOf l)) := World.rowIs.of_block r1 (hkp _ l1 ne)
          have l1 : wr.drew.heap.size < wb.heap.size := Nat.lt_of_lt_of_le l1 hsz
          have hb := hb2
          refine hK.out _ _ (Fr.of_below F hb) (fun _ => ?_)
          clear hr1
          clear hK K
          try simp only [Act.put, List.setIfInBounds_toArray, List.set_cons_zero, List.set_cons_succ]
          refine take_one (i := 12) rfl (by kernel_rfl) rfl (fun K hK => ?_)
          obtain ⟨a2, c2, wd, hr2, ho2, bd⟩ := rput_run w1 wb _ N (q, strOf l) OW hb _ r1 hN
          refine wp_append_run (.tmp 45) (.tmp 50) 66 rfl rfl rfl hr2 ?_
          refine hK.out _ _ (Fr.of_below F bd) (fun hHeld => ?_)
          clear hr2
          clear hK K
          try simp only [Act.put, List.setIfInBounds_toArray, List.set_cons_zero, List.set_cons_succ]
          refine take_op (i := 13) (v := ?vt4013) rfl (by kernel_rfl) (by kernel_rfl) (by kernel_rfl) (fun _ _ _ h => h) rfl hHeld ?yt4013 ?rt4013
          case yt4013 => (intro wz hz; go_simp; first | done | with_reducible rfl)
          try simp only [Act.put, List.setIfInBounds_toArray, List.set_cons_zero, List.set_cons_succ]
          refine take_op (i := 14) (v := ?vt4014) rfl (by kernel_rfl) (by kernel_rfl) (by kernel_rfl) (fun _ _ _ h => h) rfl hHeld ?yt4014 ?rt4014
          case yt4014 => (intro wz hz; go_simp; first | done | with_reducible rfl)
          try simp only [Act.put, List.setIfInBounds_toArray, List.set_cons_zero, List.set_cons_succ]
          refine take_one (i := 15) rfl (by kernel_rfl) rfl (fun K hK => ?_)
          have FIN := radd_fin w w1 wd F k N c (q, strOf l) _ HB.out hq B1.out bd ho2
          have hrd := bd.row HR1.out HK.out.2
          have cd : wd.cell? ⟨k, 0, none⟩ = some (.slice la N.length lc) := hrd.cell (i := 0) (by omega)
          have fd : wd.frozen? ⟨k, 0, none⟩ = false := hrd.frozen 0
          go_simp
          refine hK.out _ _ (Fr.setCell (Fr.of_below F bd) (p := ⟨k, 0, none⟩) (Or.inl HK.out.1) _) (fun hHeld => ?_)
          have FIN2 : Hid _ := FIN
          clear FIN
          clear hK K
          try simp only [Act.put, List.setIfInBounds_toArray, List.set_cons_zero, List.set_cons_succ]
          refine wpAnyH_done (by kernel_rfl) ?_ _
          refine NoPanic.normal ?_
          clear hHeld hrd cd fd bd ho2
          go_wp2
          go_end0
          exact ⟨rfl, by rw [addN_out HX.out]; exact FIN2.out⟩
end Go.Proofs.YtmfgfcknhjblgaaDoor

/- The document's book: Find, Of. -/
namespace Go.Proofs.YtmfgfcknhjblgaaDoor
set_option linter.unusedSimpArgs false
set_option linter.unusedVariables false
open Go.RowKit Go.Deep

/-- the text that was noted first. -/
def foundT (N : List Nt) (q : List Int) : ByteArray := match firstAt N q with
  | some i => (N.getD i zeroN).2
  | none => ⟨#[]⟩
theorem foundT_B (N : List Nt) (q : List Int) : strOf (foundB N q) = foundT N q := by
  unfold foundB foundT
  cases firstAt N q with
  | none => rfl
  | some i => exact strOf_sBytes _
theorem firstAt_none {N : List Nt} {q : List Int} (h : ∀ i (hi : i < N.length), N[i].1 ≠ q) : firstAt N q = none := by
  unfold firstAt
  rw [List.findIdx?_eq_none_iff]
  intro x hx
  obtain ⟨i, hi, rfl⟩ := List.mem_iff_getElem.1 hx
  simp [h i hi]
theorem firstAt_here {N : List Nt} {q : List Int} {j : Nat} (hj : j < N.length) (h : N[j].1 = q) (hno : ∀ i (hi : i < N.length), i < j → N[i].1 ≠ q) : firstAt N q = some j := by
  unfold firstAt
  rw [List.findIdx?_eq_some_iff_getElem]
  exact ⟨hj, by simp [h], fun i hi => by simp [hno i (by omega) hi]⟩
set_option maxHeartbeats 2000000 in
set_option maxRecDepth 100000 in
theorem rfind_any (F : Nat → Prop) (k : Nat) (N : List Nt) (c : Int) (q : List Int) (w : World) (h : rbookAt w F k N c) (hq : isSum q) (hN : N.length < 1000000) :
    Calls Tryd.prog 31 #[.pointer (some ⟨k, 0, none⟩), sumV q] w fun e w' => e = .returned (.tuple #[.string (foundT N q), .bool (firstAt N q).isSome]) ∧ Below w.heap.size w w' := by
  obtain ⟨hF, hlt, lv, hrow, hl, hNs⟩ := h
  have hk := hlt k hF
  obtain ⟨w1, hw1⟩ : ∃ w1, w1 = w.alloc (.cells (rowV 32 (arrV q)) 30) := ⟨_, rfl⟩
  have b1 : Below w.heap.size w w1 := by rw [hw1]; exact (Below.refl _ _).alloc (Nat.le_refl _) _
  have rq : w1.rowIs w.heap.size 30 32 (arrV q) := by rw [hw1]; exact rowIs_box w _ _ _
  have s1 : w1.heap.size = w.heap.size + 1 := by rw [hw1]; simp
  have hr1 := b1.row hrow hk
  obtain ⟨la, lc, rfl, hlc, hlm, hcell⟩ := hl.shape
  have K0 : Hid (∀ wz, Below w1.heap.size w1 wz → wz.cell? ⟨k, 0, none⟩ = some (.slice la N.length lc)) := (show ∀ wz, Below w1.heap.size w1 wz → wz.cell? ⟨k, 0, none⟩ = some (.slice la N.length lc) from fun wz hz => (hz.cell (p := ⟨k, 0, none⟩) (show k < w1.heap.size by omega)).trans (hr1.cell (i := 0) (by omega)))
  have KQ : Hid (∀ wz, Below w1.heap.size w1 wz → ∀ i, i < 32 → wz.cell? ⟨w.heap.size, 0 + i, none⟩ = some (arrV q i)) := (show ∀ wz, Below w1.heap.size w1 wz → ∀ i, i < 32 → wz.cell? ⟨w.heap.size, 0 + i, none⟩ = some (arrV q i) from fun wz hz i hi => by rw [Nat.zero_add]; exact (hz.cell (p := ⟨w.heap.size, i, none⟩) (show w.heap.size < w1.heap.size by omega)).trans (rq.cell hi))
  have KN : Hid (∀ (i : Nat) (hi : i < N.length), ∃ g, la = some ⟨g, 0, none⟩ ∧ ∀ wz, Below w1.heap.size w1 wz → ∀ j, j < 33 → wz.cell? ⟨g, i * 33 + j, none⟩ = some (noteV N[i] j)) := (show ∀ (i : Nat) (hi : i < N.length), ∃ g, la = some ⟨g, 0, none⟩ ∧ ∀ wz, Below w1.heap.size w1 wz → ∀ j, j < 33 → wz.cell? ⟨g, i * 33 + j, none⟩ = some (noteV N[i] j) from fun i hi => by
      obtain ⟨g, h1, _, h2, h3⟩ := hcell i _ (List.getElem?_eq_getElem hi)
      exact ⟨g, h1, fun wz hz j hj => (hz.cell (p := ⟨g, i * 33 + j, none⟩) (show g < w1.heap.size by omega)).trans ((b1.cell (p := ⟨g, i * 33 + j, none⟩) h2).trans (h3 j hj))⟩)
  have B1 : Hid (Below w.heap.size w w1) := (show Below w.heap.size w w1 from b1)
  have HS : Hid (∀ x ∈ N, isSum x.1) := (show ∀ x ∈ N, isSum x.1 from hNs)
  have q0 : (N.length : Int) ≤ 1000000 := by omega
  clear hF hlt hrow hl hNs hk rq hr1 hcell hlc hlm b1
  unfold sumV
  go_enter Tryd.func31, Tryd.ntmps31
  go_upto_region 1 with fail
  rw [← hw1]
  have HS1 : Hid _ := s1
  clear hw1 s1
  go_wp2
  go_loopw [6] (fun i wr => ∃ j : Nat, j ≤ N.length ∧ i = .int .i64 j ∧ Below w1.heap.size w1 wr ∧ ∀ i (hi : i < N.length), i < j → N[i].1 ≠ q) (fun i _ => N.length - (intOf i).toNat)
  case atStart => exact ⟨0, by omega, rfl, Below.refl _ _, fun i _ hi => by omega⟩
  case round =>
    obtain ⟨j, hj, rfl, hbw, hno⟩ := hrel
    have p0 : (0 : Int) ≤ (j : Int) := by omega
    have kr := K0.out wr hbw
    have HNO : Hid _ := hno
    have HW : Hid _ := hbw
    clear hno hbw
    by_cases hlt : j < N.length
    · have p1 : (j : Int) < (N.length : Int) := by omega
      obtain ⟨g, hg, hgc⟩ := KN.out j hlt
      subst hg
      obtain ⟨y, hy⟩ : ∃ y, y = N[j] := ⟨_, rfl⟩
      have hys : isSum y.1 := by rw [hy]; exact HS.out _ (List.getElem_mem _)
      rw [← hy] at hgc
      have HY : Hid _ := hy
      have KS : Hid (∀ wz, Below w1.heap.size w1 wz → ∀ i, i < 32 → wz.cell? ⟨g, j * 33 + i, none⟩ = some (arrV y.1 i)) := (show ∀ wz, Below w1.heap.size w1 wz → ∀ i, i < 32 → wz.cell? ⟨g, j * 33 + i, none⟩ = some (arrV y.1 i) from fun wz hz i hi => by have := hgc wz hz i (by omega); rw [noteV, if_pos hi] at this; exact this)
      have KT : Hid (∀ wz, Below w1.heap.size w1 wz → wz.cell? ⟨g, j * 33 + 32, none⟩ = some (.string y.2)) := (show ∀ wz, Below w1.heap.size w1 wz → wz.cell? ⟨g, j * 33 + 32, none⟩ = some (.string y.2) from fun wz hz => by have := hgc wz hz 32 (by omega); rw [noteV, if_neg (by omega)] at this; exact this)
      clear hgc hy
      obtain ⟨bq, hbq⟩ : ∃ bq, bq = decide (y.1 = q) := ⟨_, rfl⟩
      have E : ∀ wx, (binOp .eql 30 (.agg (rowV 32 (arrV y.1))) (.agg (rowV 32 (arrV q)))).run Tryd.prog wx = .ok (.bool bq) wx := fun wx => by rw [eql_sums hys hq, hbq]
      have HBQ : Hid _ := hbq
      clear hbq
      go_upto_region 4 with fail
      go_cut [6, 25] from 7 to 25 (fun i c wx => i = .int .i64 (j : Int) ∧ c = .bool bq ∧ Below w1.heap.size w1 wx)
      case first =>
        refine wp_region_noPanic ?_
        refine wp_region_held_drew (S := fun w' => Below w1.heap.size w1 w') (by kernel_rfl) (HW.out.drew) (fun hHeld => ?_)
        refine take_op (i := 0) (v := ?va0) rfl (by kernel_rfl) (by kernel_rfl) (by kernel_rfl) (fun _ _ _ h => h) rfl hHeld ?ya0 ?ra0
        case ya0 => (intro wz hz; go_simp; first | done | with_reducible rfl)
        try simp only [Act.put, List.setIfInBounds_toArray, List.set_cons_zero, List.set_cons_succ]
        refine take_op (i := 1) (v := ?va1) rfl (by kernel_rfl) (by kernel_rfl) (by kernel_rfl) (fun _ _ _ h => h) rfl hHeld ?ya1 ?ra1
        case ya1 => (intro wz hz; go_simp; first | done | with_reducible rfl)
        try simp only [Act.put, List.setIfInBounds_toArray, List.set_cons_zero, List.set_cons_succ]
        refine take_op (i := 2) (v := ?va2) rfl (by kernel_rfl) (by kernel_rfl) (by kernel_rfl) (fun _ _ _ h => h) rfl hHeld ?ya2 ?ra2
        case ya2 => (intro wz hz; go_simp; first | done | with_reducible rfl)
        try simp only [Act.put, List.setIfInBounds_toArray, List.set_cons_zero, List.set_cons_succ]
        refine take_op (i := 3) (v := ?va3) rfl (by kernel_rfl) (by kernel_rfl) (by kernel_rfl) (fun _ _ _ h => h) rfl hHeld ?ya3 ?ra3
        case ya3 => (intro wz hz; have hcz := K0.out wz hz; go_simp; first | done | with_reducible rfl)
        try simp only [Act.put, List.setIfInBounds_toArray, List.set_cons_zero, List.set_cons_succ]
        refine take_op (i := 4) (v := ?va4) rfl (by kernel_rfl) (by kernel_rfl) (by kernel_rfl) (fun _ _ _ h => h) rfl hHeld ?ya4 ?ra4
        case ya4 => (intro wz hz; go_simp; first | done | with_reducible rfl)
        try simp only [Act.put, List.setIfInBounds_toArray, List.set_cons_zero, List.set_cons_succ]
        refine take_op (i := 5) (v := ?va5) rfl (by kernel_rfl) (by kernel_rfl) (by kernel_rfl) (fun _ _ _ h => h) rfl hHeld ?ya5 ?ra5
        case ya5 => (intro wz hz; go_simp; first | done | with_reducible rfl)
        try simp only [Act.put, List.setIfInBounds_toArray, List.set_cons_zero, List.set_cons_succ]
        refine take_op (i := 6) (v := ?va6) rfl (by kernel_rfl) (by kernel_rfl) (by kernel_rfl) (fun _ _ _ h => h) rfl hHeld ?ya6 ?ra6
        case ya6 => (intro wz hz; go_simp; first | done | with_reducible rfl)
        try simp only [Act.put, List.setIfInBounds_toArray, List.set_cons_zero, List.set_cons_succ]
        refine take_load (i := 7) rfl (by kernel_rfl) (by kernel_rfl) (by kernel_rfl) 30 _ rfl g (j * 33) 32 (arrV y.1) rfl _ Tryd.underlying30 rfl (by kernel_rfl) (fun _ _ _ h => h) rfl hHeld (fun wz hz => KS.out wz hz) ?_
        try simp only [Act.put, List.setIfInBounds_toArray, List.set_cons_zero, List.set_cons_succ]
        refine take_load (i := 8) rfl (by kernel_rfl) (by kernel_rfl) (by kernel_rfl) 30 _ rfl w.heap.size 0 32 (arrV q) rfl _ Tryd.underlying30 rfl (by kernel_rfl) (fun _ _ _ h => h) rfl hHeld (fun wz hz => KQ.out wz hz) ?_
        try simp only [Act.put, List.setIfInBounds_toArray, List.set_cons_zero, List.set_cons_succ]
        refine take_op (i := 9) (v := ?va9) rfl (by kernel_rfl) (by kernel_rfl) (by kernel_rfl) (fun _ _ _ h => h) rfl hHeld ?ya9 ?ra9
        case ya9 => (intro wz hz; go_simp; first | done | with_reducible rfl)
        try simp only [Act.put, List.setIfInBounds_toArray, List.set_cons_zero, List.set_cons_succ]
        refine wpAnyH_done (by kernel_rfl) ?_ _
        refine NoPanic.normal ?_
        have HB2 : Hid _ := hHeld
        clear hHeld
        go_wp2_with fail
        go_meet
        case rel => exact ⟨rfl, rfl, HB2.out⟩
      case rest =>
        obtain ⟨rfl, rfl, hb2⟩ := hcut
        have kc := K0.out wc hb2
        have tc := KT.out wc hb2
        have HB2 : Hid _ := hb2
        clear hb2 KS KT KQ E kr
        cases bq with
        | true =>
          have hyq : N[j].1 = q := by rw [← HY.out]; exact of_decide_eq_true HBQ.out.symm
          have hf : firstAt N q = some j := firstAt_here hlt hyq HNO.out
          have ht : foundT N q = y.2 := by unfold foundT; rw [hf]; simp only; rw [List.getD_eq_getElem?_getD, List.getElem?_eq_getElem hlt, HY.out]; rfl
          have HF : Hid _ := hf
          have HT : Hid _ := ht
          clear hyq hf ht
          go_wp2
          exact bodyPost_ret (results_tmp2 rfl _ _ _) rfl ⟨by rw [HT.out, HF.out]; rfl, B1.out.trans (HB2.out.mono (by have := HS1.out; omega))⟩
        | false =>
          have hyq : N[j].1 ≠ q := by rw [← HY.out]; exact of_decide_eq_false HBQ.out.symm
          have HX : Hid _ := hyq
          clear hyq
          go_wp2
          go_light
          refine ⟨⟨j + 1, by omega, by go_num, HB2.out, fun i hi hij => ?_⟩, by simp [intOf]; omega⟩
          by_cases e : i < j
          · exact HNO.out i hi e
          · obtain rfl : i = j := by omega
            exact HX.out
    · obtain rfl : j = N.length := by omega
      have hf : firstAt N q = none := firstAt_none fun i hi => HNO.out i hi hi
      have ht : foundT N q = ⟨#[]⟩ := by unfold foundT; rw [hf]
      have HF : Hid _ := hf
      have HT : Hid _ := ht
      clear hf ht HNO
      go_wp2
      exact bodyPost_ret (results_tmp2 rfl _ _ _) rfl ⟨by rw [HT.out, HF.out]; rfl, B1.out.trans (HW.out.mono (by have := HS1.out; omega))⟩

theorem rbookAt.count {w : World} {F : Nat → Prop} {k : Nat} {N : List Nt} {c : Int} (h : rbookAt w F k N c) (c' : Int) : rbookAt (w.setCell ⟨k, 1, none⟩ (.int .i64 c')) F k N c' := by
  obtain ⟨h1, h2, lv, h3, h4, h5⟩ := h
  refine ⟨h1, fun j hj => by rw [nblk_setCell]; exact h2 j hj, lv, (World.rowIs.set h3 1 _).congr fun i hi => ?_, h4.far (fun j hj _ => blk_setCell_other _ _ _ _ hj.2) (fun _ h => h), h5⟩
  have : i = 0 ∨ i = 1 := by omega
  rcases this with rfl | rfl <;> simp [rbookV]
set_option maxHeartbeats 2000000 in
set_option maxRecDepth 100000 in
theorem rbof_any (F : Nat → Prop) (k : Nat) (N : List Nt) (c kind : Int) (n : Nat) (v : Value) (ps : Nat → List Int) (w : World) (h : rbookAt w F k N c) (hp : anyParts w v n ps) (hs : ∀ i, i ≤ n → 1 + (flatTo (blobsB ps) i).length ≤ 100000000) (hN : N.length < 1000000) (hc : 0 ≤ c ∧ c < 1000000000) :
    Calls Tryd.prog 49 #[.pointer (some ⟨k, 0, none⟩), .int .i64 kind, v] w fun e w' => e = .returned (sumV (sumL (preB kind n ps))) ∧ rbookAt w' (Gr F w w') k (addN N (sumL (preB kind n ps), strOf (preB kind n ps))) (c + 1) ∧ Fr F w w' := by
  have hlt := h.2.1
  have HLT : Hid _ := hlt
  have HBK : Hid _ := h
  have hk0 := hlt k h.1
  obtain ⟨pl, hpl⟩ : ∃ pl, pl = preB kind n ps := ⟨_, rfl⟩
  have hpll : pl.length ≤ 100000000 := by
    rw [hpl, preB, List.length_append]; have := hs n (Nat.le_refl _); simp; omega
  have r0 := rowIs_zero w (Array.replicate 32 (.int .u8 0)) 30 32 (.int .u8 0) rfl
  have hb0 : Below w.heap.size w (w.alloc (.cells (Array.replicate 32 (.int .u8 0)) 30)) := (Below.refl w.heap.size w).alloc (Nat.le_refl _) _
  have hs0 : (w.alloc (.cells (Array.replicate 32 (.int .u8 0)) 30)).heap.size = w.heap.size + 1 := by simp
  have X := rof_any kind n v ps _ (hp.below hb0 (Nat.le_refl _)) hs
  rw [← hpl] at X ⊢
  unfold sumV at X
  have XP : Hid (∀ wz, Below w.heap.size w wz → Calls Tryd.prog 47 #[.int .i64 kind, v] wz fun e w' => ∃ v', e = .returned v' ∧ newBytes w' wz.heap.size v' pl ∧ Below wz.heap.size wz w') := (show ∀ wz, Below w.heap.size w wz → Calls Tryd.prog 47 #[.int .i64 kind, v] wz fun e w' => ∃ v', e = .returned v' ∧ newBytes w' wz.heap.size v' pl ∧ Below wz.heap.size wz w' from fun wz hz => by rw [hpl]; exact rpre_any kind n v ps wz (hp.below hz (Nat.le_refl _)) (fun i hi => by have := hs i hi; omega))
  clear hpl
  obtain ⟨a, cap, rfl, _, _⟩ := hp.open
  clear h hlt hp hs
  go_enter Tryd.func49, Tryd.ntmps49
  go_wp2_with fail
  refine X.mono ?_
  rintro e w3 ⟨rfl, hb3⟩
  have hb3' : Below (w.heap.size + 1) (w.alloc (.cells (Array.replicate 32 (.int .u8 0)) 30)) w3 := hs0 ▸ hb3
  have hB3 : Below w.heap.size w w3 := hb0.trans (hb3'.mono (by omega))
  have r3 : w3.rowIs w.heap.size 30 32 (fun _ => .int .u8 0) := hb3'.row r0 (by omega)
  have hs3 : w.heap.size + 1 ≤ w3.heap.size := by have := hb3'.size; omega
  have r4 := rowIs_zero w3 (Array.replicate 32 (.int .u8 0)) 30 32 (.int .u8 0) rfl
  have hs4 : (w3.alloc (.cells (Array.replicate 32 (.int .u8 0)) 30)).heap.size = w3.heap.size + 1 := by simp
  have hb4 : Below w3.heap.size w3 (w3.alloc (.cells (Array.replicate 32 (.int .u8 0)) 30)) := (Below.refl _ _).alloc (Nat.le_refl _) _
  clear X hb3 hb0 r0 hs0 hb3'
  go_upto_region 2 with (first | (refine wpList_store_row rfl 30 (.tmp 7) (.tmp 10) rfl rfl w3.heap.size 0 32 (arrV (sumL pl)) rfl rfl hi32' (fun _ _ => rfl) _ _ _ r4 (by omega) ?_; intro w5 r5 hz5 hb5))
  have hz5' : w5.heap.size = w3.heap.size + 1 := hz5.trans hs4
  have hb5' : But (w3.heap.size + 1) w3.heap.size (w3.alloc (.cells (Array.replicate 32 (.int .u8 0)) 30)) w5 := hs4 ▸ hb5
  have hB35 : Below w3.heap.size w3 w5 := hb4.trans ((hb5'.mono (by omega)).below (Nat.le_refl _))
  have hB5 : Below w.heap.size w w5 := hB3.trans (hB35.mono (by omega))
  have r5' : w5.rowIs w3.heap.size 30 32 (arrV (sumL pl)) := r5.congr fun i hi => by rw [if_pos (by omega), Nat.sub_zero]
  have r5w := hB35.row r3 (by omega)
  have hF3 : ¬ F w3.heap.size := fun f => by have := HLT.out _ f; omega
  have hFw : ¬ F w.heap.size := fun f => by have := HLT.out _ f; omega
  have FS : Hid (∀ wz, Fr F w5 wz → ∀ i, i < 32 → wz.cell? ⟨w3.heap.size, 0 + i, none⟩ = some (arrV (sumL pl) i)) := (show ∀ wz, Fr F w5 wz → ∀ i, i < 32 → wz.cell? ⟨w3.heap.size, 0 + i, none⟩ = some (arrV (sumL pl) i) from fun wz hz i hi => by rw [Nat.zero_add]; exact (World.cell?_of_block (a := ⟨w3.heap.size, i, none⟩) (hz.block w3.heap.size (by omega) hF3)).trans (r5'.cell hi))
  have R5 : Hid _ := r5'
  have R5W : Hid _ := r5w
  have HB5 : Hid _ := hB5
  clear r5 r5' r5w hB35 hb5 hb5' hz5 hb4 hs4 r4 r3 hB5 hB3
  refine wp_region_noPanic ?_
  refine wp_region_held_drew (S := fun w' => Fr F w5 w') (by kernel_rfl) ((Fr.refl F w5).drew) (fun hHeld => ?_)
  refine take_op (i := 0) (v := ?va0) rfl (by kernel_rfl) (by kernel_rfl) (by kernel_rfl) (fun _ _ _ h => h) rfl hHeld ?ya0 ?ra0
  case ya0 => (intro wz hz; go_simp; first | done | with_reducible rfl)
  try simp only [Act.put, List.setIfInBounds_toArray, List.set_cons_zero, List.set_cons_succ]
  refine take_load (i := 1) rfl (by kernel_rfl) (by kernel_rfl) (by kernel_rfl) 30 _ rfl w3.heap.size 0 32 (arrV (sumL pl)) rfl _ Tryd.underlying30 rfl (by kernel_rfl) (fun _ _ _ h => h) rfl hHeld (fun wz hz => FS.out wz hz) ?_
  try simp only [Act.put, List.setIfInBounds_toArray, List.set_cons_zero, List.set_cons_succ]
  refine take_op (i := 2) (v := ?va2) rfl (by kernel_rfl) (by kernel_rfl) (by kernel_rfl) (fun _ _ _ h => h) rfl hHeld ?ya2 ?ra2
  case ya2 => (intro wz hz; go_simp; first | done | with_reducible rfl)
  try simp only [Act.put, List.setIfInBounds_toArray, List.set_cons_zero, List.set_cons_succ]
  refine take_op (i := 3) (v := ?va3) rfl (by kernel_rfl) (by kernel_rfl) (by kernel_rfl) (fun _ _ _ h => h) rfl hHeld ?ya3 ?ra3
  case ya3 => (intro wz hz; go_simp; first | done | with_reducible rfl)
  try simp only [Act.put, List.setIfInBounds_toArray, List.set_cons_zero, List.set_cons_succ]
  refine take_one (i := 4) rfl (by kernel_rfl) rfl (fun K hK => ?_)
  go_simp
  refine Calls.mono (XP.out _ HB5.out.drew) ?_
  rintro e w6 ⟨v6, rfl, n6, b6⟩
  have b6' : Below w5.heap.size w5 w6 := ((Below.refl w5.heap.size w5).drew).trans b6
  have n6' : newBytes w6 w5.heap.size v6 pl := n6
  refine hK.out _ _ (Fr.of_below F b6') (fun hHeld => ?_)
  clear hK K
  try simp only [Act.put, List.setIfInBounds_toArray, List.set_cons_zero, List.set_cons_succ]
  have Z := radd_any F k N c (sumL pl) pl v6 w6 (rbookAt.below HBK.out (HB5.out.trans (b6'.mono (by omega))) (Nat.le_refl _)) (sumL_is pl) (Or.inl n6'.is) (fun _ j hj hf => by
    have h1 := HLT.out j hf
    have h2 := n6'.block j hj
    omega) hN
  unfold sumV at Z
  refine take_one (i := 5) rfl (by kernel_rfl) rfl (fun K hK => ?_)
  go_simp
  refine Calls.mono Z ?_
  rintro e w7 ⟨rfl, k7, f7⟩
  clear Z
  refine hK.out _ _ ((Fr.of_below F b6').trans f7 (fun _ _ h => h)) (fun hHeld => ?_)
  clear hK K hHeld
  try simp only [Act.put, List.setIfInBounds_toArray, List.set_cons_zero, List.set_cons_succ]
  refine wpAnyH_done (by kernel_rfl) ?_ _
  refine NoPanic.normal ?_
  have s6 := b6'.size
  have s7 := f7.size
  have rk := k7
  obtain ⟨hFk, hl7, lv7, rk7, _, _⟩ := rk
  have c1 : w7.cell? ⟨k, 1, none⟩ = some (.int .i64 c) := rk7.cell (i := 1) (by omega)
  have z1 := World.rowIs.frozen rk7 1
  have q1 : (0 : Int) ≤ c := hc.1
  have q2 : c < 1000000000 := hc.2
  have f57 : Fr F w5 w7 := (Fr.of_below F b6').trans f7 (fun _ _ h => h)
  have rs7 : w7.rowIs w3.heap.size 30 32 (arrV (sumL pl)) := World.rowIs.of_block R5.out (f57.block _ (by omega) hF3)
  have rw7 : w7.rowIs w.heap.size 30 32 (fun _ => .int .u8 0) := World.rowIs.of_block R5W.out (f57.block _ (by omega) hFw)
  have rs8 : (w7.setCell ⟨k, 1, none⟩ (.int .i64 (c + 1))).rowIs w3.heap.size 30 32 (arrV (sumL pl)) := World.rowIs.setOther rs7 (show w3.heap.size ≠ k by omega) _
  have rw8 : (w7.setCell ⟨k, 1, none⟩ (.int .i64 (c + 1))).rowIs w.heap.size 30 32 (fun _ => .int .u8 0) := World.rowIs.setOther rw7 (show w.heap.size ≠ k by omega) _
  have BK8 : Hid _ := k7.count (c + 1)
  have FR8 : Hid (Fr F w5 (w7.setCell ⟨k, 1, none⟩ (.int .i64 (c + 1)))) := (show Fr F w5 (w7.setCell ⟨k, 1, none⟩ (.int .i64 (c + 1))) from f57.setCell (p := ⟨k, 1, none⟩) (Or.inl HBK.out.1) _)
  have ld8 : ∀ i, i < 32 → (w7.setCell ⟨k, 1, none⟩ (.int .i64 (c + 1))).cell? ⟨w3.heap.size, 0 + i, none⟩ = some (arrV (sumL pl) i) := fun i hi => by rw [Nat.zero_add]; exact rs8.cell hi
  have LD8 : Hid _ := ld8
  have HL7 : Hid _ := hl7
  clear ld8 k7 f7 rk7 rs7 rw7 rs8 f57 n6 n6' b6 b6' hl7
  go_wp2_with (first | (refine wpList_load_seg rfl 30 (.tmp 7) rfl w3.heap.size 0 32 (arrV (sumL pl)) rfl _ Tryd.underlying30 rfl hi32' LD8.out ?_) | (refine wpList_store_row rfl 30 (.tmp 6) (.tmp 24) rfl rfl w.heap.size 0 32 (arrV (sumL pl)) rfl rfl hi32' (fun _ _ => rfl) _ _ _ rw8 (by omega) ?_; intro w8 r8 hz8 hb8))
  have hz8' : w8.heap.size = w7.heap.size := by rw [hz8, nblk_setCell]
  have hb8' : But w7.heap.size w.heap.size (w7.setCell ⟨k, 1, none⟩ (.int .i64 (c + 1))) w8 := by
    have : (w7.setCell ⟨k, 1, none⟩ (.int .i64 (c + 1))).heap.size = w7.heap.size := nblk_setCell _ _ _
    rw [← this]; exact hb8
  refine bodyPost_ret (results_cell_seg rfl _ _ w.heap.size 30 32 (arrV (sumL pl)) _ rfl Tryd.underlying30 rfl hi32' (r8.congr fun i hi => ?_)) rfl ⟨rfl, ?_, ?_⟩
  · rw [if_pos (by omega), Nat.sub_zero]
  · refine rbookAt.grow (rbookAt.far BK8.out (fun j hj hl => hb8'.block j (HL7.out j hj) ?_) (by rw [nblk_setCell]; omega)) (fun j hj => ?_) (fun j hj => ?_)
    · rintro rfl
      rcases hj with h | h
      · exact hFw h
      · omega
    · rcases hj with h | h
      · exact Or.inl h
      · exact Or.inr ⟨by omega, by rw [hz8']; exact h.2⟩
    · rcases hj with h | h
      · have := HLT.out j h; omega
      · exact h.2
  · have f3 : Fr F w (w7.setCell ⟨k, 1, none⟩ (.int .i64 (c + 1))) := (Fr.of_below F HB5.out).trans FR8.out (fun _ _ h => h)
    refine f3.trans (G := fun j => j = w.heap.size) ⟨hb8.os, hb8.tape, hb8.output, hb8.size, fun j hj hne => hb8.block j hj hne⟩ (fun j hj e => ?_)
    omega
end Go.Proofs.YtmfgfcknhjblgaaDoor

/- The laws' own helper: have parts more than is summed? -/
namespace Go.Proofs.YtmfgfcknhjblgaaDoor
set_option linter.unusedSimpArgs false
set_option linter.unusedVariables false
open Go.RowKit Go.Deep

/-- what much answers. -/
def muchIs (n : Nat) (ps : Nat → List Int) (e : Ending) : Prop := ∃ b : Bool, e = .returned (.bool b) ∧ (b = false → n ≤ 300 ∧ ∀ i, i ≤ n → (flatTo ps i).length ≤ 20000)
theorem muchIs_true (n : Nat) (ps : Nat → List Int) : muchIs n ps (.returned (.bool true)) := ⟨true, rfl, fun h => by cases h⟩
theorem muchIs_false (n : Nat) (ps : Nat → List Int) (h : n ≤ 300) (h2 : (flatTo ps n).length ≤ 20000) : muchIs n ps (.returned (.bool false)) := ⟨false, rfl, fun _ => ⟨h, fun i hi => Nat.le_trans (flatTo_mono ps n i hi) h2⟩⟩
set_option maxHeartbeats 1000000 in
theorem much_any (n : Nat) (v : Value) (ps : Nat → List Int) (w : World) (hp : anyParts w v n ps) :
    Calls Tryd.prog 9 #[v] w fun e w' => muchIs n ps e ∧ w' = w := by
  obtain ⟨a, cap, rfl, hn, hop⟩ := hp.open
  have hcell : ∀ k, k < n → ∃ qb qo b c, a = some ⟨qb, qo, none⟩ ∧ w.cell? ⟨qb, qo + k, none⟩ = some (.slice b (ps k).length c) ∧ (ps k).length ≤ maxLen := fun k hk => by
    obtain ⟨qb, qo, u, h1, _, hc, hb⟩ := hop k hk
    obtain ⟨b, c, hs, hm⟩ := hb.slice
    exact ⟨qb, qo, b, c, h1, by rw [hc, hs], hm⟩
  clear hop
  clear hp
  have hn' : (n : Int) ≤ 9223372036854775807 := by unfold maxLen at hn; omega
  go_enter Tryd.func9, Tryd.ntmps9
  go_wp2
  go_loopw [3, 4] (fun z i wr => ∃ k : Nat, k ≤ n ∧ i = .int .i64 k ∧ z = .int .i64 (20000 - ((flatTo ps k).length : Int)) ∧ wr = w) (fun _ i _ => n - (intOf i).toNat)
  case atStart => exact ⟨0, by omega, rfl, rfl, rfl⟩
  case round =>
    obtain ⟨k, hk, rfl, rfl, rfl⟩ := hrel
    by_cases hlt : k < n
    · obtain ⟨qb, qo, b, c, rfl, hc, hm⟩ := hcell k hlt
      have hlen : (flatTo ps (k + 1)).length = (flatTo ps k).length + (ps k).length := by rw [flatTo, List.length_append]
      have b0 : (0 : Int) ≤ (k : Int) := by omega
      have b1 : (k : Int) < (n : Int) := by omega
      have HL : Hid _ := hlen
      clear hlen
      generalize hLL : (flatTo ps k).length = L at *
      have hm2 : ((ps k).length : Int) ≤ 9223372036854775807 := by unfold maxLen at hm; omega
      generalize hMM : (ps k).length = M at *
      by_cases h2 : L ≤ 20000
      · have q0 : (0 : Int) ≤ 20000 - (L : Int) := by omega
        go_wp2
        go_light
        exact ⟨⟨k + 1, by omega, by go_num, by rw [HL.out]; congr 1; omega, trivial⟩, by simp [intOf]; omega⟩
      · have q0 : 20000 - (L : Int) < 0 := by omega
        by_cases h3 : 300 < n
        · have q1 : (300 : Int) < (n : Int) := by omega
          go_wp2
          go_ret
          exact ⟨muchIs_true _ _, rfl⟩
        · have q1 : (n : Int) ≤ 300 := by omega
          go_wp2
          go_ret
          exact ⟨muchIs_true _ _, rfl⟩
    · obtain rfl : k = n := by omega
      have HM : Hid _ := muchIs_false k ps
      generalize hLL : (flatTo ps k).length = L at *
      by_cases h3 : 300 < k
      · have q1 : (300 : Int) < (k : Int) := by omega
        go_wp2
        go_ret
        exact ⟨muchIs_true _ _, rfl⟩
      · have q1 : (k : Int) ≤ 300 := by omega
        by_cases h2 : L ≤ 20000
        · have q0 : (0 : Int) ≤ 20000 - (L : Int) := by omega
          go_wp2
          go_ret
          have e1 : (decide (300 < (k : Int)) || decide (20000 - (L : Int) < 0)) = false := by rw [decide_eq_false (by omega), decide_eq_false (by omega)]; rfl
          refine ⟨?_, rfl⟩
          show muchIs k ps (.returned (.bool (decide (300 < (k : Int)) || decide (20000 - (L : Int) < 0))))
          rw [e1]; exact HM.out (by omega) h2
        · have q0 : 20000 - (L : Int) < 0 := by omega
          go_wp2
          go_ret
          exact ⟨muchIs_true _ _, rfl⟩
end Go.Proofs.YtmfgfcknhjblgaaDoor

/- The laws' own helper: parts in memory of their own. -/
namespace Go.Proofs.YtmfgfcknhjblgaaDoor
set_option linter.unusedSimpArgs false
set_option linter.unusedVariables false
open Go.RowKit Go.Deep

/-- append([]byte{}, u...), u any bytes, or none: new bytes, the same. -/
theorem any_copy_run (w : World) (u : Value) (l : List Int) (hu : anyBytes w u l) (hl : l.length ≤ 1099511627776) :
    ∃ v' w', (Builtin.append_ #[34, 34] 34 #[.slice (some ⟨w.heap.size, 0, none⟩) 0 0, u]).run Tryd.prog (w.alloc (.cells #[] 5)) = .ok v' w' ∧ newBytes w' w.heap.size v' l ∧ Below w.heap.size w w' := by
  have hb1 : Below w.heap.size w (w.alloc (.cells #[] 5)) := (Below.refl _ _).alloc (Nat.le_refl _) _
  have hO : newBytes (w.alloc (.cells #[] 5)) w.heap.size (.slice (some ⟨w.heap.size, 0, none⟩) 0 0) [] :=
    ⟨⟨rfl, Or.inr ⟨w.heap.size, 0, #[], rfl, Nat.le_refl _, blk_alloc_new _ _, Nat.le_refl _, by unfold maxLen; omega, rfl, rfl⟩⟩, fun i => by simp⟩
  obtain ⟨v', w', hr, hn, hg, _⟩ := any_append_run _ w.heap.size _ u [] l hO (hu.below hb1 (Nat.le_refl _)) (by simp; omega) (by simp)
  exact ⟨v', w', hr, hn, hb1.trans (below_grown hg (fun k hk => (hO.block k hk).1) (by simp))⟩
def partL (ps : Nat → List Int) (n : Nat) : List (List Int) := (List.range n).map ps
theorem partL_succ (ps : Nat → List Int) (n : Nat) : partL ps (n + 1) = partL ps n ++ [ps n] := by simp [partL, List.range_succ]
theorem partL_length (ps : Nat → List Int) (n : Nat) : (partL ps n).length = n := by simp [partL]
theorem partL_getD (ps : Nat → List Int) (n i : Nat) (h : i < n) : (partL ps n).getD i [] = ps i := by
  rw [List.getD_eq_getElem?_getD, partL, List.getElem?_map, List.getElem?_range h]; rfl
theorem mineParts.slice {w : World} {B : Nat} {v : Value} {L : List (List Int)} (h : mineParts w B v L) : ∃ a c, v = .slice a L.length c := by
  obtain ⟨a, c, h, _⟩ := h.parts.open; exact ⟨a, c, h⟩
theorem mineParts.owned {w : World} {B : Nat} {v : Value} {L : List (List Int)} (h : mineParts w B v L) (k : Nat) (hk : v.ownBlock = some k) : B ≤ k ∧ k < w.heap.size := by
  obtain ⟨sv, h1, _⟩ := h; exact h1.block k hk
theorem isParts.ext {w : World} {v : Value} {n : Nat} {ps qs : Nat → List Int} (h : isParts w v n ps) (he : ∀ i, i < n → ps i = qs i) : isParts w v n qs := by
  rcases h with h | ⟨qb, qo, cap, sv, h1, h2, h3, h4⟩
  · exact Or.inl h
  · exact Or.inr ⟨qb, qo, cap, sv, h1, h2, h3, fun i hi => ⟨(h4 i hi).1, by rw [← he i hi]; exact (h4 i hi).2⟩⟩
theorem mineParts.isP {w : World} {B : Nat} {v : Value} {ps : Nat → List Int} {n : Nat} (h : mineParts w B v (partL ps n)) : isParts w v n ps := by
  have := h.parts
  rw [partL_length] at this
  exact this.ext (fun i hi => partL_getD ps n i hi)
set_option maxHeartbeats 1000000 in
set_option maxRecDepth 100000 in
theorem copied_any (n : Nat) (v : Value) (ps : Nat → List Int) (w : World) (hp : anyParts w v n ps) (hn : n ≤ 300) (hl : ∀ i, i ≤ n → (flatTo ps i).length ≤ 20000) :
    Calls Tryd.prog 12 #[v] w fun e w' => ∃ v', e = .returned v' ∧ mineParts w' w.heap.size v' (partL ps n) ∧ Below w.heap.size w w' := by
  obtain ⟨a, cap, rfl, hnm, hcell⟩ := hp.open
  clear hp
  go_enter Tryd.func12, Tryd.ntmps12
  go_wp2
  go_loopw [3, 4] (fun v i wr => ∃ k : Nat, k ≤ n ∧ i = .int .i64 k ∧ mineParts wr w.heap.size v (partL ps k) ∧ Below w.heap.size w wr) (fun _ i _ => n - (intOf i).toNat)
  case atStart => exact ⟨0, by omega, rfl, mineParts.nil _ _, Below.refl _ _⟩
  case round =>
    obtain ⟨k, hk, rfl, hm, hb⟩ := hrel
    by_cases hlt : k < n
    · obtain ⟨qb, qo, u, rfl, hq, hc, hu⟩ := hcell k hlt
      have b0 : (0 : Int) ≤ (k : Int) := by omega
      have b1 : (k : Int) < (n : Int) := by omega
      have hlk : (ps k).length ≤ 20000 := by
        have := hl (k + 1) (by omega)
        rw [flatTo, List.length_append] at this; omega
      rw [← hb.cell (p := ⟨qb, qo + k, none⟩) hq] at hc
      have hsz := hb.size
      obtain ⟨v2, w2, hr, n2, b2⟩ := any_copy_run wr u (ps k) (hu.below hb (Nat.le_refl _)) (by omega)
      have s2 := b2.size
      obtain ⟨v3, w3, hr3, m3, b3⟩ := part_append_run w2 w.heap.size _ v2 _ (ps k) (hm.below b2 (Nat.le_refl _)) n2.soft (fun j hj => by
        have h1 := n2.block j hj
        exact ⟨by omega, fun e => by have := hm.owned j e; omega⟩) (by rw [partL_length]; omega) (by omega)
      obtain ⟨ua, uc, rfl, hum⟩ := hu.slice
      obtain ⟨a2, c2, rfl, _⟩ := n2.is.slice
      obtain ⟨a3, c3, rfl⟩ := hm.slice
      have hcA := hc
      rw [← World.cell?_of_block (w' := wr.alloc (.cells #[] 5)) (w := wr) (blk_alloc_lt _ _ _ (World.block_lt_of_cell? _ _ hc))] at hcA
      have M3 : Hid (mineParts w3 w.heap.size v3 (partL ps (k + 1)) ∧ Below w.heap.size w w3) := (show mineParts w3 w.heap.size v3 (partL ps (k + 1)) ∧ Below w.heap.size w w3 from ⟨by rw [partL_succ]; exact m3, (hb.trans (b2.mono hsz)).trans b3⟩)
      clear hu hm n2 b2 m3 b3 hl hcell
      go_wp2_with (first | (at_builtin; refine wpList_append_run rfl _ _ _ rfl rfl rfl hr ?_) | (at_builtin; refine wpList_append_run rfl _ _ _ rfl rfl rfl hr3 ?_))
      go_light
      exact ⟨⟨k + 1, by omega, by go_num, M3.out.1, M3.out.2⟩, by simp [intOf]; omega⟩
    · obtain rfl : k = n := by omega
      have HR : Hid _ := hm
      clear hm hl hcell
      go_wp2
      go_ret
      exact ⟨_, rfl, HR.out, hb⟩
end Go.Proofs.YtmfgfcknhjblgaaDoor

/- Parts in memory of their own, each in a block of its own; those from k on as they were, the others written over. -/
namespace Go.Proofs.YtmfgfcknhjblgaaDoor
set_option linter.unusedSimpArgs false
set_option linter.unusedVariables false
open Go.RowKit Go.Deep

theorem Mid.drew {B C : Nat} {w w' : World} (h : Mid B C w w') : Mid B C w w'.drew := ⟨h.os, h.tape, h.output, h.size, h.block⟩
theorem Mid.all {w w' : World} (h : Mid 0 0 w w') (B C : Nat) : Mid B C w w' := ⟨h.os, h.tape, h.output, h.size, fun k _ => h.block k (Or.inr (Nat.zero_le _))⟩
theorem Mid.same {w w' : World} (h : Mid 0 0 w w') (k : Nat) : w'.heap[k]? = w.heap[k]? := h.block k (Or.inr (Nat.zero_le _))
def leftX (w : World) (B : Nat) (v : Value) (svs : List Value) (L : List (List Int)) (k : Nat) : Prop :=
  owns w B 34 v svs ∧ svs.length = L.length ∧ (∀ (i : Nat) (l : List Int), k ≤ i → L[i]? = some l → ∃ u, svs[i]? = some u ∧ softB w u l) ∧
    (∀ (i : Nat) (u : Value) (j : Nat), svs[i]? = some u → u.ownBlock = some j → B ≤ j ∧ v.ownBlock ≠ some j) ∧
    ∀ (i i' : Nat) (u u' : Value) (j : Nat), svs[i]? = some u → svs[i']? = some u' → u.ownBlock = some j → u'.ownBlock = some j → i = i'
theorem leftX.nil (w : World) (B : Nat) : leftX w B (.slice none 0 0) [] [] 0 := ⟨owns_nil _ _ _, rfl, fun i l _ h => by simp at h, fun i u j h => by simp at h, fun i i' u u' j h => by simp at h⟩
theorem leftX.mine {w : World} {B : Nat} {v : Value} {svs : List Value} {L : List (List Int)} (h : leftX w B v svs L 0) : mineParts w B v L := by
  obtain ⟨h1, h2, h3, h4, _⟩ := h
  exact ⟨svs, h1, h2, fun i l hl => by
    obtain ⟨u, a1, a2⟩ := h3 i l (Nat.zero_le _) hl
    exact ⟨u, a1, a2, fun j hj => h4 i u j a1 hj⟩⟩
/-- whose memory is the same. -/
theorem leftX.far {w w' : World} {B k : Nat} {v : Value} {svs : List Value} {L : List (List Int)} (h : leftX w B v svs L k) (hb : ∀ j, B ≤ j → j < w.heap.size → w'.heap[j]? = w.heap[j]?) (hs : w.heap.size ≤ w'.heap.size) : leftX w' B v svs L k := by
  obtain ⟨h1, h2, h3, h4, h5⟩ := h
  refine ⟨h1.far (fun j hj => hb j (h1.block j hj).1 (h1.block j hj).2), h2, fun i l hi hl => ?_, h4, h5⟩
  obtain ⟨u, a1, a2⟩ := h3 i l hi hl
  exact ⟨u, a1, a2.far (fun j hj => hb j (h4 i u j a1 hj).1 (a2.block j hj)) hs⟩
theorem leftX.below {w w' : World} {B C k : Nat} {v : Value} {svs : List Value} {L : List (List Int)} (h : leftX w B v svs L k) (hb : Below C w w') (hC : w.heap.size ≤ C) : leftX w' B v svs L k :=
  h.far (fun j _ hj => hb.block j (by omega)) hb.size
theorem leftX.block {w : World} {B : Nat} {v : Value} {svs : List Value} {L : List (List Int)} (h : leftX w B v svs L 0) (i : Nat) (u : Value) (j : Nat) (hi : svs[i]? = some u) (hj : u.ownBlock = some j) : j < w.heap.size := by
  have hlt : i < L.length := by rw [← h.2.1]; exact (List.getElem?_eq_some_iff.1 hi).1
  obtain ⟨u', a1, a2⟩ := h.2.2.1 i _ (Nat.zero_le _) (List.getElem?_eq_getElem hlt)
  rw [hi] at a1
  obtain rfl := Option.some.inj a1
  exact a2.block j hj
theorem leftX.put {w : World} {B : Nat} {v u : Value} {svs : List Value} {L : List (List Int)} {l : List Int} (h : leftX w B v svs L 0) (hu : softB w u l) (hub : ∀ j, u.ownBlock = some j → B ≤ j ∧ v.ownBlock ≠ some j ∧ ∀ (i : Nat) (u' : Value), svs[i]? = some u' → u'.ownBlock ≠ some j) (hs : L.length < 1000000) (hB : B ≤ w.heap.size) :
    ∃ a c w', (Builtin.append_ #[22, 22] 22 #[v, .slice (some ⟨w.heap.size, 0, none⟩) 1 1]).run Tryd.prog (w.alloc (.cells #[u] 34)) = .ok (.slice a (L.length + 1) c) w' ∧ leftX w' B (.slice a (L.length + 1) c) (svs ++ [u]) (L ++ [l]) 0 ∧ Below B w w' := by
  have hblk := h.block
  obtain ⟨h1, h2, h3, h4, h5⟩ := h
  have hbl := fun k hk => h1.block k hk
  have h1' := h1.alloc (.cells #[u] 34)
  have hoc : u.oneCell' = true := by
    rcases hu.1 with ⟨rfl, _⟩ | ⟨pb, po, cap, rfl, _⟩ <;> rfl
  obtain ⟨g, cap, w', hr, ho, hg, hat, hlt⟩ := run_append (P := Tryd.prog) (w.alloc (.cells #[u] 34)) 22 22 B 34 (.slice none 0 0) 24 Tryd.underlying22 hiB rfl v svs h1' w.heap.size 0 1 1 [u] rfl
    (fun j x hx => by
      match j with
      | 0 =>
        have : u = x := by simpa using hx
        subst this; exact one_cell w _ _
      | j + 1 => simp at hx)
    (fun x hx => by
      have : x = u := by simpa using hx
      subst this; exact hoc) (by omega) (by unfold maxLen; omega) (by omega) (by simp; omega)
  have hkeep : ∀ j, j < w.heap.size → v.ownBlock ≠ some j → w'.heap[j]? = w.heap[j]? := fun j hj hne =>
    (hg.block j (by simp; omega) (fun e => hne e.symm)).trans (blk_alloc_lt _ _ _ hj)
  have hsz : w.heap.size ≤ w'.heap.size := by have := hg.size; simp at this; omega
  have hown : ∀ j, j < w.heap.size → v.ownBlock ≠ some j → (Value.slice (some ⟨g, 0, none⟩) (svs.length + 1) cap).ownBlock ≠ some j := fun j hj hne e => by
    have : g = j := by simpa [Value.ownBlock] using e
    subst this
    rcases hat with h | h
    · exact hne h
    · simp at h; omega
  have hparts : ∀ (i : Nat) (x : Value), (svs ++ [u])[i]? = some x → (i < svs.length ∧ svs[i]? = some x) ∨ (i = svs.length ∧ x = u) := fun i x hx => by
    by_cases hi : i < svs.length
    · rw [List.getElem?_append_left hi] at hx; exact Or.inl ⟨hi, hx⟩
    · have hi2 : i = svs.length := by
        have := (List.getElem?_eq_some_iff.1 hx).1
        simp at this; omega
      subst hi2
      have : u = x := by simpa using hx
      exact Or.inr ⟨rfl, this.symm⟩
  rw [← h2]
  refine ⟨_, _, w', hr, ⟨ho, by simp [h2], fun i q _ hq => ?_, fun i x j hx hj => ?_, fun i i' x x' j hx hx' hj hj' => ?_⟩, ⟨hg.os, hg.tape, hg.output, hsz, fun k hk => ?_⟩⟩
  · by_cases hi : i < L.length
    · rw [List.getElem?_append_left hi] at hq
      obtain ⟨x, a1, a2⟩ := h3 i q (Nat.zero_le _) hq
      refine ⟨x, by rw [List.getElem?_append_left (by omega)]; exact a1, a2.far (fun j hj => hkeep j (a2.block j hj) (h4 i x j a1 hj).2) hsz⟩
    · have hi2 : i = L.length := by
        have := (List.getElem?_eq_some_iff.1 hq).1
        simp at this; omega
      subst hi2
      have : l = q := by simpa using hq
      subst this
      exact ⟨u, by rw [List.getElem?_append_right (by omega), h2]; simp, hu.far (fun j hj => hkeep j (hu.block j hj) (hub j hj).2.1) hsz⟩
  · rcases hparts i x hx with ⟨_, hx⟩ | ⟨_, rfl⟩
    · exact ⟨(h4 i x j hx hj).1, hown j (hblk i x j hx hj) (h4 i x j hx hj).2⟩
    · exact ⟨(hub j hj).1, hown j (hu.block j hj) (hub j hj).2.1⟩
  · rcases hparts i x hx with ⟨_, ha⟩ | ⟨e, he⟩
    · rcases hparts i' x' hx' with ⟨_, ha'⟩ | ⟨e', he'⟩
      · exact h5 i i' x x' j ha ha' hj hj'
      · exact absurd hj ((hub j (he' ▸ hj')).2.2 i x ha)
    · rcases hparts i' x' hx' with ⟨_, ha'⟩ | ⟨e', _⟩
      · exact absurd hj' ((hub j (he ▸ hj)).2.2 i' x' ha')
      · omega
  · exact hkeep k (by omega) (fun e => by have := (hbl k e).1; omega)
/-- clear(v[k]). -/
theorem leftX.clear {w : World} {B C k : Nat} {v : Value} {svs : List Value} {L : List (List Int)} (h : leftX w B v svs L k) (hk : k < L.length) (hC : ∀ (i : Nat) (u : Value) (j : Nat), svs[i]? = some u → u.ownBlock = some j → j < C) :
    ∃ g cap x m y w', v = .slice (some ⟨g, 0, none⟩) L.length cap ∧ w.cell? ⟨g, k, none⟩ = some (.slice x m y) ∧ isBytes w (.slice x m y) (L.getD k []) ∧ (Builtin.clear_ #[34] 0 #[.slice x m y]).run Tryd.prog w = .ok (.tuple #[]) w' ∧ leftX w' B v svs L (k + 1) ∧ Mid B C w w' := by
  obtain ⟨h1, h2, h3, h4, h5⟩ := h
  obtain ⟨g, cap, rfl, hB, hg, hcap, hmx, hcell, _⟩ := h1.shape (by omega)
  obtain ⟨u, a1, a2⟩ := h3 k _ (Nat.le_refl _) (List.getElem?_eq_getElem hk)
  have hsh : ∃ x m y, u = .slice x m y ∧ (0 < m → ∃ pb po, x = some ⟨pb, po, none⟩) := by
    rcases a2.1 with ⟨e, _⟩ | ⟨pb, po, cap, e, _⟩
    · exact ⟨_, _, _, e, fun h => by omega⟩
    · exact ⟨_, _, _, e, fun _ => ⟨_, _, rfl⟩⟩
  obtain ⟨x, m, y, rfl, hx⟩ := hsh
  obtain ⟨w', hr, hz, o1, o2, o3, hb, ht⟩ := soft_clear w _ x m y rfl hx a2.2
  have e2 : L.getD k [] = L[k] := by rw [List.getD_eq_getElem?_getD, List.getElem?_eq_getElem hk]; rfl
  refine ⟨g, cap, x, m, y, w', by rw [h2], hcell k _ a1, by rw [e2]; exact a2.1, hr, ⟨h1.far (fun j hj => hb j (fun e => (h4 k _ j a1 e).2 hj)), h2, fun i l hi hl => ?_, h4, h5⟩, ⟨o1, o2, o3, hz, fun j hj => hb j (fun e => ?_)⟩⟩
  · obtain ⟨u', b1, b2⟩ := h3 i l (by omega) hl
    exact ⟨u', b1, b2.far (fun j hj => hb j (fun e => by have := h5 k i _ u' j a1 b1 e hj; omega)) (by omega)⟩
  · have := (h4 k _ j a1 e).1
    have := hC k _ j a1 e
    omega
end Go.Proofs.YtmfgfcknhjblgaaDoor

/- The laws' own helper: done, an act by both books. -/
namespace Go.Proofs.YtmfgfcknhjblgaaDoor
set_option linter.unusedSimpArgs false
set_option linter.unusedVariables false
open Go.RowKit Go.Deep

/-- what an act notes. -/
def stepN (x : AR) : Nt := if x.what % 2 = 1 then (x.sum, strOf x.bytes) else (sumL (preB x.kind x.n x.ps), strOf (preB x.kind x.n x.ps))
def stepC (x : AR) : Int := if x.what % 2 = 1 then 0 else 1
/-- both books, with the same notes, in memory from w0 on, apart. -/
def pairX (w0 w : World) (F G : Nat → Prop) (kb kr : Nat) (N : List Nt) (c : Int) : Prop :=
  bookAt w F kb N c ∧ rbookAt w G kr N c ∧ (∀ j, F j → w0.heap.size ≤ j) ∧ (∀ j, G j → w0.heap.size ≤ j) ∧ (∀ j, F j → ¬ G j) ∧ Below w0.heap.size w0 w
def pairAt (w0 w : World) (kb kr : Nat) (N : List Nt) (c : Int) : Prop := ∃ F G : Nat → Prop, pairX w0 w F G kb kr N c
/-- both books behind an act; nothing else has turned. -/
def stepX (w0 w : World) (F G : Nat → Prop) (w' : World) (kb kr : Nat) (N : List Nt) (c : Int) : Prop :=
  ∃ F' G' : Nat → Prop, pairX w0 w' F' G' kb kr N c ∧ (∀ j, F' j ∨ G' j → (F j ∨ G j) ∨ w.heap.size ≤ j) ∧ Fr (fun j => F j ∨ G j) w w'
theorem pairX.below {w0 w w' : World} {F G : Nat → Prop} {kb kr : Nat} {N : List Nt} {c : Int} (h : pairX w0 w F G kb kr N c) (hb : Below w.heap.size w w') : pairX w0 w' F G kb kr N c :=
  ⟨h.1.below hb (Nat.le_refl _), h.2.1.below hb (Nat.le_refl _), h.2.2.1, h.2.2.2.1, h.2.2.2.2.1, h.2.2.2.2.2.trans (hb.mono h.2.2.2.2.2.size)⟩
theorem isBytes.mid {w w' : World} {v : Value} {l : List Int} (h : isBytes w v l) (hm : Mid 0 0 w w') : isBytes w' v l := h.far (fun k _ => hm.same k) (Nat.le_of_eq hm.size.symm)
theorem eql_sumD (q : List Int) (wx : World) : (binOp .eql 30 (.agg (rowV 32 (arrV q))) (.agg (rowV 32 (arrV q)))).run Tryd.prog wx = .ok (.bool true) wx := by
  have := run_eql_arr (P := Tryd.prog) wx 30 5 .u8 32 (fun i => q.getD i 0) (fun i => q.getD i 0) Tryd.underlying30 Tryd.underlying5 (by kernel_rfl) (by kernel_rfl)
  rw [(arrEq_iff 32 _ _).2 (fun _ _ => rfl)] at this
  exact this
set_option maxHeartbeats 4000000 in
set_option maxRecDepth 100000 in
theorem done_odd (w0 w : World) (F G : Nat → Prop) (kb kr : Nat) (N : List Nt) (c : Int) (x : AR) (pv bv : Value) (h : pairX w0 w F G kb kr N c) (hp : anyParts w0 pv x.n x.ps) (hbv : anyBytes w0 bv x.bytes) (hq : isSum x.sum) (ht : tabIs w0)
    (hodd : x.what % 2 = 1) (h5 : x.n ≤ 500) (h6 : x.bytes.length + (flatTo x.ps x.n).length ≤ 60000) (hN : N.length < 1000000) (hc : 0 ≤ c ∧ c < 1000000000) :
    Calls Tryd.prog 30 #[.pointer (some ⟨kb, 0, none⟩), .pointer (some ⟨kr, 0, none⟩), .agg (rowV 36 (actV x.what x.kind pv bv x.sum))] w fun e w' => e = .returned (.bool true) ∧ stepX w0 w F G w' kb kr (addN N (stepN x)) (c + stepC x) := by
  have ht0 := ht.1
  obtain ⟨hF, hG, hFB, hGB, hFG, hbw⟩ := h
  have hFl := hF.2.1
  have hGl := hG.2.1
  obtain ⟨w1, hw1⟩ : ∃ w1, w1 = w.alloc (.cells (rowV 36 (actV x.what x.kind pv bv x.sum)) 49) := ⟨_, rfl⟩
  have r1 : w1.rowIs w.heap.size 49 36 (actV x.what x.kind pv bv x.sum) := by rw [hw1]; exact rowIs_box _ _ _ _
  have b1 : Below w.heap.size w w1 := by rw [hw1]; exact (Below.refl _ _).alloc (Nat.le_refl _) _
  have s1 : w1.heap.size = w.heap.size + 1 := by rw [hw1]; simp
  have sw0 := hbw.size
  have bw1 : Below w0.heap.size w0 w1 := hbw.trans (b1.mono sw0)
  have F1 := hF.below b1 (Nat.le_refl _)
  have G1 := hG.below b1 (Nat.le_refl _)
  have CX : Hid (∀ wz : World, wz.heap[w.heap.size]? = w1.heap[w.heap.size]? → ∀ j, j < 36 → wz.cell? ⟨w.heap.size, j, none⟩ = some (actV x.what x.kind pv bv x.sum j)) := (show ∀ wz : World, wz.heap[w.heap.size]? = w1.heap[w.heap.size]? → ∀ j, j < 36 → wz.cell? ⟨w.heap.size, j, none⟩ = some (actV x.what x.kind pv bv x.sum j) from fun wz hz j hj => (World.cell?_of_block (a := ⟨w.heap.size, j, none⟩) hz).trans (r1.cell hj))
  have CS : Hid (∀ wz : World, wz.heap[w.heap.size]? = w1.heap[w.heap.size]? → ∀ i, i < 32 → wz.cell? ⟨w.heap.size, 3 + i, none⟩ = some (arrV x.sum i)) := (show ∀ wz : World, wz.heap[w.heap.size]? = w1.heap[w.heap.size]? → ∀ i, i < 32 → wz.cell? ⟨w.heap.size, 3 + i, none⟩ = some (arrV x.sum i) from fun wz hz i hi => by rw [CX.out wz hz (3 + i) (by omega), actV, if_neg (by omega), if_neg (by omega), if_neg (by omega), if_pos (by omega), show 3 + i - 3 = i by omega])
  have HBV : Hid (∀ wz, Below w0.heap.size w0 wz → anyBytes wz bv x.bytes) := (show ∀ wz, Below w0.heap.size w0 wz → anyBytes wz bv x.bytes from fun wz hz => hbv.below hz (Nat.le_refl _))
  have HPV : Hid (∀ wz, Below w0.heap.size w0 wz → anyParts wz pv x.n x.ps) := (show ∀ wz, Below w0.heap.size w0 wz → anyParts wz pv x.n x.ps from fun wz hz => hp.below hz (Nat.le_refl _))
  have HT : Hid (∀ wz, Below w0.heap.size w0 wz → tabIs wz) := (show ∀ wz, Below w0.heap.size w0 wz → tabIs wz from fun wz hz => ht.below hz ht0)
  have HF1 : Hid (bookAt w1 F kb N c) := (show bookAt w1 F kb N c from F1)
  have HG1 : Hid (rbookAt w1 G kr N c) := (show rbookAt w1 G kr N c from G1)
  have HFB : Hid ((∀ j, F j → w0.heap.size ≤ j ∧ j < w.heap.size) ∧ (∀ j, G j → w0.heap.size ≤ j ∧ j < w.heap.size) ∧ (∀ j, F j → ¬ G j)) := (show (∀ j, F j → w0.heap.size ≤ j ∧ j < w.heap.size) ∧ (∀ j, G j → w0.heap.size ≤ j ∧ j < w.heap.size) ∧ (∀ j, F j → ¬ G j) from ⟨fun j hj => ⟨hFB j hj, hFl j hj⟩, fun j hj => ⟨hGB j hj, hGl j hj⟩, hFG⟩)
  have BW1 : Hid (Below w0.heap.size w0 w1) := (show Below w0.heap.size w0 w1 from bw1)
  have B01 : Hid (Below w.heap.size w w1) := (show Below w.heap.size w w1 from b1)
  have HBW : Hid (Below w0.heap.size w0 w) := (show Below w0.heap.size w0 w from hbw)
  have hopen := hp.open
  obtain ⟨ba, bc, rfl, hbm⟩ := hbv.slice
  obtain ⟨pa, pc, rfl, hpm, hpc⟩ := hopen
  have HPC : Hid _ := hpc
  have c0 : w1.cell? ⟨w.heap.size, 0, none⟩ = some (.int .i64 x.what) := CX.out w1 rfl 0 (by omega)
  have hand := i64_and1 x.what
  have HS1 : Hid _ := s1
  clear hF hG hFB hGB hFG F1 G1 r1 b1 bw1 hbw hFl hGl hp hbv hpc
  go_enter Tryd.func30, Tryd.ntmps30
  go_upto_region 1 with fail
  rw [← hw1]
  clear hw1
  · have hb1 : (x.what % 2 == 1) = true := by rw [beq_iff_eq]; exact hodd
    have hsn : stepN x = (x.sum, strOf x.bytes) := by unfold stepN; rw [if_pos hodd]
    have hsc : stepC x = 0 := by unfold stepC; rw [if_pos hodd]
    have cA : (w1.alloc (.cells #[] 5)).cell? ⟨w.heap.size, 35, none⟩ = some (.slice ba x.bytes.length bc) := CX.out _ (blk_alloc_lt _ _ _ (by omega)) 35 (by omega)
    obtain ⟨v2, w2, hr, n2, b2⟩ := any_copy_run w1 _ x.bytes (HBV.out w1 BW1.out) (by omega)
    have s2 := b2.size
    obtain ⟨v2a, v2c, rfl⟩ := n2.slen
    have k2 : w2.heap[w.heap.size]? = w1.heap[w.heap.size]? := b2.block _ (by omega)
    have cs2 := CS.out w2 k2
    have bw2 : Below w0.heap.size w0 w2 := BW1.out.trans (b2.mono (by omega))
    have Y := note_any' F kb N c x.sum x.bytes _ w2 (bookAt.below HF1.out b2 (Nat.le_refl _)) hq (Or.inl n2.is) (fun _ j hj hf => by have h1 := (HFB.out.1 j hf).2; have h2 := (n2.block j hj).1; omega) hN
    unfold sumV at Y
    have HSN : Hid _ := hsn
    have HSC : Hid _ := hsc
    have CS2 : Hid _ := cs2
    have HR : Hid _ := hr
    clear hodd hsn hsc cs2 hr s1
    go_wp2_with (first | (at_builtin; refine wpList_append_run rfl (.tmp 17) (.tmp 19) _ rfl rfl rfl HR.out ?_) | (refine wpList_load_seg rfl 30 _ rfl w.heap.size 3 32 (arrV x.sum) rfl _ Tryd.underlying30 rfl hi32' CS2.out ?_))
    refine Y.mono ?_
    rintro e w3 ⟨rfl, k3, f3⟩
    clear Y CS2 HR cA c0
    have s1 := HS1.out
    have s3 := f3.size
    have hnF : ∀ j, (Value.slice v2a x.bytes.length v2c).ownBlock = some j → ¬ F j := fun j hj hf => by have h1 := (HFB.out.1 j hf).2; have h2 := (n2.block j hj).1; omega
    have so3 : softE w3 (.slice v2a x.bytes.length v2c) := n2.softE.far (fun j hj => f3.block j (n2.block j hj).2 (hnF j hj))
    obtain ⟨w4, hr4, hz4, o1, o2, o3, hb4, _⟩ := soft_clear w3 _ v2a x.bytes.length v2c rfl (fun h0 => by
      obtain ⟨g, cap, he, _⟩ := n2.1.shape (by simpa using h0)
      have : v2a = some ⟨g, 0, none⟩ := by simpa using And.left (by simpa using he)
      exact ⟨g, 0, this⟩) so3
    have hbl : ∀ j, j < w1.heap.size ∨ w2.heap.size ≤ j → w4.heap[j]? = w3.heap[j]? := fun j hj => hb4 j (fun e => by have := n2.block j e; omega)
    have k4 : w4.heap[w.heap.size]? = w1.heap[w.heap.size]? := (hbl _ (by omega)).trans ((f3.block _ (by omega) (fun hf => by have := (HFB.out.1 _ hf).2; omega)).trans k2)
    have bw4 : Below w0.heap.size w0 w4 := ⟨(o1.trans f3.os).trans bw2.os, (o2.trans f3.tape).trans bw2.tape, (o3.trans f3.output).trans bw2.output, by have := bw2.size; omega, fun j hj => (hbl j (by omega)).trans ((f3.block j (by omega) (fun hf => by have := (HFB.out.1 _ hf).1; omega)).trans (bw2.block j hj))⟩
    have g4 : rbookAt w4 G kr N c := rbookAt.far HG1.out (fun j hj hl => (hbl j (by omega)).trans ((f3.block j (by omega) (fun hf => HFB.out.2.2 j hf hj)).trans (b2.block j hl))) (by omega)
    have Z := radd_any G kr N c x.sum x.bytes _ w4 g4 hq (HBV.out w4 bw4) (fun hl j hj hg => by
      have h1 := (HFB.out.2.1 j hg).1
      have h2 := anyBytes.blk (HBV.out w0 (Below.refl _ _)) hl j hj
      omega) hN
    unfold sumV at Z
    have cs4 := CS.out w4 k4
    have c35 : w4.cell? ⟨w.heap.size, 35, none⟩ = some (.slice ba x.bytes.length bc) := CX.out w4 k4 35 (by omega)
    have CS4 : Hid _ := cs4
    have F3 : Hid _ := k3
    have FR3 : Hid _ := f3
    have HBL : Hid _ := hbl
    have BW4 : Hid _ := bw4
    have HZ4 : Hid _ := hz4
    have B2 : Hid _ := b2
    clear cs4 k3 f3 hbl bw4 hz4 g4 hb4 o1 o2 o3 so3 hnF n2 b2 bw2 k2 s1
    go_wp2_with (first | (refine wpList_load_seg rfl 30 _ rfl w.heap.size 3 32 (arrV x.sum) rfl _ Tryd.underlying30 rfl hi32' CS4.out ?_))
    refine Z.mono ?_
    rintro e w5 ⟨rfl, k5, f5⟩
    clear Z CS4
    have hz4 := HZ4.out
    have s1 := HS1.out
    have s5 := f5.size
    have hGF : ∀ j, Gr F w2 w3 j → ¬ G j := fun j hj hg => by
      rcases hj with h | h
      · exact HFB.out.2.2 j h hg
      · have := (HFB.out.2.1 j hg).2; omega
    have RES : Hid (stepX w0 w F G w5 kb kr (addN N (stepN x)) (c + stepC x)) := (show stepX w0 w F G w5 kb kr (addN N (stepN x)) (c + stepC x) from by
      rw [HSN.out, HSC.out, Int.add_zero]
      have bw5 : Below w0.heap.size w0 w5 := BW4.out.trans (f5.below (fun j hj => (HFB.out.2.1 j hj).1) BW4.out.size)
      refine ⟨Gr F w2 w3, Gr G w4 w5, ⟨bookAt.far F3.out (fun j hj hl => (f5.block j (by omega) (hGF j hj)).trans (HBL.out j ?_)) (by omega), k5, fun j hj => ?_, fun j hj => ?_, fun j hj hg => ?_, bw5⟩, fun j hj => ?_, ⟨bw5.os.trans HBW.out.os.symm, bw5.tape.trans HBW.out.tape.symm, bw5.output.trans HBW.out.output.symm, by omega, fun j hj hn => (f5.block j (by omega) (fun h => hn (Or.inr h))).trans ((HBL.out j (Or.inl (by omega))).trans ((FR3.out.block j (by omega) (fun h => hn (Or.inl h))).trans ((B2.out.block j (by omega)).trans (B01.out.block j hj))))⟩⟩
      · rcases hj with h | h
        · have := (HFB.out.1 j h).2; omega
        · omega
      · rcases hj with h | h
        · exact (HFB.out.1 j h).1
        · have := BW1.out.size; omega
      · rcases hj with h | h
        · exact (HFB.out.2.1 j h).1
        · have := BW4.out.size; omega
      · rcases hg with g | g
        · exact hGF j hj g
        · rcases hj with h | h
          · have := (HFB.out.1 j h).2; omega
          · omega
      · rcases hj with (h | h) | (h | h)
        · exact Or.inl (Or.inl h)
        · exact Or.inr (by omega)
        · exact Or.inl (Or.inr h)
        · exact Or.inr (by omega))
    clear k5 f5 hGF s1 hz4 s5
    go_wp2
    go_ret
    exact ⟨rfl, RES.out⟩
end Go.Proofs.YtmfgfcknhjblgaaDoor
