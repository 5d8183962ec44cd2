import Derived.Laws.MakeOwn
import Derived.Deep.Light
import Derived.Test.YtkgegihkhdgdoaaDoorOwn1
import Derived.Test.YtkgegihkhdgdoaaDoorOwn2
import Derived.Test.YtkgegihkhdgdoaaDoorOwn4
set_option linter.unusedVariables false
set_option linter.unusedSimpArgs false
/- A load, a store of a whole row, by what its run comes to; slices of sums of the call's own. -/
namespace Go.Proofs.YtkgegihkhdgdoaaDoor
set_option linter.unusedSimpArgs false
set_option linter.unusedVariables false
open Go.RowKit Go.Deep

section
variable {P : Program}
theorem exec_load_row {o : Oper} {ev : Operand → Value} {w : World} (ty : TypeId) (x : Operand) (ho : o.op = .load ty x) (b s m : Nat) (g : Nat → Value) (hx : ev x = .pointer (some ⟨b, s, none⟩)) (d : TypeDesc)
    (hu : P.underlying ty = some d) (hd : d.isRow = true) (hi : (P.info? ty).map (·.size) = some m) (hc : ∀ i, i < m → w.cell? ⟨b, s + i, none⟩ = some (g i)) : (execOp ev o).run P w = .ok (.value (.agg (rowV m g))) w := by
  have e : (rowV m g) = (rowV m g).toList.toArray := by rw [Array.toArray_toList]
  rw [e]
  unfold execOp
  simp only [ho, hx, Instr.loadAt, Instr.sureAddr, Sem.run_bind, Sem.run_pure, Result.andThen_ok, run_loadVar_mid w b s ty (rowV m g).toList d (range_of_cells hc) hu hd (by rw [hi, Array.length_toList, rowV_size])]
/-- a store of a whole row. -/
theorem stowR_run (w : World) (ty : TypeId) (b s m : Nat) (g : Nat → Value) (hi : (P.info? ty).map (·.size) = some m) (h1 : ∀ i, i < m → (g i).oneCell' = true) (ht : w.there b s m) : (storeVar ty ⟨b, s, none⟩ (.agg (rowV m g))).run P w = .ok () (w.setCells b s (rowV m g).toList) := by
  have h2 : (rowV m g).all (·.oneCell') = true := by
    rw [Array.all_eq_true_iff_forall_mem]
    intro v hv
    obtain ⟨i, hi', rfl⟩ := Array.mem_iff_getElem.1 hv
    have hlt : i < m := by rw [rowV_size] at hi'; exact hi'
    have := rowV_get m g i hlt
    rw [Array.getElem?_eq_getElem hi'] at this
    rw [Option.some.inj this]; exact h1 i hlt
  exact run_storeVar_mid (P := P) w b s ty (rowV m g) (by rw [rowV_size]; exact ht) (by rw [hi, rowV_size]) h2
end
/-- the cells of sums, one behind the other. -/
def sumC (q : List Int) : List Value := (rowV 32 (arrV q)).toList
theorem sumC_len (q : List Int) : (sumC q).length = 32 := by simp [sumC, rowV_size]
theorem sumC_get (q : List Int) (j : Nat) (h : j < 32) : (sumC q)[j]? = some (arrV q j) := by rw [sumC, Array.getElem?_toList]; exact rowV_get _ _ _ h
theorem sumsC_len : ∀ L : List (List Int), (L.flatMap sumC).length = L.length * 32
  | [] => rfl
  | x :: N => by rw [List.flatMap_cons, List.length_append, sumC_len, sumsC_len N, List.length_cons]; omega
theorem sumsC_get : ∀ (L : List (List Int)) (i j : Nat) (x : List Int), L[i]? = some x → j < 32 → (L.flatMap sumC)[i * 32 + j]? = some (arrV x j)
  | [], i, j, x, h, _ => by simp at h
  | y :: N, 0, j, x, h, hj => by
    have e : y = x := by simpa using h
    subst e
    rw [List.flatMap_cons, Nat.zero_mul, Nat.zero_add, List.getElem?_append_left (by rw [sumC_len]; exact hj)]
    exact sumC_get _ _ hj
  | y :: N, i + 1, j, x, h, hj => by
    rw [List.flatMap_cons, List.getElem?_append_right (by rw [sumC_len]; omega), sumC_len, show (i + 1) * 32 + j - 32 = i * 32 + j by omega]
    exact sumsC_get N i j x (by simpa using h) hj
theorem sumC_one (q : List Int) : ∀ u ∈ sumC q, u.oneCell' = true := by
  intro u hu
  rw [sumC, Array.mem_toList_iff] at hu
  obtain ⟨k, hk, rfl⟩ := Array.mem_iff_getElem.1 hu
  have hk' : k < 32 := by rw [rowV_size] at hk; exact hk
  have := rowV_get 32 (arrV q) k hk'
  rw [Array.getElem?_eq_getElem hk] at this
  rw [Option.some.inj this]; rfl
/-- v is a slice of these sums, in a block of its own from B on. -/
def newSums (w : World) (B : Nat) (v : Value) (L : List (List Int)) : Prop := (∀ x ∈ L, isSum x) ∧ w.ownsRow B 32 32 v L.length (L.flatMap sumC)
theorem newSums.is {w : World} {B : Nat} {v : Value} {L : List (List Int)} (h : newSums w B v L) : sumsAt w v L := by
  obtain ⟨hs, ho⟩ := h
  obtain ⟨a, c, rfl, hc, hm, hg⟩ := ownsRow_slice ho
  refine ⟨hs, a, c, rfl, hc, hm, fun h0 => ?_⟩
  obtain ⟨g, rfl, hlt, _, hcell⟩ := hg h0
  refine ⟨g, 0, rfl, hlt, fun i hi j hj => ?_⟩
  rw [Nat.zero_add]
  exact hcell _ _ (sumsC_get L i j _ (List.getElem?_eq_getElem hi) hj)
theorem newSums.nil (w : World) (B : Nat) : newSums w B (.slice none 0 0) [] := ⟨fun x hx => by simp at hx, rfl, Or.inl ⟨rfl, rfl⟩⟩
theorem newSums.far {w w' : World} {B : Nat} {v : Value} {L : List (List Int)} (h : newSums w B v L) (hb : ∀ k, v.ownBlock = some k → w'.heap[k]? = w.heap[k]?) : newSums w' B v L := ⟨h.1, ownsRow_far h.2 hb⟩
theorem newSums.block {w : World} {B : Nat} {v : Value} {L : List (List Int)} (h : newSums w B v L) (k : Nat) (hk : v.ownBlock = some k) : B ≤ k ∧ k < w.heap.size := ownsRow_block h.2 k hk
theorem newSums.below {w w' : World} {B C : Nat} {v : Value} {L : List (List Int)} (h : newSums w B v L) (hb : Below C w w') (hC : w.heap.size ≤ C) : newSums w' B v L :=
  h.far fun k hk => hb.block k (Nat.lt_of_lt_of_le (h.block k hk).2 hC)
theorem newSums.lower {w : World} {B C : Nat} {v : Value} {L : List (List Int)} (h : newSums w B v L) (hC : C ≤ B) : newSums w C v L := ⟨h.1, ownsRow_lower h.2 hC⟩
theorem infoS32 : (Tryd.prog.info? 32).map (fun i => (i.zero, i.size, i.bytes)) = some (some (.agg (rowV 32 (fun _ => .int .u8 0))), 32, 32) := by kernel_rfl
/-- append of sums to sums of the call's own. -/
theorem sums_append (w : World) (B : Nat) (v : Value) (L : List (List Int)) (hv : newSums w B v L) (sv : Value) (K : List (List Int)) (hK : sumsAt w sv K) (hn : L.length + K.length < 1000000) (hB : B ≤ w.heap.size) :
    ∃ a c w', (Builtin.append_ #[39, 39] 39 #[v, sv]).run Tryd.prog w = .ok (.slice a (L.length + K.length) c) w' ∧ newSums w' B (.slice a (L.length + K.length) c) (L ++ K) ∧ w.grownBy w' v.ownBlock ∧
      ((Value.slice a (L.length + K.length) c).ownBlock = v.ownBlock ∨ (Value.slice a (L.length + K.length) c).ownBlock = some w.heap.size) := by
  obtain ⟨hs, hv⟩ := hv
  obtain ⟨hs2, a, cap, rfl, hc, hm, hcl⟩ := hK
  obtain ⟨a', c', w', hr, ho, hg, hat⟩ := row_append (P := Tryd.prog) w 39 39 32 _ 32 32 Tryd.underlying39 infoS32 (by simp [Value.cells, rowV_size]) (by omega)
    B v L.length _ hv (.slice a K.length cap) K.length (K.flatMap sumC) (sumsC_len K)
    ⟨_, _, rfl, fun h0 => by
      obtain ⟨g, o, rfl, hg, hcell⟩ := hcl h0
      refine ⟨g, o, rfl, fun j u hj => ?_⟩
      have hjl : j < K.length * 32 := by rw [← sumsC_len K]; exact (List.getElem?_eq_some_iff.1 hj).1
      have h1 := hcell (j / 32) (by omega) (j % 32) (by omega)
      have h2 := sumsC_get K (j / 32) (j % 32) _ (List.getElem?_eq_getElem (by omega : j / 32 < K.length)) (by omega)
      rw [show j / 32 * 32 + j % 32 = j by omega, hj] at h2
      rw [show o + j / 32 * 32 + j % 32 = o + j by omega, ← Option.some.inj h2] at h1
      exact h1⟩
    (fun u hu => by
      obtain ⟨q, _, hq⟩ := List.mem_flatMap.1 hu
      exact sumC_one q u hq) (by unfold maxLen; omega) (by omega) hB
  refine ⟨a', c', w', hr, ⟨fun x hx => ?_, ?_⟩, hg, hat⟩
  · rcases List.mem_append.1 hx with h | h
    · exact hs x h
    · exact hs2 x h
  · rw [List.flatMap_append, List.length_append]; exact ho
end Go.Proofs.YtkgegihkhdgdoaaDoor

/- One sum more; small tools. -/
namespace Go.Proofs.YtkgegihkhdgdoaaDoor
set_option linter.unusedSimpArgs false
set_option linter.unusedVariables false
open Go.RowKit Go.Deep Go.Shelf

theorem rowIs_one (w : World) (v : Value) (t : TypeId) : (w.alloc (.cells #[v] t)).rowIs w.heap.size t 1 (fun _ => v) :=
  rowIs_new w _ _ 1 _ rfl (fun i hi => by
    obtain rfl : i = 0 := by omega
    rfl)
theorem take_snoc {α : Type} (U : List α) (k : Nat) (h : k < U.length) : U.take (k + 1) = U.take k ++ [U[k]] := by rw [List.take_add_one, List.getElem?_eq_getElem h]; rfl
theorem putObj_block (W : World) (b : Nat) (o : Obj) {j : Nat} (h : j ≠ b) : (W.putObj b o).heap[j]? = W.heap[j]? := World.putObj_heap_other h
theorem Calm.normal {Q : Exit → Act → World → Prop} {a : Act} {w : World} (h : Q .normal a w) : Calm Q .normal a w := h
theorem one_sum (w : World) (q : List Int) (hq : isSum q) : sumsAt (w.alloc (.cells (rowV 32 (arrV q)) 32)) (.slice (some ⟨w.heap.size, 0, none⟩) 1 1) [q] := by
  refine ⟨fun x hx => by rw [List.mem_singleton.1 hx]; exact hq, _, 1, rfl, Nat.le_refl _, by unfold maxLen; omega, fun _ => ⟨w.heap.size, 0, rfl, by simp, fun i hi j hj => ?_⟩⟩
  have hi0 : i = 0 := by simpa using hi
  subst hi0
  rw [show 0 + 0 * 32 + j = j by omega, (rowIs_box w 32 32 (arrV q)).cell (by omega)]; rfl
theorem build_one (f : Nat → Value) (w : World) : (Instr.buildSlice 39 1 #[(0, .agg (rowV 32 f))]).run Tryd.prog w = .ok (.slice (some ⟨w.heap.size, 0, none⟩) 1 1) (w.alloc (.cells (rowV 32 f) 32)) := by
  show (_ : Result Value) = _
  kernel_rfl
theorem exec_bslice1' {P : Program} {o : Oper} {ev : Operand → Value} {w w' : World} {v : Value} (t : TypeId) (n i : Nat) (x : Operand) (a : Value) (ho : o.op = .buildSlice t n #[(i, x)]) (hx : ev x = a)
    (hr : (Instr.buildSlice t n #[(i, a)]).run P w = .ok v w') : (execOp ev o).run P w = .ok (.value v) w' := by
  unfold execOp
  simp only [ho, List.map_toArray, List.map_cons, List.map_nil, hx, Sem.run_bind, hr, Result.andThen_ok, Sem.run_pure]
theorem path_more (w0 w : World) (u : Value) (P : List (List Int)) (q : List Int) (hq : isSum q) (hu : newSums w w0.heap.size u P) (hb : Below w0.heap.size w0 w) (hl : P.length ≤ 100) :
    ∃ a c w', (Builtin.append_ #[39, 39] 39 #[u, .slice (some ⟨w.heap.size, 0, none⟩) 1 1]).run Tryd.prog (w.alloc (.cells (rowV 32 (arrV q)) 32)) = .ok (.slice a (P.length + 1) c) w' ∧ newSums w' w0.heap.size (.slice a (P.length + 1) c) (P ++ [q]) ∧ Below w0.heap.size w0 w' := by
  have ba : Below w.heap.size w (w.alloc (.cells (rowV 32 (arrV q)) 32)) := (Below.refl _ _).alloc (Nat.le_refl _) _
  have sz := hb.size
  obtain ⟨a, c, w', hr, hn, hg, _⟩ := sums_append _ w0.heap.size _ _ (hu.below ba (Nat.le_refl _)) _ _ (one_sum w q hq) (by simp; omega) (by simp; omega)
  exact ⟨a, c, w', hr, hn, (hb.trans (ba.mono sz)).trans (below_grown hg (fun j hj => (hu.block j hj).1) (by simp; omega))⟩
end Go.Proofs.YtkgegihkhdgdoaaDoor

/- Rows of pairs; their leaves. -/
namespace Go.Proofs.YtkgegihkhdgdoaaDoor
set_option linter.unusedSimpArgs false
set_option linter.unusedVariables false
open Go.RowKit Go.Deep

/-- v is a row of n pairs. -/
def pairsAt (w : World) (v : Value) (n : Nat) (x : Nat → Pr) : Prop :=
  ∃ a cap, v = .slice a n cap ∧ n ≤ cap ∧ cap ≤ maxLen ∧ ∀ i, i < n → ∃ g o kc vc, a = some ⟨g, o, none⟩ ∧ g < w.heap.size ∧ w.cell? ⟨g, o + i * 2, none⟩ = some kc ∧ w.cell? ⟨g, o + i * 2 + 1, none⟩ = some vc ∧ anyBytes w kc (x i).1 ∧ anyBytes w vc (x i).2
theorem pairsAt.below {w w' : World} {B : Nat} {v : Value} {n : Nat} {x : Nat → Pr} (h : pairsAt w v n x) (hb : Below B w w') (hB : w.heap.size ≤ B) : pairsAt w' v n x := by
  obtain ⟨a, cap, h1, h2, h3, h4⟩ := h
  refine ⟨a, cap, h1, h2, h3, fun i hi => ?_⟩
  obtain ⟨g, o, kc, vc, e, hg, c0, c1, k1, k2⟩ := h4 i hi
  have hs := hb.size
  exact ⟨g, o, kc, vc, e, by omega, (hb.cell (p := ⟨g, o + i * 2, none⟩) (by show g < B; omega)).trans c0, (hb.cell (p := ⟨g, o + i * 2 + 1, none⟩) (by show g < B; omega)).trans c1, k1.below hb hB, k2.below hb hB⟩
def leavesTo (x : Nat → Pr) (k : Nat) : List (List Int) := (List.range k).map fun i => leafS (x i)
def leavesN (N : List Nt) (x : Nat → Pr) : Nat → List Nt
  | 0 => N
  | k + 1 => addN (leavesN N x k) (leafNt (x k))
theorem leavesTo_len (x : Nat → Pr) (k : Nat) : (leavesTo x k).length = k := by simp [leavesTo]
theorem leavesTo_succ (x : Nat → Pr) (k : Nat) : leavesTo x (k + 1) = leavesTo x k ++ [leafS (x k)] := by unfold leavesTo; rw [List.range_succ, List.map_append]; rfl
theorem leavesTo_sum (x : Nat → Pr) (k : Nat) : ∀ y ∈ leavesTo x k, isSum y := fun y hy => by
  obtain ⟨i, _, rfl⟩ := List.mem_map.1 hy
  exact leafS_sum _
theorem leavesN_len (N : List Nt) (x : Nat → Pr) : ∀ k, (leavesN N x k).length ≤ N.length + k
  | 0 => Nat.le_refl _
  | k + 1 => by
    have h1 := leavesN_len N x k
    have h2 := (addN_le (leavesN N x k) (leafNt (x k))).2
    rw [leavesN]; omega
/-- make([]api.Sum, 0, n). -/
theorem make_sums (w : World) (n : Nat) (hn : n ≤ 100000) : ∃ w', (Instr.makeSlice 39 (.int .i64 0) (.int .i64 (n : Int))).run Tryd.prog w = .ok (.slice (some ⟨w.heap.size, 0, none⟩) 0 n) w' ∧ newSums w' w.heap.size (.slice (some ⟨w.heap.size, 0, none⟩) 0 n) [] ∧ Below w.heap.size w w' := by
  have hi := infoS32
  cases hq : Tryd.prog.info? 32 with
  | none => rw [hq] at hi; cases hi
  | some i =>
    rw [hq] at hi
    simp only [Option.map_some, Option.some.injEq, Prod.mk.injEq] at hi
    obtain ⟨h1, h2, h3⟩ := hi
    obtain ⟨w', hr, ho, hg⟩ := run_make_own (P := Tryd.prog) w w.heap.size 39 32 i _ 32 Tryd.underlying39 hq h1 h2 .i64 .i64 n (by rw [h3]; omega) (by unfold maxLen; omega) (Nat.le_refl _)
    exact ⟨w', hr, ⟨fun x hx => by simp at hx, ho⟩, below_grown (v := .slice none 0 0) hg (fun k hk => by cases hk) (Nat.le_refl _)⟩
theorem sums_one_more (w : World) (B : Nat) (u : Value) (P : List (List Int)) (q : List Int) (hq : isSum q) (hu : newSums w B u P) (hB : B ≤ w.heap.size) (hl : P.length ≤ 100000) :
    ∃ a c w', (Builtin.append_ #[39, 39] 39 #[u, .slice (some ⟨w.heap.size, 0, none⟩) 1 1]).run Tryd.prog (w.alloc (.cells (rowV 32 (arrV q)) 32)) = .ok (.slice a (P.length + 1) c) w' ∧ newSums w' B (.slice a (P.length + 1) c) (P ++ [q]) ∧ w.grownBy w' u.ownBlock ∧
      (∀ j, (Value.slice a (P.length + 1) c).ownBlock = some j → u.ownBlock = some j ∨ w.heap.size ≤ j) := by
  have ba : Below w.heap.size w (w.alloc (.cells (rowV 32 (arrV q)) 32)) := (Below.refl _ _).alloc (Nat.le_refl _) _
  obtain ⟨a, c, w', hr, hn, hg, hat⟩ := sums_append _ B _ _ (hu.below ba (Nat.le_refl _)) _ _ (one_sum w q hq) (by simp; omega) (by simp; omega)
  refine ⟨a, c, w', hr, hn, ⟨hg.os.trans ba.os, hg.tape.trans ba.tape, hg.output.trans ba.output, Nat.le_trans ba.size hg.size, fun k hk hne => (hg.block k (by have := ba.size; omega) hne).trans (ba.block k hk)⟩, fun j hj => ?_⟩
  rcases hat with e | e
  · exact Or.inl (e ▸ hj)
  · refine Or.inr ?_
    have e2 : (Value.slice a (P.length + [q].length) c).ownBlock = some j := hj
    rw [e] at e2
    have : (w.alloc (.cells (rowV 32 (arrV q)) 32)).heap.size = j := Option.some.inj e2
    have := ba.size
    omega
/-- leaves, so far. -/
def lvS (w : World) (F : Nat → Prop) (kv : Value) (N : List Nt) (c : Int) (x : Nat → Pr) (k : Nat) (s : Value) (wr : World) : Prop :=
  newSums wr w.heap.size s (leavesTo x k) ∧ ∃ Fi, bkAt kv wr Fi (leavesN N x k) (c + k) ∧ (∀ j, Fi j → F j ∨ w.heap.size ≤ j) ∧ (∀ j, s.ownBlock = some j → ¬ Fi j) ∧ Fr F w wr
set_option maxHeartbeats 2000000 in
set_option maxRecDepth 100000 in
theorem leaves_k (F : Nat → Prop) (B : Nat) (kv : Value) (N : List Nt) (c : Int) (n : Nat) (v : Value) (x : Nat → Pr) (w : World) (hk : bkAt kv w F N c) (hFB : ∀ j, F j → B ≤ j) (hB : B ≤ w.heap.size) (hp : ∀ wz, Below B w wz → pairsAt wz v n x ∧ tabIs wz) (hn : n ≤ 10000) (hx : ∀ i, i < n → (x i).1.length + (x i).2.length ≤ 1000000) (hF0 : ¬ F 1) (hN : N.length < 100000) (hc : 0 ≤ c ∧ c < 100000000) :
    Calls Tryd.prog 34 #[kv, v] w fun e w' => ∃ s, e = .returned s ∧ lvS w F kv N c x n s w' := by
  have hlt := hk.lt
  obtain ⟨w1, hmk, n1, b1⟩ := make_sums w n (by omega)
  have HP : Hid (∀ wz, Fr F w wz → pairsAt wz v n x ∧ tabIs wz) := (show _ from fun wz hz => hp wz (hz.below hFB hB))
  have hsl : ∃ a cap, v = .slice a n cap := by
    obtain ⟨a, cap, e, _⟩ := (hp w (Below.refl _ _)).1; exact ⟨a, cap, e⟩
  obtain ⟨va, vc, rfl⟩ := hsl
  have hn' : (n : Int) ≤ 10000 := by omega
  have hn0 : (0 : Int) ≤ (n : Int) := by omega
  have HX : Hid (∀ i, i < n → (x i).1.length + (x i).2.length ≤ 1000000) := (show _ from hx)
  have S0 : Hid (lvS w F kv N c x 0 (.slice (some ⟨w.heap.size, 0, none⟩) 0 n) w1) := (show lvS w F kv N c x 0 (.slice (some ⟨w.heap.size, 0, none⟩) 0 n) w1 from ⟨n1, F, by
    have := hk.below b1 (Nat.le_refl _)
    rw [show c + ((0 : Nat) : Int) = c by omega]; exact this, fun j hj => Or.inl hj, fun j hj hf => by
    have e : w.heap.size = j := by simpa [Value.ownBlock] using hj
    have := hlt j hf; omega, Fr.of_below F b1⟩)
  have HLT : Hid (∀ j, F j → j < w.heap.size) := (show _ from hlt)
  have HF0 : Hid (¬ F 1) := (show ¬ F 1 from hF0)
  have HTW : Hid (tabIs w) := (show tabIs w from (hp w (Below.refl _ _)).2)
  have HNC : Hid (N.length < 100000 ∧ 0 ≤ c ∧ c < 100000000) := (show _ from ⟨hN, hc⟩)
  clear n1 hk hp hx hlt hF0 hN hc hFB hB b1
  go_enter Tryd.func34, Tryd.ntmps34
  go_wp2_with (first | (refine wpList_make_run rfl _ _ _ rfl rfl rfl hmk ?_))
  clear hmk
  go_loopw [5, 13] (fun s i wr => ∃ k : Nat, k ≤ n ∧ i = .int .i64 k ∧ lvS w F kv N c x k s wr) (fun _ i _ => n - (intOf i).toNat)
  case atStart => exact ⟨0, by omega, rfl, S0.out⟩
  case round =>
    obtain ⟨k, hkn, rfl, hns, Fi, hbk, hFi, hsF, hfr⟩ := hrel
    have p0 : (0 : Int) ≤ (k : Int) := by omega
    clear S0
    by_cases hlt2 : k < n
    · have p1 : (k : Int) < (n : Int) := by omega
      obtain ⟨⟨a, cap, e, _, _, hc⟩, htr⟩ := HP.out wr hfr
      obtain ⟨g, o, kc, vc', e2, hg, c0, c1, hkc, hvc⟩ := hc k hlt2
      injection e with ea en ec
      subst ec
      subst ea
      subst e2
      clear en
      obtain ⟨ka, kcap, hke, _⟩ := hkc.slice
      obtain ⟨va', vcap, hve, _⟩ := hvc.slice
      subst hke hve
      obtain ⟨w2, hw2⟩ : ∃ w2, w2 = wr.alloc (.cells #[.slice ka (x k).1.length kcap, .slice va' (x k).2.length vcap] 38) := ⟨_, rfl⟩
      have b2 : Below wr.heap.size wr w2 := by rw [hw2]; exact (Below.refl _ _).alloc (Nat.le_refl _) _
      have hb0 : w2.heap[wr.heap.size]? = some (.cells #[.slice ka (x k).1.length kcap, .slice va' (x k).2.length vcap] 38) := by rw [hw2, blk_alloc_new]
      have d0 : w2.cell? ⟨wr.heap.size, 0, none⟩ = some (.slice ka (x k).1.length kcap) := by rw [cell_of_row _ _ _ _ _ _ hb0]; rfl
      have d1 : w2.cell? ⟨wr.heap.size, 1, none⟩ = some (.slice va' (x k).2.length vcap) := by rw [cell_of_row _ _ _ _ _ _ hb0]; rfl
      have hFi0 : ¬ Fi 1 := fun h => by
        rcases hFi 1 h with h | h
        · exact HF0.out h
        · have := HTW.out.1; omega
      have hNl : (leavesN N x k).length < 1000000 := by have := leavesN_len N x k; have := HNC.out.1; omega
      have X := leaf_k Fi kv (leavesN N x k) (c + k) _ _ (x k) w2 (hbk.below b2 (Nat.le_refl _)) (hkc.below b2 (Nat.le_refl _)) (hvc.below b2 (Nat.le_refl _)) (HX.out k hlt2) (htr.below b2 htr.1) hFi0 hNl (by have := HNC.out; omega)
      have X' : Calls Tryd.prog 63 #[kv, .agg #[.slice ka (x k).1.length kcap, .slice va' (x k).2.length vcap]] w2 fun e w' => e = .returned (.agg (rowV 32 (arrV (leafS (x k))))) ∧ bkAt kv w' (Gr Fi w2 w') (leavesN N x (k + 1)) (c + k + 1) ∧ Fr Fi w2 w' := X
      have hnl : (leavesTo x k).length = k := leavesTo_len x k
      obtain ⟨ua, uc, hue⟩ : ∃ ua uc, u5 = .slice ua k uc := by
        obtain ⟨a, c, e, _⟩ := ownsRow_slice hns.2
        rw [hnl] at e; exact ⟨a, c, e⟩
      subst hue
      have STEP : Hid (∀ w3, bkAt kv w3 (Gr Fi w2 w3) (leavesN N x (k + 1)) (c + k + 1) → Fr Fi w2 w3 → ∃ a c' w4, (Builtin.append_ #[39, 39] 39 #[.slice ua k uc, .slice (some ⟨w3.heap.size, 0, none⟩) 1 1]).run Tryd.prog (w3.alloc (.cells (rowV 32 (arrV (leafS (x k)))) 32)) = .ok (.slice a (k + 1) c') w4 ∧ lvS w F kv N c x (k + 1) (.slice a (k + 1) c') w4) := (show _ from fun w3 k3 f3 => by
        have s3 := f3.size
        have s2 := b2.size
        have sw := hfr.size
        have hns3 : newSums w3 w.heap.size (.slice ua k uc) (leavesTo x k) := (hns.below b2 (Nat.le_refl _)).far fun j hj => f3.block j (by have := (hns.block j hj).2; omega) (hsF j hj)
        obtain ⟨a, c', w4, hr, hn4, hg, hat⟩ := sums_one_more w3 w.heap.size _ _ (leafS (x k)) (leafS_sum _) hns3 (by omega) (by rw [hnl]; omega)
        rw [hnl] at hr hn4 hat
        have hlt4 := k3.lt
        refine ⟨a, c', w4, hr, by rw [leavesTo_succ]; exact hn4, Gr Fi w2 w3, ?_, fun j hj => ?_, fun j hj hG => ?_, ?_⟩
        · rw [show c + ((k + 1 : Nat) : Int) = c + k + 1 by omega]
          refine k3.far (fun j hj hl => hg.block j hl (fun e => ?_)) hg.size
          rcases hj with hj | hj
          · exact hsF j e.symm hj
          · have := (hns.block j e.symm).2; omega
        · rcases hj with hj | hj
          · exact hFi j hj
          · exact Or.inr (by omega)
        · rcases hat j hj with e | e
          · rcases hG with hG | hG
            · exact hsF j e hG
            · have := (hns.block j e).2; omega
          · have := hlt4 j hG; omega
        · refine ⟨hg.os.trans (f3.os.trans (b2.os.trans hfr.os)), hg.tape.trans (f3.tape.trans (b2.tape.trans hfr.tape)), hg.output.trans (f3.output.trans (b2.output.trans hfr.output)), by have := hg.size; omega, fun j hj hn => ?_⟩
          have nFi : ¬ Fi j := fun h => by
            rcases hFi j h with h | h
            · exact hn h
            · omega
          have e1 : w4.heap[j]? = w3.heap[j]? := hg.block j (by omega) (fun e => by have := (hns.block j e.symm).1; omega)
          exact e1.trans ((f3.block j (by omega) nFi).trans ((b2.block j (by omega)).trans (hfr.block j hj hn))))
      have hbl := fun wz => build_one (arrV (leafS (x k))) wz
      clear X hbk hFi hsF hfr hns hkc hvc hg htr hb0 b2 hnl hNl hFi0
      unfold sumV at X'
      go_upto_region 5 with fail
      rw [← hw2]
      clear hw2 c0 c1
      go_wp2_with fail
      refine X'.mono ?_
      rintro e w3 ⟨rfl, k3, f3⟩
      obtain ⟨a, c', w4, hr, hS⟩ := STEP.out w3 k3 f3
      have HS4 : Hid (lvS w F kv N c x (k + 1) (.slice a (k + 1) c') w4) := (show lvS w F kv N c x (k + 1) (.slice a (k + 1) c') w4 from hS)
      clear X' STEP k3 f3 hS d0 d1
      go_wp2_with (first | (refine wpList_build_run (v := .agg (rowV 32 (arrV (leafS (x k))))) rfl 39 1 0 (.tmp 20) rfl rfl (hbl w3) ?_; clear hbl) | (at_builtin; refine wpList_append_run rfl _ _ _ rfl rfl rfl hr ?_))
      go_light
      exact ⟨⟨k + 1, by omega, by go_num, HS4.out⟩, by simp [intOf]; omega⟩
    · obtain rfl : k = n := by omega
      have HS4 : Hid (lvS w F kv N c x k u5 wr) := (show lvS w F kv N c x k u5 wr from ⟨hns, Fi, hbk, hFi, hsF, hfr⟩)
      clear hns hbk hFi hsF hfr
      go_wp2
      go_ret
      exact ⟨_, rfl, HS4.out⟩
end Go.Proofs.YtkgegihkhdgdoaaDoor

/- keyed.May. -/
namespace Go.Proofs.YtkgegihkhdgdoaaDoor
set_option linter.unusedSimpArgs false
set_option linter.unusedVariables false
open Go.RowKit Go.Deep

/-- their keys rise. -/
def mayP (x : Nat → Pr) (n : Nat) : Prop := ∀ i, i + 1 < n → cmpI (x i).1 (x (i + 1)).1 < 0
def mayB (x : Nat → Pr) (n : Nat) : Bool := (List.range (n - 1)).all fun i => decide (cmpI (x i).1 (x (i + 1)).1 < 0)
theorem mayB_is (x : Nat → Pr) (n : Nat) : mayB x n = true ↔ mayP x n := by
  unfold mayB mayP
  rw [List.all_eq_true]
  constructor
  · intro h i hi
    have := h i (List.mem_range.2 (by omega))
    exact of_decide_eq_true this
  · intro h i hi
    exact decide_eq_true (h i (by have := List.mem_range.1 hi; omega))
/-- a row of pairs, opened at a place, in any later world. -/
theorem pairsAt.at {w : World} {v : Value} {n : Nat} {x : Nat → Pr} (h : pairsAt w v n x) (h0 : 0 < n) : ∃ g o cap, v = .slice (some ⟨g, o, none⟩) n cap ∧ g < w.heap.size ∧ n ≤ cap ∧ cap ≤ maxLen ∧ ∀ i, i < n → ∃ ka kcap va vcap, ∀ wz, Below w.heap.size w wz →
    wz.cell? ⟨g, o + i * 2, none⟩ = some (.slice ka (x i).1.length kcap) ∧ wz.cell? ⟨g, o + i * 2 + 1, none⟩ = some (.slice va (x i).2.length vcap) ∧ anyBytes wz (.slice ka (x i).1.length kcap) (x i).1 ∧ anyBytes wz (.slice va (x i).2.length vcap) (x i).2 := by
  obtain ⟨a, cap, rfl, h2, h3, h4⟩ := h
  obtain ⟨g, o, _, _, e0, hg, _⟩ := h4 0 h0
  refine ⟨g, o, cap, by rw [e0], hg, h2, h3, fun i hi => ?_⟩
  obtain ⟨g', o', kc, vc, e, hg', c0, c1, k1, k2⟩ := h4 i hi
  obtain ⟨rfl, rfl⟩ : g = g' ∧ o = o' := by
    have := e0.symm.trans e
    simpa using this
  obtain ⟨ka, kcap, rfl, _⟩ := k1.slice
  obtain ⟨va, vcap, rfl, _⟩ := k2.slice
  exact ⟨ka, kcap, va, vcap, fun wz hz => ⟨(hz.cell (p := ⟨g, o + i * 2, none⟩) hg).trans c0, (hz.cell (p := ⟨g, o + i * 2 + 1, none⟩) hg).trans c1, k1.below hz (Nat.le_refl _), k2.below hz (Nat.le_refl _)⟩⟩
set_option maxHeartbeats 2000000 in
set_option maxRecDepth 100000 in
theorem may_any (n : Nat) (v : Value) (x : Nat → Pr) (w : World) (hp : pairsAt w v n x) :
    Calls Tryd.prog 13 #[v] w fun e w' => e = .returned (.bool (mayB x n)) ∧ Below w.heap.size w w' := by
  have hnm : (n : Int) ≤ 9223372036854775807 := by
    obtain ⟨_, cap, _, h2, h3, _⟩ := hp; unfold maxLen at h3; omega
  have HP : Hid (pairsAt w v n x) := (show pairsAt w v n x from hp)
  have hsl : ∃ a cap, v = .slice a n cap := by
    obtain ⟨a, cap, e, _⟩ := hp; exact ⟨a, cap, e⟩
  obtain ⟨va, vc, rfl⟩ := hsl
  clear hp
  have hn0 : (0 : Int) ≤ (n : Int) := by omega
  go_enter Tryd.func13, Tryd.ntmps13
  go_wp2_with fail
  go_loopw [3] (fun i wr => ∃ j : Nat, (j + 1 ≤ n ∨ j = 0) ∧ i = .int .i64 ((j : Int) + 1) ∧ (∀ i, i + 1 < j + 1 → cmpI (x i).1 (x (i + 1)).1 < 0) ∧ Below w.heap.size w wr) (fun i _ => n - (intOf i).toNat)
  case atStart => exact ⟨0, Or.inr rfl, rfl, fun i hi => by omega, Below.refl _ _⟩
  case round =>
    obtain ⟨j, hj, rfl, hall, hb⟩ := hrel
    have p0 : (0 : Int) ≤ (j : Int) := by omega
    by_cases hlt : j + 1 < n
    · have p1 : (j : Int) + 1 < (n : Int) := by omega
      obtain ⟨g, o, cap, e, hg, _, _, hc⟩ := HP.out.at (by omega)
      injection e with ea _ ec
      subst ea
      subst ec
      obtain ⟨ka, kcap, va1, vcap1, H1⟩ := hc j (by omega)
      obtain ⟨kb, kbcap, va2, vcap2, H2⟩ := hc (j + 1) hlt
      have hjn : j < n := by omega
      have hj0 : (0 : Int) ≤ (j : Int) + 1 := by omega
      have hw1 : IntKind.wrap .i64 (j : Int) = (j : Int) := IntWalk.i64_in _ ⟨by omega, by omega⟩
      have hw2 : IntKind.wrap .i64 ((j : Int) + 1) = (j : Int) + 1 := IntWalk.i64_in _ ⟨by omega, by omega⟩
      have HALL : Hid (∀ i, i + 1 < j + 1 → cmpI (x i).1 (x (i + 1)).1 < 0) := (show _ from hall)
      have CELL : Hid (∀ wz, Below w.heap.size w wz → wz.cell? ⟨g, o + j * 2, none⟩ = some (.slice ka (x j).1.length kcap) ∧ wz.cell? ⟨g, o + (j + 1) * 2, none⟩ = some (.slice kb (x (j + 1)).1.length kbcap) ∧ anyBytes wz (.slice ka (x j).1.length kcap) (x j).1 ∧ anyBytes wz (.slice kb (x (j + 1)).1.length kbcap) (x (j + 1)).1) := (show _ from fun wz hz => ⟨(H1 wz hz).1, (H2 wz hz).1, (H1 wz hz).2.2.1, (H2 wz hz).2.2.1⟩)
      clear H1 H2 hc hall hg
      go_upto_region 4 with fail
      refine wp_region_noPanic ?_
      refine wp_region_held_drew (S := fun w' => Below w.heap.size w w') (by kernel_rfl) hb.drew (fun hHeld => ?_)
      refine take_op (i := 0) (v := ?va0) rfl (by kernel_rfl) (by kernel_rfl) (by kernel_rfl) (fun _ _ _ h => h) rfl hHeld ?ya0 ?ra0
      case ya0 => (intro wz hz; go_simp; first | done | with_reducible rfl)
      try simp only [Act.put, List.setIfInBounds_toArray, List.set_cons_zero, List.set_cons_succ]
      refine take_op (i := 1) (v := ?va1) rfl (by kernel_rfl) (by kernel_rfl) (by kernel_rfl) (fun _ _ _ h => h) rfl hHeld ?ya1 ?ra1
      case ya1 => (intro wz hz; go_simp; first | done | with_reducible rfl)
      try simp only [Act.put, List.setIfInBounds_toArray, List.set_cons_zero, List.set_cons_succ]
      refine take_op (i := 2) (v := ?va2) rfl (by kernel_rfl) (by kernel_rfl) (by kernel_rfl) (fun _ _ _ h => h) rfl hHeld ?ya2 ?ra2
      case ya2 => (intro wz hz; go_simp; first | done | with_reducible rfl)
      try simp only [Act.put, List.setIfInBounds_toArray, List.set_cons_zero, List.set_cons_succ]
      refine take_op (i := 3) (v := ?va3) rfl (by kernel_rfl) (by kernel_rfl) (by kernel_rfl) (fun _ _ _ h => h) rfl hHeld ?ya3 ?ra3
      case ya3 => (intro wz hz; go_simp; first | done | with_reducible rfl)
      try simp only [Act.put, List.setIfInBounds_toArray, List.set_cons_zero, List.set_cons_succ]
      refine take_op (i := 4) (v := ?va4) rfl (by kernel_rfl) (by kernel_rfl) (by kernel_rfl) (fun _ _ _ h => h) rfl hHeld ?ya4 ?ra4
      case ya4 => (intro wz hz; go_simp; first | done | with_reducible rfl)
      try simp only [Act.put, List.setIfInBounds_toArray, List.set_cons_zero, List.set_cons_succ]
      refine take_op (i := 5) (v := ?va5) rfl (by kernel_rfl) (by kernel_rfl) (by kernel_rfl) (fun _ _ _ h => h) rfl hHeld ?ya5 ?ra5
      case ya5 => (intro wz hz; have hcz := (CELL.out wz hz).1; go_simp; first | done | with_reducible rfl)
      try simp only [Act.put, List.setIfInBounds_toArray, List.set_cons_zero, List.set_cons_succ]
      refine take_op (i := 6) (v := ?va6) rfl (by kernel_rfl) (by kernel_rfl) (by kernel_rfl) (fun _ _ _ h => h) rfl hHeld ?ya6 ?ra6
      case ya6 => (intro wz hz; go_simp; first | done | with_reducible rfl)
      try simp only [Act.put, List.setIfInBounds_toArray, List.set_cons_zero, List.set_cons_succ]
      refine take_op (i := 7) (v := ?va7) rfl (by kernel_rfl) (by kernel_rfl) (by kernel_rfl) (fun _ _ _ h => h) rfl hHeld ?ya7 ?ra7
      case ya7 => (intro wz hz; go_simp; first | done | with_reducible rfl)
      try simp only [Act.put, List.setIfInBounds_toArray, List.set_cons_zero, List.set_cons_succ]
      refine take_op (i := 8) (v := ?va8) rfl (by kernel_rfl) (by kernel_rfl) (by kernel_rfl) (fun _ _ _ h => h) rfl hHeld ?ya8 ?ra8
      case ya8 => (intro wz hz; go_simp; first | done | with_reducible rfl)
      try simp only [Act.put, List.setIfInBounds_toArray, List.set_cons_zero, List.set_cons_succ]
      refine take_op (i := 9) (v := ?va9) rfl (by kernel_rfl) (by kernel_rfl) (by kernel_rfl) (fun _ _ _ h => h) rfl hHeld ?ya9 ?ra9
      case ya9 => (intro wz hz; go_simp; first | done | with_reducible rfl)
      try simp only [Act.put, List.setIfInBounds_toArray, List.set_cons_zero, List.set_cons_succ]
      refine take_op (i := 10) (v := ?va10) rfl (by kernel_rfl) (by kernel_rfl) (by kernel_rfl) (fun _ _ _ h => h) rfl hHeld ?ya10 ?ra10
      case ya10 => (intro wz hz; have hcz := (CELL.out wz hz).2.1; go_simp; first | done | with_reducible rfl)
      try simp only [Act.put, List.setIfInBounds_toArray, List.set_cons_zero, List.set_cons_succ]
      have XC := compare_any wr.drew _ _ (x j).1 (x (j + 1)).1 (CELL.out wr.drew hb.drew).2.2.1 (CELL.out wr.drew hb.drew).2.2.2
      refine take_one (i := 11) rfl (by kernel_rfl) rfl (fun K hK => ?_)
      go_simp
      refine Calls.mono XC ?_
      rintro e w2 ⟨rfl, rfl⟩
      refine hK.out _ _ hb.drew (fun hHeld => ?_)
      clear hK K XC
      try simp only [Act.put, List.setIfInBounds_toArray, List.set_cons_zero, List.set_cons_succ]
      by_cases hge : cmpI (x j).1 (x (j + 1)).1 ≥ 0
      · have E : Hid (mayB x n = false) := (show mayB x n = false from by
          cases e : mayB x n with
          | false => rfl
          | true => have := (mayB_is x n).1 e j hlt; omega)
        refine take_op (i := 12) (v := ?vb12) rfl (by kernel_rfl) (by kernel_rfl) (by kernel_rfl) (fun _ _ _ h => h) rfl hHeld ?yb12 ?rb12
        case yb12 => (intro wz hz; go_simp; first | done | with_reducible rfl)
        try simp only [Act.put, List.setIfInBounds_toArray, List.set_cons_zero, List.set_cons_succ]
        refine wpAnyH_done (by kernel_rfl) ?_ _
        refine NoPanic.normal ?_
        have HB : Hid (Below w.heap.size w wr.drew) := (show Below w.heap.size w wr.drew from hb.drew)
        clear hb hHeld
        go_wp2
        go_ret
        exact ⟨by rw [E.out]; rfl, HB.out⟩
      · have HL : Hid (cmpI (x j).1 (x (j + 1)).1 < 0) := (show cmpI (x j).1 (x (j + 1)).1 < 0 from by omega)
        refine take_op (i := 12) (v := ?vc12) rfl (by kernel_rfl) (by kernel_rfl) (by kernel_rfl) (fun _ _ _ h => h) rfl hHeld ?yc12 ?rc12
        case yc12 => (intro wz hz; go_simp; first | done | with_reducible rfl)
        try simp only [Act.put, List.setIfInBounds_toArray, List.set_cons_zero, List.set_cons_succ]
        refine wpAnyH_done (by kernel_rfl) ?_ _
        refine NoPanic.normal ?_
        have HB : Hid (Below w.heap.size w wr.drew) := (show Below w.heap.size w wr.drew from hb.drew)
        clear hb hHeld
        go_wp2
        go_light
        refine ⟨⟨j + 1, Or.inl (by omega), by go_num, fun i hi => ?_, HB.out⟩, by simp [intOf]; omega⟩
        by_cases e : i = j
        · rw [e]; exact HL.out
        · exact HALL.out i (by omega)
    · have p1 : ¬ (j : Int) + 1 < (n : Int) := by omega
      have E : Hid (mayB x n = true) := (show mayB x n = true from (mayB_is x n).2 fun i hi => hall i (by omega))
      have HB : Hid (Below w.heap.size w wr) := (show Below w.heap.size w wr from hb)
      clear hall hb
      go_wp2
      go_ret
      exact ⟨by rw [E.out]; rfl, HB.out⟩
end Go.Proofs.YtkgegihkhdgdoaaDoor

/- What is shown: spots, in memory. -/
namespace Go.Proofs.YtkgegihkhdgdoaaDoor
set_option linter.unusedSimpArgs false
set_option linter.unusedVariables false
open Go.RowKit Go.Deep

/-- a spot: its place, its pair, its path. -/
structure Sp where
  at_ : Int
  pr : Pr
  path : List (List Int)
def inI64 (n : Int) : Prop := -9223372036854775808 ≤ n ∧ n ≤ 9223372036854775807
/-- v is a row of m spots. -/
def spotsAt (w : World) (v : Value) (m : Nat) (y : Nat → Sp) : Prop :=
  ∃ a cap, v = .slice a m cap ∧ m ≤ cap ∧ cap ≤ maxLen ∧ ∀ i, i < m → ∃ g o kc vc pc, a = some ⟨g, o, none⟩ ∧ g < w.heap.size ∧ w.cell? ⟨g, o + i * 4, none⟩ = some (.int .i64 (y i).at_) ∧ w.cell? ⟨g, o + i * 4 + 1, none⟩ = some kc ∧ w.cell? ⟨g, o + i * 4 + 2, none⟩ = some vc ∧ w.cell? ⟨g, o + i * 4 + 3, none⟩ = some pc ∧
    anyBytes w kc (y i).pr.1 ∧ anyBytes w vc (y i).pr.2 ∧ sumsAt w pc (y i).path ∧ inI64 (y i).at_
theorem spotsAt.below {w w' : World} {B : Nat} {v : Value} {m : Nat} {y : Nat → Sp} (h : spotsAt w v m y) (hb : Below B w w') (hB : w.heap.size ≤ B) : spotsAt w' v m y := by
  obtain ⟨a, cap, h1, h2, h3, h4⟩ := h
  refine ⟨a, cap, h1, h2, h3, fun i hi => ?_⟩
  obtain ⟨g, o, kc, vc, pc, e, hg, c0, c1, c2, c3, k1, k2, k3, k4⟩ := h4 i hi
  have hs := hb.size
  have hgB : g < B := by omega
  exact ⟨g, o, kc, vc, pc, e, by omega, (hb.cell (p := ⟨g, o + i * 4, none⟩) hgB).trans c0, (hb.cell (p := ⟨g, o + i * 4 + 1, none⟩) hgB).trans c1, (hb.cell (p := ⟨g, o + i * 4 + 2, none⟩) hgB).trans c2, (hb.cell (p := ⟨g, o + i * 4 + 3, none⟩) hgB).trans c3, k1.below hb hB, k2.below hb hB, k3.below hb hB, k4⟩
/-- .., opened at a place, in any later world. -/
theorem spotsAt.at {w : World} {v : Value} {m : Nat} {y : Nat → Sp} (h : spotsAt w v m y) (h0 : 0 < m) : ∃ g o cap, v = .slice (some ⟨g, o, none⟩) m cap ∧ g < w.heap.size ∧ ∀ i, i < m → ∃ ka kcap va vcap pa pcap, inI64 (y i).at_ ∧ ∀ wz, Below w.heap.size w wz →
    wz.cell? ⟨g, o + i * 4, none⟩ = some (.int .i64 (y i).at_) ∧ wz.cell? ⟨g, o + i * 4 + 1, none⟩ = some (.slice ka (y i).pr.1.length kcap) ∧ wz.cell? ⟨g, o + i * 4 + 2, none⟩ = some (.slice va (y i).pr.2.length vcap) ∧ wz.cell? ⟨g, o + i * 4 + 3, none⟩ = some (.slice pa (y i).path.length pcap) ∧
    anyBytes wz (.slice ka (y i).pr.1.length kcap) (y i).pr.1 ∧ anyBytes wz (.slice va (y i).pr.2.length vcap) (y i).pr.2 ∧ sumsAt wz (.slice pa (y i).path.length pcap) (y i).path := by
  obtain ⟨a, cap, rfl, h2, h3, h4⟩ := h
  obtain ⟨g, o, _, _, _, e0, hg, _⟩ := h4 0 h0
  refine ⟨g, o, cap, by rw [e0], hg, fun i hi => ?_⟩
  obtain ⟨g', o', kc, vc, pc, e, hg', c0, c1, c2, c3, k1, k2, k3, k4⟩ := h4 i hi
  obtain ⟨rfl, rfl⟩ : g = g' ∧ o = o' := by
    have := e0.symm.trans e
    simpa using this
  obtain ⟨ka, kcap, rfl, _⟩ := k1.slice
  obtain ⟨va, vcap, rfl, _⟩ := k2.slice
  obtain ⟨pa, pcap, hpe⟩ : ∃ a c, pc = .slice a (y i).path.length c := by obtain ⟨_, a, c, e, _⟩ := k3; exact ⟨a, c, e⟩
  subst hpe
  exact ⟨ka, kcap, va, vcap, pa, pcap, k4, fun wz hz => ⟨(hz.cell (p := ⟨g, o + i * 4, none⟩) hg).trans c0, (hz.cell (p := ⟨g, o + i * 4 + 1, none⟩) hg).trans c1, (hz.cell (p := ⟨g, o + i * 4 + 2, none⟩) hg).trans c2, (hz.cell (p := ⟨g, o + i * 4 + 3, none⟩) hg).trans c3, k1.below hz (Nat.le_refl _), k2.below hz (Nat.le_refl _), k3.below hz (Nat.le_refl _)⟩⟩
/-- what is shown says something of a key. -/
def saysB (cnt : Int) (m : Nat) (y : Nat → Sp) (key : List Int) : Bool :=
  if m = 0 then decide (cnt = 0)
  else if m = 1 then decide (cmpI (y 0).pr.1 key = 0 ∨ (0 < cmpI (y 0).pr.1 key ∧ (y 0).at_ = 0) ∨ (cmpI (y 0).pr.1 key < 0 ∧ (y 0).at_ = cnt - 1))
  else if m = 2 then decide (cmpI (y 0).pr.1 key < 0 ∧ 0 < cmpI (y 1).pr.1 key ∧ 0 ≤ (y 0).at_ ∧ (y 1).at_ = (y 0).at_ + 1)
  else false
end Go.Proofs.YtkgegihkhdgdoaaDoor

/- keyed.says. -/
namespace Go.Proofs.YtkgegihkhdgdoaaDoor
set_option linter.unusedSimpArgs false
set_option linter.unusedVariables false
open Go.RowKit Go.Deep

set_option maxHeartbeats 4000000 in
set_option maxRecDepth 100000 in
theorem says_one (cnt : Int) (hcn : 0 ≤ cnt ∧ cnt ≤ 9223372036854775807) (v tv : Value) (y : Nat → Sp) (key : List Int) (w : World) (hp : spotsAt w v 1 y) (hk : anyBytes w tv key) :
    Calls Tryd.prog 47 #[.agg #[.int .i64 cnt, v], tv] w fun e w' => e = .returned (.bool (saysB cnt 1 y key)) ∧ Below w.heap.size w w' := by
  obtain ⟨g, o, cap, rfl, hg, hc⟩ := hp.at (by omega)
  obtain ⟨ka, kcap, va, vcap, pa, pcap, hin, H⟩ := hc 0 (by omega)
  obtain ⟨w1, hw1⟩ : ∃ w1, w1 = w.alloc (.cells #[.int .i64 cnt, .slice (some ⟨g, o, none⟩) 1 cap] 29) := ⟨_, rfl⟩
  have b1 : Below w.heap.size w w1 := by rw [hw1]; exact (Below.refl _ _).alloc (Nat.le_refl _) _
  have z1 : w1.heap.size = w.heap.size + 1 := by rw [hw1]; simp
  have hb0 : w1.heap[w.heap.size]? = some (.cells #[.int .i64 cnt, .slice (some ⟨g, o, none⟩) 1 cap] 29) := by rw [hw1, blk_alloc_new]
  obtain ⟨w2, hw2⟩ : ∃ w2, w2 = w1.alloc (.cells #[.int .i64 (y 0).at_, .slice ka (y 0).pr.1.length kcap, .slice va (y 0).pr.2.length vcap, .slice pa (y 0).path.length pcap] 41) := ⟨_, rfl⟩
  have b2 : Below w1.heap.size w1 w2 := by rw [hw2]; exact (Below.refl _ _).alloc (Nat.le_refl _) _
  have hb2 : w2.heap[w1.heap.size]? = some (.cells #[.int .i64 (y 0).at_, .slice ka (y 0).pr.1.length kcap, .slice va (y 0).pr.2.length vcap, .slice pa (y 0).path.length pcap] 41) := by rw [hw2, blk_alloc_new]
  have b02 : Below w.heap.size w w2 := b1.trans (b2.mono (by omega))
  have c0 : w1.cell? ⟨w.heap.size, 0, none⟩ = some (.int .i64 cnt) := by rw [cell_of_row _ _ _ _ _ _ hb0]; rfl
  have c1 : w1.cell? ⟨w.heap.size, 1, none⟩ = some (.slice (some ⟨g, o, none⟩) 1 cap) := by rw [cell_of_row _ _ _ _ _ _ hb0]; rfl
  have d0 : w2.cell? ⟨w.heap.size, 0, none⟩ = some (.int .i64 cnt) := (b2.cell (p := ⟨w.heap.size, 0, none⟩) (by show w.heap.size < _; omega)).trans c0
  have e0 : w2.cell? ⟨w1.heap.size, 0, none⟩ = some (.int .i64 (y 0).at_) := by rw [cell_of_row _ _ _ _ _ _ hb2]; rfl
  have e1 : w2.cell? ⟨w1.heap.size, 1, none⟩ = some (.slice ka (y 0).pr.1.length kcap) := by rw [cell_of_row _ _ _ _ _ _ hb2]; rfl
  obtain ⟨s0, s1, s2, s3, _, _, _⟩ := H w1 b1
  simp only [Nat.zero_mul, Nat.add_zero] at s0 s1 s2 s3
  have X := compare_any w2 _ tv (y 0).pr.1 key (H w2 b02).2.2.2.2.1 (hk.below b02 (Nat.le_refl _))
  obtain ⟨ta, tcap, rfl, _⟩ := hk.slice
  have B02 : Hid (Below w.heap.size w w2) := (show Below w.heap.size w w2 from b02)
  have hwc : IntKind.wrap .i64 (cnt - 1) = cnt - 1 := IntWalk.i64_in _ ⟨by omega, by omega⟩
  have ES : Hid (saysB cnt 1 y key = decide (cmpI (y 0).pr.1 key = 0 ∨ (0 < cmpI (y 0).pr.1 key ∧ (y 0).at_ = 0) ∨ (cmpI (y 0).pr.1 key < 0 ∧ (y 0).at_ = cnt - 1))) := (show saysB cnt 1 y key = decide (cmpI (y 0).pr.1 key = 0 ∨ (0 < cmpI (y 0).pr.1 key ∧ (y 0).at_ = 0) ∨ (cmpI (y 0).pr.1 key < 0 ∧ (y 0).at_ = cnt - 1)) from by unfold saysB; rw [if_neg (by omega), if_pos rfl])
  clear hp hc H hk b1 b2 b02 hb0 hb2 hg z1
  go_enter Tryd.func47, Tryd.ntmps47
  go_upto_region 1 with fail
  rw [← hw1]
  clear hw1
  go_upto_region 6 with fail
  rw [← hw2]
  clear hw2 s0 s1 s2 s3 c0 c1
  go_wp2_with fail
  refine X.mono ?_
  rintro e w' ⟨rfl, hw⟩
  obtain rfl := hw.symm
  clear X hw e1
  generalize cmpI (y 0).pr.1 key = cm at ES ⊢
  by_cases h0 : cm = 0
  · have EV : Hid (saysB cnt 1 y key = true) := (show saysB cnt 1 y key = true from by rw [ES.out]; exact decide_eq_true (Or.inl h0))
    clear ES
    go_wp2
    go_ret
    exact ⟨by rw [EV.out]; rfl, B02.out⟩
  have hb0 : (cm == 0) = false := by simp [h0]
  by_cases h1 : 0 < cm
  · have h1' : cm > 0 := h1
    have h2 : ¬ cm < 0 := by omega
    by_cases h3 : (y 0).at_ = 0
    · have EV : Hid (saysB cnt 1 y key = true) := (show saysB cnt 1 y key = true from by rw [ES.out]; exact decide_eq_true (Or.inr (Or.inl ⟨h1, h3⟩)))
      clear ES
      go_wp2
      go_ret
      exact ⟨by rw [EV.out]; rfl, B02.out⟩
    · have hb3 : ((y 0).at_ == 0) = false := by simp [h3]
      have EV : Hid (saysB cnt 1 y key = false) := (show saysB cnt 1 y key = false from by rw [ES.out]; exact decide_eq_false (by omega))
      clear ES
      go_wp2
      go_ret
      exact ⟨by rw [EV.out]; rfl, B02.out⟩
  · have h1' : ¬ cm > 0 := h1
    have h2 : cm < 0 := by omega
    by_cases h3 : (y 0).at_ = cnt - 1
    · have EV : Hid (saysB cnt 1 y key = true) := (show saysB cnt 1 y key = true from by rw [ES.out]; exact decide_eq_true (Or.inr (Or.inr ⟨h2, h3⟩)))
      clear ES
      go_wp2
      go_ret
      exact ⟨by rw [EV.out]; rfl, B02.out⟩
    · have hb3 : ((y 0).at_ == cnt - 1) = false := by simp [h3]
      have EV : Hid (saysB cnt 1 y key = false) := (show saysB cnt 1 y key = false from by rw [ES.out]; exact decide_eq_false (by omega))
      clear ES
      go_wp2
      go_ret
      exact ⟨by rw [EV.out]; rfl, B02.out⟩
end Go.Proofs.YtkgegihkhdgdoaaDoor

namespace Go.Proofs.YtkgegihkhdgdoaaDoor
open Go.RowKit Go.Deep

set_option maxHeartbeats 1000000 in
theorem num_any (l : List Int) (v u : Value) (n : Nat) (f : Nat → Int) (w : World) (hv : isBytes w v l) (hu : isRow w u n (fun i => .int .u64 (f i))) (hf : ∀ i, i < n → 0 ≤ f i ∧ f i < 18446744073709551616) (hs : l.length + 9 * n ≤ 1000000000000) :
    Calls Tryd.prog 53 #[v, u] w fun e w' => ∃ v', e = .returned v' ∧ newBytes w' w.heap.size v' (l ++ flatTo (numsB f) n) ∧ Below w.heap.size w w' := by
  obtain ⟨a, cap, rfl, hnm, hcell⟩ := hu.open
  clear hu
  have hlen := flatTo_len_le (numsB f) 9 (numsB_le f)
  go_enter Tryd.func53, Tryd.ntmps53
  go_wp2
  go_loopw [5, 13] (fun z i wr => ∃ k : Nat, k ≤ n ∧ i = .int .i64 k ∧ z = .int .i64 ((flatTo (numsB f) k).length : Int) ∧ wr = w) (fun _ i _ => n - (intOf i).toNat)
  case atStart => exact ⟨0, by omega, rfl, rfl, rfl⟩
  case round =>
    obtain ⟨k, hk, rfl, rfl, hwr⟩ := hrel
    obtain rfl := hwr.symm
    clear hwr
    have hlk := hlen k
    by_cases hlt : k < n
    · obtain ⟨qb, qo, rfl, hq, hc⟩ := hcell k hlt
      obtain ⟨f0, f1⟩ := hf k hlt
      have b0 : (0 : Int) ≤ (k : Int) := by omega
      have b1 : (k : Int) < (n : Int) := by omega
      have hsz := szI_le (f k)
      have HL : Hid ((flatTo (numsB f) (k + 1)).length = (flatTo (numsB f) k).length + (1 + szI (f k))) := by
        have : (flatTo (numsB f) (k + 1)).length = (flatTo (numsB f) k).length + (1 + szI (f k)) := by rw [flatTo, List.length_append, numsB, numB_length]
        exact this
      generalize hLL : (flatTo (numsB f) k).length = L at *
      have hL : (L : Int) ≤ 1000000000000 := by omega
      go_wp2_with (first | (go_at_call 78; refine (numberSize_any (f k) f0 f1 _).mono ?_; rintro e w' ⟨rfl, hw⟩; obtain rfl := hw.symm; clear hw))
      go_light
      exact ⟨⟨k + 1, by omega, by go_num, by rw [HL.out]; go_num, trivial⟩, by simp [intOf]; omega⟩
    · obtain rfl : k = n := by omega
      have hL9 := hlen k
      generalize hLL : (flatTo (numsB f) k).length = L at *
      go_wp2_with (first | (go_at_call 79; refine (withRoom_any l v L _ hv (by omega)).mono ?_; rintro e w1 ⟨v1, rfl, hn1, hb1⟩))
      have HN : Hid _ := hn1
      have HB : Hid _ := hb1
      clear hn1 hb1 hLL
      go_loopw [8, 27] (fun z i wr => ∃ j : Nat, j ≤ k ∧ i = .int .i64 j ∧ newBytes wr w.heap.size z (l ++ flatTo (numsB f) j) ∧ Below w.heap.size w wr) (fun _ i _ => k - (intOf i).toNat)
      case atStart => exact ⟨0, by omega, rfl, by rw [flatTo, List.append_nil]; exact HN.out, HB.out⟩
      case round =>
        clear HN HB
        obtain ⟨j, hj, rfl, hn, hb⟩ := hrel
        by_cases hlt2 : j < k
        · obtain ⟨qb, qo, rfl, hq, hc⟩ := hcell j hlt2
          obtain ⟨f0, f1⟩ := hf j hlt2
          have b0 : (0 : Int) ≤ (j : Int) := by omega
          have b1 : (j : Int) < (k : Int) := by omega
          have hlj := hlen j
          rw [← hb.cell (p := ⟨qb, qo + j, none⟩) hq] at hc
          have HN : Hid _ := hn
          clear hn
          go_wp2_with (first | (go_at_call 80; refine (addNumber_any (f j) f0 f1 _ _ _ _ HN.out (by rw [List.length_append]; omega) hb.size).mono ?_; rintro e w2 ⟨v2, rfl, hn2, hb2⟩))
          go_light
          exact ⟨⟨j + 1, by omega, by go_num, by rw [flatTo, ← List.append_assoc]; exact hn2, hb.trans hb2⟩, by simp [intOf]; omega⟩
        · obtain rfl : j = k := by omega
          have HN : Hid _ := hn
          clear hn
          go_wp2
          go_ret
          exact ⟨_, rfl, HN.out, hb⟩
end Go.Proofs.YtkgegihkhdgdoaaDoor

/- The document's Node and Root. -/
namespace Go.Proofs.YtkgegihkhdgdoaaDoor
set_option linter.unusedSimpArgs false
set_option linter.unusedVariables false
open Go.RowKit Go.Deep

theorem build_sl2 (a b : Value) (ha : a.oneCell' = true) (hb : b.oneCell' = true) (w : World) (x y : Option Addr) (m n c d : Nat) (ea : a = .slice x m c) (eb : b = .slice y n d) : (Instr.buildSlice 130 2 #[(0, a), (1, b)]).run Tryd.prog w = .ok (.slice (some ⟨w.heap.size, 0, none⟩) 2 2) (w.alloc (.cells #[a, b] 23)) := by
  subst ea eb
  show (_ : Result Value) = _
  kernel_rfl
theorem row_bytes {w : World} {b : Nat} {t : TypeId} {p : List Int} (h : w.rowIs b t 32 (arrV p)) (hp : isSum p) : isBytes w (.slice (some ⟨b, 0, none⟩) 32 32) p :=
  Or.inr ⟨b, 0, 32, by rw [hp.1], by rw [hp.1]; exact Nat.le_refl _, by unfold maxLen; omega, h.lt, fun i hi => by rw [Nat.zero_add, h.cell (by rw [hp.1] at hi; exact hi)]; rfl, hp.2⟩
set_option maxHeartbeats 2000000 in
set_option maxRecDepth 100000 in
theorem rnode_any (p q : List Int) (w : World) (hp : isSum p) (hq : isSum q) :
    Calls Tryd.prog 75 #[.agg (rowV 32 (arrV p)), .agg (rowV 32 (arrV q))] w fun e w' => e = .returned (sumV (nodeS [p, q])) ∧ Below w.heap.size w w' := by
  have hz32 := zero_s32
  obtain ⟨w1, hw1⟩ : ∃ w1, w1 = w.alloc (.cells (rowV 32 (arrV p)) 32) := ⟨_, rfl⟩
  have r1 : w1.rowIs w.heap.size 32 32 (arrV p) := by rw [hw1]; exact rowIs_box w _ _ _
  have b1 : Below w.heap.size w w1 := by rw [hw1]; exact (Below.refl _ _).alloc (Nat.le_refl _) _
  have s1 : w1.heap.size = w.heap.size + 1 := by rw [hw1]; simp
  obtain ⟨w2, hw2⟩ : ∃ w2, w2 = w1.alloc (.cells (rowV 32 (arrV q)) 32) := ⟨_, rfl⟩
  have r2 : w2.rowIs w1.heap.size 32 32 (arrV q) := by rw [hw2]; exact rowIs_box w1 _ _ _
  have b2 : Below w1.heap.size w1 w2 := by rw [hw2]; exact (Below.refl _ _).alloc (Nat.le_refl _) _
  have s2 : w2.heap.size = w.heap.size + 2 := by rw [hw2]; simp; omega
  obtain ⟨w3, hw3⟩ : ∃ w3, w3 = w2.alloc (.cells (rowV 32 (fun _ => .int .u8 0)) 32) := ⟨_, rfl⟩
  have r3 : w3.rowIs w2.heap.size 32 32 (fun _ => .int .u8 0) := by rw [hw3]; exact rowIs_box w2 _ _ _
  have b3 : Below w2.heap.size w2 w3 := by rw [hw3]; exact (Below.refl _ _).alloc (Nat.le_refl _) _
  have s3 : w3.heap.size = w.heap.size + 3 := by rw [hw3]; simp; omega
  rw [s1] at r2
  rw [s2] at r3
  have bw3 : Below w.heap.size w w3 := (b1.trans (b2.mono (by omega))).trans (b3.mono (by omega))
  have p3 : w3.rowIs w.heap.size 32 32 (arrV p) := b3.row (b2.row r1 (by omega)) (by omega)
  have q3 : w3.rowIs (w.heap.size + 1) 32 32 (arrV q) := b3.row r2 (by omega)
  obtain ⟨w4, hw4⟩ : ∃ w4, w4 = w3.drew.alloc (.cells #[.slice (some ⟨w.heap.size, 0, none⟩) 32 32, .slice (some ⟨w.heap.size + 1, 0, none⟩) 32 32] 23) := ⟨_, rfl⟩
  have b4 : Below w3.heap.size w3 w4 := by rw [hw4]; exact ((Below.refl w3.heap.size w3).drew).alloc (Nat.le_refl _) _
  have s4 : w3.heap.size < w4.heap.size := by rw [hw4]; simp
  have bs := build_sl2 (.slice (some ⟨w.heap.size, 0, none⟩) 32 32) (.slice (some ⟨w.heap.size + 1, 0, none⟩) 32 32) rfl rfl w3.drew _ _ _ _ _ _ rfl rfl
  rw [← hw4] at bs
  have hpp : isParts w4 (.slice (some ⟨w3.drew.heap.size, 0, none⟩) 2 2) 2 (fun i => [p, q].getD i []) := by
    have hr := rowIs_new w3.drew #[.slice (some ⟨w.heap.size, 0, none⟩) 32 32, .slice (some ⟨w.heap.size + 1, 0, none⟩) 32 32] 23 2 (fun i => if i = 0 then .slice (some ⟨w.heap.size, 0, none⟩) 32 32 else .slice (some ⟨w.heap.size + 1, 0, none⟩) 32 32) rfl (fun i hi => by
      have : i = 0 ∨ i = 1 := by omega
      rcases this with rfl | rfl <;> rfl)
    rw [← hw4] at hr
    refine Or.inr ⟨w3.drew.heap.size, 0, 2, fun i => if i = 0 then .slice (some ⟨w.heap.size, 0, none⟩) 32 32 else .slice (some ⟨w.heap.size + 1, 0, none⟩) 32 32, rfl, s4, by unfold maxLen; omega, fun i hi => ?_⟩
    rw [Nat.zero_add]
    refine ⟨hr.cell hi, ?_⟩
    have : i = 0 ∨ i = 1 := by omega
    rcases this with rfl | rfl
    · exact Or.inl (row_bytes (b4.row p3 (by omega)) hp)
    · exact Or.inl (row_bytes (b4.row q3 (by omega)) hq)
  have X := rof_any 2 2 _ _ w4 hpp.any (nodeS_light [p, q] (by simp) (fun x hx => by
    rcases List.mem_cons.1 hx with rfl | hx
    · exact hp
    · rw [List.mem_singleton.1 hx]; exact hq))
  have X' : Calls Tryd.prog 72 #[.int .i64 2, .slice (some ⟨w3.drew.heap.size, 0, none⟩) 2 2] w4 fun e w' => e = .returned (.agg (rowV 32 (arrV (nodeS [p, q])))) ∧ Below w4.heap.size w4 w' := X
  clear X hw4
  unfold sumV
  go_enter Tryd.func75, Tryd.ntmps75
  go_upto_region 1 with fail
  rw [← hw1]
  rw [← hw2]
  rw [← hw3]
  have S : Hid (w1.heap.size = w.heap.size + 1 ∧ w2.heap.size = w.heap.size + 2 ∧ w3.heap.size = w.heap.size + 3 ∧ w3.heap.size < w4.heap.size) := (show w1.heap.size = w.heap.size + 1 ∧ w2.heap.size = w.heap.size + 2 ∧ w3.heap.size = w.heap.size + 3 ∧ w3.heap.size < w4.heap.size from ⟨s1, s2, s3, s4⟩)
  have BW : Hid _ := bw3
  have B4 : Hid _ := b4
  have R3 : Hid _ := r3
  clear hw1 hw2 hw3 hz32 s1 s2 s3 s4 bw3 b4 r3 r1 r2 b1 b2 b3 p3 q3 hpp
  refine wp_region_noPanic ?_
  refine wp_region_held_drew (S := fun w' => True) (by kernel_rfl) trivial (fun hHeld => ?_)
  refine take_op (i := 0) (v := ?va0) rfl (by kernel_rfl) (by kernel_rfl) (by kernel_rfl) (fun _ _ _ h => h) rfl hHeld ?ya0 ?ra0
  case ya0 => (intro wz hz; go_simp; first | done | with_reducible rfl)
  try simp only [Act.put, List.setIfInBounds_toArray, List.set_cons_zero, List.set_cons_succ]
  refine take_op (i := 1) (v := ?va1) rfl (by kernel_rfl) (by kernel_rfl) (by kernel_rfl) (fun _ _ _ h => h) rfl hHeld ?ya1 ?ra1
  case ya1 => (intro wz hz; go_simp; first | done | with_reducible rfl)
  try simp only [Act.put, List.setIfInBounds_toArray, List.set_cons_zero, List.set_cons_succ]
  refine take_one (i := 2) rfl (by kernel_rfl) rfl (fun K hK => ?_)
  refine wp_of_run (exec_bslice2' 130 2 0 1 (.tmp 5) (.tmp 6) _ _ rfl rfl rfl bs) ?_
  refine hK.out _ _ trivial (fun hHeld => ?_)
  clear hK K bs
  try simp only [Act.put, List.setIfInBounds_toArray, List.set_cons_zero, List.set_cons_succ]
  refine take_one (i := 3) rfl (by kernel_rfl) rfl (fun K hK => ?_)
  go_simp
  refine Calls.mono X' ?_
  rintro e w5 ⟨rfl, b5⟩
  clear X'
  have hs := S.out
  have s5 := b5.size
  have r5 : w5.rowIs (w.heap.size + 2) 32 32 (fun _ => .int .u8 0) := b5.row (B4.out.row R3.out (by omega)) (by omega)
  have bw5 : Below w.heap.size w w5 := (BW.out.trans (B4.out.mono (by omega))).trans (b5.mono (by omega))
  refine hK.out _ _ trivial (fun hHeld => ?_)
  clear hK K
  try simp only [Act.put, List.setIfInBounds_toArray, List.set_cons_zero, List.set_cons_succ]
  refine take_one (i := 4) rfl (by kernel_rfl) rfl (fun K hK => ?_)
  have hst := stow32T_run w5 (w.heap.size + 2) (nodeS [p, q]) r5
  have h9 := stow32T_row w5 (w.heap.size + 2) (nodeS [p, q]) r5
  have r9 := h9.1
  have hz9 := h9.2.1
  have hb9 := h9.2.2
  clear h9
  unfold Oper.wp execOp
  simp only [Instr.storeAt, Instr.sureAddr, Sem.run_bind, Sem.run_pure, Result.andThen_ok]
  simp [Act.eval, hst, Oper.upon]
  clear hst
  generalize w5.setCells ((w.heap.size + 2)) 0 (rowV 32 (arrV ((nodeS [p, q])))).toList = w9 at r9 hz9 hb9 ⊢
  refine hK.out _ _ trivial (fun hHeld => ?_)
  clear hK K hHeld
  try simp only [Act.put, List.setIfInBounds_toArray, List.set_cons_zero, List.set_cons_succ]
  refine wpAnyH_done (by kernel_rfl) ?_ _
  refine NoPanic.normal ?_
  have RES : Hid (Below w.heap.size w w9) := (show Below w.heap.size w w9 from bw5.trans (hb9.below' (by omega) bw5.size))
  clear bw5 b5 hb9 r5 hs
  go_wp2
  exact bodyPost_ret (results_cell_seg rfl _ _ (w.heap.size + 2) 32 32 (arrV (nodeS [p, q])) _ rfl Tryd.underlying32 rfl hi32' r9) rfl ⟨rfl, RES.out⟩
set_option maxHeartbeats 2000000 in
set_option maxRecDepth 100000 in
theorem rroot_small (L : List (List Int)) (v : Value) (w : World) (hn : L.length ≤ 1) (h : sumsAt w v L) :
    Calls Tryd.prog 42 #[v] w fun e w' => e = .returned (sumV (rootS L)) ∧ Below w.heap.size w w' := by
  have hz32 := zero_s32
  obtain ⟨w1, hw1⟩ : ∃ w1, w1 = w.alloc (.cells (rowV 32 (fun _ => .int .u8 0)) 32) := ⟨_, rfl⟩
  have r1 : w1.rowIs w.heap.size 32 32 (fun _ => .int .u8 0) := by rw [hw1]; exact rowIs_box w _ _ _
  have b1 : Below w.heap.size w w1 := by rw [hw1]; exact (Below.refl _ _).alloc (Nat.le_refl _) _
  have s1 : w1.heap.size = w.heap.size + 1 := by rw [hw1]; simp
  by_cases h0 : L.length = 0
  · have X := rof_any 2 0 (.slice none 0 0) (fun i => ([] : List (List Int)).getD i []) w1 (Or.inl (Or.inl ⟨rfl, rfl⟩)) (nodeS_light [] (by simp) (fun x hx => by simp at hx))
    have ES := rootS_none h0
    have X' : Calls Tryd.prog 72 #[.int .i64 2, .slice none 0 0] w1 fun e w' => e = .returned (.agg (rowV 32 (arrV (rootS L)))) ∧ Below w1.heap.size w1 w' := by rw [ES]; exact X
    unfold sumV
    clear X ES
    obtain ⟨_, a, cap, rfl, _, _, _⟩ := h
    rw [h0]
    go_enter Tryd.func42, Tryd.ntmps42
    go_upto_region 1 with fail
    rw [← hw1]
    have S1 : Hid _ := s1
    clear hw1 hz32 s1
    go_wp2_with fail
    refine X'.mono ?_
    rintro e wx ⟨rfl, bx⟩
    clear X'
    have s1 := S1.out
    have sx := bx.size
    have rx := bx.row r1 (by omega)
    have BX : Hid _ := b1.trans (bx.mono (by omega))
    clear bx s1 r1
    go_wp2_with (first | (refine wpList_store_row rfl 32 _ _ rfl rfl w.heap.size 0 32 (arrV (rootS L)) rfl rfl hi32' (fun _ _ => rfl) _ _ _ rx (by omega) ?_; intro w6 r6 hz6 hb6))
    exact bodyPost_ret (results_cell_seg rfl _ _ w.heap.size 32 32 (arrV (rootS L)) _ rfl Tryd.underlying32 rfl hi32' (r6.congr fun i hi => by rw [if_pos (by omega), Nat.sub_zero])) rfl ⟨rfl, BX.out.trans (hb6.below' (Nat.le_refl _) (Below.size BX.out))⟩
  · have h1 : L.length = 1 := by omega
    have ES : rootS L = L[0] := by rw [rootS_one h1, List.getD_eq_getElem?_getD, List.getElem?_eq_getElem (by omega)]; rfl
    obtain ⟨hs, a, cap, rfl, hc1, hm1, hcl⟩ := h
    obtain ⟨g, o, rfl, hg, hcell⟩ := hcl (by omega)
    have ld : ∀ j, j < 32 → w1.cell? ⟨g, o + j, none⟩ = some (arrV (rootS L) j) := fun j hj => by
      have := hcell 0 (by omega) j hj
      rw [show o + 0 * 32 + j = o + j by omega] at this
      rw [b1.cell (p := ⟨g, o + j, none⟩) hg, this, ES]
    have LD : Hid _ := ld
    clear ld hcell hcl hs ES
    rw [h1]
    unfold sumV
    go_enter Tryd.func42, Tryd.ntmps42
    go_upto_region 1 with fail
    rw [← hw1]
    have S1 : Hid _ := s1
    clear hw1 hz32 s1
    go_wp2_with (first | (refine wpList_load_seg rfl 32 _ rfl g o 32 (arrV (rootS L)) rfl _ Tryd.underlying32 rfl hi32' LD.out ?_) | (refine wpList_store_row rfl 32 _ _ rfl rfl w.heap.size 0 32 (arrV (rootS L)) rfl rfl hi32' (fun _ _ => rfl) _ _ _ r1 (by omega) ?_; intro w6 r6 hz6 hb6))
    have s1 := S1.out
    exact bodyPost_ret (results_cell_seg rfl _ _ w.heap.size 32 32 (arrV (rootS L)) _ rfl Tryd.underlying32 rfl hi32' (r6.congr fun i hi => by rw [if_pos (by omega), Nat.sub_zero])) rfl ⟨rfl, b1.trans (hb6.below' (Nat.le_refl _) (by omega))⟩
set_option maxHeartbeats 2000000 in
set_option maxRecDepth 100000 in
theorem rroot_any : ∀ (n : Nat) (L : List (List Int)) (v : Value) (w : World), L.length ≤ n → n ≤ 1000 → sumsAt w v L →
    Calls Tryd.prog 42 #[v] w fun e w' => e = .returned (sumV (rootS L)) ∧ Below w.heap.size w w' := by
  intro n
  induction n with
  | zero =>
    intro L v w hn h1000 h
    exact rroot_small L v w (by omega) h
  | succ n ih =>
  intro L v w hn h1000 h
  by_cases hsm : L.length ≤ 1
  · exact rroot_small L v w hsm h
  have h2 : 2 ≤ L.length := by omega
  have hh := half_take h2
  have hz32 := zero_s32
  obtain ⟨w1, hw1⟩ : ∃ w1, w1 = w.alloc (.cells (rowV 32 (fun _ => .int .u8 0)) 32) := ⟨_, rfl⟩
  have r1 : w1.rowIs w.heap.size 32 32 (fun _ => .int .u8 0) := by rw [hw1]; exact rowIs_box w _ _ _
  have b1 : Below w.heap.size w w1 := by rw [hw1]; exact (Below.refl _ _).alloc (Nat.le_refl _) _
  have s1 : w1.heap.size = w.heap.size + 1 := by rw [hw1]; simp
  have X1 := rhalf_any (L.length : Int) (by omega) (by omega) w1
  obtain ⟨ua, ra, sa, oa, xa, ya, rfl⟩ := h.to' (halfN L.length) (by omega)
  obtain ⟨ub, rb, sb, ob, xb, yb, rfl⟩ := h.from' (halfN L.length) (by omega)
  obtain ⟨TL, hTL⟩ : ∃ TL, TL = L.take (halfN L.length) := ⟨_, rfl⟩
  obtain ⟨DL, hDL⟩ : ∃ DL, DL = L.drop (halfN L.length) := ⟨_, rfl⟩
  have ES : rootS L = nodeS [rootS TL, rootS DL] := by rw [hTL, hDL]; exact rootS_more h2
  have hsT : isSum (rootS TL) := rootS_sum (by rw [hTL]; exact sa.1)
  have hsD : isSum (rootS DL) := rootS_sum (by rw [hDL]; exact sb.1)
  have lT : TL.length = halfN L.length := by rw [hTL]; exact hh.1
  have lD : DL.length = L.length - halfN L.length := by rw [hDL]; exact hh.2.1
  rw [← hTL] at sa
  rw [← hDL] at sb
  have XA := ih TL _ w1.drew (by omega) (by omega) ((sa.below b1 (Nat.le_refl _)).below ((Below.refl _ _).drew) (Nat.le_refl _))
  unfold sumV at XA ⊢
  have HES : Hid _ := ES
  have hsl : ∃ a cap, v = .slice a L.length cap := by
    obtain ⟨_, a, cap, e, _⟩ := h; exact ⟨a, cap, e⟩
  obtain ⟨va, vc, rfl⟩ := hsl
  have q0 : (2 : Int) ≤ (L.length : Int) := by omega
  have q1 : (L.length : Int) ≤ 1001 := by omega
  have n0 : ¬ (L.length : Int) = 0 := by omega
  have n1 : ¬ (L.length : Int) = 1 := by omega
  have hI : halfI (L.length : Int) = (halfN L.length : Int) := by unfold halfI; rw [Int.toNat_natCast]
  rw [hI] at X1
  have hh2 := hh.2.2
  clear hI ES hTL hDL hh hsm
  go_enter Tryd.func42, Tryd.ntmps42
  go_upto_region 1 with fail
  rw [← hw1]
  have S1 : Hid _ := s1
  have R1 : Hid _ := r1
  have B1 : Hid _ := b1
  have SB : Hid _ := sb
  clear hw1 hz32 s1 r1 b1 sa sb h oa ob
  go_wp2_with fail
  refine X1.mono ?_
  rintro e w' ⟨rfl, hw⟩
  obtain rfl := hw.symm
  clear X1 hw
  go_upto_region 6 with fail
  refine wp_region_noPanic ?_
  refine wp_region_held_drew (S := fun w' => True) (by kernel_rfl) trivial (fun hHeld => ?_)
  refine take_op (i := 0) (v := ?va0) rfl (by kernel_rfl) (by kernel_rfl) (by kernel_rfl) (fun _ _ _ h => h) rfl hHeld ?ya0 ?ra0
  case ya0 => (intro wz hz; go_simp; first | done | with_reducible rfl)
  try simp only [Act.put, List.setIfInBounds_toArray, List.set_cons_zero, List.set_cons_succ]
  refine take_op (i := 1) (v := ?va1) rfl (by kernel_rfl) (by kernel_rfl) (by kernel_rfl) (fun _ _ _ h => h) rfl hHeld ?ya1 ?ra1
  case ya1 => (intro wz hz; go_simp; first | done | with_reducible rfl)
  try simp only [Act.put, List.setIfInBounds_toArray, List.set_cons_zero, List.set_cons_succ]
  refine take_op (i := 2) (v := ?va2) rfl (by kernel_rfl) (by kernel_rfl) (by kernel_rfl) (fun _ _ _ h => h) rfl hHeld ?ya2 ?ra2
  case ya2 => (intro wz hz; have hcz := ra wz; go_simp; first | done | with_reducible rfl)
  try simp only [Act.put, List.setIfInBounds_toArray, List.set_cons_zero, List.set_cons_succ]
  refine take_op (i := 4) (v := ?va4) rfl (by kernel_rfl) (by kernel_rfl) (by kernel_rfl) (fun _ _ _ h => h) rfl hHeld ?ya4 ?ra4
  case ya4 => (intro wz hz; go_simp; first | done | with_reducible rfl)
  try simp only [Act.put, List.setIfInBounds_toArray, List.set_cons_zero, List.set_cons_succ]
  refine take_op (i := 5) (v := ?va5) rfl (by kernel_rfl) (by kernel_rfl) (by kernel_rfl) (fun _ _ _ h => h) rfl hHeld ?ya5 ?ra5
  case ya5 => (intro wz hz; go_simp; first | done | with_reducible rfl)
  try simp only [Act.put, List.setIfInBounds_toArray, List.set_cons_zero, List.set_cons_succ]
  refine take_op (i := 6) (v := ?va6) rfl (by kernel_rfl) (by kernel_rfl) (by kernel_rfl) (fun _ _ _ h => h) rfl hHeld ?ya6 ?ra6
  case ya6 => (intro wz hz; have hcz := rb wz; go_simp; first | done | with_reducible rfl)
  try simp only [Act.put, List.setIfInBounds_toArray, List.set_cons_zero, List.set_cons_succ]
  refine take_one (i := 3) rfl (by kernel_rfl) rfl (fun K hK => ?_)
  go_simp
  refine Calls.mono XA ?_
  rintro e w5 ⟨rfl, b5⟩
  clear XA
  have s1 := S1.out
  have b5' : Below w1.heap.size w1 w5 := ((Below.refl w1.heap.size w1).drew).trans b5
  have b5w : Below w.heap.size w w5 := B1.out.trans (b5'.mono (by omega))
  have s5 := b5'.size
  have XB := ih DL _ w5 (by omega) (by omega) (sumsAt.below SB.out b5w (Nat.le_refl _))
  unfold sumV at XB
  refine hK.out _ _ trivial (fun hHeld => ?_)
  clear hK K
  try simp only [Act.put, List.setIfInBounds_toArray, List.set_cons_zero, List.set_cons_succ]
  refine take_one (i := 7) rfl (by kernel_rfl) rfl (fun K hK => ?_)
  go_simp
  refine Calls.mono XB ?_
  rintro e w10 ⟨rfl, b10⟩
  clear XB
  have b10w : Below w.heap.size w w10 := b5w.trans (b10.mono (by omega))
  have s10 := b10.size
  have r10 : w10.rowIs w.heap.size 32 32 (fun _ => .int .u8 0) := b10.row (b5'.row R1.out (by omega)) (by omega)
  refine hK.out _ _ trivial (fun hHeld => ?_)
  clear hK K
  try simp only [Act.put, List.setIfInBounds_toArray, List.set_cons_zero, List.set_cons_succ]
  have XC := rnode_any (rootS TL) (rootS DL) w10 hsT hsD
  unfold sumV at XC
  refine take_one (i := 8) rfl (by kernel_rfl) rfl (fun K hK => ?_)
  go_simp
  refine Calls.mono XC ?_
  rintro e w12 ⟨rfl, b12⟩
  clear XC
  have s12 := b12.size
  have b12w : Below w.heap.size w w12 := b10w.trans (b12.mono (by omega))
  have r12 : w12.rowIs w.heap.size 32 32 (fun _ => .int .u8 0) := b12.row r10 (by omega)
  rw [← HES.out]
  refine hK.out _ _ trivial (fun hHeld => ?_)
  clear hK K
  try simp only [Act.put, List.setIfInBounds_toArray, List.set_cons_zero, List.set_cons_succ]
  refine take_one (i := 9) rfl (by kernel_rfl) rfl (fun K hK => ?_)
  have hst := stow32T_run w12 w.heap.size (rootS L) r12
  have h9 := stow32T_row w12 w.heap.size (rootS L) r12
  have r9 := h9.1
  have hz9 := h9.2.1
  have hb9 := h9.2.2
  clear h9
  unfold Oper.wp execOp
  simp only [Instr.storeAt, Instr.sureAddr, Sem.run_bind, Sem.run_pure, Result.andThen_ok]
  simp [Act.eval, hst, Oper.upon]
  clear hst
  generalize w12.setCells (w.heap.size) 0 (rowV 32 (arrV ((rootS L)))).toList = w9 at r9 hz9 hb9 ⊢
  refine hK.out _ _ trivial (fun hHeld => ?_)
  clear hK K hHeld
  try simp only [Act.put, List.setIfInBounds_toArray, List.set_cons_zero, List.set_cons_succ]
  refine wpAnyH_done (by kernel_rfl) ?_ _
  refine NoPanic.normal ?_
  have RES : Hid (Below w.heap.size w w9) := (show Below w.heap.size w w9 from b12w.trans (hb9.below' (Nat.le_refl _) b12w.size))
  clear b12w b12 b10 b10w b5 b5w b5' hb9 r12 r10
  go_wp2
  exact bodyPost_ret (results_cell_seg rfl _ _ w.heap.size 32 32 (arrV (rootS L)) _ rfl Tryd.underlying32 rfl hi32' r9) rfl ⟨rfl, RES.out⟩
end Go.Proofs.YtkgegihkhdgdoaaDoor

/- keyed.rootOf, keyed.Root. -/
namespace Go.Proofs.YtkgegihkhdgdoaaDoor
set_option linter.unusedSimpArgs false
set_option linter.unusedVariables false
open Go.RowKit Go.Deep

/-- a book that was handed on, and then a box that is written into. -/
theorem book_done {F : Nat → Prop} {kv : Value} {N' : List Nt} {c' : Int} {w w3 w4 w5 : World} {b : Nat} (hlt : ∀ j, F j → j < w.heap.size) (hb : w.heap.size ≤ b) (hb3 : b < w3.heap.size) (b03 : Below w.heap.size w w3) (k4 : bkAt kv w4 (Gr F w3 w4) N' c') (f4 : Fr F w3 w4) (b5 : But w4.heap.size b w4 w5) (z5 : w5.heap.size = w4.heap.size) :
    bkAt kv w5 (Gr F w w5) N' c' ∧ Fr F w w5 := by
  have s3 := f4.size
  have s0 := b03.size
  have nF : ∀ j, w.heap.size ≤ j → ¬ F j := fun j hj hf => by have := hlt j hf; omega
  refine ⟨?_, ?_⟩
  · refine (bkAt.far k4 (fun j hj hl => b5.block j hl (fun e => ?_)) b5.size).grow (fun j hj => ?_) (fun j hj => ?_)
    · rcases hj with hj | hj
      · exact nF j (by omega) hj
      · omega
    · rcases hj with hj | hj
      · exact Or.inl hj
      · exact Or.inr ⟨by omega, by omega⟩
    · rcases hj with hj | hj
      · have := hlt j hj; omega
      · exact hj.2
  · exact ⟨b5.os.trans (f4.os.trans b03.os), b5.tape.trans (f4.tape.trans b03.tape), b5.output.trans (f4.output.trans b03.output), by omega, fun j hj hn => (b5.block j (by omega) (by omega)).trans ((f4.block j (by omega) hn).trans (b03.block j hj))⟩
def kroot (count : Int) (s : List Int) (i : Nat) : List Int := if i = 0 then numB count else s
def krootB (count : Int) (s : List Int) : List Int := preB 5 2 (kroot count s)
/-- the root of so many pairs, whose leaves have the root s. -/
def krootS (count : Int) (s : List Int) : List Int := sumL (krootB count s)
def krootNt (count : Int) (s : List Int) : Nt := (krootS count s, strOf (krootB count s))
theorem krootS_sum (count : Int) (s : List Int) : isSum (krootS count s) := sumL_is _
theorem kroot_light (count : Int) (s : List Int) (hs : isSum s) : ∀ i, i ≤ 2 → 1 + (flatTo (blobsB (kroot count s)) i).length ≤ 100000000 := fun i hi => by
  have h1 := flatTo_mono (blobsB (kroot count s)) 2 i hi
  have h2 : (flatTo (blobsB (kroot count s)) 2).length = (blobB (numB count)).length + (blobB s).length := by
    show (([] ++ blobB (numB count)) ++ blobB s).length = _
    rw [List.nil_append, List.length_append]
  have h3 := blobB_le (numB count)
  have h4 := blobB_le s
  have h5 := numB_le count
  have h6 := hs.1
  omega
theorem wrapU63 (n : Int) (h0 : 0 ≤ n) (h1 : n ≤ 9223372036854775807) : IntKind.wrap .u64 n = n := by
  have e : IntKind.u64.wrap n = n % 18446744073709551616 := by simp [IntKind.wrap, IntKind.bits, IntKind.signed]
  rw [e]; omega
theorem build_u64 (x : Int) (w : World) : (Instr.buildSlice 126 1 #[(0, .int .u64 x)]).run Tryd.prog w = .ok (.slice (some ⟨w.heap.size, 0, none⟩) 1 1) (w.alloc (.cells #[.int .u64 x] 94)) := by
  show (_ : Result Value) = _
  kernel_rfl
theorem build_parts2 (a b : Option Addr) (n m c d : Nat) (w : World) : (Instr.buildSlice 130 2 #[(0, .slice a n c), (1, .slice b m d)]).run Tryd.prog w = .ok (.slice (some ⟨w.heap.size, 0, none⟩) 2 2) (w.alloc (.cells #[.slice a n c, .slice b m d] 23)) := by
  show (_ : Result Value) = _
  kernel_rfl
theorem row_u64 (w : World) (x : Int) : isRow (w.alloc (.cells #[.int .u64 x] 94)) (.slice (some ⟨w.heap.size, 0, none⟩) 1 1) 1 (fun _ => .int .u64 x) := by
  refine Or.inr ⟨w.heap.size, 0, 1, rfl, by simp, by decide, fun i hi => ?_⟩
  obtain rfl : i = 0 := by omega
  rw [cell_of_row _ _ _ _ _ _ (blk_alloc_new w (.cells #[.int .u64 x] 94))]; rfl
set_option maxHeartbeats 4000000 in
set_option maxRecDepth 100000 in
theorem rootOf_k (F : Nat → Prop) (kv : Value) (N : List Nt) (c count : Int) (s : List Int) (w : World) (hk : bkAt kv w F N c) (h0 : 0 ≤ count) (h63 : count ≤ 9223372036854775807) (hs : isSum s) (ht : tabIs w) (hF0 : ¬ F 1) (hN : N.length < 1000000) (hc : 0 ≤ c ∧ c < 1000000000) :
    Calls Tryd.prog 39 #[kv, .int .i64 count, .agg (rowV 32 (arrV s))] w fun e w' => e = .returned (sumV (krootS count s)) ∧ bkAt kv w' (Gr F w w') (addN N (krootNt count s)) (c + 1) ∧ Fr F w w' := by
  have hz32 := zero_s32
  have hlt := hk.lt
  obtain ⟨w1, hw1⟩ : ∃ w1, w1 = (w.alloc (.cells (rowV 32 (arrV s)) 32)).alloc (.cells (rowV 32 (fun _ => .int .u8 0)) 32) := ⟨_, rfl⟩
  have b1 : Below w.heap.size w w1 := by rw [hw1]; exact ((Below.refl _ _).alloc (Nat.le_refl _) _).alloc (by simp) _
  have z1 : w1.heap.size = w.heap.size + 2 := by rw [hw1]; simp
  have rs : w1.rowIs w.heap.size 32 32 (arrV s) := by
    have r := rowIs_box w 32 32 (arrV s)
    rw [hw1]; exact ((Below.refl (w.alloc (.cells (rowV 32 (arrV s)) 32)).heap.size _).alloc (Nat.le_refl _) _).row r (by simp)
  have rz : w1.rowIs (w.heap.size + 1) 32 32 (fun _ => .int .u8 0) := by
    have r := rowIs_box (w.alloc (.cells (rowV 32 (arrV s)) 32)) 32 32 (fun _ => .int .u8 0)
    rw [World.size_alloc] at r; rw [hw1]; exact r
  have hwu : IntKind.wrap .u64 count = count := wrapU63 count h0 h63
  have FACT : Hid (∀ wz, Below w1.heap.size w1 wz → Below w.heap.size w wz ∧ bkAt kv wz F N c ∧ wz.rowIs w.heap.size 32 32 (arrV s) ∧ wz.rowIs (w.heap.size + 1) 32 32 (fun _ => .int .u8 0) ∧ tabIs wz) := (show _ from fun wz hz => by
    have hz' : Below w.heap.size w wz := b1.trans (hz.mono (by omega))
    exact ⟨hz', hk.below hz' (Nat.le_refl _), hz.row rs (by omega), hz.row rz (by omega), ht.below hz' ht.1⟩)
  have HLT : Hid (∀ j, F j → j < w.heap.size) := (show _ from hlt)
  have Z1 : Hid (w1.heap.size = w.heap.size + 2) := (show w1.heap.size = w.heap.size + 2 from z1)
  clear hk ht hlt b1 z1 rs rz
  unfold sumV
  go_enter Tryd.func39, Tryd.ntmps39
  go_upto_region 1 with fail
  rw [← hw1]
  clear hw1
  refine wp_region_noPanic ?_
  refine wp_region_held_drew (S := fun w' => True) (by kernel_rfl) trivial (fun hHeld => ?_)
  refine take_op (i := 0) (v := ?va0) rfl (by kernel_rfl) (by kernel_rfl) (by kernel_rfl) (fun _ _ _ h => h) rfl hHeld ?ya0 ?ra0
  case ya0 => (intro wz hz; go_simp; first | done | with_reducible rfl)
  try simp only [Act.put, List.setIfInBounds_toArray, List.set_cons_zero, List.set_cons_succ]
  refine take_op (i := 1) (v := ?va1) rfl (by kernel_rfl) (by kernel_rfl) (by kernel_rfl) (fun _ _ _ h => h) rfl hHeld ?ya1 ?ra1
  case ya1 => (intro wz hz; go_simp; first | done | with_reducible rfl)
  try simp only [Act.put, List.setIfInBounds_toArray, List.set_cons_zero, List.set_cons_succ]
  refine take_op (i := 2) (v := ?va2) rfl (by kernel_rfl) (by kernel_rfl) (by kernel_rfl) (fun _ _ _ h => h) rfl hHeld ?ya2 ?ra2
  case ya2 => (intro wz hz; go_simp; first | done | with_reducible rfl)
  try simp only [Act.put, List.setIfInBounds_toArray, List.set_cons_zero, List.set_cons_succ]
  refine take_op (i := 5) (v := ?va5) rfl (by kernel_rfl) (by kernel_rfl) (by kernel_rfl) (fun _ _ _ h => h) rfl hHeld ?ya5 ?ra5
  case ya5 => (intro wz hz; go_simp; first | done | with_reducible rfl)
  try simp only [Act.put, List.setIfInBounds_toArray, List.set_cons_zero, List.set_cons_succ]
  refine take_one (i := 3) rfl (by kernel_rfl) rfl (fun K hK => ?_)
  refine wp_of_run (exec_bslice1' 126 1 0 (.tmp 9) (.int .u64 count) rfl rfl (build_u64 count w1.drew)) ?_
  have b2 : Below w1.heap.size w1 (w1.drew.alloc (.cells #[.int .u64 count] 94)) := ((Below.refl w1.heap.size w1).drew).alloc (Nat.le_refl _) _
  have XN := num_any [] (.slice none 0 0) _ 1 (fun _ => count) _ (Or.inl ⟨rfl, rfl⟩) (row_u64 w1.drew count) (fun i hi => ⟨h0, by omega⟩) (by simp)
  rw [show ([] : List Int) ++ flatTo (numsB fun _ => count) 1 = numB count by simp [flatTo, numsB]] at XN
  generalize w1.drew.alloc (.cells #[.int .u64 count] 94) = w2 at b2 XN ⊢
  refine hK.out _ _ trivial (fun hHeld => ?_)
  clear hK K
  try simp only [Act.put, List.setIfInBounds_toArray, List.set_cons_zero, List.set_cons_succ]
  refine take_one (i := 4) rfl (by kernel_rfl) rfl (fun K hK => ?_)
  go_simp
  refine Calls.mono XN ?_
  rintro e w3 ⟨nv, rfl, n3, b3⟩
  have b13 : Below w1.heap.size w1 w3 := b2.trans (b3.mono b2.size)
  have hn3 := n3.is
  obtain ⟨na, nc, rfl, _⟩ := hn3.slice
  refine hK.out _ _ trivial (fun hHeld => ?_)
  clear hK K XN b2 b3 n3
  try simp only [Act.put, List.setIfInBounds_toArray, List.set_cons_zero, List.set_cons_succ]
  refine take_one (i := 6) rfl (by kernel_rfl) rfl (fun K hK => ?_)
  refine wp_of_run (exec_bslice2' 130 2 0 1 (.tmp 11) (.tmp 12) (.slice na (numB count).length nc) (.slice (some ⟨w.heap.size, 0, none⟩) 32 32) rfl rfl rfl (build_parts2 _ _ _ _ _ _ w3)) ?_
  obtain ⟨w4, hw4⟩ : ∃ w4, w4 = w3.alloc (.cells #[.slice na (numB count).length nc, .slice (some ⟨w.heap.size, 0, none⟩) 32 32] 23) := ⟨_, rfl⟩
  have b34 : Below w3.heap.size w3 w4 := by rw [hw4]; exact (Below.refl _ _).alloc (Nat.le_refl _) _
  have z4 : w4.heap.size = w3.heap.size + 1 := by rw [hw4]; simp
  have hp4 : isParts w4 (.slice (some ⟨w3.heap.size, 0, none⟩) 2 2) 2 (kroot count s) := by
    have hpp := parts_two w3 _ _ (numB count, s) (Or.inl hn3) (Or.inl (row_bytes (FACT.out w3 b13).2.2.1 hs))
    rw [hw4]; exact hpp
  have b14 : Below w1.heap.size w1 w4 := b13.trans (b34.mono b13.size)
  obtain ⟨b04, hk4, _, rz4, ht4⟩ := FACT.out w4 b14
  have X := of_k F kv N c 5 2 _ (kroot count s) w4 hk4 hp4.any (kroot_light count s hs) ht4 hF0 hN hc
  have X' : Calls Tryd.prog 69 #[kv, .int .i64 5, .slice (some ⟨w3.heap.size, 0, none⟩) 2 2] w4 fun e w' => e = .returned (.agg (rowV 32 (arrV (krootS count s)))) ∧ bkAt kv w' (Gr F w4 w') (addN N (krootNt count s)) (c + 1) ∧ Fr F w4 w' := X
  have s13 := b13.size
  rw [← hw4]
  refine hK.out _ _ trivial (fun hHeld => ?_)
  clear hK K hw4 X hn3 hp4 hk4 ht4 b13 b34 b14
  try simp only [Act.put, List.setIfInBounds_toArray, List.set_cons_zero, List.set_cons_succ]
  refine take_one (i := 7) rfl (by kernel_rfl) rfl (fun K hK => ?_)
  go_simp
  refine Calls.mono X' ?_
  rintro e w5 ⟨rfl, k5, f5⟩
  have rz5 : w5.rowIs (w.heap.size + 1) 32 32 (fun _ => .int .u8 0) := World.rowIs.of_block rz4 (f5.block _ (by have := Z1.out; omega) (fun hf => by have := HLT.out _ hf; omega))
  refine hK.out _ _ trivial (fun hHeld => ?_)
  clear hK K X' rz4
  try simp only [Act.put, List.setIfInBounds_toArray, List.set_cons_zero, List.set_cons_succ]
  obtain ⟨r6, z6, bu6⟩ := stow32T_row w5 (w.heap.size + 1) (krootS count s) rz5
  have hst := stow32T_run w5 (w.heap.size + 1) (krootS count s) rz5
  generalize w5.setCells (w.heap.size + 1) 0 (rowV 32 (arrV (krootS count s))).toList = w6 at r6 z6 bu6 hst
  have DONE : Hid (bkAt kv w6 (Gr F w w6) (addN N (krootNt count s)) (c + 1) ∧ Fr F w w6) := (show _ ∧ _ from book_done HLT.out (by omega) (by have := Z1.out; omega) b04 k5 f5 bu6 z6)
  refine take_one (i := 8) rfl (by kernel_rfl) rfl (fun K hK => ?_)
  unfold Oper.wp execOp
  simp only [Instr.storeAt, Instr.sureAddr, Sem.run_bind, Sem.run_pure, Result.andThen_ok]
  simp [Act.eval, hst, Oper.upon]
  refine hK.out _ _ trivial (fun hHeld => ?_)
  clear hK K hst bu6 z6 k5 f5 b04 rz5
  try simp only [Act.put, List.setIfInBounds_toArray, List.set_cons_zero, List.set_cons_succ]
  refine wpAnyH_done (by kernel_rfl) ?_ _
  refine NoPanic.normal ?_
  have R6 : Hid (w6.rowIs (w.heap.size + 1) 32 32 (arrV (krootS count s))) := (show w6.rowIs (w.heap.size + 1) 32 32 (arrV (krootS count s)) from r6)
  clear r6
  go_wp2
  exact bodyPost_ret (results_cell_seg rfl _ _ (w.heap.size + 1) 32 32 (arrV (krootS count s)) _ rfl Tryd.underlying32 rfl hi32' R6.out) rfl ⟨rfl, DONE.out⟩
end Go.Proofs.YtkgegihkhdgdoaaDoor

/- keyed.says, of two spots, of none, of more. -/
namespace Go.Proofs.YtkgegihkhdgdoaaDoor
set_option linter.unusedSimpArgs false
set_option linter.unusedVariables false
open Go.RowKit Go.Deep

/-- a spot's cells. -/
def spG (at_ : Int) (kc vc pc : Value) : Nat → Value
  | 0 => .int .i64 at_
  | 1 => kc
  | 2 => vc
  | _ => pc
def spZ : Nat → Value := spG 0 (.slice none 0 0) (.slice none 0 0) (.slice none 0 0)
theorem zero_sp : ∀ w : World, (zeroValue 41).run Tryd.prog w = .ok (.agg (rowV 4 spZ)) w := fun w => by kernel_rfl
theorem hiSp : (Tryd.prog.info? 41).map (·.size) = some 4 := by kernel_rfl
theorem alSp (w : World) : (Instr.alloc 41 true (.tuple #[])).run Tryd.prog w = .ok (.pointer (some ⟨w.heap.size, 0, none⟩)) (w.alloc (.cells (rowV 4 spZ) 41)) := by
  show (_ : Result Value) = _
  kernel_rfl
theorem exec_allocSp {o : Oper} {ev : Operand → Value} {w : World} (ho : o.op = .alloc 41) :
    (execOp ev o).run Tryd.prog w = .ok (.value (.pointer (some ⟨w.heap.size, 0, none⟩))) (w.alloc (.cells (rowV 4 spZ) 41)) := by
  unfold execOp
  simp only [ho, Sem.run_bind, alSp, Result.andThen_ok, Sem.run_pure]
theorem spG_one (at_ : Int) (a b c : Option Addr) (i j k l m n : Nat) : ∀ t, t < 4 → (spG at_ (.slice a i j) (.slice b k l) (.slice c m n) t).oneCell' = true := fun t ht => by
  match t, ht with
  | 0, _ => rfl
  | 1, _ => rfl
  | 2, _ => rfl
  | 3, _ => rfl
/-- a spot is written into a box. -/
theorem sp_store (w : World) (b : Nat) (g : Nat → Value) {t : TypeId} {f : Nat → Value} (hr : w.rowIs b t 4 f) (h1 : ∀ i, i < 4 → (g i).oneCell' = true) :
    ∃ w', (storeVar 41 ⟨b, 0, none⟩ (.agg (rowV 4 g))).run Tryd.prog w = .ok () w' ∧ w'.rowIs b t 4 g ∧ w'.heap.size = w.heap.size ∧ But w.heap.size b w w' := by
  refine ⟨_, stowR_run w 41 b 0 4 g hiSp h1 (there_of_row hr (by omega)), (rowIs_splice hr).congr fun i hi => by rw [if_pos (by omega), Nat.sub_zero], size_setCells _ _ _ _, but_setCells _ _ (But.refl _ _ _)⟩
end Go.Proofs.YtkgegihkhdgdoaaDoor

/- Is there such a place? -/
namespace Go.Proofs.YtkgegihkhdgdoaaDoor
set_option linter.unusedSimpArgs false
set_option linter.unusedVariables false
open Go.RowKit Go.Deep

theorem within_any (n at_ : Int) (w : World) : Calls Tryd.prog 87 #[.int .i64 n, .int .i64 at_] w fun e w' => e = .returned (.bool (thereB n at_)) ∧ w' = w := by
  by_cases h0 : 0 ≤ at_
  · by_cases h1 : at_ < n
    · have E : Hid (thereB n at_ = true) := (show thereB n at_ = true from by simp [thereB, h0, h1])
      go_enter Tryd.func87, Tryd.ntmps87
      go_wp2
      go_ret
      exact ⟨by rw [E.out]; rfl, rfl⟩
    · have E : Hid (thereB n at_ = false) := (show thereB n at_ = false from by simp [thereB, h1])
      go_enter Tryd.func87, Tryd.ntmps87
      go_wp2
      go_ret
      exact ⟨by rw [E.out]; rfl, rfl⟩
  · have E : Hid (thereB n at_ = false) := (show thereB n at_ = false from by simp [thereB, h0])
    go_enter Tryd.func87, Tryd.ntmps87
    go_wp2
    go_ret
    exact ⟨by rw [E.out]; rfl, rfl⟩
end Go.Proofs.YtkgegihkhdgdoaaDoor

/- The way from the root to a place. -/
namespace Go.Proofs.YtkgegihkhdgdoaaDoor
open Go.RowKit Go.Shelf
set_option linter.unusedSimpArgs false
set_option linter.unusedVariables false
attribute [local go_sem] Oper.semAt_some

/-- the steps: of each the half, and whether it goes to the left. -/
def wayF : Nat → Nat → Nat → List (Nat × Bool)
  | 0, _, _ => []
  | fuel + 1, n, p => if n ≤ 1 then [] else (halfN n, decide (p < halfN n)) :: (if p < halfN n then wayF fuel (halfN n) p else wayF fuel (n - halfN n) (p - halfN n))
def wayL (n p : Nat) : List (Nat × Bool) := wayF n n p
theorem wayF_fuel : ∀ (f g n p : Nat), n ≤ f → n ≤ g → wayF f n p = wayF g n p
  | 0, 0, n, p, _, _ => rfl
  | 0, g + 1, n, p, h, _ => by rw [wayF, wayF, if_pos (by omega)]
  | f + 1, 0, n, p, _, h => by rw [wayF, wayF, if_pos (by omega)]
  | f + 1, g + 1, n, p, h1, h2 => by
    rw [wayF, wayF]
    by_cases e : n ≤ 1
    · rw [if_pos e, if_pos e]
    · have := halfN_is (n := n) (by omega)
      rw [if_neg e, if_neg e, wayF_fuel f g (halfN n) p (by omega) (by omega), wayF_fuel f g (n - halfN n) _ (by omega) (by omega)]
theorem wayL_end {n p : Nat} (h : n ≤ 1) : wayL n p = [] := by
  unfold wayL
  match n with
  | 0 => rfl
  | 1 => rw [wayF, if_pos (by omega)]
  | n + 2 => omega
theorem wayL_step {n p : Nat} (h : 2 ≤ n) : wayL n p = (halfN n, decide (p < halfN n)) :: (if p < halfN n then wayL (halfN n) p else wayL (n - halfN n) (p - halfN n)) := by
  have hh := halfN_is h
  unfold wayL
  obtain ⟨m, hm⟩ : ∃ m, n = m + 1 := ⟨n - 1, by omega⟩
  rw [show wayF n n p = wayF (m + 1) n p by rw [hm], wayF, if_neg (by omega), wayF_fuel m (halfN n) (halfN n) p (by omega) (Nat.le_refl _), wayF_fuel m (n - halfN n) (n - halfN n) _ (by omega) (Nat.le_refl _)]
/-- the steps of any two numbers. -/
def wayI (n p : Int) : List (Nat × Bool) := if thereB n p = true then wayL n.toNat p.toNat else []
def stepV (x : Nat × Bool) : Array Value := #[.int .i64 (x.1 : Int), .bool x.2]
set_option maxHeartbeats 2000000 in
theorem way1_hands (n : Nat) (a b : Int) (ha : -9223372036854775808 ≤ a ∧ a ≤ 9223372036854775807) (hb : -9223372036854775808 ≤ b ∧ b ≤ 9223372036854775807) (ba bb : Nat) (w : World) (hba : ba < w.heap.size) (hbb : bb < w.heap.size)
    (ca : w.cell? ⟨ba, 0, none⟩ = some (.int .i64 a)) (cb : w.cell? ⟨bb, 0, none⟩ = some (.int .i64 b)) :
    hands n Tryd.prog 86 #[.pointer (some ⟨ba, 0, none⟩), .pointer (some ⟨bb, 0, none⟩)] stepV (wayI a b) w := by
  intro l J W hW hd h0 hY
  have cA : W.cell? ⟨ba, 0, none⟩ = some (.int .i64 a) := (hW.cell (p := ⟨ba, 0, none⟩) hba).trans ca
  have cB : W.cell? ⟨bb, 0, none⟩ = some (.int .i64 b) := (hW.cell (p := ⟨bb, 0, none⟩) hbb).trans cb
  have X := within_any a b W
  cases hth : thereB a b with
  | false =>
    have hys : wayI a b = [] := by unfold wayI; rw [hth]; rfl
    rw [hth] at X
    have HYS : Hid _ := hys
    clear hys hth hY
    refine callsIn_of_wp Tryd.func86 rfl trivial ?_ rfl
    simp only [Tryd.ntmps86, List.size_toArray, List.length_cons, List.length_nil, Nat.reduceAdd, Nat.reduceSub, Array.replicate_succ, Array.replicate_zero, List.push_toArray, List.append_toArray, List.nil_append, List.cons_append]
    gi_wp2_with fail
    refine ⟨trivial, fun h => absurd h (by simp [Fence.wide]), (callsIn_wide.2 X).mono ?_⟩
    rintro e w' ⟨rfl, hw⟩
    obtain rfl := hw.symm
    clear hw
    gi_wp2
    refine bodyPost_ret (results_none rfl _ _ _) rfl ?_
    exact ⟨⟨_, rfl⟩, by rw [HYS.out]; exact h0⟩
  | true =>
    have hab : 0 ≤ b ∧ b < a := by simpa [thereB] using hth
    have hys : wayI a b = wayL a.toNat b.toNat := by unfold wayI; rw [hth]; rfl
    rw [hys] at hY ⊢
    rw [hth] at X
    obtain ⟨Y, hYe⟩ : ∃ Y, Y = wayL a.toNat b.toNat := ⟨_, rfl⟩
    rw [← hYe] at hY ⊢
    have HYE : Hid _ := hYe
    have HY : Hid _ := hY
    clear hys hth hY hYe
    have hJ0 := hd 0 W h0
    refine callsIn_of_wp Tryd.func86 rfl trivial ?_ rfl
    simp only [Tryd.ntmps86, List.size_toArray, List.length_cons, List.length_nil, Nat.reduceAdd, Nat.reduceSub, Array.replicate_succ, Array.replicate_zero, List.push_toArray, List.append_toArray, List.nil_append, List.cons_append]
    gi_wp2_with fail
    refine ⟨trivial, fun h => absurd h (by simp [Fence.wide]), (callsIn_wide.2 X).mono ?_⟩
    rintro e w' ⟨rfl, hw⟩
    obtain rfl := hw.symm
    clear hw
    gi_wp2
    gi_region
    gi_wp2
    have J0 : Hid _ := hJ0
    clear hJ0 h0 X cA cB ca cb
    gi_loopw [4, 5] (fun x y wr => ∃ (k m p : Nat), x = .int .i64 (m : Int) ∧ y = .int .i64 (p : Int) ∧ p < m ∧ (m : Int) ≤ 9223372036854775807 ∧ k ≤ Y.length ∧ Y.drop k = wayL m p ∧ J k wr) (fun x _ _ => (intOf x).toNat)
    case atStart =>
      exact ⟨0, a.toNat, b.toNat, by rw [Int.toNat_of_nonneg (by omega)], by rw [Int.toNat_of_nonneg (by omega)], by omega, by omega, Nat.zero_le _, by rw [List.drop_zero]; exact HYE.out, J0.out⟩
    case round =>
      obtain ⟨k, m, p, rfl, rfl, hpm, hm, hk, hdr, hJ⟩ := hrel
      clear J0
      by_cases h2 : 2 ≤ m
      · have hh := halfN_is h2
        have X := half_any (m : Int) (by omega) hm wr
        have hI : halfI (m : Int) = (halfN m : Int) := by unfold halfI; rw [Int.toNat_natCast]
        rw [hI] at X
        rw [wayL_step h2] at hdr
        have hlt : k < Y.length := by
          by_cases e : k < Y.length
          · exact e
          · rw [List.drop_eq_nil_of_le (by omega)] at hdr; cases hdr
        have hcons := List.drop_eq_getElem_cons hlt
        rw [hcons] at hdr
        have hx : Y[k] = (halfN m, decide (p < halfN m)) := (List.cons.inj hdr).1
        have htl := (List.cons.inj hdr).2
        obtain ⟨fn, tmps, assign, body, hy, hR⟩ := HY.out k hlt wr hJ
        rw [hx] at hy
        have hy' : (Instr.yield l #[.int .i64 (halfN m : Int), .bool (decide (p < halfN m))]).run Tryd.prog wr = .ok (.round l fn tmps assign body) wr := hy
        obtain ⟨h, hhe⟩ : ∃ h, h = halfN m := ⟨_, rfl⟩
        rw [← hhe] at X hh hy' htl
        have g1 : ¬ (m : Int) ≤ 1 := by omega
        have g2 : (1 : Int) < (m : Int) := by omega
        have HTL : Hid _ := htl
        have HJ : Hid _ := hd
        clear hI hdr hcons hx hy htl hhe
        by_cases hl : p < h
        · have hb1 : (p : Int) < (h : Int) := by omega
          have hdc : decide (p < h) = true := decide_eq_true hl
          rw [hdc] at hy'
          gi_wp2_with fail
          refine ⟨trivial, fun h => absurd h (by simp [Fence.wide]), (callsIn_wide.2 X).mono ?_⟩
          rintro e w' ⟨rfl, hw⟩
          obtain rfl := hw.symm
          clear hw X
          gi_wp2
          refine ⟨fun h => absurd h (by simp [Fence.wide]), hR.mono ?_⟩
          rintro e W3 ⟨rfl, hJ3⟩
          gi_wp2
          go_roundw
          case rel => exact ⟨k + 1, h, p, rfl, rfl, hl, by omega, by omega, by rw [HTL.out, if_pos hl], hJ3⟩
          case measure => simp [intOf]; omega
        · have hb1 : ¬ (p : Int) < (h : Int) := by omega
          have hdc : decide (p < h) = false := decide_eq_false hl
          rw [hdc] at hy'
          gi_wp2_with fail
          refine ⟨trivial, fun h => absurd h (by simp [Fence.wide]), (callsIn_wide.2 X).mono ?_⟩
          rintro e w' ⟨rfl, hw⟩
          obtain rfl := hw.symm
          clear hw X
          gi_wp2
          refine ⟨fun h => absurd h (by simp [Fence.wide]), hR.mono ?_⟩
          rintro e W3 ⟨rfl, hJ3⟩
          gi_wp2
          go_roundw
          case rel => exact ⟨k + 1, m - h, p - h, by congr 1; omega, by congr 1; omega, by omega, by omega, by omega, by rw [HTL.out, if_neg hl], hJ3⟩
          case measure => simp [intOf]; omega
      · have g1 : ¬ (1 : Int) < (m : Int) := by omega
        rw [wayL_end (by omega)] at hdr
        have hke : k = Y.length := by
          have := List.drop_eq_nil_iff.1 hdr
          omega
        have HJ : Hid (J Y.length wr) := (show J Y.length wr from hke ▸ hJ)
        clear hdr hke hJ
        gi_wp2
        go_end0
        exact ⟨⟨_, rfl⟩, HJ.out⟩
end Go.Proofs.YtkgegihkhdgdoaaDoor

/- way, Depth. -/
namespace Go.Proofs.YtkgegihkhdgdoaaDoor
open Go.RowKit Go.Shelf
set_option linter.unusedSimpArgs false
set_option linter.unusedVariables false
attribute [local go_sem] Oper.semAt_some

theorem half_pow {n k : Nat} (h : 2 ≤ n) (hk : n ≤ 2 ^ (k + 1)) : halfN n ≤ 2 ^ k ∧ n - halfN n ≤ 2 ^ k := by
  have hh := halfN_is h
  have h1 : halfN n ≤ 2 ^ k := by
    rw [halfN_pow h]
    refine Nat.pow_le_pow_right (by omega) ?_
    have h2 : n - 1 < 2 ^ (k + 1) := by omega
    have := (Nat.log2_lt (show n - 1 ≠ 0 by omega)).2 h2
    omega
  omega
/-- a way has as many steps as n - 1 has binary digits, or fewer. -/
theorem wayL_len : ∀ (k n p : Nat), n ≤ 2 ^ k → (wayL n p).length ≤ k
  | 0, n, p, h => by rw [wayL_end (by simpa using h)]; simp
  | k + 1, n, p, h => by
    by_cases h2 : 2 ≤ n
    · have := half_pow h2 h
      rw [wayL_step h2, List.length_cons]
      by_cases hp : p < halfN n
      · rw [if_pos hp]; have := wayL_len k (halfN n) p this.1; omega
      · rw [if_neg hp]; have := wayL_len k (n - halfN n) (p - halfN n) this.2; omega
    · rw [wayL_end (by omega)]; simp
theorem wayI_len (a b : Int) (h : a ≤ 9223372036854775807) : (wayI a b).length ≤ 63 := by
  unfold wayI
  split
  · exact wayL_len 63 _ _ (by have : (2 : Nat) ^ 63 = 9223372036854775808 := rfl; omega)
  · simp
/-- the world behind a call of way. -/
def wayW (a b : Int) (w : World) : World := (w.alloc (.cells #[.int .i64 a] 3)).alloc (.cells #[.int .i64 b] 3)
theorem way_any (a b : Int) (w : World) : Calls Tryd.prog 66 #[.int .i64 a, .int .i64 b] w fun e w' => e = .returned (.func (.func 86) #[] #[.pointer (some ⟨w.heap.size, 0, none⟩), .pointer (some ⟨w.heap.size + 1, 0, none⟩)]) ∧ w' = wayW a b w := by
  have hmf : ∀ (fn : Fn) (first cap : Array Value) (w : World), (Instr.makeFunc fn first cap).run Tryd.prog w = .ok (.func fn first cap) w := fun _ _ _ _ => rfl
  go_enter Tryd.func66, Tryd.ntmps66
  go_wp2
  go_ret
  exact ⟨rfl, rfl⟩
set_option maxRecDepth 100000 in
set_option maxHeartbeats 2000000 in
theorem depth_any (a b : Int) (ha : -9223372036854775808 ≤ a ∧ a ≤ 9223372036854775807) (hb : -9223372036854775808 ≤ b ∧ b ≤ 9223372036854775807) (w : World) :
    Calls Tryd.prog 94 #[.int .i64 a, .int .i64 b] w fun e w' => e = .returned (.int .i64 ((wayI a b).length : Int)) ∧ Below w.heap.size w w' := by
  have hlen := wayI_len a b ha.2
  obtain ⟨w1, hw1⟩ : ∃ w1, w1 = w.alloc (.cells #[.int .i64 0] 3) := ⟨_, rfl⟩
  have X := way_any a b w1
  have s1 : w1.heap.size = w.heap.size + 1 := by rw [hw1]; simp
  obtain ⟨W0, hW0⟩ : ∃ W0, W0 = wayW a b w1 := ⟨_, rfl⟩
  rw [← hW0] at X
  have b0 : Below w.heap.size w W0 := by rw [hW0, hw1]; unfold wayW; exact (((Below.refl _ _).alloc (Nat.le_refl _) _).alloc (by simp) _).alloc (by simp; omega) _
  have r0 : W0.rowIs w.heap.size 3 1 (fun _ => .int .i64 0) := by
    have r1 : w1.rowIs w.heap.size 3 1 (fun _ => .int .i64 0) := by rw [hw1]; exact rowIs_one _ _ _
    have bb : Below w1.heap.size w1 W0 := by rw [hW0]; unfold wayW; exact ((Below.refl _ _).alloc (Nat.le_refl _) _).alloc (by simp) _
    exact bb.row r1 (by omega)
  have c0 := r0.cell (i := 0) (by omega)
  have f0 := r0.frozen 0
  have hca : W0.cell? ⟨w1.heap.size, 0, none⟩ = some (.int .i64 a) := by
    have r1 : (w1.alloc (.cells #[.int .i64 a] 3)).rowIs w1.heap.size 3 1 (fun _ => .int .i64 a) := rowIs_one _ _ _
    have bb : Below (w1.alloc (.cells #[.int .i64 a] 3)).heap.size (w1.alloc (.cells #[.int .i64 a] 3)) W0 := by rw [hW0]; unfold wayW; exact (Below.refl _ _).alloc (Nat.le_refl _) _
    exact (bb.row r1 (by simp)).cell (i := 0) (by omega)
  have hcb : W0.cell? ⟨w1.heap.size + 1, 0, none⟩ = some (.int .i64 b) := by
    have r1 : W0.rowIs (w1.alloc (.cells #[.int .i64 a] 3)).heap.size 3 1 (fun _ => .int .i64 b) := by rw [hW0]; unfold wayW; exact rowIs_one _ _ _
    have := r1.cell (i := 0) (by omega)
    rwa [World.size_alloc] at this
  have sz : W0.heap.size = w.heap.size + 3 := by rw [hW0]; unfold wayW; simp; omega
  have HS := way1_hands 2 a b ha hb w1.heap.size (w1.heap.size + 1) W0 (by omega) (by omega) hca hcb
  refine (callsIn_wide (n := 3)).1 ?_
  refine callsIn_of_wp_marks Tryd.func94 rfl trivial ?_ rfl
  simp only [Tryd.ntmps94, List.size_toArray, List.length_cons, List.length_nil, Nat.reduceAdd, Nat.reduceSub, Array.replicate_succ, Array.replicate_zero, List.push_toArray, List.append_toArray, List.nil_append, List.cons_append]
  gi_wp2_with fail
  rw [← hw1]
  refine ⟨trivial, (callsIn_wide.2 X).mono ?_⟩
  rintro e w' ⟨rfl, hw⟩
  obtain rfl := hw.symm
  have HSt : Hid _ := HS
  have B0 : Hid _ := b0
  have SZ : Hid _ := sz
  have S1 : Hid _ := s1
  clear hw X hW0 hw1 hca hcb b0 sz HS s1 r0
  gi_wp2
  refine wpIn_range_list (gf := 86) (lb := #[.pointer (some ⟨w1.heap.size, 0, none⟩), .pointer (some ⟨w1.heap.size + 1, 0, none⟩)]) (encs := stepV) (ys := wayI a b) rfl (enters_of Tryd.func86 (by kernel_rfl) rfl) HSt.out (fun _ => rfl)
    (fun k W => (W.cell? ⟨w.heap.size, 0, none⟩ = some (.int .i64 (k : Int)) ∧ W.frozen? ⟨w.heap.size, 0, none⟩ = false) ∧ Below w.heap.size w W)
    (OwnFrom.and (Own.from (fun s A B row hs hg hr => ⟨cell_kept hs.1 hg hr, (frozen_kept hs.1 hg hr).trans hs.2⟩) _) (ownFrom_below (Nat.le_refl _) (by have := SZ.out; omega)))
    (fun k W h => ⟨h.1, h.2.drew⟩) ⟨⟨c0, f0⟩, B0.out⟩
    (fun x => { tmps := #[.int .i64 a, .int .i64 b, undef, undef, .int .i64 0, .pointer (some ⟨w.heap.size, 0, none⟩), .int .i64 a, .int .i64 b, .func (.func 86) #[] #[.pointer (some ⟨w1.heap.size, 0, none⟩), .pointer (some ⟨w1.heap.size + 1, 0, none⟩)], .int .i64 (x.1 : Int), .bool x.2, undef, undef, undef], defers := [] }) ?assign ?body ?done
  case assign =>
    intro l x W K hK
    simp only [stepV, List.zip_toArray, List.zip_cons_cons, List.zip_nil_left, List.zip_nil_right, List.foldl_toArray, List.foldl_cons, List.foldl_nil, List.setIfInBounds_toArray, List.set_cons_succ, List.set_cons_zero]
    gi_wp2
    exact hK
  case body =>
    rintro l k hk W ⟨⟨hc, hf⟩, hB⟩
    have q0 : (k : Int) < 63 := by omega
    have q1 : (0 : Int) ≤ (k : Int) := by omega
    have HB : Hid _ := hB
    clear hB c0 f0
    gi_wp2
    exact ⟨KeepsOthers.setCell _ _ _, ⟨World.cell?_setCell_same' _ _ _ (by rw [hc]; rfl), by rw [World.frozen?_setCell]; exact hf⟩, HB.out.setCell (p := ⟨w.heap.size, 0, none⟩) (Nat.le_refl _) _⟩
  case done =>
    rintro D W hD ⟨⟨hc, _⟩, hB⟩ hK
    gi_wp2
    refine ⟨by simp, .inl ⟨_, _, rfl, run_takeDeferred hK, ?_⟩⟩
    exact ⟨_, results_tmp rfl _ _ _, rfl, hB.trans (belowK_b (w := w) (Nat.le_refl _) W D _ _ (by have := SZ.out; omega) hK rfl rfl)⟩
end Go.Proofs.YtkgegihkhdgdoaaDoor

/- Paths, where they lead, and what they bind. Plain mathematics. -/
namespace Go.Proofs.YtkgegihkhdgdoaaDoor
set_option linter.unusedSimpArgs false
set_option linter.unusedVariables false
open Go.RowKit Go.Deep

/-- the sums of one step up, and its note. -/
def upL (s : List Int) (x : Bool × List Int) : List (List Int) := if x.1 = true then [s, x.2] else [x.2, s]
def leadF (l : List (Bool × List Int)) (s : List Int) : List Int := l.foldl (fun s x => nodeS (upL s x)) s
def upStep (y : List Nt × List Int) (x : Bool × List Int) : List Nt × List Int := (addN y.1 (ntOf (upL y.2 x)), nodeS (upL y.2 x))
def leadFN (N : List Nt) (l : List (Bool × List Int)) (s : List Int) : List Nt := (l.foldl upStep (N, s)).1
theorem leadFN_nil (N : List Nt) (s : List Int) : leadFN N [] s = N := rfl
theorem leadF_snoc (l : List (Bool × List Int)) (x : Bool × List Int) (s : List Int) : leadF (l ++ [x]) s = nodeS (upL (leadF l s) x) := by
  unfold leadF; rw [List.foldl_append]; rfl
theorem upStep_snd : ∀ (l : List (Bool × List Int)) (N : List Nt) (s : List Int), (l.foldl upStep (N, s)).2 = leadF l s
  | [], _, _ => rfl
  | x :: r, N, s => by rw [List.foldl_cons]; unfold leadF; rw [List.foldl_cons]; exact upStep_snd r _ _
theorem leadFN_snoc (N : List Nt) (l : List (Bool × List Int)) (x : Bool × List Int) (s : List Int) : leadFN N (l ++ [x]) s = addN (leadFN N l s) (ntOf (upL (leadF l s) x)) := by
  unfold leadFN; rw [List.foldl_append, List.foldl_cons, List.foldl_nil, ← upStep_snd l N s]; rfl
theorem leadF_sum : ∀ (l : List (Bool × List Int)) (s : List Int), isSum s → isSum (leadF l s)
  | [], s, h => h
  | x :: r, s, h => by unfold leadF; rw [List.foldl_cons]; exact leadF_sum r _ (nodeS_sum _)
theorem upL_sums {s : List Int} {x : Bool × List Int} (hs : isSum s) (hx : isSum x.2) : ∀ y ∈ upL s x, isSum y := by
  intro y hy
  unfold upL at hy
  split at hy <;> · rcases List.mem_cons.1 hy with rfl | hy
                    · assumption
                    · rw [List.mem_singleton.1 hy]; assumption
theorem leadFN_len : ∀ (l : List (Bool × List Int)) (N : List Nt) (s : List Int), (leadFN N l s).length ≤ N.length + l.length
  | [], N, s => by rw [leadFN_nil]; simp
  | x :: r, N, s => by
    have h := leadFN_len r (addN N (ntOf (upL s x))) (nodeS (upL s x))
    have h2 := addN_le N (ntOf (upL s x))
    have e : leadFN N (x :: r) s = leadFN (addN N (ntOf (upL s x))) r (nodeS (upL s x)) := by unfold leadFN; rw [List.foldl_cons]; rfl
    rw [e, List.length_cons]; omega
/-- the steps up that a path makes. -/
def ups (w : List (Nat × Bool)) (path : List (List Int)) : List (Bool × List Int) := ((w.map (·.2)).reverse).zip path
theorem ups_len {w : List (Nat × Bool)} {path : List (List Int)} (h : path.length = w.length) : (ups w path).length = w.length := by
  unfold ups; rw [List.length_zip, List.length_reverse, List.length_map]; omega
theorem ups_snoc {x : Nat × Bool} {w : List (Nat × Bool)} {q : List (List Int)} {y : List Int} (h : q.length = w.length) : ups (x :: w) (q ++ [y]) = ups w q ++ [(x.2, y)] := by
  unfold ups
  rw [List.map_cons, List.reverse_cons, List.zip_append (by rw [List.length_reverse, List.length_map]; omega)]; rfl
/-- where a leaf leads. -/
def leadS (n p : Nat) (s : List Int) (path : List (List Int)) : List Int := leadF (ups (wayL n p) path) s
/-- what is left aside on the way down. -/
def downF : List (Nat × Bool) → List (List Int) → List (List Int)
  | [], _ => []
  | x :: r, L => rootS (if x.2 = true then L.drop x.1 else L.take x.1) :: downF r (if x.2 = true then L.take x.1 else L.drop x.1)
def pathS (L : List (List Int)) (p : Nat) : List (List Int) := (downF (wayL L.length p) L).reverse
theorem downF_len : ∀ (w : List (Nat × Bool)) (L : List (List Int)), (downF w L).length = w.length
  | [], _ => rfl
  | x :: r, L => by rw [downF, List.length_cons, List.length_cons, downF_len r]
theorem pathS_len (L : List (List Int)) (p : Nat) : (pathS L p).length = (wayL L.length p).length := by unfold pathS; rw [List.length_reverse, downF_len]
theorem pathS_end {L : List (List Int)} {p : Nat} (h : L.length ≤ 1) : pathS L p = [] := by unfold pathS; rw [wayL_end h]; rfl
theorem pathS_left {L : List (List Int)} {p : Nat} (h : 2 ≤ L.length) (hp : p < halfN L.length) : pathS L p = pathS (L.take (halfN L.length)) p ++ [rootS (L.drop (halfN L.length))] := by
  have ht := half_take h
  unfold pathS
  rw [wayL_step h, downF, List.reverse_cons, if_pos hp]
  simp only [hp, decide_true, if_true]
  rw [ht.1]
theorem pathS_right {L : List (List Int)} {p : Nat} (h : 2 ≤ L.length) (hp : ¬ p < halfN L.length) : pathS L p = pathS (L.drop (halfN L.length)) (p - halfN L.length) ++ [rootS (L.take (halfN L.length))] := by
  have ht := half_take h
  unfold pathS
  rw [wayL_step h, downF, List.reverse_cons, if_neg hp]
  simp only [hp, decide_false, Bool.false_eq_true, if_false]
  rw [ht.2.1]
theorem leadS_end {n p : Nat} {s : List Int} {path : List (List Int)} (h : n ≤ 1) : leadS n p s path = s := by unfold leadS ups; rw [wayL_end h]; rfl
theorem leadS_left {n p : Nat} {s y : List Int} {q : List (List Int)} (h : 2 ≤ n) (hp : p < halfN n) (hq : q.length = (wayL (halfN n) p).length) : leadS n p s (q ++ [y]) = nodeS [leadS (halfN n) p s q, y] := by
  unfold leadS
  rw [wayL_step h, if_pos hp, ups_snoc hq, leadF_snoc]
  simp only [hp, decide_true, upL, if_true]
theorem leadS_right {n p : Nat} {s y : List Int} {q : List (List Int)} (h : 2 ≤ n) (hp : ¬ p < halfN n) (hq : q.length = (wayL (n - halfN n) (p - halfN n)).length) : leadS n p s (q ++ [y]) = nodeS [y, leadS (n - halfN n) (p - halfN n) s q] := by
  unfold leadS
  rw [wayL_step h, if_neg hp, ups_snoc hq, leadF_snoc]
  simp only [hp, decide_false, upL, Bool.false_eq_true, if_false]
/-- P4.5. -/
theorem lead_path : ∀ (m : Nat) (L : List (List Int)) (p : Nat), L.length ≤ m → p < L.length → leadS L.length p (L.getD p []) (pathS L p) = rootS L
  | 0, L, p, h, hp => by omega
  | m + 1, L, p, h, hp => by
    by_cases h1 : L.length ≤ 1
    · have h2 : L.length = 1 := by omega
      obtain rfl : p = 0 := by omega
      rw [leadS_end h1, rootS_one h2]
    · have h2 : 2 ≤ L.length := by omega
      have ht := half_take h2
      rw [rootS_more h2]
      by_cases hl : p < halfN L.length
      · rw [pathS_left h2 hl, leadS_left h2 hl (by rw [pathS_len, ht.1])]
        have ih := lead_path m (L.take (halfN L.length)) p (by omega) (by omega)
        rw [ht.1] at ih
        have eg : L.getD p [] = (L.take (halfN L.length)).getD p [] := by
          rw [List.getD_eq_getElem?_getD, List.getD_eq_getElem?_getD, List.getElem?_take, if_pos hl]
        rw [← ih, eg]
      · rw [pathS_right h2 hl, leadS_right h2 hl (by rw [pathS_len, ht.2.1])]
        have ih := lead_path m (L.drop (halfN L.length)) (p - halfN L.length) (by omega) (by omega)
        rw [ht.2.1] at ih
        have eg : L.getD p [] = (L.drop (halfN L.length)).getD (p - halfN L.length) [] := by
          rw [List.getD_eq_getElem?_getD, List.getD_eq_getElem?_getD, List.getElem?_drop]
          congr 2; omega
        rw [← ih, eg]
end Go.Proofs.YtkgegihkhdgdoaaDoor

/- slices.Reverse of bools. -/
namespace Go.Proofs.YtkgegihkhdgdoaaDoor
set_option linter.unusedSimpArgs false
set_option linter.unusedVariables false
open Go.RowKit Go.Deep

/-- the cells behind k swaps. -/
def revF (F : Nat → Value) (n k i : Nat) : Value := if i < n ∧ (i < k ∨ n ≤ i + k) then F (n - 1 - i) else F i
theorem revF_zero (F : Nat → Value) (n i : Nat) : revF F n 0 i = F i := by unfold revF; rw [if_neg (by omega)]
theorem revF_lo (F : Nat → Value) {n k : Nat} (h : 2 * k + 1 < n) : revF F n k k = F k ∧ revF F n k (n - 1 - k) = F (n - 1 - k) := by
  unfold revF; rw [if_neg (by omega), if_neg (by omega)]; exact ⟨rfl, rfl⟩
theorem revF_end (F : Nat → Value) {n k i : Nat} (h : n ≤ 2 * k + 1) (hk : 2 * k ≤ n + 1) (hi : i < n) : revF F n k i = F (n - 1 - i) := by
  unfold revF
  by_cases e : i < k ∨ n ≤ i + k
  · rw [if_pos ⟨hi, e⟩]
  · rw [if_neg (fun h => e h.2)]; congr 1; omega
set_option maxHeartbeats 2000000 in
set_option maxRecDepth 100000 in
theorem revBool_any (g n cap : Nat) (F : Nat → Value) (w : World) (h : w.rowIs g 4 cap F) (hb : ∀ i, i < n → ∃ x, F i = .bool x) (hn : n ≤ cap) (hm : n ≤ 1000) :
    Calls Tryd.prog 95 #[.slice (some ⟨g, 0, none⟩) n cap] w fun e w' => e = .returned (.tuple #[]) ∧ w'.rowIs g 4 cap (fun i => if i < n then F (n - 1 - i) else F i) ∧ w'.heap.size = w.heap.size ∧ But w.heap.size g w w' := by
  have q0 : (n : Int) ≤ 1000 := by omega
  have hlt := h.lt
  have H0 : Hid _ := h
  have HB : Hid _ := hb
  clear h hb
  go_enter Tryd.func95, Tryd.ntmps95
  go_wp2
  go_loopw [2, 3] (fun x y wr => ∃ k : Nat, x = .int .i64 (k : Int) ∧ y = .int .i64 ((n : Int) - 1 - (k : Int)) ∧ 2 * k ≤ n + 1 ∧ wr.rowIs g 4 cap (revF F n k) ∧ wr.heap.size = w.heap.size ∧ But w.heap.size g w wr) (fun x _ _ => n - (intOf x).toNat)
  case atStart => exact ⟨0, rfl, by simp, by omega, World.rowIs.congr H0.out (fun i _ => (revF_zero F n i).symm), rfl, But.refl _ _ _⟩
  case round =>
    obtain ⟨k, rfl, rfl, hk, hr, hs, hbt⟩ := hrel
    clear H0
    by_cases hc : 2 * k + 1 < n
    · obtain ⟨x, hx⟩ := HB.out k (by omega)
      obtain ⟨y, hy⟩ := HB.out (n - 1 - k) (by omega)
      have hl := revF_lo F hc
      have cx : wr.cell? ⟨g, k, none⟩ = some (.bool x) := by rw [hr.cell (by omega), hl.1, hx]
      have cy : wr.cell? ⟨g, n - 1 - k, none⟩ = some (.bool y) := by rw [hr.cell (by omega), hl.2, hy]
      obtain ⟨j, hj⟩ : ∃ j : Nat, j = n - 1 - k := ⟨_, rfl⟩
      have hji : ((n : Int) - 1 - (k : Int)) = (j : Int) := by omega
      rw [← hj] at cy
      rw [hji]
      have p0 : (0 : Int) ≤ (k : Int) := by omega
      have p1 : (k : Int) < (n : Int) := by omega
      have p2 : (0 : Int) ≤ (j : Int) := by omega
      have p3 : (j : Int) < (n : Int) := by omega
      have p4 : (k : Int) < (j : Int) := by omega
      have fz := hr.frozen
      have FIN : Hid (((wr.setCell ⟨g, k, none⟩ (.bool y)).setCell ⟨g, j, none⟩ (.bool x)).drew.rowIs g 4 cap (revF F n (k + 1)) ∧ ((wr.setCell ⟨g, k, none⟩ (.bool y)).setCell ⟨g, j, none⟩ (.bool x)).drew.heap.size = w.heap.size ∧ But w.heap.size g w ((wr.setCell ⟨g, k, none⟩ (.bool y)).setCell ⟨g, j, none⟩ (.bool x)).drew) := (show _ from by
        have R1 : (wr.setCell ⟨g, k, none⟩ (.bool y)).rowIs g 4 cap _ := World.rowIs.set hr k (.bool y)
        have R2 : ((wr.setCell ⟨g, k, none⟩ (.bool y)).setCell ⟨g, j, none⟩ (.bool x)).rowIs g 4 cap _ := World.rowIs.set R1 j (.bool x)
        refine ⟨World.rowIs.of_block (R2.congr fun i hi => ?_) rfl, ?_, ?_⟩
        · show (if i = j then _ else if i = k then _ else _) = _
          unfold revF
          by_cases e1 : i = j
          · rw [if_pos e1, if_pos (by omega), show n - 1 - i = k by omega, hx]
          · by_cases e2 : i = k
            · rw [if_neg e1, if_pos e2, if_pos (by omega), show n - 1 - i = n - 1 - k by omega, hy]
            · rw [if_neg e1, if_neg e2]
              by_cases e3 : i < n ∧ (i < k ∨ n ≤ i + k)
              · rw [if_pos e3, if_pos ⟨e3.1, by omega⟩]
              · rw [if_neg e3, if_neg (by omega)]
        · show ((wr.setCell ⟨g, k, none⟩ (.bool y)).setCell ⟨g, j, none⟩ (.bool x)).heap.size = _
          rw [nblk_setCell, nblk_setCell]; exact hs
        · refine ⟨hbt.os, hbt.tape, hbt.output, ?_, fun i hi hne => ?_⟩
          · show w.heap.size ≤ ((wr.setCell ⟨g, k, none⟩ (.bool y)).setCell ⟨g, j, none⟩ (.bool x)).heap.size
            rw [nblk_setCell, nblk_setCell]; omega
          · show ((wr.setCell ⟨g, k, none⟩ (.bool y)).setCell ⟨g, j, none⟩ (.bool x)).heap[i]? = _
            rw [blk_setCell_other _ _ _ _ hne, blk_setCell_other _ _ _ _ hne]; exact hbt.block i hi hne)
      have HJ : Hid _ := hj
      clear hj hji
      go_upto_region 3 with fail
      refine wp_region_noPanic ?_
      refine wp_region_held_drew (S := fun w' => True) (by kernel_rfl) trivial (fun hHeld => ?_)
      refine take_op (i := 0) (v := ?va0) rfl (by kernel_rfl) (by kernel_rfl) (by kernel_rfl) (fun _ _ _ h => h) rfl hHeld ?ya0 ?ra0
      case ya0 => (intro wz hz; go_simp; first | done | with_reducible rfl)
      try simp only [Act.put, List.setIfInBounds_toArray, List.set_cons_zero, List.set_cons_succ]
      refine take_op (i := 1) (v := ?va1) rfl (by kernel_rfl) (by kernel_rfl) (by kernel_rfl) (fun _ _ _ h => h) rfl hHeld ?ya1 ?ra1
      case ya1 => (intro wz hz; go_simp; first | done | with_reducible rfl)
      try simp only [Act.put, List.setIfInBounds_toArray, List.set_cons_zero, List.set_cons_succ]
      refine take_op (i := 2) (v := ?va2) rfl (by kernel_rfl) (by kernel_rfl) (by kernel_rfl) (fun _ _ _ h => h) rfl hHeld ?ya2 ?ra2
      case ya2 => (intro wz hz; go_simp; first | done | with_reducible rfl)
      try simp only [Act.put, List.setIfInBounds_toArray, List.set_cons_zero, List.set_cons_succ]
      refine take_op (i := 3) (v := ?va3) rfl (by kernel_rfl) (by kernel_rfl) (by kernel_rfl) (fun _ _ _ h => h) rfl hHeld ?ya3 ?ra3
      case ya3 => (intro wz hz; go_simp; first | done | with_reducible rfl)
      try simp only [Act.put, List.setIfInBounds_toArray, List.set_cons_zero, List.set_cons_succ]
      refine take_op (i := 4) (v := ?va4) rfl (by kernel_rfl) (by kernel_rfl) (by kernel_rfl) (fun _ _ _ h => h) rfl hHeld ?ya4 ?ra4
      case ya4 => (intro wz hz; go_simp; first | done | with_reducible rfl)
      try simp only [Act.put, List.setIfInBounds_toArray, List.set_cons_zero, List.set_cons_succ]
      refine take_op (i := 5) (v := ?va5) rfl (by kernel_rfl) (by kernel_rfl) (by kernel_rfl) (fun _ _ _ h => h) rfl hHeld ?ya5 ?ra5
      case ya5 => (intro wz hz; go_simp; first | done | with_reducible rfl)
      try simp only [Act.put, List.setIfInBounds_toArray, List.set_cons_zero, List.set_cons_succ]
      refine take_op (i := 6) (v := ?va6) rfl (by kernel_rfl) (by kernel_rfl) (by kernel_rfl) (fun _ _ _ h => h) rfl hHeld ?ya6 ?ra6
      case ya6 => (intro wz hz; go_simp; first | done | with_reducible rfl)
      try simp only [Act.put, List.setIfInBounds_toArray, List.set_cons_zero, List.set_cons_succ]
      refine take_op (i := 8) (v := ?va8) rfl (by kernel_rfl) (by kernel_rfl) (by kernel_rfl) (fun _ _ _ h => h) rfl hHeld ?ya8 ?ra8
      case ya8 => (intro wz hz; go_simp; first | done | with_reducible rfl)
      try simp only [Act.put, List.setIfInBounds_toArray, List.set_cons_zero, List.set_cons_succ]
      refine take_op (i := 9) (v := ?va9) rfl (by kernel_rfl) (by kernel_rfl) (by kernel_rfl) (fun _ _ _ h => h) rfl hHeld ?ya9 ?ra9
      case ya9 => (intro wz hz; go_simp; first | done | with_reducible rfl)
      try simp only [Act.put, List.setIfInBounds_toArray, List.set_cons_zero, List.set_cons_succ]
      refine take_op (i := 10) (v := ?va10) rfl (by kernel_rfl) (by kernel_rfl) (by kernel_rfl) (fun _ _ _ h => h) rfl hHeld ?ya10 ?ra10
      case ya10 => (intro wz hz; go_simp; first | done | with_reducible rfl)
      try simp only [Act.put, List.setIfInBounds_toArray, List.set_cons_zero, List.set_cons_succ]
      have ly : ∀ wz : World, wz.heap = wr.heap → wz.cell? ⟨g, j, none⟩ = some (.bool y) := fun wz hz => by rw [← cy]; simp [World.cell?, hz]
      have lx : ∀ wz : World, wz.heap = wr.heap → wz.cell? ⟨g, k, none⟩ = some (.bool x) := fun wz hz => by rw [← cx]; simp [World.cell?, hz]
      refine take_two (i := 7) (j := 11) (u := .bool y) (v := .bool x) rfl rfl (by kernel_rfl) rfl rfl trivial ?h7 ?h11 ?o7 ?o11
      case h7 => (have hcz := ly wr.drew rfl; go_simp; first | done | with_reducible rfl)
      case h11 => (have hcz := lx wr.drew rfl; go_simp; first | done | with_reducible rfl)
      case o7 =>
        try simp only [Act.put, List.setIfInBounds_toArray, List.set_cons_zero, List.set_cons_succ]
        refine take_run (i := 11) (v := .bool x) (w' := wr.drew) rfl (by kernel_rfl) rfl ?h11b trivial ?_
        case h11b => (have hcz := lx wr.drew rfl; go_simp; first | done | with_reducible rfl)
        try simp only [Act.put, List.setIfInBounds_toArray, List.set_cons_zero, List.set_cons_succ]
        refine take_op (i := 12) (v := ?vbp12) rfl (by kernel_rfl) (by kernel_rfl) (by kernel_rfl) (fun _ _ _ h => h) rfl hHeld ?ybp12 ?rbp12
        case ybp12 => (intro wz hz; go_simp; first | done | with_reducible rfl)
        try simp only [Act.put, List.setIfInBounds_toArray, List.set_cons_zero, List.set_cons_succ]
        refine take_one (i := 13) rfl (by kernel_rfl) rfl (fun K hK => ?_)
        have f1 := fz k
        go_simp
        refine hK.out _ _ trivial (fun hHeld => ?_)
        clear hK K
        try simp only [Act.put, List.setIfInBounds_toArray, List.set_cons_zero, List.set_cons_succ]
        refine take_op (i := 14) (v := ?vbp14) rfl (by kernel_rfl) (by kernel_rfl) (by kernel_rfl) (fun _ _ _ h => h) rfl hHeld ?ybp14 ?rbp14
        case ybp14 => (intro wz hz; go_simp; first | done | with_reducible rfl)
        try simp only [Act.put, List.setIfInBounds_toArray, List.set_cons_zero, List.set_cons_succ]
        refine take_one (i := 15) rfl (by kernel_rfl) rfl (fun K hK => ?_)
        go_simp
        refine hK.out _ _ trivial (fun hHeld => ?_)
        clear hK K
        try simp only [Act.put, List.setIfInBounds_toArray, List.set_cons_zero, List.set_cons_succ]
        refine wpAnyH_done (by kernel_rfl) ?_ _
        refine NoPanic.normal ?_
        clear cx cy fz hr hbt hs ly lx
        go_wp2
        go_light
        have hj := HJ.out
        exact ⟨⟨k + 1, by go_num, by congr 1; omega, by omega, FIN.out.1, FIN.out.2.1, FIN.out.2.2⟩, by simp [intOf]; omega⟩
      case o11 =>
        try simp only [Act.put, List.setIfInBounds_toArray, List.set_cons_zero, List.set_cons_succ]
        refine take_run (i := 7) (v := .bool y) (w' := wr.drew) rfl (by kernel_rfl) rfl ?h7b trivial ?_
        case h7b => (have hcz := ly wr.drew rfl; go_simp; first | done | with_reducible rfl)
        try simp only [Act.put, List.setIfInBounds_toArray, List.set_cons_zero, List.set_cons_succ]
        refine take_op (i := 12) (v := ?vbq12) rfl (by kernel_rfl) (by kernel_rfl) (by kernel_rfl) (fun _ _ _ h => h) rfl hHeld ?ybq12 ?rbq12
        case ybq12 => (intro wz hz; go_simp; first | done | with_reducible rfl)
        try simp only [Act.put, List.setIfInBounds_toArray, List.set_cons_zero, List.set_cons_succ]
        refine take_one (i := 13) rfl (by kernel_rfl) rfl (fun K hK => ?_)
        have f1 := fz k
        go_simp
        refine hK.out _ _ trivial (fun hHeld => ?_)
        clear hK K
        try simp only [Act.put, List.setIfInBounds_toArray, List.set_cons_zero, List.set_cons_succ]
        refine take_op (i := 14) (v := ?vbq14) rfl (by kernel_rfl) (by kernel_rfl) (by kernel_rfl) (fun _ _ _ h => h) rfl hHeld ?ybq14 ?rbq14
        case ybq14 => (intro wz hz; go_simp; first | done | with_reducible rfl)
        try simp only [Act.put, List.setIfInBounds_toArray, List.set_cons_zero, List.set_cons_succ]
        refine take_one (i := 15) rfl (by kernel_rfl) rfl (fun K hK => ?_)
        go_simp
        refine hK.out _ _ trivial (fun hHeld => ?_)
        clear hK K
        try simp only [Act.put, List.setIfInBounds_toArray, List.set_cons_zero, List.set_cons_succ]
        refine wpAnyH_done (by kernel_rfl) ?_ _
        refine NoPanic.normal ?_
        clear cx cy fz hr hbt hs ly lx
        go_wp2
        go_light
        have hj := HJ.out
        exact ⟨⟨k + 1, by go_num, by congr 1; omega, by omega, FIN.out.1, FIN.out.2.1, FIN.out.2.2⟩, by simp [intOf]; omega⟩
    · have hcc : ¬ (k : Int) < (n : Int) - 1 - (k : Int) := by omega
      have RES : Hid (wr.rowIs g 4 cap (fun i => if i < n then F (n - 1 - i) else F i)) := (show wr.rowIs g 4 cap (fun i => if i < n then F (n - 1 - i) else F i) from hr.congr fun i hi => by
        by_cases e : i < n
        · rw [if_pos e]; exact revF_end F (by omega) hk e
        · rw [if_neg e]; unfold revF; rw [if_neg (fun h => e h.1)])
      have HB2 : Hid _ := hbt
      clear hr hbt
      go_wp2
      go_end0
      exact ⟨rfl, RES.out, hs, HB2.out⟩
end Go.Proofs.YtkgegihkhdgdoaaDoor

/- slices.Reverse of sums. -/
namespace Go.Proofs.YtkgegihkhdgdoaaDoor
set_option linter.unusedSimpArgs false
set_option linter.unusedVariables false
open Go.RowKit Go.Deep

/-- the cells behind k swaps. -/
def revG (G : Nat → Nat → Value) (n k i j : Nat) : Value := if i < n ∧ (i < k ∨ n ≤ i + k) then G (n - 1 - i) j else G i j
theorem revG_lo (G : Nat → Nat → Value) {n k : Nat} (h : 2 * k + 1 < n) (j : Nat) : revG G n k k j = G k j ∧ revG G n k (n - 1 - k) j = G (n - 1 - k) j := by
  unfold revG; rw [if_neg (by omega), if_neg (by omega)]; exact ⟨rfl, rfl⟩
theorem revG_end (G : Nat → Nat → Value) {n k i : Nat} (h : n ≤ 2 * k + 1) (hk : 2 * k ≤ n + 1) (hi : i < n) (j : Nat) : revG G n k i j = G (n - 1 - i) j := by
  unfold revG
  by_cases e : i < k ∨ n ≤ i + k
  · rw [if_pos ⟨hi, e⟩]
  · rw [if_neg (fun h => e h.2)]; congr 1; omega
set_option maxHeartbeats 600000 in
set_option maxRecDepth 100000 in
theorem revSum_any (g n cap : Nat) (G : Nat → Nat → Value) (w : World) (h : w.rowIs g 32 (cap * 32) (fun c => G (c / 32) (c % 32))) (hb : ∀ i j, i < n → j < 32 → (G i j).oneCell' = true) (hn : n ≤ cap) (hm : n ≤ 1000) :
    Calls Tryd.prog 67 #[.slice (some ⟨g, 0, none⟩) n cap] w fun e w' => e = .returned (.tuple #[]) ∧ w'.rowIs g 32 (cap * 32) (fun c => if c / 32 < n then G (n - 1 - c / 32) (c % 32) else G (c / 32) (c % 32)) ∧ w'.heap.size = w.heap.size ∧ But w.heap.size g w w' := by
  have q0 : (n : Int) ≤ 1000 := by omega
  have hlt := h.lt
  have H0 : Hid _ := h
  have HB : Hid _ := hb
  clear h hb
  go_enter Tryd.func67, Tryd.ntmps67
  go_wp2
  go_loopw [2, 3] (fun x y wr => ∃ k : Nat, x = .int .i64 (k : Int) ∧ y = .int .i64 ((n : Int) - 1 - (k : Int)) ∧ 2 * k ≤ n + 1 ∧ wr.rowIs g 32 (cap * 32) (fun c => revG G n k (c / 32) (c % 32)) ∧ wr.heap.size = w.heap.size ∧ But w.heap.size g w wr) (fun x _ _ => n - (intOf x).toNat)
  case atStart => exact ⟨0, rfl, by simp, by omega, World.rowIs.congr H0.out (fun i _ => by unfold revG; rw [if_neg (by omega)]), rfl, But.refl _ _ _⟩
  case round =>
    obtain ⟨k, rfl, rfl, hk, hr, hs, hbt⟩ := hrel
    clear H0
    by_cases hc : 2 * k + 1 < n
    · obtain ⟨j, hj⟩ : ∃ j : Nat, j = n - 1 - k := ⟨_, rfl⟩
      have hl := revG_lo G hc
      have cx : ∀ i, i < 32 → wr.cell? ⟨g, k * 32 + i, none⟩ = some (G k i) := fun i hi => by
        rw [hr.cell (by omega), show (k * 32 + i) / 32 = k by omega, show (k * 32 + i) % 32 = i by omega, (hl i).1]
      have cy : ∀ i, i < 32 → wr.cell? ⟨g, j * 32 + i, none⟩ = some (G j i) := fun i hi => by
        rw [hr.cell (by omega), show (j * 32 + i) / 32 = j by omega, show (j * 32 + i) % 32 = i by omega, hj, (hl i).2]
      have hji : ((n : Int) - 1 - (k : Int)) = (j : Int) := by omega
      rw [hji]
      have p0 : (0 : Int) ≤ (k : Int) := by omega
      have p1 : (k : Int) < (n : Int) := by omega
      have p2 : (0 : Int) ≤ (j : Int) := by omega
      have p3 : (j : Int) < (n : Int) := by omega
      have p4 : (k : Int) < (j : Int) := by omega
      have th1 : wr.drew.there g (k * 32) 32 := there_of_row (w := wr.drew) hr (by omega)
      have r1 := rowIs_splice (o := k * 32) (m := 32) (g := G j) hr
      have th2 : (wr.drew.setCells g (k * 32) (rowV 32 (G j)).toList).there g (j * 32) 32 := there_of_row (rowIs_splice (o := k * 32) (m := 32) (g := G j) (w := wr.drew) hr) (by omega)
      have FIN : Hid (((wr.drew.setCells g (k * 32) (rowV 32 (G j)).toList).setCells g (j * 32) (rowV 32 (G k)).toList).rowIs g 32 (cap * 32) (fun c => revG G n (k + 1) (c / 32) (c % 32)) ∧ ((wr.drew.setCells g (k * 32) (rowV 32 (G j)).toList).setCells g (j * 32) (rowV 32 (G k)).toList).heap.size = w.heap.size ∧ But w.heap.size g w ((wr.drew.setCells g (k * 32) (rowV 32 (G j)).toList).setCells g (j * 32) (rowV 32 (G k)).toList)) := (show _ from by
        have R2 := rowIs_splice (o := j * 32) (m := 32) (g := G k) (rowIs_splice (o := k * 32) (m := 32) (g := G j) (w := wr.drew) hr)
        refine ⟨R2.congr fun i hi => ?_, ?_, ?_⟩
        · show (if j * 32 ≤ i ∧ i < j * 32 + 32 then G k (i - j * 32) else if k * 32 ≤ i ∧ i < k * 32 + 32 then G j (i - k * 32) else revG G n k (i / 32) (i % 32)) = _
          unfold revG
          by_cases e1 : i / 32 = j
          · rw [if_pos (by omega), if_pos (by omega), show n - 1 - i / 32 = k by omega, show i - j * 32 = i % 32 by omega]
          · rw [if_neg (by omega)]
            by_cases e2 : i / 32 = k
            · rw [if_pos (by omega), if_pos (by omega), show n - 1 - i / 32 = j by omega, show i - k * 32 = i % 32 by omega]
            · rw [if_neg (by omega)]
              by_cases e3 : i / 32 < n ∧ (i / 32 < k ∨ n ≤ i / 32 + k)
              · rw [if_pos e3, if_pos ⟨e3.1, by omega⟩]
              · rw [if_neg e3, if_neg (by omega)]
        · rw [size_setCells, size_setCells]; exact hs
        · exact but_setCells _ _ (but_setCells _ _ hbt.drew))
      have HJ : Hid _ := hj
      have o1 := fun i (hi : i < 32) => HB.out k i (by omega) hi
      have o2 := fun i (hi : i < 32) => HB.out j i (by omega) hi
      clear hj hji hr hl r1
      go_upto_region 3 with fail
      refine wp_region_noPanic ?_
      refine wp_region_held_drew (S := fun w' => True) (by kernel_rfl) trivial (fun hHeld => ?_)
      refine take_op (i := 0) (v := ?va0) rfl (by kernel_rfl) (by kernel_rfl) (by kernel_rfl) (fun _ _ _ h => h) rfl hHeld ?ya0 ?ra0
      case ya0 => (intro wz hz; go_simp; first | done | with_reducible rfl)
      try simp only [Act.put, List.setIfInBounds_toArray, List.set_cons_zero, List.set_cons_succ]
      refine take_op (i := 1) (v := ?va1) rfl (by kernel_rfl) (by kernel_rfl) (by kernel_rfl) (fun _ _ _ h => h) rfl hHeld ?ya1 ?ra1
      case ya1 => (intro wz hz; go_simp; first | done | with_reducible rfl)
      try simp only [Act.put, List.setIfInBounds_toArray, List.set_cons_zero, List.set_cons_succ]
      refine take_op (i := 2) (v := ?va2) rfl (by kernel_rfl) (by kernel_rfl) (by kernel_rfl) (fun _ _ _ h => h) rfl hHeld ?ya2 ?ra2
      case ya2 => (intro wz hz; go_simp; first | done | with_reducible rfl)
      try simp only [Act.put, List.setIfInBounds_toArray, List.set_cons_zero, List.set_cons_succ]
      refine take_op (i := 3) (v := ?va3) rfl (by kernel_rfl) (by kernel_rfl) (by kernel_rfl) (fun _ _ _ h => h) rfl hHeld ?ya3 ?ra3
      case ya3 => (intro wz hz; go_simp; first | done | with_reducible rfl)
      try simp only [Act.put, List.setIfInBounds_toArray, List.set_cons_zero, List.set_cons_succ]
      refine take_op (i := 4) (v := ?va4) rfl (by kernel_rfl) (by kernel_rfl) (by kernel_rfl) (fun _ _ _ h => h) rfl hHeld ?ya4 ?ra4
      case ya4 => (intro wz hz; go_simp; first | done | with_reducible rfl)
      try simp only [Act.put, List.setIfInBounds_toArray, List.set_cons_zero, List.set_cons_succ]
      refine take_op (i := 5) (v := ?va5) rfl (by kernel_rfl) (by kernel_rfl) (by kernel_rfl) (fun _ _ _ h => h) rfl hHeld ?ya5 ?ra5
      case ya5 => (intro wz hz; go_simp; first | done | with_reducible rfl)
      try simp only [Act.put, List.setIfInBounds_toArray, List.set_cons_zero, List.set_cons_succ]
      refine take_op (i := 6) (v := ?va6) rfl (by kernel_rfl) (by kernel_rfl) (by kernel_rfl) (fun _ _ _ h => h) rfl hHeld ?ya6 ?ra6
      case ya6 => (intro wz hz; go_simp; first | done | with_reducible rfl)
      try simp only [Act.put, List.setIfInBounds_toArray, List.set_cons_zero, List.set_cons_succ]
      refine take_op (i := 8) (v := ?va8) rfl (by kernel_rfl) (by kernel_rfl) (by kernel_rfl) (fun _ _ _ h => h) rfl hHeld ?ya8 ?ra8
      case ya8 => (intro wz hz; go_simp; first | done | with_reducible rfl)
      try simp only [Act.put, List.setIfInBounds_toArray, List.set_cons_zero, List.set_cons_succ]
      refine take_op (i := 9) (v := ?va9) rfl (by kernel_rfl) (by kernel_rfl) (by kernel_rfl) (fun _ _ _ h => h) rfl hHeld ?ya9 ?ra9
      case ya9 => (intro wz hz; go_simp; first | done | with_reducible rfl)
      try simp only [Act.put, List.setIfInBounds_toArray, List.set_cons_zero, List.set_cons_succ]
      refine take_op (i := 10) (v := ?va10) rfl (by kernel_rfl) (by kernel_rfl) (by kernel_rfl) (fun _ _ _ h => h) rfl hHeld ?ya10 ?ra10
      case ya10 => (intro wz hz; go_simp; first | done | with_reducible rfl)
      try simp only [Act.put, List.setIfInBounds_toArray, List.set_cons_zero, List.set_cons_succ]
      refine take_two (i := 7) (j := 11) (u := .agg (rowV 32 (G j))) (v := .agg (rowV 32 (G k))) rfl rfl (by kernel_rfl) rfl rfl trivial ?h7 ?h11 ?o7 ?o11
      case h7 => exact exec_load_row 32 _ rfl g (j * 32) 32 (G j) rfl _ Tryd.underlying32 rfl hi32' cy
      case h11 => exact exec_load_row 32 _ rfl g (k * 32) 32 (G k) rfl _ Tryd.underlying32 rfl hi32' cx
      case o7 =>
        try simp only [Act.put, List.setIfInBounds_toArray, List.set_cons_zero, List.set_cons_succ]
        refine take_run (i := 11) (v := .agg (rowV 32 (G k))) (w' := wr.drew) rfl (by kernel_rfl) rfl ?h11b trivial ?_
        case h11b => exact exec_load_row 32 _ rfl g (k * 32) 32 (G k) rfl _ Tryd.underlying32 rfl hi32' cx
        try simp only [Act.put, List.setIfInBounds_toArray, List.set_cons_zero, List.set_cons_succ]
        refine take_op (i := 12) (v := ?vbp12) rfl (by kernel_rfl) (by kernel_rfl) (by kernel_rfl) (fun _ _ _ h => h) rfl hHeld ?ybp12 ?rbp12
        case ybp12 => (intro wz hz; go_simp; first | done | with_reducible rfl)
        try simp only [Act.put, List.setIfInBounds_toArray, List.set_cons_zero, List.set_cons_succ]
        refine take_one (i := 13) rfl (by kernel_rfl) rfl (fun K hK => ?_)
        have e13 := stowR_run (P := Tryd.prog) (wr.drew) 32 g (k * 32) 32 (G j) hi32' o2 th1
        unfold Oper.wp execOp
        simp only [Instr.storeAt, Instr.sureAddr, Sem.run_bind, Sem.run_pure, Result.andThen_ok]
        simp [Act.eval, e13, Oper.upon]
        clear e13
        refine hK.out _ _ trivial (fun hHeld => ?_)
        clear hK K
        try simp only [Act.put, List.setIfInBounds_toArray, List.set_cons_zero, List.set_cons_succ]
        refine take_op (i := 14) (v := ?vbp14) rfl (by kernel_rfl) (by kernel_rfl) (by kernel_rfl) (fun _ _ _ h => h) rfl hHeld ?ybp14 ?rbp14
        case ybp14 => (intro wz hz; go_simp; first | done | with_reducible rfl)
        try simp only [Act.put, List.setIfInBounds_toArray, List.set_cons_zero, List.set_cons_succ]
        refine take_one (i := 15) rfl (by kernel_rfl) rfl (fun K hK => ?_)
        have e15 := stowR_run (P := Tryd.prog) (wr.drew.setCells g (k * 32) (rowV 32 (G j)).toList) 32 g (j * 32) 32 (G k) hi32' o1 th2
        unfold Oper.wp execOp
        simp only [Instr.storeAt, Instr.sureAddr, Sem.run_bind, Sem.run_pure, Result.andThen_ok]
        simp [Act.eval, e15, Oper.upon]
        clear e15
        refine hK.out _ _ trivial (fun hHeld => ?_)
        clear hK K
        try simp only [Act.put, List.setIfInBounds_toArray, List.set_cons_zero, List.set_cons_succ]
        refine wpAnyH_done (by kernel_rfl) ?_ _
        refine NoPanic.normal ?_
        clear cx cy hbt hs th1 th2 o1 o2
        generalize (wr.drew.setCells g (k * 32) (rowV 32 (G j)).toList).setCells g (j * 32) (rowV 32 (G k)).toList = w9 at FIN ⊢
        go_wp2
        go_light
        have hj := HJ.out
        exact ⟨⟨k + 1, by go_num, by congr 1; omega, by omega, FIN.out.1, FIN.out.2.1, FIN.out.2.2⟩, by simp [intOf]; omega⟩
      case o11 =>
        try simp only [Act.put, List.setIfInBounds_toArray, List.set_cons_zero, List.set_cons_succ]
        refine take_run (i := 7) (v := .agg (rowV 32 (G j))) (w' := wr.drew) rfl (by kernel_rfl) rfl ?h7b trivial ?_
        case h7b => exact exec_load_row 32 _ rfl g (j * 32) 32 (G j) rfl _ Tryd.underlying32 rfl hi32' cy
        try simp only [Act.put, List.setIfInBounds_toArray, List.set_cons_zero, List.set_cons_succ]
        refine take_op (i := 12) (v := ?vbq12) rfl (by kernel_rfl) (by kernel_rfl) (by kernel_rfl) (fun _ _ _ h => h) rfl hHeld ?ybq12 ?rbq12
        case ybq12 => (intro wz hz; go_simp; first | done | with_reducible rfl)
        try simp only [Act.put, List.setIfInBounds_toArray, List.set_cons_zero, List.set_cons_succ]
        refine take_one (i := 13) rfl (by kernel_rfl) rfl (fun K hK => ?_)
        have e13 := stowR_run (P := Tryd.prog) (wr.drew) 32 g (k * 32) 32 (G j) hi32' o2 th1
        unfold Oper.wp execOp
        simp only [Instr.storeAt, Instr.sureAddr, Sem.run_bind, Sem.run_pure, Result.andThen_ok]
        simp [Act.eval, e13, Oper.upon]
        clear e13
        refine hK.out _ _ trivial (fun hHeld => ?_)
        clear hK K
        try simp only [Act.put, List.setIfInBounds_toArray, List.set_cons_zero, List.set_cons_succ]
        refine take_op (i := 14) (v := ?vbq14) rfl (by kernel_rfl) (by kernel_rfl) (by kernel_rfl) (fun _ _ _ h => h) rfl hHeld ?ybq14 ?rbq14
        case ybq14 => (intro wz hz; go_simp; first | done | with_reducible rfl)
        try simp only [Act.put, List.setIfInBounds_toArray, List.set_cons_zero, List.set_cons_succ]
        refine take_one (i := 15) rfl (by kernel_rfl) rfl (fun K hK => ?_)
        have e15 := stowR_run (P := Tryd.prog) (wr.drew.setCells g (k * 32) (rowV 32 (G j)).toList) 32 g (j * 32) 32 (G k) hi32' o1 th2
        unfold Oper.wp execOp
        simp only [Instr.storeAt, Instr.sureAddr, Sem.run_bind, Sem.run_pure, Result.andThen_ok]
        simp [Act.eval, e15, Oper.upon]
        clear e15
        refine hK.out _ _ trivial (fun hHeld => ?_)
        clear hK K
        try simp only [Act.put, List.setIfInBounds_toArray, List.set_cons_zero, List.set_cons_succ]
        refine wpAnyH_done (by kernel_rfl) ?_ _
        refine NoPanic.normal ?_
        clear cx cy hbt hs th1 th2 o1 o2
        generalize (wr.drew.setCells g (k * 32) (rowV 32 (G j)).toList).setCells g (j * 32) (rowV 32 (G k)).toList = w9 at FIN ⊢
        go_wp2
        go_light
        have hj := HJ.out
        exact ⟨⟨k + 1, by go_num, by congr 1; omega, by omega, FIN.out.1, FIN.out.2.1, FIN.out.2.2⟩, by simp [intOf]; omega⟩
    · have hcc : ¬ (k : Int) < (n : Int) - 1 - (k : Int) := by omega
      have RES : Hid (wr.rowIs g 32 (cap * 32) (fun c => if c / 32 < n then G (n - 1 - c / 32) (c % 32) else G (c / 32) (c % 32))) := (show wr.rowIs g 32 (cap * 32) (fun c => if c / 32 < n then G (n - 1 - c / 32) (c % 32) else G (c / 32) (c % 32)) from hr.congr fun i hi => by
        by_cases e : i / 32 < n
        · rw [if_pos e]; exact revG_end G (by omega) hk e _
        · rw [if_neg e]; unfold revG; rw [if_neg (fun h => e h.1)])
      have HB2 : Hid _ := hbt
      clear hr hbt
      go_wp2
      go_end0
      exact ⟨rfl, RES.out, hs, HB2.out⟩
/-- slices.Reverse of the call's own sums. -/
theorem revSums_any (B : Nat) (v : Value) (L : List (List Int)) (w : World) (h : newSums w B v L) (hm : L.length ≤ 1000) :
    Calls Tryd.prog 67 #[v] w fun e w' => e = .returned (.tuple #[]) ∧ newSums w' B v L.reverse ∧ w'.heap.size = w.heap.size ∧ (∀ j, v.ownBlock ≠ some j → j < w.heap.size → w'.heap[j]? = w.heap[j]?) ∧ Below B w w' := by
  obtain ⟨hs, hl, hh | ⟨g, cap, cur, rfl, hB, hg, hc, hmx, hcs, htk⟩⟩ := h
  · obtain ⟨rfl, h0⟩ := hh
    have e : L = [] := List.eq_nil_of_length_eq_zero h0
    subst e
    go_enter Tryd.func67, Tryd.ntmps67
    go_wp2
    go_loopw [2, 3] (fun x y wr => x = .int .i64 0 ∧ y = .int .i64 (-1) ∧ wr = w) (fun x _ _ => 0)
    case atStart => exact ⟨rfl, rfl, rfl⟩
    case round =>
      obtain ⟨rfl, rfl, rfl⟩ := hrel
      go_wp2
      go_end0
      exact ⟨rfl, newSums.nil _ _, rfl, fun _ _ _ => rfl, Below.refl _ _⟩
  · have hrow : w.rowIs g 32 (cap * 32) (fun c => cur.getD (c / 32 * 32 + c % 32) undef) := ⟨cur, hg, hcs, fun i hi => by show cur[i]? = some (cur.getD (i / 32 * 32 + i % 32) undef); rw [show i / 32 * 32 + i % 32 = i by omega, Array.getElem?_eq_getElem (by omega)]; simp [Array.getD, hcs, hi]⟩
    have hcell : ∀ i (hi : i < L.length) j, j < 32 → cur.getD (i * 32 + j) undef = arrV L[i] j := fun i hi j hj => by
      have h1 := sumsC_get L i j _ (List.getElem?_eq_getElem hi) hj
      rw [← htk, List.getElem?_take, if_pos (by omega), Array.getElem?_toList] at h1
      simp [Array.getD_eq_getD_getElem?, h1]
    refine (revSum_any g L.length cap (fun i j => cur.getD (i * 32 + j) undef) w hrow (fun i j hi hj => by rw [hcell i hi j hj]; rfl) hc hm).mono ?_
    rintro e w' ⟨rfl, hr, hz, hb⟩
    refine ⟨rfl, ⟨fun x hx => hs x (List.mem_reverse.1 hx), ?_⟩, hz, fun j hj hjl => hb.block j hjl (fun e => hj (by rw [e]; rfl)), ⟨hb.os, hb.tape, hb.output, hb.size, fun k hk => hb.block k (by have := (Array.getElem?_eq_some_iff.1 hg).1; omega) (by omega)⟩⟩
    obtain ⟨c', hb', hs', hc'⟩ := hr
    refine ⟨by rw [sumsC_len, List.length_reverse], Or.inr ⟨g, cap, c', by rw [List.length_reverse], hB, hb', by rw [List.length_reverse]; exact hc, hmx, hs', ?_⟩⟩
    refine List.ext_getElem? fun i => ?_
    rw [List.length_reverse]
    by_cases hi : i < L.length * 32
    · rw [List.getElem?_take, if_pos hi, Array.getElem?_toList, hc' i (by have := Nat.mul_le_mul_right 32 hc; omega)]
      show some (if i / 32 < L.length then cur.getD ((L.length - 1 - i / 32) * 32 + i % 32) undef else cur.getD (i / 32 * 32 + i % 32) undef) = _
      rw [if_pos (by omega), hcell _ (by omega) _ (by omega)]
      have h2 := sumsC_get L.reverse (i / 32) (i % 32) L[L.length - 1 - i / 32] (by rw [List.getElem?_reverse (by omega)]; exact List.getElem?_eq_getElem _) (by omega)
      rw [show i / 32 * 32 + i % 32 = i by omega] at h2
      exact h2.symm
    · rw [List.getElem?_take, if_neg hi, List.getElem?_eq_none (by rw [sumsC_len, List.length_reverse]; omega)]
end Go.Proofs.YtkgegihkhdgdoaaDoor

/- tree.Lead: what it asks for. -/
namespace Go.Proofs.YtkgegihkhdgdoaaDoor
set_option linter.unusedSimpArgs false
set_option linter.unusedVariables false
open Go.RowKit Go.Deep

/-- the place is there, and the path as long as it must be. -/
def okLead (n at_ : Int) (path : List (List Int)) : Bool := thereB n at_ && decide (path.length = (wayI n at_).length)
end Go.Proofs.YtkgegihkhdgdoaaDoor

/- tree.Lead: what is refused. -/
namespace Go.Proofs.YtkgegihkhdgdoaaDoor
set_option linter.unusedSimpArgs false
set_option linter.unusedVariables false
open Go.RowKit Go.Deep

set_option maxHeartbeats 1000000 in
set_option maxRecDepth 100000 in
theorem lead_no (kv : Value) (n at_ : Int) (hn : -9223372036854775808 ≤ n ∧ n ≤ 9223372036854775807) (ha : -9223372036854775808 ≤ at_ ∧ at_ ≤ 9223372036854775807) (leaf : List Int) (path : List (List Int)) (pv : Value) (w : World)
    (hp : sumsAt w pv path) (hlen : path.length ≤ 1000) (hno : okLead n at_ path = false) :
    Calls Tryd.prog 77 #[kv, .int .i64 n, .int .i64 at_, sumV leaf, pv] w fun e w' => e = .returned (.tuple #[.agg (rowV 32 (fun _ => .int .u8 0)), .int .i64 10]) ∧ Below w.heap.size w w' := by
  have hz32 := zero_s32
  obtain ⟨w1, hw1⟩ : ∃ w1, w1 = (w.alloc (.cells (rowV 32 (arrV leaf)) 32)).alloc (.cells (rowV 32 (fun _ => .int .u8 0)) 32) := ⟨_, rfl⟩
  have s1 : w1.heap.size = w.heap.size + 2 := by rw [hw1]; simp
  have b1 : Below w.heap.size w w1 := by rw [hw1]; exact ((Below.refl _ _).alloc (Nat.le_refl _) _).alloc (by simp) _
  have r1 : w1.rowIs (w.heap.size + 1) 32 32 (fun _ => .int .u8 0) := by
    rw [hw1]
    have := rowIs_box (w.alloc (.cells (rowV 32 (arrV leaf)) 32)) 32 32 (fun _ => .int .u8 0)
    rwa [World.size_alloc] at this
  have X1 := within_any n at_ w1
  have X2 := depth_any n at_ hn ha w1
  obtain ⟨_, pa, pc, rfl, _, _, _⟩ := hp
  have q0 : (path.length : Int) ≤ 1000 := by omega
  refine callsIn_wide (n := 3) |>.1 ?_
  refine callsIn_of_wp_marks Tryd.func77 rfl trivial ?_ rfl
  refine wpIn_wide.2 ?_
  simp only [Tryd.ntmps77, List.size_toArray, List.length_cons, List.length_nil, Nat.reduceAdd, Nat.reduceSub, Array.replicate_succ, Array.replicate_zero, List.push_toArray, List.append_toArray, List.nil_append, List.cons_append]
  unfold sumV
  go_upto_region 1 with fail
  rw [← hw1]
  have S1 : Hid _ := s1
  have B1 : Hid _ := b1
  clear hw1 s1 b1
  cases hth : thereB n at_ with
  | false =>
    rw [hth] at X1
    clear X2
    go_wp2_with fail
    refine X1.mono ?_
    rintro e w' ⟨rfl, hw⟩
    obtain rfl := hw.symm
    clear X1 hw
    go_wp2_with (first | (refine wpList_store_row rfl 32 _ _ rfl rfl (w.heap.size + 1) 0 32 (fun _ => .int .u8 0) rfl rfl hi32' (fun _ _ => rfl) _ _ _ r1 (by omega) ?_; intro w6 r6 hz6 hb6))
    exact bodyPostM_ret (results_cell_seg2 rfl _ _ (w.heap.size + 1) 32 32 (fun _ => .int .u8 0) _ rfl Tryd.underlying32 rfl hi32' (r6.congr fun i hi => by rw [if_pos (by omega)])) rfl ⟨rfl, B1.out.trans (((hb6.mono (show w.heap.size ≤ _ by have := S1.out; omega)).below (by omega)))⟩
  | true =>
    rw [hth] at X1
    have hne : path.length ≠ (wayI n at_).length := by
      intro e
      simp [okLead, hth, e] at hno
    have hni : ¬ (path.length : Int) = ((wayI n at_).length : Int) := by omega
    generalize (wayI n at_).length = m at X2 hni
    clear hne
    go_wp2_with fail
    refine X1.mono ?_
    rintro e w' ⟨rfl, hw⟩
    obtain rfl := hw.symm
    clear X1 hw
    go_wp2_with fail
    refine X2.mono ?_
    rintro e w2 ⟨rfl, b2⟩
    clear X2
    have s2 := b2.size
    have B2 : Hid _ := b2
    have r2 : w2.rowIs (w.heap.size + 1) 32 32 (fun _ => .int .u8 0) := b2.row r1 (by have := S1.out; omega)
    clear b2
    go_wp2_with (first | (refine wpList_store_row rfl 32 _ _ rfl rfl (w.heap.size + 1) 0 32 (fun _ => .int .u8 0) rfl rfl hi32' (fun _ _ => rfl) _ _ _ r2 (by omega) ?_; intro w6 r6 hz6 hb6))
    exact bodyPostM_ret (results_cell_seg2 rfl _ _ (w.heap.size + 1) 32 32 (fun _ => .int .u8 0) _ rfl Tryd.underlying32 rfl hi32' (r6.congr fun i hi => by rw [if_pos (by omega)])) rfl ⟨rfl, (B1.out.trans (B2.out.mono (by have := S1.out; omega))).trans (((hb6.mono (show w.heap.size ≤ _ by have := S1.out; omega)).below (by omega)))⟩
end Go.Proofs.YtkgegihkhdgdoaaDoor
