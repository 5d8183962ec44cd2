import Derived.Test.YtcfbaijibghcaaaDoorSealMap
import Derived.Deep.AppendLies
import Derived.Laws.StructEq
/- Notes, and slices of them; frames. -/
namespace Go.Proofs.YtcfbaijibghcaaaDoor
set_option linter.unusedSimpArgs false
set_option linter.unusedVariables false
open Go.RowKit Go.Deep

/-- NOTHING OUTSIDE F HAS TURNED. -/
structure Fr (F : Nat → Prop) (w w' : World) : Prop where
  os : w'.os = w.os
  tape : w'.tape = w.tape
  output : w'.output = w.output
  size : w.heap.size ≤ w'.heap.size
  block : ∀ k, k < w.heap.size → ¬ F k → w'.heap[k]? = w.heap[k]?
namespace Fr
variable {F G : Nat → Prop} {w w' w'' : World}
theorem refl (F : Nat → Prop) (w : World) : Fr F w w := ⟨rfl, rfl, rfl, Nat.le_refl _, fun _ _ _ => rfl⟩
theorem trans (h : Fr F w w') (k : Fr G w' w'') (hG : ∀ i, i < w.heap.size → G i → F i) : Fr F w w'' :=
  ⟨k.os.trans h.os, k.tape.trans h.tape, k.output.trans h.output, Nat.le_trans h.size k.size, fun i hi hn => (k.block i (Nat.lt_of_lt_of_le hi h.size) (fun g => hn (hG i hi g))).trans (h.block i hi hn)⟩
theorem of_below (F : Nat → Prop) (h : Below w.heap.size w w') : Fr F w w' := ⟨h.os, h.tape, h.output, h.size, fun i hi _ => h.block i hi⟩
theorem below (h : Fr F w w') {B : Nat} (hF : ∀ k, F k → B ≤ k) (hB : B ≤ w.heap.size) : Below B w w' :=
  ⟨h.os, h.tape, h.output, h.size, fun i hi => h.block i (Nat.lt_of_lt_of_le hi hB) (fun f => by have := hF i f; omega)⟩
theorem drew (h : Fr F w w') : Fr F w w'.drew := ⟨h.os, h.tape, h.output, h.size, h.block⟩
theorem mono (h : Fr F w w') (hG : ∀ k, F k → G k) : Fr G w w' := ⟨h.os, h.tape, h.output, h.size, fun i hi hn => h.block i hi (fun f => hn (hG i f))⟩
theorem grown {row : Option Nat} (h : w.grownBy w' row) (hr : ∀ k, row = some k → F k) : Fr F w w' :=
  ⟨h.os, h.tape, h.output, h.size, fun i hi hn => h.block i hi (fun e => hn (hr i e.symm))⟩
theorem setCell (h : Fr F w w') {p : Addr} (hp : F p.block ∨ w.heap.size ≤ p.block) (v : Value) : Fr F w (w'.setCell p v) :=
  ⟨h.os, h.tape, h.output, by rw [nblk_setCell]; exact h.size, fun k hk hn => (blk_setCell_other _ _ _ _ (by rintro rfl; rcases hp with hp | hp; exact hn hp; omega)).trans (h.block k hk hn)⟩
theorem alloc (h : Fr F w w') (o : Obj) : Fr F w (w'.alloc o) :=
  ⟨h.os, h.tape, h.output, by have := h.size; simp; omega, fun k hk hn => (blk_alloc_lt _ _ _ (Nat.lt_of_lt_of_le hk h.size)).trans (h.block k hk hn)⟩
end Fr

/-- a note's cells. -/
def noteV (x : Nt) (j : Nat) : Value := if j < 32 then arrV x.1 j else .string x.2
def noteA (x : Nt) : Value := .agg (rowV 33 (noteV x))
def noteL (x : Nt) : List Value := (rowV 33 (noteV x)).toList
theorem noteL_length (x : Nt) : (noteL x).length = 33 := by simp [noteL, rowV_size]
theorem noteL_get (x : Nt) (j : Nat) (h : j < 33) : (noteL x)[j]? = some (noteV x j) := by rw [noteL, Array.getElem?_toList]; exact rowV_get _ _ _ h
theorem noteV_one (x : Nt) (j : Nat) : (noteV x j).oneCell' = true := by unfold noteV arrV; split <;> rfl
theorem notes_length : ∀ N : List Nt, (N.flatMap noteL).length = N.length * 33
  | [] => rfl
  | x :: N => by rw [List.flatMap_cons, List.length_append, noteL_length, notes_length N, List.length_cons]; omega
theorem notes_get : ∀ (N : List Nt) (i j : Nat) (x : Nt), N[i]? = some x → j < 33 → (N.flatMap noteL)[i * 33 + j]? = some (noteV x j)
  | [], i, j, x, h, _ => by simp at h
  | y :: N, 0, j, x, h, hj => by
    have e : y = x := by simpa using h
    subst e
    rw [List.flatMap_cons, Nat.zero_mul, Nat.zero_add, List.getElem?_append_left (by rw [noteL_length]; exact hj)]
    exact noteL_get _ _ hj
  | y :: N, i + 1, j, x, h, hj => by
    rw [List.flatMap_cons, List.getElem?_append_right (by rw [noteL_length]; omega), noteL_length, show (i + 1) * 33 + j - 33 = i * 33 + j by omega]
    exact notes_get N i j x (by simpa using h) hj
/-- a slice of notes of the book's own. -/
def listAt (w : World) (F : Nat → Prop) (v : Value) (N : List Nt) : Prop := w.ownsRow 0 62 33 v N.length (N.flatMap noteL) ∧ ∀ k, v.ownBlock = some k → F k
theorem listAt_nil (w : World) (F : Nat → Prop) : listAt w F (.slice none 0 0) [] := ⟨⟨rfl, Or.inl ⟨rfl, rfl⟩⟩, fun k hk => by cases hk⟩
theorem listAt.shape {w : World} {F : Nat → Prop} {v : Value} {N : List Nt} (h : listAt w F v N) : ∃ a cap, v = .slice a N.length cap ∧ N.length ≤ cap ∧ cap ≤ maxLen ∧ ∀ i x, N[i]? = some x → ∃ g, a = some ⟨g, 0, none⟩ ∧ F g ∧ g < w.heap.size ∧ ∀ j, j < 33 → w.cell? ⟨g, i * 33 + j, none⟩ = some (noteV x j) := by
  obtain ⟨⟨hl, h | ⟨g, cap, cur, rfl, _, hb, hc, hm, hs, ht⟩⟩, hF⟩ := h
  · have e : N = [] := List.length_eq_zero_iff.1 h.2
    subst e
    exact ⟨none, 0, h.1, by simp, by unfold maxLen; omega, fun i x hx => by simp at hx⟩
  · refine ⟨_, cap, rfl, hc, hm, fun i x hx => ⟨g, rfl, hF g rfl, (Array.getElem?_eq_some_iff.1 hb).1, fun j hj => ?_⟩⟩
    rw [cell_of_row _ _ _ _ _ _ hb]
    have hi : i < N.length := (List.getElem?_eq_some_iff.1 hx).1
    have := notes_get N i j x hx hj
    rw [← ht, List.getElem?_take, if_pos (by have := Nat.mul_le_mul_right 33 (show i + 1 ≤ N.length from hi); omega), Array.getElem?_toList] at this
    exact this
theorem listAt.far {w w' : World} {F G : Nat → Prop} {v : Value} {N : List Nt} (h : listAt w F v N) (hb : ∀ k, F k → k < w.heap.size → w'.heap[k]? = w.heap[k]?) (hG : ∀ k, F k → G k) : listAt w' G v N := by
  obtain ⟨⟨hl, h | ⟨g, cap, cur, rfl, hz, hg, hr⟩⟩, hF⟩ := h
  · exact ⟨⟨hl, Or.inl h⟩, fun k hk => hG k (hF k hk)⟩
  · exact ⟨⟨hl, Or.inr ⟨g, cap, cur, rfl, hz, by rw [hb g (hF g rfl) (Array.getElem?_eq_some_iff.1 hg).1]; exact hg, hr⟩⟩, fun k hk => hG k (hF k hk)⟩
theorem mapAt.far {w w' : World} {F G : Nat → Prop} {v : Value} {N : List Nt} (h : mapAt w F v N) (hb : ∀ k, F k → k < w.heap.size → w'.heap[k]? = w.heap[k]?) (hG : ∀ k, F k → G k) : mapAt w' G v N := by
  rcases h with h | ⟨mb, es, clock, rfl, hF, hg, h1, h2⟩
  · exact Or.inl h
  · exact Or.inr ⟨mb, es, clock, rfl, hG _ hF, by rw [hb mb hF (Array.getElem?_eq_some_iff.1 hg).1]; exact hg, h1, h2⟩
theorem infoNote : (Tryd.prog.info? 62).map (fun i => (i.zero, i.size, i.bytes)) = some (some (.agg (rowV 33 (noteV (List.replicate 32 0, ByteArray.empty)))), 33, 48) := by kernel_rfl
theorem run_build_note (g : Nat → Value) (w : World) : (Instr.buildSlice 67 1 #[(0, .agg (rowV 33 g))]).run Tryd.prog w = .ok (.slice (some ⟨w.heap.size, 0, none⟩) 1 1) (w.alloc (.cells (rowV 33 g) 62)) := by
  show (_ : Result Value) = _
  kernel_rfl
/-- append(n.list, fresh). -/
theorem note_append_run (w : World) (F : Nat → Prop) (v : Value) (N : List Nt) (x : Nt) (h : listAt w F v N) (hs : N.length < 1000000) (hF : ∀ k, F k → k < w.heap.size) :
    ∃ v' w', (Builtin.append_ #[67, 67] 67 #[v, .slice (some ⟨w.heap.size, 0, none⟩) 1 1]).run Tryd.prog (w.alloc (.cells (rowV 33 (noteV x)) 62)) = .ok v' w' ∧
      listAt w' (fun k => F k ∨ (w.heap.size ≤ k ∧ k < w'.heap.size)) v' (N ++ [x]) ∧ (w.alloc (.cells (rowV 33 (noteV x)) 62)).grownBy w' v.ownBlock := by
  have hbk : ∀ k, F k → k < w.heap.size → (w.alloc (.cells (rowV 33 (noteV x)) 62)).heap[k]? = w.heap[k]? := fun k _ hk => blk_alloc_lt _ _ _ hk
  have h1 := h.far hbk (fun k hk => hk)
  cases hq : Tryd.prog.info? 62 with
  | none => have := infoNote; simp [hq] at this
  | some i =>
    have hi := infoNote
    simp only [hq, Option.map_some, Option.some.injEq, Prod.mk.injEq] at hi
    obtain ⟨hz, hsz, hby⟩ := hi
    obtain ⟨g, cap, w', hr, ho, hg, hat, hlt⟩ := run_append_lies (P := Tryd.prog) (w.alloc (.cells (rowV 33 (noteV x)) 62)) 67 67 0 62 i _ 33 48 Tryd.underlying67 hq hz hsz hby (by simp [Value.cells, rowV_size]) (by omega)
      v N.length _ h1.1 ⟨w.heap.size, 0, none⟩ 1 1 (noteL x) (by rw [noteL_length]) (fun j u hu => by
        rw [Addr.add_mid, Nat.zero_add]
        have hj : j < 33 := by
          by_cases hj : j < 33
          · exact hj
          · rw [List.getElem?_eq_none (by rw [noteL_length]; omega)] at hu; cases hu
        rw [noteL_get x j hj] at hu
        rw [(rowIs_box w 62 33 (noteV x)).cell hj]; exact hu)
      (fun u hu => by
        rw [noteL, Array.mem_toList_iff] at hu
        obtain ⟨k, hk, rfl⟩ := Array.mem_iff_getElem.1 hu
        have hk' : k < 33 := by rw [rowV_size] at hk; exact hk
        have := rowV_get 33 (noteV x) k hk'
        rw [Array.getElem?_eq_getElem hk] at this
        rw [Option.some.inj this]; exact noteV_one _ _) (by omega) (by unfold maxLen; omega) (by omega) (Nat.zero_le _) (w.heap.size + 1) (by simp)
    refine ⟨_, w', hr, ⟨?_, fun k hk => ?_⟩, hg⟩
    · rw [List.flatMap_append, List.length_append, List.length_singleton]
      simpa using ho
    · have hk' : g = k := by simpa [Value.ownBlock] using hk
      subst hk'
      rcases hat with h2 | h2
      · exact Or.inl (h.2 g h2)
      · exact Or.inr ⟨by omega, hlt⟩
/-- a struct's field of 32 cells. -/
theorem run_part_sum (w : World) (x : Nt) : (part 23 (rowV 33 (noteV x)) 0).run Tryd.prog w = .ok (sumV x.1) w := by
  have e : (rowV 33 (noteV x)).extract 0 (0 + 32) = rowV 32 (arrV x.1) := rowV_eq (by simp [rowV_size]) fun i hi => by
    rw [Array.getElem?_extract, if_pos (by rw [rowV_size]; omega), Nat.zero_add, rowV_get _ _ _ (by omega), noteV, if_pos hi]
  have hagg : (isAgg 23).run Tryd.prog w = .ok true w := by
    unfold isAgg
    rw [Sem.run_bind, run_underlying Tryd.underlying23 w]
    simp
  have hsz : (sizeOf 23).run Tryd.prog w = .ok 32 w := by kernel_rfl
  simp [part, Sem.run_bind, hagg, hsz, sumV, e]
theorem run_part_text (w : World) (x : Nt) : (part 9 (rowV 33 (noteV x)) 32).run Tryd.prog w = .ok (.string x.2) w := by
  have hagg : (isAgg 9).run Tryd.prog w = .ok false w := by
    unfold isAgg
    rw [Sem.run_bind, run_underlying Tryd.underlying9 w]
    simp
  simp [part, Sem.run_bind, hagg, rowV_get 33 (noteV x) 32 (by omega), noteV]
theorem arrEq_list {p q : List Int} (hp : isSum p) (hq : isSum q) : arrEq 32 (fun i => p.getD i 0) (fun i => q.getD i 0) = decide (p = q) := by
  rw [Bool.eq_iff_iff, arrEq_iff, decide_eq_true_iff]
  constructor
  · intro h
    exact sumV_inj hp hq (congrArg Value.agg (rowV_congr fun i hi => by simp only [arrV]; rw [h i hi]))
  · rintro rfl i _; rfl
theorem run_eq_sums (w : World) (d : Nat) {p q : List Int} (hp : isSum p) (hq : isSum q) : (Op.equalIn (d + 2) 23 (sumV p) (sumV q)).run Tryd.prog w = .ok (decide (p = q)) w := by
  have hc : Tryd.prog.cellsOf 5 = 1 := by kernel_rfl
  have hi : (Tryd.prog.info? 5).isSome = true := by kernel_rfl
  obtain ⟨i, hi'⟩ := Option.isSome_iff_exists.1 hi
  have h2 := run_eqItems_ints (P := Tryd.prog) w d 5 .u8 Tryd.underlying5 32 (fun i => p.getD i 0) (fun i => q.getD i 0) (List.range 32) (fun i hi => List.mem_range.1 hi)
  unfold sumV
  rw [run_equalIn_array w (d + 1) _ _ Tryd.underlying23 hi', hc, ← arrEq_list hp hq]
  exact h2
/-- '==' of two notes. -/
theorem run_eq_notes (w : World) {x y : Nt} (hx : isSum x.1) (hy : isSum y.1) : (Op.equalIn 10000 62 (noteA x) (noteA y)).run Tryd.prog w = .ok (decide (x = y)) w := by
  have hu : Tryd.prog.underlying 62 = some (.struct (Tryd.prog.fieldsOf 62)) := by kernel_rfl
  have hs : Tryd.prog.stoodInHeld 62 = false := by kernel_rfl
  have hf : ∃ f1 f2 : Field, (Tryd.prog.fieldsOf 62).toList = [f1, f2] ∧ f1.name ≠ "_" ∧ f1.type = 23 ∧ f1.offset = 0 ∧ f2.name ≠ "_" ∧ f2.type = 9 ∧ f2.offset = 32 := by
    have hm : (Tryd.prog.fieldsOf 62).toList.map (fun f => (f.name, f.type, f.offset)) = [("sum", 23, 0), ("text", 9, 32)] := by kernel_rfl
    match hl : (Tryd.prog.fieldsOf 62).toList with
    | [] => rw [hl] at hm; simp at hm
    | [_] => rw [hl] at hm; simp at hm
    | [f1, f2] =>
      rw [hl] at hm
      simp only [List.map_cons, List.map_nil, List.cons.injEq, Prod.mk.injEq, and_true] at hm
      obtain ⟨⟨n1, t1, o1⟩, n2, t2, o2⟩ := hm
      exact ⟨f1, f2, rfl, by rw [n1]; decide, t1, o1, by rw [n2]; decide, t2, o2⟩
    | _ :: _ :: _ :: _ => rw [hl] at hm; simp at hm
  obtain ⟨f1, f2, he, a1, a2, a3, b1, b2, b3⟩ := hf
  unfold noteA
  rw [run_equalIn_struct w 9999 _ _ _ hu hs, he]
  simp only [Op.eqFields, a1, b1, a2, a3, b2, b3, ne_eq, not_false_eq_true, if_true, Sem.run_bind, run_part_sum, run_part_text, Result.andThen_ok]
  rw [run_eq_sums w 9997 hx hy]
  simp only [Result.andThen_ok]
  obtain ⟨p, s⟩ := x
  obtain ⟨q, t⟩ := y
  by_cases h : p = q
  · subst h
    have ht := run_part_text w (p, s)
    have ht2 := run_part_text w (p, t)
    have he : (Op.equalIn 9999 9 (.string s) (.string t)).run Tryd.prog w = .ok (s.toList == t.toList) w := run_equalIn_string w 9998 9 s t Tryd.underlying9
    have hd : (s.toList == t.toList) = decide (s = t) := by
      rw [Bool.eq_iff_iff, beq_iff_eq, decide_eq_true_iff, ByteArray.toList_eq, ByteArray.toList_eq]
      exact ⟨fun h => ByteArray.ext (Array.toList_inj.1 h), fun h => by rw [h]⟩
    rw [hd] at he
    simp only [decide_true, Bool.not_true, Bool.false_eq_true, if_false, Sem.run_bind, ht, ht2, he, Result.andThen_ok]
    by_cases h2 : s = t
    · subst h2; simp
    · simp [h2]
  · simp [h]
end Go.Proofs.YtcfbaijibghcaaaDoor
