import Derived.Test.YtcfbaijibghcaaaDoorSealFind
import Derived.Carry
/- A book's notes: add. -/
namespace Go.Proofs.YtcfbaijibghcaaaDoor
set_option linter.unusedSimpArgs false
set_option linter.unusedVariables false
open Go.RowKit Go.Deep

/-- memory that was the book's, or is new. -/
def Gr (F : Nat → Prop) (w w' : World) (k : Nat) : Prop := F k ∨ (w.heap.size ≤ k ∧ k < w'.heap.size)
theorem Gr.old {F : Nat → Prop} {w w' : World} {k : Nat} (h : F k) : Gr F w w' k := Or.inl h
def hasN (N : List Nt) (x : Nt) : Bool := N.any fun y => decide (y = x)
theorem hasN_iff {N : List Nt} {x : Nt} : hasN N x = true ↔ x ∈ N := by
  simp only [hasN, List.any_eq_true, decide_eq_true_iff]
  exact ⟨fun ⟨y, h1, h2⟩ => h2 ▸ h1, fun h => ⟨x, h, rfl⟩⟩
theorem hasN_not {N : List Nt} {x : Nt} (h : ¬ x ∈ N) : hasN N x = false := by
  cases hh : hasN N x with
  | false => rfl
  | true => exact absurd (hasN_iff.1 hh) h
def addN (N : List Nt) (x : Nt) : List Nt := if hasN N x then N else N ++ [x]
theorem addN_in {N : List Nt} {x : Nt} (h : x ∈ N) : addN N x = N := by unfold addN; rw [hasN_iff.2 h]; rfl
theorem addN_out {N : List Nt} {x : Nt} (h : ¬ x ∈ N) : addN N x = N ++ [x] := by unfold addN; rw [hasN_not h]; rfl
theorem firstAt_append_some {N : List Nt} {q : List Int} {i : Nat} (s : ByteArray) (h : firstAt N q = some i) (q' : List Int) : firstAt (N ++ [(q, s)]) q' = firstAt N q' := by
  rw [firstAt_append]
  by_cases e : q = q'
  · subst e; rw [h]; rfl
  · rw [if_neg e]; cases firstAt N q' <;> rfl
theorem mapAt.append {w : World} {F : Nat → Prop} {mv : Value} {N : List Nt} {q : List Int} {i : Nat} (s : ByteArray) (hf : firstAt N q = some i) (h : mapAt w F mv N) : mapAt w F mv (N ++ [(q, s)]) := by
  have e := firstAt_append_some s hf
  rcases h with ⟨rfl, rfl⟩ | ⟨mb, es, clock, rfl, hF, hb, h1, h2⟩
  · cases hf
  · exact Or.inr ⟨mb, es, clock, rfl, hF, hb, fun x hx => by
      obtain ⟨q', i', a1, a2, a3, a4⟩ := h1 x hx
      exact ⟨q', i', a1, a2, by rw [e]; exact a3, a4⟩, fun q' i' hq' h => h2 q' i' hq' (by rw [← e]; exact h)⟩
/-- n.first[sum] = len(n.list). -/
theorem put_run {w : World} {F : Nat → Prop} {mb : Nat} {es : Array MapEntry} {clock : Nat} {N : List Nt} {q : List Int} (s : ByteArray) (hF : F mb) (hb : w.heap[mb]? = some (.map es clock))
    (h1 : ∀ e ∈ es.toList, ∃ (q : List Int) (i : Nat), isSum q ∧ e.key = sumV q ∧ firstAt N q = some i ∧ e.val = .int .i64 (i : Int)) (h2 : ∀ (q : List Int) (i : Nat), isSum q → firstAt N q = some i → ∃ e ∈ es.toList, e.key = sumV q)
    (hq : isSum q) (hf : firstAt N q = none) :
    ∃ w', (Instr.mapUpdate 68 (.map (some mb)) (sumV q) (.int .i64 (N.length : Int))).run Tryd.prog w = .ok () w' ∧ mapAt w' F (.map (some mb)) (N ++ [(q, s)]) ∧ But w.heap.size mb w w' ∧ w'.heap.size = w.heap.size := by
  obtain ⟨l, hl⟩ := sumKey hq
  have hck := check_run w false hq
  have hall : ∀ e ∈ es.toList, ∃ l, keyOf Tryd.prog 23 e.key = some l := fun e he => by
    obtain ⟨q', i, hq', hk, _⟩ := h1 e he
    rw [hk]; exact sumKey hq'
  rcases keyLaw.find w hl es.toList hall with ⟨hfk, hne⟩ | ⟨j, e, hfk, hj, hk⟩
  · refine ⟨Go.ChangeMaps.setBlock w mb (.map (es.push ⟨sumV q, .int .i64 (N.length : Int), clock⟩) (clock + 1)), ?_, Or.inr ⟨mb, _, _, rfl, hF, Go.ChangeMaps.heap_setBlock_same hb _, ?_, ?_⟩, ⟨rfl, rfl, rfl, by simp [Go.ChangeMaps.setBlock], fun k _ hk => ?_⟩, by simp [Go.ChangeMaps.setBlock]⟩
    · simp [Instr.mapUpdate, run_underlying Tryd.underlying68, MapKept.run_getObj_map hb, hck, hfk, MapKept.run_setObj_map _ hb, Result.andThen, Go.ChangeMaps.setBlock]
    · intro e he
      simp only [Array.toList_push, List.mem_append, List.mem_singleton] at he
      rcases he with he | rfl
      · obtain ⟨q', i, a1, a2, a3, a4⟩ := h1 e he
        exact ⟨q', i, a1, a2, by rw [firstAt_append, a3]; rfl, a4⟩
      · exact ⟨q, N.length, hq, rfl, by rw [firstAt_append, hf, if_pos rfl]; rfl, rfl⟩
    · intro q' i hq' h
      rw [firstAt_append] at h
      simp only [Array.toList_push, List.mem_append, List.mem_singleton]
      cases hf' : firstAt N q' with
      | some i' =>
        obtain ⟨e, he, hk⟩ := h2 q' i' hq' hf'
        exact ⟨e, Or.inl he, hk⟩
      | none =>
        rw [hf'] at h
        by_cases e : q = q'
        · subst e; exact ⟨_, Or.inr rfl, rfl⟩
        · rw [if_neg e] at h; cases h
    · simp [Go.ChangeMaps.setBlock, Array.getElem?_setIfInBounds, Ne.symm hk]
  · obtain ⟨q', i, hq', hk', hfa, hv⟩ := h1 e (List.mem_of_getElem? hj)
    obtain rfl : q' = q := sumV_inj hq' hq (hk'.symm.trans hk)
    rw [hf] at hfa; cases hfa
/-- a note stands there, from the first of its sum on. -/
theorem found_from {N : List Nt} {x : Nt} {i : Nat} (hf : firstAt N x.1 = some i) : (∃ j, j < N.length - i ∧ N.getD (i + j) zeroN = x) ↔ x ∈ N := by
  constructor
  · rintro ⟨j, hj, h⟩
    rw [List.getD_eq_getElem?_getD, List.getElem?_eq_getElem (by omega)] at h
    rw [← h]; exact List.getElem_mem _
  · intro h
    obtain ⟨k, hk, he⟩ := List.mem_iff_getElem.1 h
    unfold firstAt at hf
    obtain ⟨hi, h1, h2⟩ := List.findIdx?_eq_some_iff_getElem.1 hf
    have : i ≤ k := by
      apply Classical.byContradiction
      intro hlt
      have := h2 k (by omega)
      rw [he] at this
      simp at this
    exact ⟨k - i, by omega, by rw [List.getD_eq_getElem?_getD, show i + (k - i) = k by omega, List.getElem?_eq_getElem hk, he]; rfl⟩
section
variable {P : Program}
theorem run_slice_from33 (t e : TypeId) (b o len cap m : Nat) (hu : P.underlying t = some (.slice e)) (hs : (P.info? e).map (·.size) = some 33) (hm : m < len) (hc : len ≤ cap) (w : World) :
    (Instr.slice t (.slice (some ⟨b, o, none⟩) len cap) (some (.int .i64 m)) none none).run P w = .ok (.slice (some ⟨b, o + m * 33, none⟩) (len - m) (cap - m)) w := by
  cases hq : P.info? e with
  | none => simp [hq] at hs
  | some i =>
    have hi : i.size = 33 := by simpa [hq] using hs
    have h0 : (0 : Int) ≤ (m : Int) ∧ (m : Int) ≤ (len : Int) := by omega
    have hc' : ¬ cap = m := by omega
    have hm' : m ≤ len := by omega
    simp [Instr.slice, Instr.sliceBounds, Instr.sliceBound, asIntOf, run_underlying hu, sizeOf, typeInfo, hq, hi, h0, hc', hm', Addr.add_mid]
end

theorem listAt.own {w w' : World} {F : Nat → Prop} {v : Value} {N : List Nt} (h : listAt w F v N) (hb : ∀ k cur, F k → w.heap[k]? = some (.cells cur 62 (0, 0)) → w'.heap[k]? = w.heap[k]?) : listAt w' F v N := by
  obtain ⟨⟨hl, h | ⟨g, cap, cur, rfl, hz, hg, hr⟩⟩, hF⟩ := h
  · exact ⟨⟨hl, Or.inl h⟩, hF⟩
  · exact ⟨⟨hl, Or.inr ⟨g, cap, cur, rfl, hz, by rw [hb g cur (hF g rfl) hg]; exact hg, hr⟩⟩, hF⟩
theorem mapAt.own {w w' : World} {F : Nat → Prop} {v : Value} {N : List Nt} (h : mapAt w F v N) (hb : ∀ k es cl, F k → w.heap[k]? = some (.map es cl) → w'.heap[k]? = w.heap[k]?) : mapAt w' F v N := by
  rcases h with h | ⟨mb, es, clock, rfl, hF, hg, h1, h2⟩
  · exact Or.inl h
  · exact Or.inr ⟨mb, es, clock, rfl, hF, by rw [hb mb es clock hF hg]; exact hg, h1, h2⟩
/-- behind the test of the map. -/
def midA (w : World) (F : Nat → Prop) (nb : Nat) (N : List Nt) (c : Int) (x : Nt) (lv : Value) (wx : World) : Prop :=
  ∃ (mb : Nat) (es : Array MapEntry) (clock : Nat), wx.rowIs nb 70 3 (notesV lv (.map (some mb)) c) ∧ Gr F w wx mb ∧ wx.heap[mb]? = some (.map es clock) ∧
    (∀ e ∈ es.toList, ∃ (q : List Int) (i : Nat), isSum q ∧ e.key = sumV q ∧ firstAt N q = some i ∧ e.val = .int .i64 (i : Int)) ∧ (∀ (q : List Int) (i : Nat), isSum q → firstAt N q = some i → ∃ e ∈ es.toList, e.key = sumV q) ∧
    Fr F w wx ∧ wx.rowIs w.heap.size 62 33 (noteV x) ∧ listAt wx F lv N
/-- behind the store into the map. -/
def midB (w : World) (F : Nat → Prop) (nb : Nat) (N : List Nt) (c : Int) (x : Nt) (lv : Value) (wx : World) : Prop :=
  ∃ mv, wx.rowIs nb 70 3 (notesV lv mv c) ∧ mapAt wx (Gr F w wx) mv (N ++ [x]) ∧ Fr F w wx ∧ wx.rowIs w.heap.size 62 33 (noteV x) ∧ listAt wx F lv N

set_option maxHeartbeats 2000000 in
set_option maxRecDepth 100000 in
theorem add_note (F : Nat → Prop) (nb : Nat) (N : List Nt) (c : Int) (x : Nt) (w : World) (h : notesAt w F nb N c) (hx : isSum x.1) (hN : N.length < 1000000) :
    Calls Tryd.prog 30 #[.pointer (some ⟨nb, 0, none⟩), noteA x] w fun e w' => e = .returned (.tuple #[]) ∧ notesAt w' (Gr F w w') nb (addN N x) c ∧ Fr F w w' := by
  have H0 : Hid _ := h
  obtain ⟨lv, mv, h1, h2, h3, h4, h5, h6⟩ := h
  have hn := h6 nb h2
  have z33 : (Tryd.prog.info? 62).map (·.size) = some 33 := by kernel_rfl
  obtain ⟨w1, hw1⟩ : ∃ w1, w1 = w.alloc (.cells (rowV 33 (noteV x)) 62) := ⟨_, rfl⟩
  have s1 : w1.heap.size = w.heap.size + 1 := by rw [hw1]; simp
  have b1 : Below w.heap.size w w1 := by rw [hw1]; exact (Below.refl _ _).alloc (Nat.le_refl _) _
  have rx : w1.rowIs w.heap.size 62 33 (noteV x) := by rw [hw1]; exact rowIs_box w _ _ _
  -- what is read, in every world in which w1 stands
  have xc : ∀ wz, Below w1.heap.size w1 wz → ∀ i, i < 33 → wz.cell? ⟨w.heap.size, 0 + i, none⟩ = some (noteV x i) := fun wz hz i hi => by
    rw [Nat.zero_add, hz.cell (p := ⟨w.heap.size, i, none⟩) (show w.heap.size < w1.heap.size by omega)]; exact rx.cell hi
  have qc : ∀ wz, Below w1.heap.size w1 wz → ∀ i, i < 32 → wz.cell? ⟨w.heap.size, 0 + i, none⟩ = some (arrV x.1 i) := fun wz hz i hi => by
    rw [xc wz hz i (by omega), noteV, if_pos hi]
  have c0 : ∀ wz, Below w1.heap.size w1 wz → wz.cell? ⟨nb, 0, none⟩ = some lv := fun wz hz => (hz.cell (p := ⟨nb, 0, none⟩) (show nb < w1.heap.size by omega)).trans ((b1.cell (p := ⟨nb, 0, none⟩) hn).trans (h1.cell (i := 0) (by omega)))
  have c1 : ∀ wz, Below w1.heap.size w1 wz → wz.cell? ⟨nb, 1, none⟩ = some mv := fun wz hz => (hz.cell (p := ⟨nb, 1, none⟩) (show nb < w1.heap.size by omega)).trans ((b1.cell (p := ⟨nb, 1, none⟩) hn).trans (h1.cell (i := 1) (by omega)))
  have lk : ∀ wz, Below w1.heap.size w1 wz → (Instr.lookup 68 mv (.agg (rowV 32 (arrV x.1))) true).run Tryd.prog wz = .ok (.tuple #[.int .i64 (((firstAt N x.1).getD 0 : Nat) : Int), .bool (firstAt N x.1).isSome]) wz := fun wz hz => by
    have h4' : mapAt wz F mv N := h4.far (fun k hk hl => ((hz.mono (show w.heap.size ≤ w1.heap.size by omega)).block k hl).trans (b1.block k hl)) (fun _ h => h)
    exact look_run h4' hx
  have XC : Hid _ := xc
  have QC : Hid _ := qc
  have C0 : Hid _ := c0
  have C1 : Hid _ := c1
  have LK : Hid _ := lk
  have B1 : Hid _ := b1
  have RX : Hid _ := rx
  have H1 : Hid _ := h1
  have H3 : Hid _ := h3
  have H4 : Hid _ := h4
  have H6 : Hid _ := h6
  have H5 : Hid _ := h5
  clear xc qc c0 c1 lk b1 h1 h3 h4 rx h5 h6
  unfold noteA
  go_enter Tryd.func30, Tryd.ntmps30
  go_upto_region 1 with fail
  rw [← hw1]
  clear hw1
  go_cut [4, 5] (fun i t wx => i = .int .i64 (((firstAt N x.1).getD 0 : Nat) : Int) ∧ t = .bool (firstAt N x.1).isSome ∧ Below w1.heap.size w1 wx)
  case first =>
    refine wp_region_noPanic ?_
    refine wp_region_held_drew (S := fun w' => Below w1.heap.size w1 w') (by kernel_rfl) ((Below.refl _ _).drew) (fun hHeld => ?_)
    refine take_op (i := 0) (v := ?vf0) rfl (by kernel_rfl) (by kernel_rfl) (by kernel_rfl) (fun _ _ _ h => h) rfl hHeld ?yf0 ?rf0
    case yf0 => (intro wz hz; go_simp; first | done | with_reducible rfl)
    try simp only [Act.put, List.setIfInBounds_toArray, List.set_cons_zero, List.set_cons_succ]
    refine take_op (i := 1) (v := ?vf1) rfl (by kernel_rfl) (by kernel_rfl) (by kernel_rfl) (fun _ _ _ h => h) rfl hHeld ?yf1 ?rf1
    case yf1 => (intro wz hz; go_simp; first | done | with_reducible rfl)
    try simp only [Act.put, List.setIfInBounds_toArray, List.set_cons_zero, List.set_cons_succ]
    refine take_op (i := 2) (v := ?vf2) rfl (by kernel_rfl) (by kernel_rfl) (by kernel_rfl) (fun _ _ _ h => h) rfl hHeld ?yf2 ?rf2
    case yf2 => (intro wz hz; go_simp; first | done | with_reducible rfl)
    try simp only [Act.put, List.setIfInBounds_toArray, List.set_cons_zero, List.set_cons_succ]
    refine take_op (i := 3) (v := ?vf3) rfl (by kernel_rfl) (by kernel_rfl) (by kernel_rfl) (fun _ _ _ h => h) rfl hHeld ?yf3 ?rf3
    case yf3 => (intro wz hz; have hcz := C1.out wz hz; go_simp; first | done | with_reducible rfl)
    try simp only [Act.put, List.setIfInBounds_toArray, List.set_cons_zero, List.set_cons_succ]
    refine take_op (i := 4) (v := ?vf4) rfl (by kernel_rfl) (by kernel_rfl) (by kernel_rfl) (fun _ _ _ h => h) rfl hHeld ?yf4 ?rf4
    case yf4 => (intro wz hz; go_simp; first | done | with_reducible rfl)
    try simp only [Act.put, List.setIfInBounds_toArray, List.set_cons_zero, List.set_cons_succ]
    refine take_load (i := 5) rfl (by kernel_rfl) (by kernel_rfl) (by kernel_rfl) 23 _ rfl w.heap.size 0 32 (arrV x.1) rfl _ Tryd.underlying23 rfl (by kernel_rfl) (fun _ _ _ h => h) rfl hHeld (fun wz hz => QC.out wz hz) ?_
    try simp only [Act.put, List.setIfInBounds_toArray, List.set_cons_zero, List.set_cons_succ]
    refine take_op (i := 6) (v := ?vf6) rfl (by kernel_rfl) (by kernel_rfl) (by kernel_rfl) (fun _ _ _ h => h) rfl hHeld ?yf6 ?rf6
    case yf6 => (intro wz hz; have hlz := LK.out wz hz; go_simp; first | done | with_reducible rfl)
    try simp only [Act.put, List.setIfInBounds_toArray, List.set_cons_zero, List.set_cons_succ]
    refine take_op (i := 7) (v := ?vf7) rfl (by kernel_rfl) (by kernel_rfl) (by kernel_rfl) (fun _ _ _ h => h) rfl hHeld ?yf7 ?rf7
    case yf7 => (intro wz hz; go_simp; first | done | with_reducible rfl)
    try simp only [Act.put, List.setIfInBounds_toArray, List.set_cons_zero, List.set_cons_succ]
    refine take_op (i := 8) (v := ?vf8) rfl (by kernel_rfl) (by kernel_rfl) (by kernel_rfl) (fun _ _ _ h => h) rfl hHeld ?yf8 ?rf8
    case yf8 => (intro wz hz; go_simp; first | done | with_reducible rfl)
    try simp only [Act.put, List.setIfInBounds_toArray, List.set_cons_zero, List.set_cons_succ]
    refine take_op (i := 9) (v := ?vf9) rfl (by kernel_rfl) (by kernel_rfl) (by kernel_rfl) (fun _ _ _ h => h) rfl hHeld ?yf9 ?rf9
    case yf9 => (intro wz hz; go_simp; first | done | with_reducible rfl)
    try simp only [Act.put, List.setIfInBounds_toArray, List.set_cons_zero, List.set_cons_succ]
    refine take_op (i := 10) (v := ?vf10) rfl (by kernel_rfl) (by kernel_rfl) (by kernel_rfl) (fun _ _ _ h => h) rfl hHeld ?yf10 ?rf10
    case yf10 => (intro wz hz; go_simp; first | done | with_reducible rfl)
    try simp only [Act.put, List.setIfInBounds_toArray, List.set_cons_zero, List.set_cons_succ]
    refine take_op (i := 11) (v := ?vf11) rfl (by kernel_rfl) (by kernel_rfl) (by kernel_rfl) (fun _ _ _ h => h) rfl hHeld ?yf11 ?rf11
    case yf11 => (intro wz hz; go_simp; first | done | with_reducible rfl)
    try simp only [Act.put, List.setIfInBounds_toArray, List.set_cons_zero, List.set_cons_succ]
    refine wpAnyH_done (by kernel_rfl) ?_ _
    refine NoPanic.normal ?_
    have HB : Hid _ := hHeld
    clear hHeld
    go_wp2_with fail
    go_meet
    case rel => exact ⟨rfl, rfl, HB.out⟩
  case rest =>
    obtain ⟨rfl, rfl, hb⟩ := hcut
    have HB : Hid _ := hb
    clear hb LK QC
    go_upto_region 2 with fail
    go_cut [4, 5, 26] (fun i t r wx => i = .int .i64 (((firstAt N x.1).getD 0 : Nat) : Int) ∧ t = .bool (firstAt N x.1).isSome ∧ r = .bool (hasN N x) ∧ Below w1.heap.size w1 wx)
    case first =>
      cases hf : firstAt N x.1 with
      | none =>
        have hno : ¬ x ∈ N := fun hm => by
          obtain ⟨k, hk, he⟩ := List.mem_iff_getElem.1 hm
          unfold firstAt at hf
          have := List.findIdx?_eq_none_iff.1 hf x hm
          simp at this
        have hd : hasN N x = false := hasN_not hno
        simp only [Option.getD_none, Option.isSome_none]
        refine wp_region_noPanic ?_
        refine wp_region_held_drew (S := fun w' => Below w1.heap.size w1 w') (by kernel_rfl) (HB.out.drew) (fun hHeld => ?_)
        refine take_op (i := 0) (v := ?vg0) rfl (by kernel_rfl) (by kernel_rfl) (by kernel_rfl) (fun _ _ _ h => h) rfl hHeld ?yg0 ?rg0
        case yg0 => (intro wz hz; go_simp; first | done | with_reducible rfl)
        try simp only [Act.put, List.setIfInBounds_toArray, List.set_cons_zero, List.set_cons_succ]
        refine take_op (i := 1) (v := ?vg1) rfl (by kernel_rfl) (by kernel_rfl) (by kernel_rfl) (fun _ _ _ h => h) rfl hHeld ?yg1 ?rg1
        case yg1 => (intro wz hz; go_simp; first | done | with_reducible rfl)
        try simp only [Act.put, List.setIfInBounds_toArray, List.set_cons_zero, List.set_cons_succ]
        refine take_not (i := 2) rfl (by kernel_rfl) (by kernel_rfl) (by kernel_rfl) (fun _ _ _ h => h) rfl hHeld ?_
        try simp only [Act.put, List.setIfInBounds_toArray, List.set_cons_zero, List.set_cons_succ]
        refine take_not (i := 3) rfl (by kernel_rfl) (by kernel_rfl) (by kernel_rfl) (fun _ _ _ h => h) rfl hHeld ?_
        try simp only [Act.put, List.setIfInBounds_toArray, List.set_cons_zero, List.set_cons_succ]
        refine take_not (i := 4) rfl (by kernel_rfl) (by kernel_rfl) (by kernel_rfl) (fun _ _ _ h => h) rfl hHeld ?_
        try simp only [Act.put, List.setIfInBounds_toArray, List.set_cons_zero, List.set_cons_succ]
        refine take_not (i := 5) rfl (by kernel_rfl) (by kernel_rfl) (by kernel_rfl) (fun _ _ _ h => h) rfl hHeld ?_
        try simp only [Act.put, List.setIfInBounds_toArray, List.set_cons_zero, List.set_cons_succ]
        refine take_not (i := 6) rfl (by kernel_rfl) (by kernel_rfl) (by kernel_rfl) (fun _ _ _ h => h) rfl hHeld ?_
        try simp only [Act.put, List.setIfInBounds_toArray, List.set_cons_zero, List.set_cons_succ]
        refine take_not (i := 7) rfl (by kernel_rfl) (by kernel_rfl) (by kernel_rfl) (fun _ _ _ h => h) rfl hHeld ?_
        try simp only [Act.put, List.setIfInBounds_toArray, List.set_cons_zero, List.set_cons_succ]
        refine take_not (i := 8) rfl (by kernel_rfl) (by kernel_rfl) (by kernel_rfl) (fun _ _ _ h => h) rfl hHeld ?_
        try simp only [Act.put, List.setIfInBounds_toArray, List.set_cons_zero, List.set_cons_succ]
        refine take_not (i := 9) rfl (by kernel_rfl) (by kernel_rfl) (by kernel_rfl) (fun _ _ _ h => h) rfl hHeld ?_
        try simp only [Act.put, List.setIfInBounds_toArray, List.set_cons_zero, List.set_cons_succ]
        refine take_op (i := 10) (v := ?vg10) rfl (by kernel_rfl) (by kernel_rfl) (by kernel_rfl) (fun _ _ _ h => h) rfl hHeld ?yg10 ?rg10
        case yg10 => (intro wz hz; go_simp; first | done | with_reducible rfl)
        try simp only [Act.put, List.setIfInBounds_toArray, List.set_cons_zero, List.set_cons_succ]
        refine wpAnyH_done (by kernel_rfl) ?_ _
        refine NoPanic.normal ?_
        have HB2 : Hid _ := hHeld
        clear hHeld
        go_wp2_with fail
        go_meet
        case rel => exact ⟨by rw [hf]; rfl, by rw [hf]; rfl, by rw [hd], HB2.out⟩
      | some i =>
        have hil := firstAt_lt hf
        obtain ⟨la, lc, rfl, hlc, hlm, hcell⟩ := (show listAt w F lv N from H3.out).shape
        obtain ⟨t0, ht0⟩ := firstAt_get hf
        obtain ⟨g, rfl, hFg, hgl, _⟩ := hcell i _ ht0
        have hsl : ∀ wz : World, (Instr.slice 67 (.slice (some ⟨g, 0, none⟩) N.length lc) (some (.int .i64 i)) none none).run Tryd.prog wz = .ok (.slice (some ⟨g, i * 33, none⟩) (N.length - i) (lc - i)) wz := fun wz => by
          have := run_slice_from33 (P := Tryd.prog) 67 62 g 0 N.length lc i Tryd.underlying67 z33 hil hlc wz
          rw [Nat.zero_add] at this; exact this
        have hct := fun (wz : World) (hz : Below w1.heap.size w1 wz) => contains_any (some ⟨g, i * 33, none⟩) (N.length - i) (lc - i) (fun j => N.getD (i + j) zeroN) x wz (fun j hj => H5.out _ (by rw [List.getD_eq_getElem?_getD, List.getElem?_eq_getElem (by omega)]; exact List.getElem_mem _)) hx (by omega)
          (fun j hj => ⟨g, i * 33, rfl, by have := hz.size; omega, fun k hk => by
            have hg' : N[i + j]? = some (N.getD (i + j) zeroN) := by rw [List.getD_eq_getElem?_getD, List.getElem?_eq_getElem (by omega)]; rfl
            obtain ⟨g', hgg, _, _, hcl⟩ := hcell (i + j) _ hg'
            obtain rfl : g = g' := by injection (Option.some.inj hgg)
            rw [show i * 33 + j * 33 + k = (i + j) * 33 + k by omega]
            exact (hz.cell (p := ⟨g, (i + j) * 33 + k, none⟩) (show g < w1.heap.size by omega)).trans ((B1.out.cell (p := ⟨g, (i + j) * 33 + k, none⟩) hgl).trans (hcl k hk))⟩)
        have HCT : Hid _ := hct
        have i0 : (0 : Int) ≤ (i : Int) := by omega
        have i1 : (i : Int) < (N.length : Int) := by omega
        simp only [Option.getD_some, Option.isSome_some]
        clear hct hcell
        refine wp_region_noPanic ?_
        refine wp_region_held_drew (S := fun w' => Below w1.heap.size w1 w') (by kernel_rfl) (HB.out.drew) (fun hHeld => ?_)
        refine take_op (i := 0) (v := ?vh0) rfl (by kernel_rfl) (by kernel_rfl) (by kernel_rfl) (fun _ _ _ h => h) rfl hHeld ?yh0 ?rh0
        case yh0 => (intro wz hz; go_simp; first | done | with_reducible rfl)
        try simp only [Act.put, List.setIfInBounds_toArray, List.set_cons_zero, List.set_cons_succ]
        refine take_op (i := 1) (v := ?vh1) rfl (by kernel_rfl) (by kernel_rfl) (by kernel_rfl) (fun _ _ _ h => h) rfl hHeld ?yh1 ?rh1
        case yh1 => (intro wz hz; go_simp; first | done | with_reducible rfl)
        try simp only [Act.put, List.setIfInBounds_toArray, List.set_cons_zero, List.set_cons_succ]
        refine take_op (i := 2) (v := ?vh2) rfl (by kernel_rfl) (by kernel_rfl) (by kernel_rfl) (fun _ _ _ h => h) rfl hHeld ?yh2 ?rh2
        case yh2 => (intro wz hz; go_simp; first | done | with_reducible rfl)
        try simp only [Act.put, List.setIfInBounds_toArray, List.set_cons_zero, List.set_cons_succ]
        refine take_op (i := 3) (v := ?vh3) rfl (by kernel_rfl) (by kernel_rfl) (by kernel_rfl) (fun _ _ _ h => h) rfl hHeld ?yh3 ?rh3
        case yh3 => (intro wz hz; go_simp; first | done | with_reducible rfl)
        try simp only [Act.put, List.setIfInBounds_toArray, List.set_cons_zero, List.set_cons_succ]
        refine take_op (i := 4) (v := ?vh4) rfl (by kernel_rfl) (by kernel_rfl) (by kernel_rfl) (fun _ _ _ h => h) rfl hHeld ?yh4 ?rh4
        case yh4 => (intro wz hz; go_simp; first | done | with_reducible rfl)
        try simp only [Act.put, List.setIfInBounds_toArray, List.set_cons_zero, List.set_cons_succ]
        refine take_op (i := 5) (v := ?vh5) rfl (by kernel_rfl) (by kernel_rfl) (by kernel_rfl) (fun _ _ _ h => h) rfl hHeld ?yh5 ?rh5
        case yh5 => (intro wz hz; have hcz := C0.out wz hz; go_simp; first | done | with_reducible rfl)
        try simp only [Act.put, List.setIfInBounds_toArray, List.set_cons_zero, List.set_cons_succ]
        refine take_op (i := 6) (v := ?vh6) rfl (by kernel_rfl) (by kernel_rfl) (by kernel_rfl) (fun _ _ _ h => h) rfl hHeld ?yh6 ?rh6
        case yh6 => (intro wz hz; go_simp; first | done | with_reducible rfl)
        try simp only [Act.put, List.setIfInBounds_toArray, List.set_cons_zero, List.set_cons_succ]
        refine take_op (i := 7) (v := ?vh7) rfl (by kernel_rfl) (by kernel_rfl) (by kernel_rfl) (fun _ _ _ h => h) rfl hHeld ?yh7 ?rh7
        case yh7 => (intro wz hz; have hsz := hsl wz; go_simp; first | done | with_reducible rfl)
        try simp only [Act.put, List.setIfInBounds_toArray, List.set_cons_zero, List.set_cons_succ]
        refine take_load (i := 8) rfl (by kernel_rfl) (by kernel_rfl) (by kernel_rfl) 62 _ rfl w.heap.size 0 33 (noteV x) rfl _ Tryd.underlying62 rfl (by kernel_rfl) (fun _ _ _ h => h) rfl hHeld (fun wz hz => XC.out wz hz) ?_
        try simp only [Act.put, List.setIfInBounds_toArray, List.set_cons_zero, List.set_cons_succ]
        refine take_one (i := 9) rfl (by kernel_rfl) rfl (fun K hK => ?_)
        go_simp
        refine Calls.mono (HCT.out _ hHeld) ?_
        rintro e w9 ⟨r, rfl, hr, hb9⟩
        refine hK.out _ _ (hHeld.trans (hb9.mono hHeld.size)) (fun hHeld => ?_)
        clear hK K
        try simp only [Act.put, List.setIfInBounds_toArray, List.set_cons_zero, List.set_cons_succ]
        refine take_op (i := 10) (v := ?vh10) rfl (by kernel_rfl) (by kernel_rfl) (by kernel_rfl) (fun _ _ _ h => h) rfl hHeld ?yh10 ?rh10
        case yh10 => (intro wz hz; go_simp; first | done | with_reducible rfl)
        try simp only [Act.put, List.setIfInBounds_toArray, List.set_cons_zero, List.set_cons_succ]
        refine wpAnyH_done (by kernel_rfl) ?_ _
        refine NoPanic.normal ?_
        have HB2 : Hid _ := hHeld
        have hrd : r = hasN N x := by
          rw [Bool.eq_iff_iff, hr, hasN_iff]
          exact found_from hf
        clear hHeld hb9 hr
        go_wp2_with fail
        go_meet
        case rel => exact ⟨by rw [hf]; rfl, by rw [hf]; rfl, by rw [hrd], HB2.out⟩
    case rest =>
      obtain ⟨rfl, rfl, rfl, hb2⟩ := hcut
      have HB2 : Hid _ := hb2
      have hs2 := hb2.size
      clear hb2 HB
      by_cases hm : x ∈ N
      · have hd : hasN N x = true := hasN_iff.2 hm
        rw [hd]
        go_wp2
        have e1 : addN N x = N := addN_in hm
        have hB : Below w.heap.size w wc := B1.out.trans (HB2.out.mono (by omega))
        refine bodyPost_ret (results_none rfl _ _ _) rfl ⟨rfl, ?_, Fr.of_below _ hB⟩
        rw [e1]
        obtain ⟨lv', mv', k1, k2, k3, k4, k5, k6⟩ := notesAt.below H0.out hB (Nat.le_refl _)
        exact ⟨lv', mv', k1, Or.inl k2, k3.far (fun _ _ _ => rfl) (fun _ h => Or.inl h), k4.far (fun _ _ _ => rfl) (fun _ h => Or.inl h), k5, fun k hk => by
          rcases hk with hk | hk
          · exact k6 k hk
          · exact hk.2⟩
      · have hd : hasN N x = false := hasN_not hm
        rw [hd]
        clear H0
        have hB : Below w.heap.size w wc := B1.out.trans (HB2.out.mono (by omega))
        have rnb : wc.rowIs nb 70 3 (notesV lv mv c) := hB.row H1.out hn
        have rx : wc.rowIs w.heap.size 62 33 (noteV x) := HB2.out.row RX.out (by omega)
        have hl : listAt wc F lv N := listAt.far H3.out (fun k _ hk => hB.block k hk) (fun _ h => h)
        have c1' : wc.cell? ⟨nb, 1, none⟩ = some mv := rnb.cell (i := 1) (by omega)
        have z1 := World.rowIs.frozen rnb 1
        have RNB : Hid _ := rnb
        have RXC : Hid _ := rx
        have HL : Hid _ := hl
        have HBB : Hid _ := hB
        have hmm := @run_makeMap Tryd.prog
        clear rnb rx hl hB C0 C1 XC
        obtain ⟨bn, hbn, hbg, hbi⟩ : ∃ bn : Bool, (∀ wz : World, (binOp .eql 68 mv (.map none)).run Tryd.prog wz = .ok (.bool bn) wz) ∧ (∀ wz : World, (eqGuard .eql 68 (.tmp 30) (.const (.map none)) mv (.map none)).run Tryd.prog wz = .ok () wz) ∧ (bn = true ↔ mv = .map none) := by
          rcases (show mapAt w F mv N from H4.out) with ⟨rfl, _⟩ | ⟨mb, _, _, rfl, _⟩
          · exact ⟨true, fun wz => by kernel_rfl, fun wz => by kernel_rfl, by simp⟩
          · exact ⟨false, fun wz => by kernel_rfl, fun wz => by kernel_rfl, by simp⟩
        go_upto_if 31 with fail
        go_cut [5] (fun t wx => t = .bool (firstAt N x.1).isSome ∧ midA w F nb N c x lv wx)
        case first =>
          rcases (show mapAt w F mv N from H4.out) with ⟨rfl, rfl⟩ | ⟨mb, es, clock, rfl, hF, hb, k1, k2⟩
          · obtain rfl : bn = true := hbi.2 rfl
            have ra : (wc.alloc (.map #[] 0)).rowIs nb 70 3 (notesV lv (.map none) c) := World.rowIs.alloc RNB.out _
            have za := World.rowIs.frozen ra 1
            have ca : (wc.alloc (.map #[] 0)).cell? ⟨nb, 1, none⟩ = some (.map none) := ra.cell (i := 1) (by omega)
            clear ra
            go_wp2_with fail
            go_meet
            case rel =>
              refine ⟨rfl, wc.heap.size, #[], 0, ?_, Or.inr ⟨by omega, by rw [nblk_setCell]; simp⟩, ?_, fun e he => by simp at he, fun q i _ h => absurd h (by simp [firstAt]), ?_, ?_, ?_⟩
              · refine (World.rowIs.set (World.rowIs.alloc RNB.out (.map #[] 0)) 1 (.map (some wc.heap.size))).congr fun i hi => ?_
                simp only [notesV]
                by_cases e1 : i = 1
                · subst e1; simp
                · simp [e1]
              · rw [blk_setCell_other _ _ _ _ (show wc.heap.size ≠ nb by omega)]; exact blk_alloc_new _ _
              · exact ((Fr.of_below F HBB.out).alloc _).setCell (Or.inl h2) _
              · exact World.rowIs.setOther (World.rowIs.alloc RXC.out _) (show w.heap.size ≠ nb by omega) _
              · refine listAt.own HL.out (fun k cur hk hc => ?_)
                have hkn : k ≠ nb := by
                  rintro rfl
                  have := rowIs_block (w := wc) RNB.out
                  rw [hc] at this
                  injection this with this
                  injection this with _ h2
                  exact absurd h2 (by decide)
                rw [blk_setCell_other _ _ _ _ hkn]
                exact blk_alloc_lt _ _ _ (Array.getElem?_eq_some_iff.1 hc).1
          · obtain rfl : bn = false := by
              cases bn with
              | false => rfl
              | true => exact absurd (hbi.1 rfl) (by simp)
            go_wp2_with fail
            go_meet
            case rel =>
              exact ⟨rfl, mb, es, clock, RNB.out, Or.inl hF, by rw [HBB.out.block mb (H6.out mb hF)]; exact hb, k1, k2, Fr.of_below F HBB.out, RXC.out, HL.out⟩
        case rest =>
          obtain ⟨rfl, hmid⟩ := hcut
          have HM : Hid _ := hmid
          clear hmid RNB RXC HL HBB c1' z1 H1 H3 H4 B1
          obtain ⟨mb, es, clock, m1, m2, m3, m4, m5, m6, m7, m8⟩ := (show midA w F nb N c x lv wc from HM.out)
          clear HM
          have hmn : mb ≠ nb := by
            rintro rfl
            have := rowIs_block m1
            rw [m3] at this; cases this
          have hmx : mb ≠ w.heap.size := by
            rintro rfl
            have := rowIs_block m7
            rw [m3] at this; cases this
          have hsw := m6.size
          have hszc : w.heap.size < wc.heap.size := m7.lt
          obtain ⟨la, lc, hlv, hlc, hlm, _⟩ := m8.shape
          subst hlv
          go_upto_if 37 with fail
          go_cut [4, 5] (fun i t wx => i = .int .i64 (((firstAt N x.1).getD 0 : Nat) : Int) ∧ t = .bool (firstAt N x.1).isSome ∧ midB w F nb N c x (.slice la N.length lc) wx)
          case first =>
            cases hf : firstAt N x.1 with
            | some i =>
              simp only [Option.isSome_some]
              have M1 : Hid _ := m1
              have M8 : Hid _ := m8
              have M7 : Hid _ := m7
              have MM : Hid (mapAt wc (Gr F w wc) (.map (some mb)) (N ++ [x])) := (show mapAt wc (Gr F w wc) (.map (some mb)) (N ++ [x]) from mapAt.append x.2 hf (Or.inr ⟨mb, es, clock, rfl, m2, m3, m4, m5⟩))
              have M6 : Hid _ := m6
              clear m1 m2 m3 m4 m5 m6 m7 m8
              go_wp2_with fail
              go_meet
              case rel => exact ⟨by simp [hf], by simp [hf], .map (some mb), M1.out, MM.out, M6.out, M7.out, M8.out⟩
            | none =>
              simp only [Option.isSome_none]
              obtain ⟨wp, hpr, hpm, hpb, hps⟩ := put_run (w := wc.drew) (F := Gr F w wc) x.2 m2 m3 m4 m5 hx hf
              have hpr' : (Instr.mapUpdate 68 (.map (some mb)) (.agg (rowV 32 (arrV x.1))) (.int .i64 (N.length : Int))).run Tryd.prog wc.drew = .ok () wp := hpr
              have k0 : wc.cell? ⟨nb, 0, none⟩ = some (.slice la N.length lc) := m1.cell (i := 0) (by omega)
              have k1 : wc.cell? ⟨nb, 1, none⟩ = some (.map (some mb)) := m1.cell (i := 1) (by omega)
              have k2 : ∀ i, i < 32 → wc.cell? ⟨w.heap.size, 0 + i, none⟩ = some (arrV x.1 i) := fun i hi => by
                rw [Nat.zero_add, m7.cell (i := i) (by omega), noteV, if_pos hi]
              have hbut : But wc.heap.size mb wc wp := ⟨hpb.os, hpb.tape, hpb.output, hpb.size, hpb.block⟩
              have K0 : Hid (wp.cell? ⟨nb, 0, none⟩ = some (.slice la N.length lc)) := (show wp.cell? ⟨nb, 0, none⟩ = some (.slice la N.length lc) from (hbut.cell (m1.lt) hmn.symm).trans k0)
              have K1 : Hid (wp.cell? ⟨nb, 1, none⟩ = some (.map (some mb))) := (show wp.cell? ⟨nb, 1, none⟩ = some (.map (some mb)) from (hbut.cell (m1.lt) hmn.symm).trans k1)
              have K2 : Hid (∀ i, i < 32 → wp.cell? ⟨w.heap.size, 0 + i, none⟩ = some (arrV x.1 i)) := (show ∀ i, i < 32 → wp.cell? ⟨w.heap.size, 0 + i, none⟩ = some (arrV x.1 i) from fun i hi => (hbut.cell hszc hmx.symm).trans (k2 i hi))
              have RES : Hid (midB w F nb N c x (.slice la N.length lc) wp) := (show midB w F nb N c x (.slice la N.length lc) wp from by
                refine ⟨.map (some mb), hbut.row m1 m1.lt hmn.symm, hpm.far (fun _ _ _ => rfl) (fun k hk => ?_), ?_, hbut.row m7 hszc hmx.symm, ?_⟩
                · rcases hk with h | h
                  · exact Or.inl h
                  · exact Or.inr ⟨h.1, by have : wp.heap.size = wc.heap.size := hps; omega⟩
                · refine m6.trans (G := fun k => k = mb) ⟨hbut.os, hbut.tape, hbut.output, hbut.size, fun k hk hne => hbut.block k hk hne⟩ (fun k hk e => ?_)
                  subst e
                  rcases m2 with h | h
                  · exact h
                  · omega
                · refine listAt.own m8 (fun k cur hk hc => hbut.block k (Array.getElem?_eq_some_iff.1 hc).1 ?_)
                  rintro rfl
                  rw [m3] at hc; cases hc)
              clear m1 m2 m3 m4 m5 m6 m7 m8 hpm hpb hpr hbut
              go_wp2_with fail
              refine wp_region_noPanic ?_
              refine wp_region_held_drew (S := fun w' => w'.cell? ⟨nb, 0, none⟩ = some (.slice la N.length lc) ∧ w'.cell? ⟨nb, 1, none⟩ = some (.map (some mb)) ∧ ∀ i, i < 32 → w'.cell? ⟨w.heap.size, 0 + i, none⟩ = some (arrV x.1 i)) (by kernel_rfl) ⟨k0, k1, k2⟩ (fun hHeld => ?_)
              refine take_op (i := 0) (v := ?vp0) rfl (by kernel_rfl) (by kernel_rfl) (by kernel_rfl) (fun _ _ _ h => h) rfl hHeld ?yp0 ?rp0
              case yp0 => (intro wz hz; go_simp; first | done | with_reducible rfl)
              try simp only [Act.put, List.setIfInBounds_toArray, List.set_cons_zero, List.set_cons_succ]
              refine take_op (i := 1) (v := ?vp1) rfl (by kernel_rfl) (by kernel_rfl) (by kernel_rfl) (fun _ _ _ h => h) rfl hHeld ?yp1 ?rp1
              case yp1 => (intro wz hz; go_simp; first | done | with_reducible rfl)
              try simp only [Act.put, List.setIfInBounds_toArray, List.set_cons_zero, List.set_cons_succ]
              refine take_op (i := 2) (v := ?vp2) rfl (by kernel_rfl) (by kernel_rfl) (by kernel_rfl) (fun _ _ _ h => h) rfl hHeld ?yp2 ?rp2
              case yp2 => (intro wz hz; go_simp; first | done | with_reducible rfl)
              try simp only [Act.put, List.setIfInBounds_toArray, List.set_cons_zero, List.set_cons_succ]
              refine take_op (i := 3) (v := ?vp3) rfl (by kernel_rfl) (by kernel_rfl) (by kernel_rfl) (fun _ _ _ h => h) rfl hHeld ?yp3 ?rp3
              case yp3 => (intro wz hz; have hcz := hz.2.1; go_simp; first | done | with_reducible rfl)
              try simp only [Act.put, List.setIfInBounds_toArray, List.set_cons_zero, List.set_cons_succ]
              refine take_op (i := 4) (v := ?vp4) rfl (by kernel_rfl) (by kernel_rfl) (by kernel_rfl) (fun _ _ _ h => h) rfl hHeld ?yp4 ?rp4
              case yp4 => (intro wz hz; go_simp; first | done | with_reducible rfl)
              try simp only [Act.put, List.setIfInBounds_toArray, List.set_cons_zero, List.set_cons_succ]
              refine take_load (i := 5) rfl (by kernel_rfl) (by kernel_rfl) (by kernel_rfl) 23 _ rfl w.heap.size 0 32 (arrV x.1) rfl _ Tryd.underlying23 rfl (by kernel_rfl) (fun _ _ _ h => h) rfl hHeld (fun wz hz => hz.2.2) ?_
              try simp only [Act.put, List.setIfInBounds_toArray, List.set_cons_zero, List.set_cons_succ]
              refine take_op (i := 6) (v := ?vp6) rfl (by kernel_rfl) (by kernel_rfl) (by kernel_rfl) (fun _ _ _ h => h) rfl hHeld ?yp6 ?rp6
              case yp6 => (intro wz hz; go_simp; first | done | with_reducible rfl)
              try simp only [Act.put, List.setIfInBounds_toArray, List.set_cons_zero, List.set_cons_succ]
              refine take_op (i := 7) (v := ?vp7) rfl (by kernel_rfl) (by kernel_rfl) (by kernel_rfl) (fun _ _ _ h => h) rfl hHeld ?yp7 ?rp7
              case yp7 => (intro wz hz; go_simp; first | done | with_reducible rfl)
              try simp only [Act.put, List.setIfInBounds_toArray, List.set_cons_zero, List.set_cons_succ]
              refine take_op (i := 8) (v := ?vp8) rfl (by kernel_rfl) (by kernel_rfl) (by kernel_rfl) (fun _ _ _ h => h) rfl hHeld ?yp8 ?rp8
              case yp8 => (intro wz hz; go_simp; first | done | with_reducible rfl)
              try simp only [Act.put, List.setIfInBounds_toArray, List.set_cons_zero, List.set_cons_succ]
              refine take_op (i := 9) (v := ?vp9) rfl (by kernel_rfl) (by kernel_rfl) (by kernel_rfl) (fun _ _ _ h => h) rfl hHeld ?yp9 ?rp9
              case yp9 => (intro wz hz; have hcz := hz.1; go_simp; first | done | with_reducible rfl)
              try simp only [Act.put, List.setIfInBounds_toArray, List.set_cons_zero, List.set_cons_succ]
              refine take_op (i := 10) (v := ?vp10) rfl (by kernel_rfl) (by kernel_rfl) (by kernel_rfl) (fun _ _ _ h => h) rfl hHeld ?yp10 ?rp10
              case yp10 => (intro wz hz; go_simp; first | done | with_reducible rfl)
              try simp only [Act.put, List.setIfInBounds_toArray, List.set_cons_zero, List.set_cons_succ]
              refine take_one (i := 11) rfl (by kernel_rfl) rfl (fun K hK => ?_)
              go_simp
              refine hK.out _ _ ⟨K0.out, K1.out, K2.out⟩ (fun hHeld => ?_)
              clear hK K
              try simp only [Act.put, List.setIfInBounds_toArray, List.set_cons_zero, List.set_cons_succ]
              refine wpAnyH_done (by kernel_rfl) ?_ _
              refine NoPanic.normal ?_
              clear hHeld
              go_wp2_with fail
              go_meet
              case rel => exact ⟨by simp [hf], by simp [hf], RES.out⟩
          case rest =>
            obtain ⟨rfl, rfl, hmidB⟩ := hcut
            clear m1 m2 m3 m4 m5 m6 m7 m8
            obtain ⟨mv', m1, m4, m6, m7, m8⟩ := hmidB
            have hszc' : w.heap.size < wc.heap.size := m7.lt
            have hnl : nb < wc.heap.size := m1.lt
            obtain ⟨v9, w9, hr9, hl9, hg9⟩ := note_append_run wc.drew (fun k => F k ∧ k < wc.heap.size) (.slice la N.length lc) N x (listAt.far m8 (fun _ _ _ => rfl) (fun k hk => ⟨hk, Nat.lt_of_lt_of_le (H6.out k hk) m6.size⟩)) hN (fun k hk => hk.2)
            obtain ⟨va9, vc9, rfl, _, _, _⟩ := hl9.shape
            generalize (N ++ [x]).length = n9 at hr9 hl9
            have hone : ∀ k, (Value.slice la N.length lc).ownBlock = some k → F k ∧ ∃ cur, wc.heap[k]? = some (.cells cur 62 (0, 0)) := fun k hk => by
              refine ⟨m8.2 k hk, ?_⟩
              obtain ⟨⟨_, h | ⟨g, cap, cur, hv, _, hg, _⟩⟩, _⟩ := m8
              · rw [h.1] at hk; cases hk
              · rw [hv] at hk
                obtain rfl : g = k := by simpa [Value.ownBlock] using hk
                exact ⟨cur, hg⟩
            have hon : (Value.slice la N.length lc).ownBlock ≠ some nb := fun e => by
              obtain ⟨_, cur, hc⟩ := hone nb e
              have := rowIs_block m1
              rw [hc] at this
              injection this with this
              injection this with _ h2
              exact absurd h2 (by decide)
            have hox : (Value.slice la N.length lc).ownBlock ≠ some w.heap.size := fun e => by
              have := H6.out _ (hone _ e).1
              omega
            have hblk : ∀ k, k < wc.heap.size → (Value.slice la N.length lc).ownBlock ≠ some k → w9.heap[k]? = wc.heap[k]? := fun k hk hne =>
              (hg9.block k (by simp; exact Nat.lt_succ_of_lt hk) (fun e => hne e.symm)).trans (blk_alloc_lt _ _ _ hk)
            have hs9 : wc.heap.size + 1 ≤ w9.heap.size := by have := hg9.size; simpa using this
            have r9 : w9.rowIs nb 70 3 (notesV (.slice la N.length lc) mv' c) := m1.of_block (hblk nb hnl hon)
            have c9 : w9.cell? ⟨nb, 0, none⟩ = some (.slice la N.length lc) := r9.cell (i := 0) (by omega)
            have z9 := World.rowIs.frozen r9 0
            have A0 : wc.cell? ⟨nb, 0, none⟩ = some (.slice la N.length lc) := m1.cell (i := 0) (by omega)
            have A1 : (wc.drew.alloc (.cells (rowV 33 (noteV x)) 62)).cell? ⟨nb, 0, none⟩ = some (.slice la N.length lc) := (World.cell?_of_block (w := wc) (blk_alloc_lt _ _ _ hnl)).trans A0
            have S0 : Hid (∀ i, i < 33 → wc.drew.cell? ⟨w.heap.size, 0 + i, none⟩ = some (noteV x i)) := (show ∀ i, i < 33 → wc.drew.cell? ⟨w.heap.size, 0 + i, none⟩ = some (noteV x i) from fun i hi => by rw [Nat.zero_add]; exact m7.cell hi)
            have S1 : Hid (∀ i, i < 33 → (wc.drew.alloc (.cells (rowV 33 (noteV x)) 62)).cell? ⟨w.heap.size, 0 + i, none⟩ = some (noteV x i)) := (show ∀ i, i < 33 → (wc.drew.alloc (.cells (rowV 33 (noteV x)) 62)).cell? ⟨w.heap.size, 0 + i, none⟩ = some (noteV x i) from fun i hi => (World.cell?_of_block (w := wc) (blk_alloc_lt _ _ _ hszc')).trans (S0.out i hi))
            have S2 : Hid (∀ i, i < 33 → w9.cell? ⟨w.heap.size, 0 + i, none⟩ = some (noteV x i)) := (show ∀ i, i < 33 → w9.cell? ⟨w.heap.size, 0 + i, none⟩ = some (noteV x i) from fun i hi => (World.cell?_of_block (w := wc) (hblk _ hszc' hox)).trans (S0.out i hi))
            have S3 : Hid (∀ i, i < 33 → (w9.setCell ⟨nb, 0, none⟩ (.slice va9 n9 vc9)).cell? ⟨w.heap.size, 0 + i, none⟩ = some (noteV x i)) := (show ∀ i, i < 33 → (w9.setCell ⟨nb, 0, none⟩ (.slice va9 n9 vc9)).cell? ⟨w.heap.size, 0 + i, none⟩ = some (noteV x i) from fun i hi => (World.cell?_of_block (w := w9) (blk_setCell_other _ _ _ _ (show w.heap.size ≠ nb by omega))).trans (S2.out i hi))
            have RES : Hid (notesAt (w9.setCell ⟨nb, 0, none⟩ (.slice va9 n9 vc9)) (Gr F w (w9.setCell ⟨nb, 0, none⟩ (.slice va9 n9 vc9))) nb (addN N x) c ∧ Fr F w (w9.setCell ⟨nb, 0, none⟩ (.slice va9 n9 vc9))) := (show notesAt (w9.setCell ⟨nb, 0, none⟩ (.slice va9 n9 vc9)) (Gr F w (w9.setCell ⟨nb, 0, none⟩ (.slice va9 n9 vc9))) nb (addN N x) c ∧ Fr F w (w9.setCell ⟨nb, 0, none⟩ (.slice va9 n9 vc9)) from by
              have hsE : (w9.setCell ⟨nb, 0, none⟩ (.slice va9 n9 vc9)).heap.size = w9.heap.size := nblk_setCell _ _ _
              rw [addN_out hm]
              refine ⟨⟨.slice va9 n9 vc9, mv', ?_, Or.inl h2, ?_, ?_, ?_, ?_⟩, ?_⟩
              · refine (World.rowIs.set r9 0 (.slice va9 n9 vc9)).congr fun i hi => ?_
                simp only [notesV]
                by_cases e0 : i = 0
                · subst e0; simp
                · simp [e0]
              · refine listAt.far (listAt.own hl9 (fun k cur hk hc => blk_setCell_other _ _ _ _ ?_)) (fun _ _ _ => rfl) (fun k hk => ?_)
                · rintro rfl
                  have := rowIs_block r9
                  rw [hc] at this
                  injection this with this
                  injection this with _ h2
                  exact absurd h2 (by decide)
                · rcases hk with hk | hk
                  · exact Or.inl hk.1
                  · have hk1 : wc.heap.size ≤ k := hk.1
                    exact Or.inr ⟨by omega, by rw [hsE]; exact hk.2⟩
              · refine mapAt.far (mapAt.own m4 (fun k es cl hk hc => ?_)) (fun _ _ _ => rfl) (fun k hk => ?_)
                · have hkl : k < wc.heap.size := (Array.getElem?_eq_some_iff.1 hc).1
                  rw [blk_setCell_other _ _ _ _ (by
                    rintro rfl
                    have := rowIs_block m1
                    rw [hc] at this; cases this)]
                  exact hblk k hkl (fun e => by
                    obtain ⟨_, cur, hc2⟩ := hone k e
                    rw [hc] at hc2; cases hc2)
                · rcases hk with hk | hk
                  · exact Or.inl hk
                  · exact Or.inr ⟨hk.1, by rw [hsE]; omega⟩
              · intro y hy
                rcases List.mem_append.1 hy with hy | hy
                · exact H5.out y hy
                · rw [List.mem_singleton.1 hy]; exact hx
              · intro k hk
                rcases hk with hk | hk
                · have := H6.out k hk
                  rw [hsE]; omega
                · exact hk.2
              · refine Fr.setCell (m6.trans (G := F) ⟨hg9.os, hg9.tape, hg9.output, by omega, fun k hk hn => hblk k hk (fun e => hn (hone k e).1)⟩ (fun _ _ h => h)) (Or.inl h2) _)
            clear m1 m4 m6 m7 m8 hl9 hg9 hone hon hox hblk r9
            go_upto_region 7 with fail
            refine wp_region_noPanic ?_
            refine wp_region_held_drew (S := fun w' => ∀ i, i < 33 → w'.cell? ⟨w.heap.size, 0 + i, none⟩ = some (noteV x i)) (by kernel_rfl) S0.out (fun hHeld => ?_)
            refine take_op (i := 0) (v := ?vt0) rfl (by kernel_rfl) (by kernel_rfl) (by kernel_rfl) (fun _ _ _ h => h) rfl hHeld ?yt0 ?rt0
            case yt0 => (intro wz hz; go_simp; first | done | with_reducible rfl)
            try simp only [Act.put, List.setIfInBounds_toArray, List.set_cons_zero, List.set_cons_succ]
            refine take_op (i := 1) (v := ?vt1) rfl (by kernel_rfl) (by kernel_rfl) (by kernel_rfl) (fun _ _ _ h => h) rfl hHeld ?yt1 ?rt1
            case yt1 => (intro wz hz; go_simp; first | done | with_reducible rfl)
            try simp only [Act.put, List.setIfInBounds_toArray, List.set_cons_zero, List.set_cons_succ]
            refine take_op (i := 2) (v := ?vt2) rfl (by kernel_rfl) (by kernel_rfl) (by kernel_rfl) (fun _ _ _ h => h) rfl hHeld ?yt2 ?rt2
            case yt2 => (intro wz hz; go_simp; first | done | with_reducible rfl)
            try simp only [Act.put, List.setIfInBounds_toArray, List.set_cons_zero, List.set_cons_succ]
            refine take_op (i := 3) (v := ?vt3) rfl (by kernel_rfl) (by kernel_rfl) (by kernel_rfl) (fun _ _ _ h => h) rfl hHeld ?yt3 ?rt3
            case yt3 => (intro wz hz; go_simp; first | done | with_reducible rfl)
            try simp only [Act.put, List.setIfInBounds_toArray, List.set_cons_zero, List.set_cons_succ]
            refine take_load (i := 5) rfl (by kernel_rfl) (by kernel_rfl) (by kernel_rfl) 62 _ rfl w.heap.size 0 33 (noteV x) rfl _ Tryd.underlying62 rfl (by kernel_rfl) (fun _ _ _ h => h) rfl hHeld (fun wz hz => hz) ?_
            try simp only [Act.put, List.setIfInBounds_toArray, List.set_cons_zero, List.set_cons_succ]
            refine take_pair (i := 4) (j := 6) rfl rfl (by kernel_rfl) rfl rfl (fun K hK => ?_) (fun K hK => ?_)
            · go_simp
              refine hK.out _ _ S0.out (fun hHeld => ?_)
              clear hK K
              try simp only [Act.put, List.setIfInBounds_toArray, List.set_cons_zero, List.set_cons_succ]
              refine take_one (i := 6) rfl (by kernel_rfl) rfl (fun K hK => ?_)
              refine wp_build_run (v := .agg (rowV 33 (noteV x))) 67 1 0 _ rfl (by kernel_rfl) (run_build_note (noteV x) wc.drew) ?_
              refine hK.out _ _ S1.out (fun hHeld => ?_)
              clear hK K
              try simp only [Act.put, List.setIfInBounds_toArray, List.set_cons_zero, List.set_cons_succ]
              refine take_one (i := 7) rfl (by kernel_rfl) rfl (fun K hK => ?_)
              refine wp_append_run _ _ _ rfl rfl rfl hr9 ?_
              refine hK.out _ _ S2.out (fun hHeld => ?_)
              clear hK K
              try simp only [Act.put, List.setIfInBounds_toArray, List.set_cons_zero, List.set_cons_succ]
              refine take_op (i := 8) (v := ?vua8) rfl (by kernel_rfl) (by kernel_rfl) (by kernel_rfl) (fun _ _ _ h => h) rfl hHeld ?yua8 ?rua8
              case yua8 => (intro wz hz; go_simp; first | done | with_reducible rfl)
              try simp only [Act.put, List.setIfInBounds_toArray, List.set_cons_zero, List.set_cons_succ]
              refine take_op (i := 9) (v := ?vua9) rfl (by kernel_rfl) (by kernel_rfl) (by kernel_rfl) (fun _ _ _ h => h) rfl hHeld ?yua9 ?rua9
              case yua9 => (intro wz hz; go_simp; first | done | with_reducible rfl)
              try simp only [Act.put, List.setIfInBounds_toArray, List.set_cons_zero, List.set_cons_succ]
              refine take_one (i := 10) rfl (by kernel_rfl) rfl (fun K hK => ?_)
              go_simp
              refine hK.out _ _ S3.out (fun hHeld => ?_)
              clear hK K
              try simp only [Act.put, List.setIfInBounds_toArray, List.set_cons_zero, List.set_cons_succ]
              refine wpAnyH_done (by kernel_rfl) ?_ _
              refine NoPanic.normal ?_
              clear hHeld
              go_wp2
              go_end0
              exact ⟨rfl, RES.out⟩
            · refine wp_build_run (v := .agg (rowV 33 (noteV x))) 67 1 0 _ rfl (by kernel_rfl) (run_build_note (noteV x) wc.drew) ?_
              refine hK.out _ _ S1.out (fun hHeld => ?_)
              clear hK K
              try simp only [Act.put, List.setIfInBounds_toArray, List.set_cons_zero, List.set_cons_succ]
              refine take_one (i := 4) rfl (by kernel_rfl) rfl (fun K hK => ?_)
              go_simp
              refine hK.out _ _ S1.out (fun hHeld => ?_)
              clear hK K
              try simp only [Act.put, List.setIfInBounds_toArray, List.set_cons_zero, List.set_cons_succ]
              refine take_one (i := 7) rfl (by kernel_rfl) rfl (fun K hK => ?_)
              refine wp_append_run _ _ _ rfl rfl rfl hr9 ?_
              refine hK.out _ _ S2.out (fun hHeld => ?_)
              clear hK K
              try simp only [Act.put, List.setIfInBounds_toArray, List.set_cons_zero, List.set_cons_succ]
              refine take_op (i := 8) (v := ?vub8) rfl (by kernel_rfl) (by kernel_rfl) (by kernel_rfl) (fun _ _ _ h => h) rfl hHeld ?yub8 ?rub8
              case yub8 => (intro wz hz; go_simp; first | done | with_reducible rfl)
              try simp only [Act.put, List.setIfInBounds_toArray, List.set_cons_zero, List.set_cons_succ]
              refine take_op (i := 9) (v := ?vub9) rfl (by kernel_rfl) (by kernel_rfl) (by kernel_rfl) (fun _ _ _ h => h) rfl hHeld ?yub9 ?rub9
              case yub9 => (intro wz hz; go_simp; first | done | with_reducible rfl)
              try simp only [Act.put, List.setIfInBounds_toArray, List.set_cons_zero, List.set_cons_succ]
              refine take_one (i := 10) rfl (by kernel_rfl) rfl (fun K hK => ?_)
              go_simp
              refine hK.out _ _ S3.out (fun hHeld => ?_)
              clear hK K
              try simp only [Act.put, List.setIfInBounds_toArray, List.set_cons_zero, List.set_cons_succ]
              refine wpAnyH_done (by kernel_rfl) ?_ _
              refine NoPanic.normal ?_
              clear hHeld
              go_wp2
              go_end0
              exact ⟨rfl, RES.out⟩
end Go.Proofs.YtcfbaijibghcaaaDoor
