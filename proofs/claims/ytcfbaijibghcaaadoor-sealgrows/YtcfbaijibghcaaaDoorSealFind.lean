import Derived.Deep.DeepCutAuto
import Derived.Deep.Cut
import Derived.Deep.CutRange
import Derived.Deep.Light
import Derived.Test.YtcfbaijibghcaaaDoorSealIndex
/- A book's notes: find, add. -/
namespace Go.Proofs.YtcfbaijibghcaaaDoor
set_option linter.unusedSimpArgs false
set_option linter.unusedVariables false
open Go.RowKit Go.Deep

section
variable {P : Program}
theorem results_cell_seg2 {fn : Func} {p u : Tmp} {ty : TypeId} (h : fn.results = #[.cell p ty, .tmp u]) (tmps : Array Value) (w : World) (g : Nat) (t : TypeId) (n : Nat) (f : Nat → Value) (d : TypeDesc)
    (hp : tmps.getD p undef = .pointer (some ⟨g, 0, none⟩)) (hu : P.underlying ty = some d) (hd : (match d with | .struct _ | .array _ _ => true | _ => false) = true) (hi : (P.info? ty).map (·.size) = some n)
    (hg : w.rowIs g t n f) : (results fn tmps).run P w = .ok (.tuple #[.agg (rowV n f), tmps.getD u undef]) w := by
  have hp' : tmps[p]?.getD undef = .pointer (some ⟨g, 0, none⟩) := by simpa using hp
  simp [results, h, hp', asAddr, run_loadVar_row w g t ty (rowV n f) (0, 0) d (rowIs_block hg) hu hd (by rw [hi, rowV_size])]
end

def zeroN : Nt := (List.replicate 32 0, ByteArray.empty)
theorem zeroN_sum : isSum zeroN.1 := ⟨by simp [zeroN], fun i => by
  have : (List.replicate 32 (0 : Int)).getD i 0 = 0 := by rw [List.getD_eq_getElem?_getD, List.getElem?_replicate]; split <;> rfl
  simp only [zeroN]; omega⟩
/-- the first note of a sum. -/
def foundN (N : List Nt) (q : List Int) : Nt := match firstAt N q with
  | some i => N.getD i zeroN
  | none => zeroN
def notesV (lv mv : Value) (c : Int) (j : Nat) : Value := if j = 0 then lv else if j = 1 then mv else .int .i64 c
/-- A BOOK's NOTES, in block nb; all their memory in F. -/
def notesAt (w : World) (F : Nat → Prop) (nb : Nat) (N : List Nt) (c : Int) : Prop :=
  ∃ lv mv, w.rowIs nb 70 3 (notesV lv mv c) ∧ F nb ∧ listAt w F lv N ∧ mapAt w F mv N ∧ (∀ x ∈ N, isSum x.1) ∧ ∀ k, F k → k < w.heap.size
theorem notesAt.far {w w' : World} {F : Nat → Prop} {nb : Nat} {N : List Nt} {c : Int} (h : notesAt w F nb N c) (hb : ∀ k, F k → k < w.heap.size → w'.heap[k]? = w.heap[k]?) (hs : w.heap.size ≤ w'.heap.size) : notesAt w' F nb N c := by
  obtain ⟨lv, mv, h1, h2, h3, h4, h5, h6⟩ := h
  exact ⟨lv, mv, h1.of_block (hb nb h2 (h6 nb h2)), h2, h3.far hb (fun _ h => h), h4.far hb (fun _ h => h), h5, fun k hk => Nat.lt_of_lt_of_le (h6 k hk) hs⟩
theorem notesAt.below {w w' : World} {F : Nat → Prop} {nb B : Nat} {N : List Nt} {c : Int} (h : notesAt w F nb N c) (hb : Below B w w') (hB : w.heap.size ≤ B) : notesAt w' F nb N c :=
  h.far (fun k _ hk => hb.block k (Nat.lt_of_lt_of_le hk hB)) hb.size
theorem notesAt.drew {w : World} {F : Nat → Prop} {nb : Nat} {N : List Nt} {c : Int} (h : notesAt w F nb N c) : notesAt w.drew F nb N c := h
theorem zero_note : ∀ w : World, (zeroValue 62).run Tryd.prog w = .ok (.agg (rowV 33 (noteV zeroN))) w := fun w => by kernel_rfl
theorem build_note : ∀ w : World, (Instr.build 62 #[]).run Tryd.prog w = .ok (.agg (rowV 33 (noteV zeroN))) w := fun w => by kernel_rfl

set_option maxHeartbeats 1000000 in
set_option maxRecDepth 100000 in
theorem find_any (F : Nat → Prop) (nb : Nat) (N : List Nt) (c : Int) (q : List Int) (w : World) (h : notesAt w F nb N c) (hq : isSum q) :
    Calls Tryd.prog 29 #[.pointer (some ⟨nb, 0, none⟩), sumV q] w fun e w' => e = .returned (.tuple #[noteA (foundN N q), .bool (firstAt N q).isSome]) ∧ Below w.heap.size w w' := by
  obtain ⟨lv, mv, h1, h2, h3, h4, h5, h6⟩ := h
  have hn := h6 nb h2
  have z33 : (Tryd.prog.info? 62).map (·.size) = some 33 := by kernel_rfl
  have hz := zero_note
  have hbn := build_note
  obtain ⟨w1, hw1⟩ : ∃ w1, w1 = w.alloc (.cells (rowV 32 (arrV q)) 23) := ⟨_, rfl⟩
  obtain ⟨w2, hw2⟩ : ∃ w2, w2 = w1.alloc (.cells (rowV 33 (noteV zeroN)) 62) := ⟨_, rfl⟩
  have s1 : w1.heap.size = w.heap.size + 1 := by rw [hw1]; simp
  have s2 : w2.heap.size = w.heap.size + 2 := by rw [hw2]; simp; omega
  have b1 : Below w.heap.size w w1 := by rw [hw1]; exact (Below.refl _ _).alloc (Nat.le_refl _) _
  have b2' : Below w1.heap.size w1 w2 := by rw [hw2]; exact (Below.refl _ _).alloc (Nat.le_refl _) _
  have b2 : Below w.heap.size w w2 := b1.trans (b2'.mono (by omega))
  have rq : w2.rowIs w.heap.size 23 32 (arrV q) := b2'.row (by rw [hw1]; exact rowIs_box w _ _ _) (by omega)
  have rn : w2.rowIs (w.heap.size + 1) 62 33 (noteV zeroN) := by rw [← s1, hw2]; exact rowIs_box w1 _ _ _
  have N2 : notesAt w2 F nb N c := notesAt.below ⟨lv, mv, h1, h2, h3, h4, h5, h6⟩ b2 (Nat.le_refl _)
  have c0 : ∀ wz, Below w2.heap.size w2 wz → wz.cell? ⟨nb, 0, none⟩ = some lv := fun wz hz => (hz.cell (p := ⟨nb, 0, none⟩) (show nb < w2.heap.size by omega)).trans ((b2.cell (p := ⟨nb, 0, none⟩) hn).trans (h1.cell (i := 0) (by omega)))
  have c1 : ∀ wz, Below w2.heap.size w2 wz → wz.cell? ⟨nb, 1, none⟩ = some mv := fun wz hz => (hz.cell (p := ⟨nb, 1, none⟩) (show nb < w2.heap.size by omega)).trans ((b2.cell (p := ⟨nb, 1, none⟩) hn).trans (h1.cell (i := 1) (by omega)))
  have lk : ∀ wz, Below w2.heap.size w2 wz → (Instr.lookup 68 mv (.agg (rowV 32 (arrV q))) true).run Tryd.prog wz = .ok (.tuple #[.int .i64 (((firstAt N q).getD 0 : Nat) : Int), .bool (firstAt N q).isSome]) wz := fun wz hz => by
    have h4' : mapAt wz F mv N := h4.far (fun k hk hl => ((hz.mono (show w.heap.size ≤ w2.heap.size by omega)).block k hl).trans (b2.block k hl)) (fun _ h => h)
    exact look_run h4' hq
  have qc : ∀ wz, Below w2.heap.size w2 wz → ∀ i, i < 32 → wz.cell? ⟨w.heap.size, 0 + i, none⟩ = some (arrV q i) := fun wz hz i hi => by
    rw [Nat.zero_add, hz.cell (p := ⟨w.heap.size, i, none⟩) (show w.heap.size < w2.heap.size by omega)]; exact rq.cell hi
  have C0 : Hid _ := c0
  have C1 : Hid _ := c1
  have LK : Hid _ := lk
  have QC : Hid _ := qc
  have B2 : Hid _ := b2
  have RN : Hid _ := rn
  have hls := h3.shape
  obtain ⟨la, lc, rfl, hlc, hlm, hcell⟩ := hls
  unfold maxLen at hlm
  clear c0 c1 lk qc b2 rn rq N2 b1 b2' h1 h3 h4
  unfold sumV noteA
  go_enter Tryd.func29, Tryd.ntmps29
  go_upto_region 1 with fail
  rw [← hw1, ← hw2]
  clear hw1 hw2
  go_cut [6, 7] (fun i t wx => i = .int .i64 (((firstAt N q).getD 0 : Nat) : Int) ∧ t = .bool (firstAt N q).isSome ∧ Below w2.heap.size w2 wx)
  case first =>
    refine wp_region_noPanic ?_
    refine wp_region_held_drew (S := fun w' => Below w2.heap.size w2 w') (by kernel_rfl) ((Below.refl _ _).drew) (fun hHeld => ?_)
    refine take_op (i := 0) (v := ?vf0) rfl (by kernel_rfl) (by kernel_rfl) (by kernel_rfl) (fun _ _ _ h => h) rfl hHeld ?yf0 ?rf0
    case yf0 => (intro wz hz; go_simp; first | done | with_reducible rfl)
    try simp only [Act.put, List.setIfInBounds_toArray, List.set_cons_zero, List.set_cons_succ]
    refine take_op (i := 1) (v := ?vf1) rfl (by kernel_rfl) (by kernel_rfl) (by kernel_rfl) (fun _ _ _ h => h) rfl hHeld ?yf1 ?rf1
    case yf1 => (intro wz hz; go_simp; first | done | with_reducible rfl)
    try simp only [Act.put, List.setIfInBounds_toArray, List.set_cons_zero, List.set_cons_succ]
    refine take_op (i := 2) (v := ?vf2) rfl (by kernel_rfl) (by kernel_rfl) (by kernel_rfl) (fun _ _ _ h => h) rfl hHeld ?yf2 ?rf2
    case yf2 => (intro wz hz; go_simp; first | done | with_reducible rfl)
    try simp only [Act.put, List.setIfInBounds_toArray, List.set_cons_zero, List.set_cons_succ]
    refine take_op (i := 3) (v := ?vf3) rfl (by kernel_rfl) (by kernel_rfl) (by kernel_rfl) (fun _ _ _ h => h) rfl hHeld ?yf3 ?rf3
    case yf3 => (intro wz hz; have hcz := C1.out wz hz; go_simp; first | done | with_reducible rfl)
    try simp only [Act.put, List.setIfInBounds_toArray, List.set_cons_zero, List.set_cons_succ]
    refine take_load (i := 4) rfl (by kernel_rfl) (by kernel_rfl) (by kernel_rfl) 23 _ rfl w.heap.size 0 32 (arrV q) rfl _ Tryd.underlying23 rfl (by kernel_rfl) (fun _ _ _ h => h) rfl hHeld (fun wz hz => QC.out wz hz) ?_
    try simp only [Act.put, List.setIfInBounds_toArray, List.set_cons_zero, List.set_cons_succ]
    refine take_op (i := 5) (v := ?vf5) rfl (by kernel_rfl) (by kernel_rfl) (by kernel_rfl) (fun _ _ _ h => h) rfl hHeld ?yf5 ?rf5
    case yf5 => (intro wz hz; have hlz := LK.out wz hz; go_simp; first | done | with_reducible rfl)
    try simp only [Act.put, List.setIfInBounds_toArray, List.set_cons_zero, List.set_cons_succ]
    refine take_op (i := 6) (v := ?vf6) rfl (by kernel_rfl) (by kernel_rfl) (by kernel_rfl) (fun _ _ _ h => h) rfl hHeld ?yf6 ?rf6
    case yf6 => (intro wz hz; go_simp; first | done | with_reducible rfl)
    try simp only [Act.put, List.setIfInBounds_toArray, List.set_cons_zero, List.set_cons_succ]
    refine take_op (i := 7) (v := ?vf7) rfl (by kernel_rfl) (by kernel_rfl) (by kernel_rfl) (fun _ _ _ h => h) rfl hHeld ?yf7 ?rf7
    case yf7 => (intro wz hz; go_simp; first | done | with_reducible rfl)
    try simp only [Act.put, List.setIfInBounds_toArray, List.set_cons_zero, List.set_cons_succ]
    refine take_op (i := 8) (v := ?vf8) rfl (by kernel_rfl) (by kernel_rfl) (by kernel_rfl) (fun _ _ _ h => h) rfl hHeld ?yf8 ?rf8
    case yf8 => (intro wz hz; go_simp; first | done | with_reducible rfl)
    try simp only [Act.put, List.setIfInBounds_toArray, List.set_cons_zero, List.set_cons_succ]
    refine take_op (i := 9) (v := ?vf9) rfl (by kernel_rfl) (by kernel_rfl) (by kernel_rfl) (fun _ _ _ h => h) rfl hHeld ?yf9 ?rf9
    case yf9 => (intro wz hz; go_simp; first | done | with_reducible rfl)
    try simp only [Act.put, List.setIfInBounds_toArray, List.set_cons_zero, List.set_cons_succ]
    refine take_op (i := 10) (v := ?vf10) rfl (by kernel_rfl) (by kernel_rfl) (by kernel_rfl) (fun _ _ _ h => h) rfl hHeld ?yf10 ?rf10
    case yf10 => (intro wz hz; go_simp; first | done | with_reducible rfl)
    try simp only [Act.put, List.setIfInBounds_toArray, List.set_cons_zero, List.set_cons_succ]
    refine wpAnyH_done (by kernel_rfl) ?_ _
    refine NoPanic.normal ?_
    have HB : Hid _ := hHeld
    clear hHeld
    go_wp2_with fail
    go_meet
    case rel => exact ⟨rfl, rfl, HB.out⟩
  case rest =>
    obtain ⟨rfl, rfl, hb⟩ := hcut
    have HB : Hid _ := hb
    have hsc := hb.size
    clear hb
    have rn3 : wc.rowIs (w.heap.size + 1) 62 33 (noteV zeroN) := HB.out.row RN.out (by omega)
    cases hf : firstAt N q with
    | none =>
      have e1 : foundN N q = zeroN := by unfold foundN; rw [hf]
      simp only [Option.getD_none, Option.isSome_none]
      go_wp2_with (first | (refine wpList_store_row rfl 62 _ _ rfl rfl (w.heap.size + 1) 0 33 _ rfl rfl z33 (fun i _ => noteV_one zeroN i) _ _ _ rn3 (by omega) ?_; intro W4 r4 hz4 hb4))
      refine bodyPost_ret (results_cell_seg2 rfl _ _ (w.heap.size + 1) 62 33 (noteV zeroN) _ rfl Tryd.underlying62 rfl z33 (r4.congr fun i hi => ?_)) rfl ⟨by rw [e1, hf]; rfl, B2.out.trans ((HB.out.mono (by omega)).trans ((hb4.mono (by omega)).below (by omega)))⟩
      rw [if_pos (by omega), Nat.sub_zero]
    | some i =>
      obtain ⟨t, ht⟩ := firstAt_get hf
      have hil := firstAt_lt hf
      have e1 : foundN N q = (q, t) := by unfold foundN; rw [hf]; simp [List.getD_eq_getElem?_getD, ht]
      obtain ⟨g, rfl, hFg, hgl, hcl⟩ := hcell i _ ht
      have c0' := C0.out wc HB.out
      have cl : ∀ j, j < 33 → wc.cell? ⟨g, i * 33 + j, none⟩ = some (noteV (q, t) j) := fun j hj => (HB.out.cell (p := ⟨g, i * 33 + j, none⟩) (show g < w2.heap.size by omega)).trans ((B2.out.cell (p := ⟨g, i * 33 + j, none⟩) hgl).trans (hcl j hj))
      have CL : Hid _ := cl
      have i0 : (0 : Int) ≤ (i : Int) := by omega
      have i1 : (i : Int) < (N.length : Int) := by omega
      simp only [Option.getD_some, Option.isSome_some]
      clear cl
      go_wp2_with (first | (refine wpList_load_seg rfl 62 (.tmp 25) rfl g (i * 33) 33 (noteV (q, t)) rfl _ Tryd.underlying62 rfl z33 CL.out ?_) | (refine wpList_store_row rfl 62 (.tmp 4) (.tmp 26) rfl rfl (w.heap.size + 1) 0 33 (noteV (q, t)) rfl rfl z33 (fun i _ => noteV_one _ i) _ _ _ rn3 (by omega) ?_; intro W4 r4 hz4 hb4))
      refine bodyPost_ret (results_cell_seg2 rfl _ _ (w.heap.size + 1) 62 33 (noteV (q, t)) _ rfl Tryd.underlying62 rfl z33 (r4.congr fun i hi => ?_)) rfl ⟨by rw [e1, hf]; rfl, B2.out.trans ((HB.out.mono (by omega)).trans ((hb4.mono (by omega)).below (by omega)))⟩
      rw [if_pos (by omega), Nat.sub_zero]
end Go.Proofs.YtcfbaijibghcaaaDoor
