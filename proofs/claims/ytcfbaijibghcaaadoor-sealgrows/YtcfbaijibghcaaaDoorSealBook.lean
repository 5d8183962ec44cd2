import Derived.Test.YtcfbaijibghcaaaDoorSealAdd
import Derived.Test.YtcfbaijibghcaaaDoorShaAll
import Derived.Test.YtcfbaijibghcaaaDoorPackBl
/- Books: empty, Note, Of, Calls; Preimage. -/
namespace Go.Proofs.YtcfbaijibghcaaaDoor
set_option linter.unusedSimpArgs false
set_option linter.unusedVariables false
open Go.RowKit Go.Deep

/-- what is hashed. -/
def preB (kind : Int) (n : Nat) (ps : Nat → List Int) : List Int := [kind % 256] ++ flatTo (blobsB ps) n
theorem convA (w : World) (v : Value) (l : List Int) (h : anyBytes w v l) : (convert 36 9 v).run Tryd.prog w = .ok (.string (strOf l)) w :=
  run_convert_any (P := Tryd.prog) w 36 9 5 v l Tryd.underlying36 Tryd.underlying5 Tryd.underlying9 h
theorem conv8 (w : World) (v : Value) (l : List Int) (h : isBytes w v l) : (convert 36 9 v).run Tryd.prog w = .ok (.string (strOf l)) w :=
  run_convert_bytes (P := Tryd.prog) w 36 9 5 v l Tryd.underlying36 Tryd.underlying5 Tryd.underlying9 h
set_option maxRecDepth 100000 in
theorem pre_any (kind : Int) (n : Nat) (v : Value) (ps : Nat → List Int) (w : World) (hp : anyParts w v n ps) (hs : ∀ i, i ≤ n → 1 + (flatTo (blobsB ps) i).length ≤ 1000000000000) :
    Calls Tryd.prog 22 #[.int .i64 kind, v] w fun e w' => ∃ v', e = .returned v' ∧ newBytes w' w.heap.size v' (preB kind n ps) ∧ Below w.heap.size w w' := by
  have hb0 : Below w.heap.size w (w.alloc (.cells #[.int .u8 (kind % 256)] 5)) := (Below.refl _ _).alloc (Nat.le_refl _) _
  have hk : 0 ≤ kind % 256 ∧ kind % 256 ≤ 255 := by omega
  have h1 : isBytes (w.alloc (.cells #[.int .u8 (kind % 256)] 5)) (.slice (some ⟨w.heap.size, 0, none⟩) 1 1) [kind % 256] :=
    Or.inr ⟨w.heap.size, 0, 1, rfl, by simp, by unfold maxLen; omega, by simp, fun i hi => by
      obtain rfl : i = 0 := by simpa using hi
      exact one_cell w _ _, fun i => by
      match i with
      | 0 => exact hk
      | _ + 1 => exact ⟨by simp, by simp⟩⟩
  have X := blob_any' [kind % 256] _ v n ps _ h1 (hp.below hb0 (Nat.le_refl _)) (fun i hi => by have := hs i hi; simp; omega)
  obtain ⟨a, cap, rfl, _, _⟩ := hp.open
  go_enter Tryd.func22, Tryd.ntmps22
  go_wp2_with fail
  refine X.mono ?_
  rintro e w1 ⟨v1, rfl, hn1, hb1⟩
  go_wp2
  go_ret
  exact ⟨_, rfl, hn1.mono (by simp), hb0.trans (hb1.mono (by simp))⟩

/-- A BOOK in block k, all its memory in F. -/
def bookAt (w : World) (F : Nat → Prop) (k : Nat) (N : List Nt) (c : Int) : Prop :=
  F k ∧ (∀ j, F j → j < w.heap.size) ∧ ∃ pv, w.rowIs k 29 1 (fun _ => pv) ∧
    ((pv = .pointer none ∧ N = [] ∧ c = 0) ∨ ∃ nb, pv = .pointer (some ⟨nb, 0, none⟩) ∧ nb ≠ k ∧ notesAt w (fun j => F j ∧ j ≠ k) nb N c)
theorem bookAt.far {w w' : World} {F : Nat → Prop} {k : Nat} {N : List Nt} {c : Int} (h : bookAt w F k N c) (hb : ∀ j, F j → j < w.heap.size → w'.heap[j]? = w.heap[j]?) (hs : w.heap.size ≤ w'.heap.size) : bookAt w' F k N c := by
  obtain ⟨h1, h2, pv, h3, h4⟩ := h
  refine ⟨h1, fun j hj => Nat.lt_of_lt_of_le (h2 j hj) hs, pv, h3.of_block (hb k h1 (h2 k h1)), ?_⟩
  rcases h4 with h4 | ⟨nb, a1, a2, a3⟩
  · exact Or.inl h4
  · exact Or.inr ⟨nb, a1, a2, a3.far (fun j hj hl => hb j hj.1 hl) hs⟩
theorem bookAt.below {w w' : World} {F : Nat → Prop} {k B : Nat} {N : List Nt} {c : Int} (h : bookAt w F k N c) (hb : Below B w w') (hB : w.heap.size ≤ B) : bookAt w' F k N c :=
  h.far (fun j _ hj => hb.block j (Nat.lt_of_lt_of_le hj hB)) hb.size
theorem notesAt.grow {w : World} {F G : Nat → Prop} {nb : Nat} {N : List Nt} {c : Int} (h : notesAt w F nb N c) (hG : ∀ k, F k → G k) (hl : ∀ k, G k → k < w.heap.size) : notesAt w G nb N c := by
  obtain ⟨lv, mv, h1, h2, h3, h4, h5, h6⟩ := h
  exact ⟨lv, mv, h1, hG _ h2, h3.far (fun _ _ _ => rfl) hG, h4.far (fun _ _ _ => rfl) hG, h5, hl⟩
theorem bookAt.grow {w : World} {F G : Nat → Prop} {k : Nat} {N : List Nt} {c : Int} (h : bookAt w F k N c) (hG : ∀ k, F k → G k) (hl : ∀ k, G k → k < w.heap.size) : bookAt w G k N c := by
  obtain ⟨h1, h2, pv, h3, h4⟩ := h
  refine ⟨hG _ h1, hl, pv, h3, ?_⟩
  rcases h4 with h4 | ⟨nb, a1, a2, a3⟩
  · exact Or.inl h4
  · exact Or.inr ⟨nb, a1, a2, a3.grow (fun j hj => ⟨hG j hj.1, hj.2⟩) (fun j hj => hl j hj.1)⟩
/-- a new book. -/
theorem bookAt.new (w : World) (W : World) (k : Nat) (hW : W.rowIs k 29 1 (fun _ => .pointer none)) : bookAt W (fun j => j = k) k [] 0 :=
  ⟨rfl, fun j hj => hj ▸ hW.lt, .pointer none, hW, Or.inl ⟨rfl, rfl, rfl⟩⟩

theorem empty_none (w : World) : Calls Tryd.prog 28 #[.pointer none] w fun e w' => e = .returned (.bool true) ∧ w' = w := by
  go_enter Tryd.func28, Tryd.ntmps28
  go_wp2
  go_ret
  exact ⟨rfl, rfl⟩
theorem empty_zero (k : Nat) (w : World) (h : w.rowIs k 29 1 (fun _ => .pointer none)) : Calls Tryd.prog 28 #[.pointer (some ⟨k, 0, none⟩)] w fun e w' => e = .returned (.bool true) ∧ w' = w := by
  have c0 : w.cell? ⟨k, 0, none⟩ = some (.pointer none) := h.cell (i := 0) (by omega)
  go_enter Tryd.func28, Tryd.ntmps28
  go_wp2
  go_ret
  exact ⟨rfl, rfl⟩
theorem empty_some (k nb : Nat) (w : World) (h : w.rowIs k 29 1 (fun _ => .pointer (some ⟨nb, 0, none⟩))) : Calls Tryd.prog 28 #[.pointer (some ⟨k, 0, none⟩)] w fun e w' => e = .returned (.bool false) ∧ w' = w := by
  have c0 : w.cell? ⟨k, 0, none⟩ = some (.pointer (some ⟨nb, 0, none⟩)) := h.cell (i := 0) (by omega)
  go_enter Tryd.func28, Tryd.ntmps28
  go_wp2
  go_ret
  exact ⟨rfl, rfl⟩
theorem calls_nil (w : World) : Calls Tryd.prog 19 #[.pointer none] w fun e w' => e = .returned (.int .i64 0) ∧ w' = w := by
  go_enter Tryd.func19, Tryd.ntmps19
  go_wp2_with fail
  refine (empty_none w).mono ?_
  rintro e w' ⟨rfl, rfl⟩
  go_wp2
  go_ret
  exact ⟨rfl, rfl⟩
theorem calls_any (F : Nat → Prop) (k : Nat) (N : List Nt) (c : Int) (w : World) (h : bookAt w F k N c) : Calls Tryd.prog 19 #[.pointer (some ⟨k, 0, none⟩)] w fun e w' => e = .returned (.int .i64 c) ∧ w' = w := by
  obtain ⟨h1, h2, pv, h3, ⟨rfl, rfl, rfl⟩ | ⟨nb, rfl, _, lv, mv, r, _⟩⟩ := h
  · go_enter Tryd.func19, Tryd.ntmps19
    go_wp2_with fail
    refine (empty_zero k w h3).mono ?_
    rintro e w' ⟨rfl, rfl⟩
    go_wp2
    go_ret
    exact ⟨rfl, rfl⟩
  · have c0 : w.cell? ⟨k, 0, none⟩ = some (.pointer (some ⟨nb, 0, none⟩)) := h3.cell (i := 0) (by omega)
    have c2 : w.cell? ⟨nb, 2, none⟩ = some (.int .i64 c) := r.cell (i := 2) (by omega)
    go_enter Tryd.func19, Tryd.ntmps19
    go_wp2_with fail
    refine (empty_some k nb w h3).mono ?_
    rintro e w' ⟨rfl, hw⟩
    obtain rfl := hw.symm
    clear hw
    go_wp2
    go_ret
    exact ⟨rfl, rfl⟩
theorem zero_notes : ∀ w : World, (Instr.build 70 #[]).run Tryd.prog w = .ok (.agg (rowV 3 (notesV (.slice none 0 0) (.map none) 0))) w := fun w => by kernel_rfl

set_option maxHeartbeats 1000000 in
set_option maxRecDepth 100000 in
theorem note_nil (q : List Int) (v : Value) (w : World) : Calls Tryd.prog 15 #[.pointer none, sumV q, v] w fun e w' => e = .returned (.tuple #[]) ∧ Below w.heap.size w w' := by
  unfold sumV
  go_enter Tryd.func15, Tryd.ntmps15
  go_wp2
  exact bodyPost_ret (results_none rfl _ _ _) rfl ⟨rfl, (Below.refl _ _).alloc (Nat.le_refl _) _⟩
theorem exec_build2 {P : Program} {o : Oper} {ev : Operand → Value} {w : World} {v : Value} (t : TypeId) (i j : Nat) (x y : Operand) (a b : Value) (ho : o.op = .build t #[(i, x), (j, y)]) (hx : ev x = a) (hy : ev y = b)
    (hr : (Instr.build t #[(i, a), (j, b)]).run P w = .ok v w) : (execOp ev o).run P w = .ok (.value v) w := by
  unfold execOp
  simp only [ho, List.map_toArray, List.map_cons, List.map_nil, hx, hy, Sem.run_bind, hr, Result.andThen_ok, Sem.run_pure]
theorem isBytes.far' {w w' : World} {v : Value} {l : List Int} (h : isBytes w v l) (hb : 0 < l.length → ∀ k, v.ownBlock = some k → w'.heap[k]? = w.heap[k]?) (hs : w.heap.size ≤ w'.heap.size) : isBytes w' v l := by
  rcases h with h | ⟨pb, po, cap, rfl, h2, h3, h4, h6, h7⟩
  · exact Or.inl h
  · exact Or.inr ⟨pb, po, cap, rfl, h2, h3, by omega, fun i hi => by rw [World.cell?_of_block (w := w) (hb (by omega) pb rfl)]; exact h6 i hi, h7⟩
/-- behind the test of the notes. -/
def midN (w : World) (F : Nat → Prop) (k : Nat) (N : List Nt) (c : Int) (q : List Int) (wx : World) : Prop :=
  ∃ (nb : Nat) (G : Nat → Prop), wx.rowIs k 29 1 (fun _ => .pointer (some ⟨nb, 0, none⟩)) ∧ notesAt wx G nb N c ∧ (∀ j, G j → (F j ∧ j ≠ k) ∨ (w.heap.size < j ∧ j < wx.heap.size)) ∧ Fr F w wx ∧ wx.rowIs w.heap.size 23 32 (arrV q)
theorem build_note2 (q : List Int) (t : ByteArray) (w : World) : (Instr.build 62 #[(0, .agg (rowV 32 (arrV q))), (1, .string t)]).run Tryd.prog w = .ok (.agg (rowV 33 (noteV (q, t)))) w := by
  show (_ : Result Value) = _
  kernel_rfl
set_option maxHeartbeats 1000000 in
set_option maxRecDepth 100000 in
theorem note_any' (F : Nat → Prop) (k : Nat) (N : List Nt) (c : Int) (q l : List Int) (v : Value) (w : World) (h : bookAt w F k N c) (hq : isSum q) (hv : anyBytes w v l) (hvF : 0 < l.length → ∀ j, v.ownBlock = some j → ¬ F j) (hN : N.length < 1000000) :
    Calls Tryd.prog 15 #[.pointer (some ⟨k, 0, none⟩), sumV q, v] w fun e w' => e = .returned (.tuple #[]) ∧ bookAt w' (Gr F w w') k (addN N (q, strOf l)) c ∧ Fr F w w' := by
  obtain ⟨hF, hlt, pv, hpv, hcase⟩ := h
  have hk := hlt k hF
  have b1 : Below w.heap.size w (w.alloc (.cells (rowV 32 (arrV q)) 23)) := (Below.refl _ _).alloc (Nat.le_refl _) _
  have rq : (w.alloc (.cells (rowV 32 (arrV q)) 23)).rowIs w.heap.size 23 32 (arrV q) := rowIs_box w _ _ _
  have r1 : (w.alloc (.cells (rowV 32 (arrV q)) 23)).rowIs k 29 1 (fun _ => pv) := b1.row hpv hk
  have c1 : (w.alloc (.cells (rowV 32 (arrV q)) 23)).cell? ⟨k, 0, none⟩ = some pv := r1.cell (i := 0) (by omega)
  have s1 : (w.alloc (.cells (rowV 32 (arrV q)) 23)).heap.size = w.heap.size + 1 := by simp
  have hbu := zero_notes
  obtain ⟨va, vc, rfl, _⟩ := hv.slice
  have HV : Hid _ := hv
  have HVF : Hid _ := hvF
  have HLT : Hid _ := hlt
  clear hv hvF hlt
  unfold sumV
  obtain ⟨bn, hbn, hbg, hbi⟩ : ∃ bn : Bool, (∀ wz : World, (binOp .eql 27 pv (.pointer none)).run Tryd.prog wz = .ok (.bool bn) wz) ∧ (∀ wz : World, (eqGuard .eql 27 (.tmp 11) (.const (.pointer none)) pv (.pointer none)).run Tryd.prog wz = .ok () wz) ∧ (bn = true ↔ pv = .pointer none) := by
    rcases hcase with ⟨rfl, _⟩ | ⟨nb, rfl, _⟩
    · exact ⟨true, fun wz => by kernel_rfl, fun wz => by kernel_rfl, by simp⟩
    · exact ⟨false, fun wz => by kernel_rfl, fun wz => by kernel_rfl, by simp⟩
  go_enter Tryd.func15, Tryd.ntmps15
  go_upto_if 12 with fail
  go_cut [4] (fun t wx => t = .pointer (some ⟨w.heap.size, 0, none⟩) ∧ midN w F k N c q wx)
  case first =>
    rcases hcase with ⟨rfl, rfl, rfl⟩ | ⟨nb, rfl, hnk, hnn⟩
    · obtain rfl : bn = true := hbi.2 rfl
      have r2 : ((w.alloc (.cells (rowV 32 (arrV q)) 23)).alloc (.cells #[.slice none 0 0, .map none, .int .i64 0] 70)).rowIs k 29 1 (fun _ => .pointer none) := World.rowIs.alloc r1 _
      have z2 := World.rowIs.frozen r2 0
      have c2 : ((w.alloc (.cells (rowV 32 (arrV q)) 23)).alloc (.cells #[.slice none 0 0, .map none, .int .i64 0] 70)).cell? ⟨k, 0, none⟩ = some (.pointer none) := r2.cell (i := 0) (by omega)
      have sz : (w.setCell ⟨k, 0, none⟩ (.pointer (some ⟨w.heap.size + 1, 0, none⟩))).heap.size = w.heap.size := nblk_setCell _ _ _
      have sz2 : ((w.setCell ⟨k, 0, none⟩ (.pointer (some ⟨w.heap.size + 1, 0, none⟩))).alloc (.cells (rowV 32 (arrV q)) 23)).heap.size = w.heap.size + 1 := by simp [nblk_setCell]
      have MID : Hid (midN w F k [] 0 q (((w.setCell ⟨k, 0, none⟩ (.pointer (some ⟨w.heap.size + 1, 0, none⟩))).alloc (.cells (rowV 32 (arrV q)) 23)).alloc (.cells #[.slice none 0 0, .map none, .int .i64 0] 70))) := (show midN w F k [] 0 q (((w.setCell ⟨k, 0, none⟩ (.pointer (some ⟨w.heap.size + 1, 0, none⟩))).alloc (.cells (rowV 32 (arrV q)) 23)).alloc (.cells #[.slice none 0 0, .map none, .int .i64 0] 70)) from by
        refine ⟨w.heap.size + 1, fun j => j = w.heap.size + 1, World.rowIs.alloc (World.rowIs.alloc ((World.rowIs.set hpv 0 _).congr (fun i hi => by
          have : i = 0 := by omega
          simp [this])) _) _, ⟨.slice none 0 0, .map none, ?_, rfl, listAt_nil _ _, Or.inl ⟨rfl, rfl⟩, fun x hx => by simp at hx, fun j hj => by rw [hj]; simp [nblk_setCell]⟩, fun j hj => Or.inr ⟨by omega, by rw [hj]; simp [nblk_setCell]⟩, ?_, ?_⟩
        · have := rowIs_new ((w.setCell ⟨k, 0, none⟩ (.pointer (some ⟨w.heap.size + 1, 0, none⟩))).alloc (.cells (rowV 32 (arrV q)) 23)) #[.slice none 0 0, .map none, .int .i64 0] 70 3 (notesV (.slice none 0 0) (.map none) 0) rfl (fun i hi => by
            match i, hi with
            | 0, _ => rfl
            | 1, _ => rfl
            | 2, _ => rfl)
          rw [sz2] at this; exact this
        · exact (((Fr.refl F w).setCell (Or.inl hF) _).alloc _).alloc _
        · have := rowIs_box (w.setCell ⟨k, 0, none⟩ (.pointer (some ⟨w.heap.size + 1, 0, none⟩))) 23 32 (arrV q)
          rw [sz] at this
          exact World.rowIs.alloc this _)
      clear r1 r2 rq b1 hpv hbu
      go_wp2_with fail
      go_meet
      case rel => exact ⟨rfl, MID.out⟩
    · obtain rfl : bn = false := by
        cases bn with
        | false => rfl
        | true => exact absurd (hbi.1 rfl) (by simp)
      have MID : Hid (midN w F k N c q (w.alloc (.cells (rowV 32 (arrV q)) 23))) := (show midN w F k N c q (w.alloc (.cells (rowV 32 (arrV q)) 23)) from ⟨nb, fun j => F j ∧ j ≠ k, r1, hnn.below b1 (Nat.le_refl _), fun j hj => Or.inl hj, Fr.of_below F b1, rq⟩)
      clear r1 rq b1 hpv hbu hnn
      go_wp2_with fail
      go_meet
      case rel => exact ⟨rfl, MID.out⟩
  case rest =>
    obtain ⟨rfl, hmid⟩ := hcut
    clear r1 rq b1 hpv hbu c1 s1 hcase hbn hbg hbi
    obtain ⟨wR, hwR⟩ : ∃ wR, wR = wc := ⟨_, rfl⟩
    subst hwR
    obtain ⟨nb, G, m1, m2, m3, m4, m5⟩ := hmid
    go_upto_region 4 with fail
    have hkR : k < wR.heap.size := Nat.lt_of_lt_of_le hk m4.size
    have hqR : w.heap.size < wR.heap.size := m5.lt
    have hGk : ¬ G k := fun g => by
      rcases m3 k g with h | h
      · exact h.2 rfl
      · omega
    have hGq : ¬ G w.heap.size := fun g => by
      rcases m3 _ g with h | h
      · have := HLT.out _ h.1; omega
      · omega
    have k0 : wR.cell? ⟨k, 0, none⟩ = some (.pointer (some ⟨nb, 0, none⟩)) := m1.cell (i := 0) (by omega)
    have k1 : ∀ i, i < 32 → wR.cell? ⟨w.heap.size, 0 + i, none⟩ = some (arrV q i) := fun i hi => by rw [Nat.zero_add]; exact m5.cell hi
    have kv : anyBytes wR (.slice va l.length vc) l := by
      rcases HV.out with h | h
      · exact Or.inl (h.far' (fun hl j hj => m4.block j (h.block j hj) (HVF.out hl j hj)) m4.size)
      · exact Or.inr h
    have hcvv := convA wR.drew _ _ kv
    have KX := add_note G nb N c (q, strOf l) wR.drew m2.drew hq hN
    have XX : Hid _ := KX
    have M1 : Hid _ := m1
    have M3 : Hid _ := m3
    have M4 : Hid _ := m4
    have M5 : Hid _ := m5
    clear KX m1 m2 m3 m4 m5
    refine wp_region_noPanic ?_
    refine wp_region_held_drew (S := fun w' => w'.cell? ⟨k, 0, none⟩ = some (.pointer (some ⟨nb, 0, none⟩)) ∧ (∀ i, i < 32 → w'.cell? ⟨w.heap.size, 0 + i, none⟩ = some (arrV q i)) ∧ (convert 36 9 (.slice va l.length vc)).run Tryd.prog w' = .ok (.string (strOf l)) w') (by kernel_rfl) ⟨k0, k1, hcvv⟩ (fun hHeld => ?_)
    refine take_op (i := 0) (v := ?vz0) rfl (by kernel_rfl) (by kernel_rfl) (by kernel_rfl) (fun _ _ _ h => h) rfl hHeld ?yz0 ?rz0
    case yz0 => (intro wz hz; go_simp; first | done | with_reducible rfl)
    try simp only [Act.put, List.setIfInBounds_toArray, List.set_cons_zero, List.set_cons_succ]
    refine take_op (i := 1) (v := ?vz1) rfl (by kernel_rfl) (by kernel_rfl) (by kernel_rfl) (fun _ _ _ h => h) rfl hHeld ?yz1 ?rz1
    case yz1 => (intro wz hz; go_simp; first | done | with_reducible rfl)
    try simp only [Act.put, List.setIfInBounds_toArray, List.set_cons_zero, List.set_cons_succ]
    refine take_op (i := 2) (v := ?vz2) rfl (by kernel_rfl) (by kernel_rfl) (by kernel_rfl) (fun _ _ _ h => h) rfl hHeld ?yz2 ?rz2
    case yz2 => (intro wz hz; go_simp; first | done | with_reducible rfl)
    try simp only [Act.put, List.setIfInBounds_toArray, List.set_cons_zero, List.set_cons_succ]
    refine take_op (i := 3) (v := ?vz3) rfl (by kernel_rfl) (by kernel_rfl) (by kernel_rfl) (fun _ _ _ h => h) rfl hHeld ?yz3 ?rz3
    case yz3 => (intro wz hz; have hcz := hz.1; go_simp; first | done | with_reducible rfl)
    try simp only [Act.put, List.setIfInBounds_toArray, List.set_cons_zero, List.set_cons_succ]
    refine take_load (i := 4) rfl (by kernel_rfl) (by kernel_rfl) (by kernel_rfl) 23 _ rfl w.heap.size 0 32 (arrV q) rfl _ Tryd.underlying23 rfl (by kernel_rfl) (fun _ _ _ h => h) rfl hHeld (fun wz hz => hz.2.1) ?_
    try simp only [Act.put, List.setIfInBounds_toArray, List.set_cons_zero, List.set_cons_succ]
    refine take_op (i := 5) (v := ?vz5) rfl (by kernel_rfl) (by kernel_rfl) (by kernel_rfl) (fun _ _ _ h => h) rfl hHeld ?yz5 ?rz5
    case yz5 => (intro wz hz; go_simp; first | done | with_reducible rfl)
    try simp only [Act.put, List.setIfInBounds_toArray, List.set_cons_zero, List.set_cons_succ]
    refine take_op (i := 6) (v := ?vz6) rfl (by kernel_rfl) (by kernel_rfl) (by kernel_rfl) (fun _ _ _ h => h) rfl hHeld ?yz6 ?rz6
    case yz6 => (intro wz hz; have hcz := hz.2.2; go_simp; first | done | with_reducible rfl)
    try simp only [Act.put, List.setIfInBounds_toArray, List.set_cons_zero, List.set_cons_succ]
    refine take_op (i := 7) (v := .agg (rowV 33 (noteV (q, strOf l)))) rfl (by kernel_rfl) (by kernel_rfl) (by kernel_rfl) (fun _ _ _ h => h) rfl hHeld (fun wz hz => exec_build2 62 0 1 _ _ (.agg (rowV 32 (arrV q))) (.string (strOf l)) rfl (by kernel_rfl) (by kernel_rfl) (build_note2 q (strOf l) wz)) ?_
    try simp only [Act.put, List.setIfInBounds_toArray, List.set_cons_zero, List.set_cons_succ]
    refine take_one (i := 8) rfl (by kernel_rfl) rfl (fun K hK => ?_)
    go_simp
    refine Calls.mono XX.out ?_
    rintro e w9 ⟨rfl, hn9, hf9⟩
    have kv9 : anyBytes w9 (.slice va l.length vc) l := by
      rcases HV.out with h | h
      · refine Or.inl (h.far' (fun hl j hj => ?_) (Nat.le_trans M4.out.size hf9.size))
        have hjl := h.block j hj
        exact (hf9.block j (Nat.lt_of_lt_of_le hjl M4.out.size) (fun g => by
          rcases M3.out j g with h2 | h2
          · exact HVF.out hl j hj h2.1
          · omega)).trans (M4.out.block j hjl (HVF.out hl j hj))
      · exact Or.inr h
    refine hK.out _ _ ⟨(World.cell?_of_block (w := wR) (hf9.block k hkR hGk)).trans k0, fun i hi => (World.cell?_of_block (w := wR) (hf9.block _ hqR hGq)).trans (k1 i hi), convA w9 _ _ kv9⟩ (fun hHeld => ?_)
    clear hK K
    try simp only [Act.put, List.setIfInBounds_toArray, List.set_cons_zero, List.set_cons_succ]
    refine wpAnyH_done (by kernel_rfl) ?_ _
    refine NoPanic.normal ?_
    clear hHeld
    have HN9 : Hid _ := hn9
    have HF9 : Hid _ := hf9
    clear hn9 hf9
    go_wp2
    go_end0
    have hs9 := HF9.out.size
    have hs9' : wR.heap.size ≤ w9.heap.size := hs9
    have hsR := M4.out.size
    refine ⟨rfl, ⟨Or.inl hF, fun j hj => ?_, _, World.rowIs.of_block M1.out (HF9.out.block k hkR hGk), Or.inr ⟨nb, rfl, ?_, notesAt.grow HN9.out (fun j hj => ?_) (fun j hj => ?_)⟩⟩, ?_⟩
    · rcases hj with h | h
      · have := HLT.out j h; omega
      · exact h.2
    · rintro rfl
      obtain ⟨_, _, r, _⟩ := HN9.out
      have := rowIs_block r
      rw [rowIs_block (World.rowIs.of_block M1.out (HF9.out.block nb hkR hGk))] at this
      injection this with this
      injection this with _ h2
      exact absurd h2 (by decide)
    · rcases hj with h | h
      · rcases M3.out j h with h2 | h2
        · exact ⟨Or.inl h2.1, h2.2⟩
        · exact ⟨Or.inr ⟨by omega, by omega⟩, by omega⟩
      · have h1 : wR.heap.size ≤ j := h.1
        exact ⟨Or.inr ⟨by omega, h.2⟩, by omega⟩
    · rcases hj.1 with h | h
      · have := HLT.out j h; omega
      · exact h.2
    · exact Fr.trans M4.out (G := G) ⟨HF9.out.os, HF9.out.tape, HF9.out.output, hs9, HF9.out.block⟩ (fun j hj g => by
        rcases M3.out j g with h | h
        · exact h.1
        · omega)
theorem note_any (F : Nat → Prop) (k : Nat) (N : List Nt) (c : Int) (q l : List Int) (v : Value) (w : World) (h : bookAt w F k N c) (hq : isSum q) (hv : anyBytes w v l) (hvF : ∀ j, v.ownBlock = some j → ¬ F j) (hN : N.length < 1000000) :
    Calls Tryd.prog 15 #[.pointer (some ⟨k, 0, none⟩), sumV q, v] w fun e w' => e = .returned (.tuple #[]) ∧ bookAt w' (Gr F w w') k (addN N (q, strOf l)) c ∧ Fr F w w' :=
  note_any' F k N c q l v w h hq hv (fun _ => hvF) hN
end Go.Proofs.YtcfbaijibghcaaaDoor
