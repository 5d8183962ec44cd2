import Derived.Test.YtcfbaijibghcaaaDoorSealOf
import Derived.Lib.ConvBytes
/- Books: Find. -/
namespace Go.Proofs.YtcfbaijibghcaaaDoor
set_option linter.unusedSimpArgs false
set_option linter.unusedVariables false
open Go.RowKit Go.Deep

/-- []byte(s). -/
theorem str_bytes (w : World) (s : ByteArray) (hs : s.size ≤ 1000000000000) :
    ∃ v' w', (convert 9 36 (.string s)).run Tryd.prog w = .ok v' w' ∧ isBytes w' v' (sBytes s) ∧ (∀ k, v'.ownBlock = some k → k = w.heap.size) ∧ Below w.heap.size w w' ∧ w'.heap.size = w.heap.size + 1 := by
  have hge := grownCap_ge w s.size 0 5
  have hcm : grownCap w s.size 0 5 ≤ maxLen := grownCap_le_maxLen w s.size 0 5 (by unfold maxLen; omega)
  refine ⟨_, _, Go.Lib.run_convert_string_bytes w 9 36 5 s Tryd.underlying9 Tryd.underlying36 Tryd.underlying5, Or.inr ⟨w.heap.size, 0, _, by rw [sBytes_length], by rw [sBytes_length]; exact hge, hcm, by rw [Go.Lib.bytesWorld_size]; omega, fun i hi => ?_, sBytes_byte s⟩, fun k hk => by simpa [Value.ownBlock] using hk.symm, ⟨rfl, rfl, rfl, by rw [Go.Lib.bytesWorld_size]; omega, fun k hk => Go.Lib.bytesWorld_at_old w _ s k hk⟩, Go.Lib.bytesWorld_size _ _ _⟩
  rw [sBytes_length] at hi
  rw [Nat.zero_add, Go.Lib.bytesWorld_cell w _ s i hi]
  congr 2
  have hi' : i < s.data.toList.length := by rw [Array.length_toList]; exact hi
  rw [sBytes, List.getD_eq_getElem?_getD, List.getD_eq_getElem?_getD, List.getElem?_map, List.getElem?_eq_getElem hi']
  rfl
theorem note33 : (Tryd.prog.info? 62).map (·.size) = some 33 := by kernel_rfl
/-- a note stored into a note. -/
theorem stow_run (w : World) (b : Nat) (x : Nt) {t : Nat} {f : Nat → Value} (hr : w.rowIs b t 33 f) : (storeVar 62 ⟨b, 0, none⟩ (.agg (rowV 33 (noteV x)))).run Tryd.prog w = .ok () (w.setCells b 0 (rowV 33 (noteV x)).toList) :=
  run_storeVar_mid (P := Tryd.prog) w b 0 62 (rowV 33 (noteV x)) (by rw [rowV_size]; exact there_of_row hr (by omega)) (by rw [note33, rowV_size]) (by
    rw [Array.all_eq_true_iff_forall_mem]
    intro v hv
    obtain ⟨i, hi', rfl⟩ := Array.mem_iff_getElem.1 hv
    have hlt : i < 33 := by rw [rowV_size] at hi'; exact hi'
    have := rowV_get 33 (noteV x) i hlt
    rw [Array.getElem?_eq_getElem hi'] at this
    rw [Option.some.inj this]; exact noteV_one x i)
theorem stow_row (w : World) (b : Nat) (x : Nt) {t : Nat} {f : Nat → Value} (hr : w.rowIs b t 33 f) : (w.setCells b 0 (rowV 33 (noteV x)).toList).rowIs b t 33 (noteV x) ∧ (w.setCells b 0 (rowV 33 (noteV x)).toList).heap.size = w.heap.size ∧ But w.heap.size b w (w.setCells b 0 (rowV 33 (noteV x)).toList) :=
  ⟨(rowIs_splice hr).congr fun i hi => by rw [if_pos (by omega), Nat.sub_zero], size_setCells _ _ _ _, but_setCells _ _ (But.refl _ _ _)⟩
/-- the bytes that were noted first. -/
def foundB (N : List Nt) (q : List Int) : List Int := match firstAt N q with
  | some i => sBytes (N.getD i zeroN).2
  | none => []
theorem foundN_sum {N : List Nt} (h : ∀ x ∈ N, isSum x.1) (q : List Int) : isSum (foundN N q).1 := by
  unfold foundN
  cases hf : firstAt N q with
  | none => exact zeroN_sum
  | some i =>
    have := firstAt_lt hf
    refine h _ ?_
    simp only
    rw [List.getD_eq_getElem?_getD, List.getElem?_eq_getElem this]; exact List.getElem_mem _
set_option maxHeartbeats 1000000 in
set_option maxRecDepth 100000 in
theorem findB_nil (q : List Int) (w : World) : Calls Tryd.prog 12 #[.pointer none, sumV q] w fun e w' => e = .returned (.tuple #[.slice none 0 0, .bool false]) ∧ Below w.heap.size w w' := by
  have hb0 : Below w.heap.size w (w.alloc (.cells (rowV 32 (arrV q)) 23)) := (Below.refl _ _).alloc (Nat.le_refl _) _
  unfold sumV
  go_enter Tryd.func12, Tryd.ntmps12
  go_wp2_with fail
  refine (empty_none _).mono ?_
  rintro e w' ⟨rfl, rfl⟩
  go_wp2
  exact bodyPost_ret (results_tmp2 rfl _ _ _) rfl ⟨rfl, hb0⟩
set_option maxHeartbeats 1000000 in
set_option maxRecDepth 100000 in
theorem findB_any (F : Nat → Prop) (k : Nat) (N : List Nt) (c : Int) (q : List Int) (w : World) (h : bookAt w F k N c) (hq : isSum q) (hts : ∀ x ∈ N, x.2.size ≤ 1000000000) :
    Calls Tryd.prog 12 #[.pointer (some ⟨k, 0, none⟩), sumV q] w fun e w' => ∃ v', e = .returned (.tuple #[v', .bool (firstAt N q).isSome]) ∧ isBytes w' v' (foundB N q) ∧ (∀ j, v'.ownBlock = some j → w.heap.size ≤ j) ∧ Below w.heap.size w w' := by
  obtain ⟨hF, hlt, pv, hpv, hcase⟩ := h
  have hk := hlt k hF
  have hb0 : Below w.heap.size w (w.alloc (.cells (rowV 32 (arrV q)) 23)) := (Below.refl _ _).alloc (Nat.le_refl _) _
  have r1 : (w.alloc (.cells (rowV 32 (arrV q)) 23)).rowIs k 29 1 (fun _ => pv) := hb0.row hpv hk
  have rq : (w.alloc (.cells (rowV 32 (arrV q)) 23)).rowIs w.heap.size 23 32 (arrV q) := rowIs_box w _ _ _
  have s0 : (w.alloc (.cells (rowV 32 (arrV q)) 23)).heap.size = w.heap.size + 1 := by simp
  unfold sumV
  rcases hcase with ⟨rfl, rfl, rfl⟩ | ⟨nb, rfl, hnk, hnn⟩
  · go_enter Tryd.func12, Tryd.ntmps12
    go_wp2_with fail
    refine (empty_zero k _ r1).mono ?_
    rintro e w' ⟨rfl, rfl⟩
    go_wp2
    exact bodyPost_ret (results_tmp2 rfl _ _ _) rfl ⟨_, rfl, Or.inl ⟨rfl, rfl⟩, fun j hj => absurd hj (by simp [Value.ownBlock]), hb0⟩
  · have hsz : (foundN N q).2.size ≤ 1000000000 := by
      unfold foundN
      cases hf : firstAt N q with
      | none => simp [zeroN]
      | some i =>
        have := firstAt_lt hf
        refine hts _ ?_
        simp only
        rw [List.getD_eq_getElem?_getD, List.getElem?_eq_getElem this]; exact List.getElem_mem _
    have hN1 := hnn.below hb0 (Nat.le_refl _)
    have hz := zero_note
    generalize hfx : foundN N q = fx at *
    go_enter Tryd.func12, Tryd.ntmps12
    go_wp2_with fail
    refine (empty_some k nb _ r1).mono ?_
    rintro e w' ⟨rfl, hw'⟩
    obtain rfl := hw'.symm
    clear hw'
    generalize hW1 : w.alloc (.cells (rowV 32 (arrV q)) 23) = w1 at *
    clear hW1
    have k0 : ∀ wz, Below w1.heap.size w1 wz → wz.cell? ⟨k, 0, none⟩ = some (.pointer (some ⟨nb, 0, none⟩)) := fun wz hz => (hz.cell (p := ⟨k, 0, none⟩) (show k < w1.heap.size by omega)).trans (r1.cell (i := 0) (by omega))
    have k1 : ∀ wz, Below w1.heap.size w1 wz → ∀ i, i < 32 → wz.cell? ⟨w.heap.size, 0 + i, none⟩ = some (arrV q i) := fun wz hz i hi => by rw [Nat.zero_add]; exact (hz.cell (p := ⟨w.heap.size, i, none⟩) (show w.heap.size < w1.heap.size by omega)).trans (rq.cell hi)
    have fa : ∀ wz, Below w1.heap.size w1 wz → Calls Tryd.prog 29 #[.pointer (some ⟨nb, 0, none⟩), .agg (rowV 32 (arrV q))] wz fun e w' => e = .returned (.tuple #[.agg (rowV 33 (noteV fx)), .bool (firstAt N q).isSome]) ∧ Below wz.heap.size wz w' := fun wz hz => by
      have := find_any _ nb N c q wz (hN1.below hz (Nat.le_refl _)) hq
      rw [hfx] at this
      unfold noteA sumV at this
      exact this
    have K0 : Hid _ := k0
    have K1 : Hid _ := k1
    have FA : Hid _ := fa
    clear k0 k1 fa r1 rq hnn hN1
    go_upto_region 3 with fail
    go_cut [6, 7] (fun p t wx => ∃ g, p = .pointer (some ⟨g, 0, none⟩) ∧ wx.rowIs g 62 33 (noteV fx) ∧ t = .bool (firstAt N q).isSome ∧ Below w1.heap.size w1 wx)
    case first =>
      refine wp_region_noPanic ?_
      refine wp_region_held_drew (S := fun w' => Below w1.heap.size w1 w') (by kernel_rfl) ((Below.refl _ _).drew) (fun hHeld => ?_)
      refine take_op (i := 0) (v := ?vf0) rfl (by kernel_rfl) (by kernel_rfl) (by kernel_rfl) (fun _ _ _ h => h) rfl hHeld ?yf0 ?rf0
      case yf0 => (intro wz hz; go_simp; first | done | with_reducible rfl)
      try simp only [Act.put, List.setIfInBounds_toArray, List.set_cons_zero, List.set_cons_succ]
      refine take_op (i := 1) (v := ?vf1) rfl (by kernel_rfl) (by kernel_rfl) (by kernel_rfl) (fun _ _ _ h => h) rfl hHeld ?yf1 ?rf1
      case yf1 => (intro wz hz; go_simp; first | done | with_reducible rfl)
      try simp only [Act.put, List.setIfInBounds_toArray, List.set_cons_zero, List.set_cons_succ]
      refine take_op (i := 2) (v := ?vf2) rfl (by kernel_rfl) (by kernel_rfl) (by kernel_rfl) (fun _ _ _ h => h) rfl hHeld ?yf2 ?rf2
      case yf2 => (intro wz hz; go_simp; first | done | with_reducible rfl)
      try simp only [Act.put, List.setIfInBounds_toArray, List.set_cons_zero, List.set_cons_succ]
      refine take_op (i := 3) (v := ?vf3) rfl (by kernel_rfl) (by kernel_rfl) (by kernel_rfl) (fun _ _ _ h => h) rfl hHeld ?yf3 ?rf3
      case yf3 => (intro wz hz; have hcz := K0.out wz hz; go_simp; first | done | with_reducible rfl)
      try simp only [Act.put, List.setIfInBounds_toArray, List.set_cons_zero, List.set_cons_succ]
      refine take_load (i := 4) rfl (by kernel_rfl) (by kernel_rfl) (by kernel_rfl) 23 _ rfl w.heap.size 0 32 (arrV q) rfl _ Tryd.underlying23 rfl (by kernel_rfl) (fun _ _ _ h => h) rfl hHeld (fun wz hz => K1.out wz hz) ?_
      try simp only [Act.put, List.setIfInBounds_toArray, List.set_cons_zero, List.set_cons_succ]
      refine take_pair (i := 5) (j := 9) rfl rfl (by kernel_rfl) rfl rfl (fun K hK => ?_) (fun K hK => ?_)
      · go_simp
        refine Calls.mono (FA.out _ hHeld) ?_
        rintro e w8 ⟨rfl, hbw8⟩
        refine hK.out _ _ (hHeld.trans (hbw8.mono hHeld.size)) (fun hHeld => ?_)
        clear hK K
        try simp only [Act.put, List.setIfInBounds_toArray, List.set_cons_zero, List.set_cons_succ]
        refine take_op (i := 6) (v := ?vfa6) rfl (by kernel_rfl) (by kernel_rfl) (by kernel_rfl) (fun _ _ _ h => h) rfl hHeld ?yfa6 ?rfa6
        case yfa6 => (intro wz hz; go_simp; first | done | with_reducible rfl)
        try simp only [Act.put, List.setIfInBounds_toArray, List.set_cons_zero, List.set_cons_succ]
        refine take_op (i := 7) (v := ?vfa7) rfl (by kernel_rfl) (by kernel_rfl) (by kernel_rfl) (fun _ _ _ h => h) rfl hHeld ?yfa7 ?rfa7
        case yfa7 => (intro wz hz; go_simp; first | done | with_reducible rfl)
        try simp only [Act.put, List.setIfInBounds_toArray, List.set_cons_zero, List.set_cons_succ]
        refine take_op (i := 8) (v := ?vfa8) rfl (by kernel_rfl) (by kernel_rfl) (by kernel_rfl) (fun _ _ _ h => h) rfl hHeld ?yfa8 ?rfa8
        case yfa8 => (intro wz hz; go_simp; first | done | with_reducible rfl)
        try simp only [Act.put, List.setIfInBounds_toArray, List.set_cons_zero, List.set_cons_succ]
        refine take_one (i := 9) rfl (by kernel_rfl) rfl (fun K hK => ?_)
        go_simp
        refine hK.out _ _ (hHeld.alloc hHeld.size _) (fun hHeld => ?_)
        clear hK K
        try simp only [Act.put, List.setIfInBounds_toArray, List.set_cons_zero, List.set_cons_succ]
        have ra : (w8.alloc (.cells (rowV 33 (noteV zeroN)) 62)).rowIs w8.heap.size 62 33 (noteV zeroN) := rowIs_box w8 _ _ _
        have hs8 := hbw8.size
        refine take_one (i := 10) rfl (by kernel_rfl) rfl (fun K hK => ?_)
        have hst := stow_run (w8.alloc (.cells (rowV 33 (noteV zeroN)) 62)) w8.heap.size fx ra
        have h9 := stow_row (w8.alloc (.cells (rowV 33 (noteV zeroN)) 62)) w8.heap.size fx ra
        have r9 := h9.1
        have hz9 := h9.2.1
        have hb9 := h9.2.2
        clear h9
        unfold Oper.wp execOp
        simp only [Instr.storeAt, Instr.sureAddr, Sem.run_bind, Sem.run_pure, Result.andThen_ok]
        simp [Act.eval, hst, Oper.upon]
        clear hst
        generalize (w8.alloc (.cells (rowV 33 (noteV zeroN)) 62)).setCells w8.heap.size 0 (rowV 33 (noteV fx)).toList = w9 at r9 hz9 hb9 ⊢
        have hbz : Below w1.heap.size (w8.alloc (.cells (rowV 33 (noteV zeroN)) 62)) w9 := (But.mono hb9 (show w1.heap.size ≤ (w8.alloc (.cells (rowV 33 (noteV zeroN)) 62)).heap.size by have := hbw8.size; have h2 : w1.heap.size ≤ w8.heap.size := this; simp; omega)).below (show w1.heap.size ≤ w8.heap.size by have := hbw8.size; have h2 : w1.heap.size ≤ w8.heap.size := this; omega)
        have hHeld9 : Below w1.heap.size w1 w9 := Below.trans hHeld hbz
        clear hbz hb9 hz9
        refine hK.out _ _ hHeld9 (fun hHeld => ?_)
        clear hHeld9
        clear hK K
        try simp only [Act.put, List.setIfInBounds_toArray, List.set_cons_zero, List.set_cons_succ]
        refine take_op (i := 11) (v := ?vfa11) rfl (by kernel_rfl) (by kernel_rfl) (by kernel_rfl) (fun _ _ _ h => h) rfl hHeld ?yfa11 ?rfa11
        case yfa11 => (intro wz hz; go_simp; first | done | with_reducible rfl)
        try simp only [Act.put, List.setIfInBounds_toArray, List.set_cons_zero, List.set_cons_succ]
        refine wpAnyH_done (by kernel_rfl) ?_ _
        refine NoPanic.normal ?_
        have HB9 : Hid _ := hHeld
        have R9 : Hid _ := r9
        clear hHeld
        go_wp2_with fail
        go_meet
        case rel => exact ⟨_, rfl, R9.out, rfl, HB9.out⟩
      · go_simp
        refine hK.out _ _ (hHeld.alloc hHeld.size _) (fun hHeld => ?_)
        clear hK K
        try simp only [Act.put, List.setIfInBounds_toArray, List.set_cons_zero, List.set_cons_succ]
        have ra : (w1.drew.alloc (.cells (rowV 33 (noteV zeroN)) 62)).rowIs w1.heap.size 62 33 (noteV zeroN) := rowIs_box w1.drew _ _ _
        refine take_one (i := 5) rfl (by kernel_rfl) rfl (fun K hK => ?_)
        go_simp
        refine Calls.mono (FA.out _ hHeld) ?_
        rintro e w8 ⟨rfl, hbw8⟩
        refine hK.out _ _ (hHeld.trans (hbw8.mono hHeld.size)) (fun hHeld => ?_)
        clear hK K
        try simp only [Act.put, List.setIfInBounds_toArray, List.set_cons_zero, List.set_cons_succ]
        have hs8' : w1.heap.size + 1 ≤ w8.heap.size := by have := hbw8.size; simpa using this
        have rb : w8.rowIs (w.heap.size + 1) 62 33 (noteV zeroN) := by rw [← s0]; exact hbw8.row ra (by simp)
        refine take_op (i := 6) (v := ?vfb6) rfl (by kernel_rfl) (by kernel_rfl) (by kernel_rfl) (fun _ _ _ h => h) rfl hHeld ?yfb6 ?rfb6
        case yfb6 => (intro wz hz; go_simp; first | done | with_reducible rfl)
        try simp only [Act.put, List.setIfInBounds_toArray, List.set_cons_zero, List.set_cons_succ]
        refine take_op (i := 7) (v := ?vfb7) rfl (by kernel_rfl) (by kernel_rfl) (by kernel_rfl) (fun _ _ _ h => h) rfl hHeld ?yfb7 ?rfb7
        case yfb7 => (intro wz hz; go_simp; first | done | with_reducible rfl)
        try simp only [Act.put, List.setIfInBounds_toArray, List.set_cons_zero, List.set_cons_succ]
        refine take_op (i := 8) (v := ?vfb8) rfl (by kernel_rfl) (by kernel_rfl) (by kernel_rfl) (fun _ _ _ h => h) rfl hHeld ?yfb8 ?rfb8
        case yfb8 => (intro wz hz; go_simp; first | done | with_reducible rfl)
        try simp only [Act.put, List.setIfInBounds_toArray, List.set_cons_zero, List.set_cons_succ]
        refine take_one (i := 10) rfl (by kernel_rfl) rfl (fun K hK => ?_)
        have hst := stow_run (w8) (w.heap.size + 1) fx rb
        have h9 := stow_row (w8) (w.heap.size + 1) fx rb
        have r9 := h9.1
        have hz9 := h9.2.1
        have hb9 := h9.2.2
        clear h9
        unfold Oper.wp execOp
        simp only [Instr.storeAt, Instr.sureAddr, Sem.run_bind, Sem.run_pure, Result.andThen_ok]
        simp [Act.eval, hst, Oper.upon]
        clear hst
        generalize (w8).setCells (w.heap.size + 1) 0 (rowV 33 (noteV fx)).toList = w9 at r9 hz9 hb9 ⊢
        have hbz : Below w1.heap.size (w8) w9 := (But.mono hb9 (show w1.heap.size ≤ (w8).heap.size by omega)).below (show w1.heap.size ≤ (w.heap.size + 1) by omega)
        have hHeld9 : Below w1.heap.size w1 w9 := Below.trans hHeld hbz
        clear hbz hb9 hz9
        refine hK.out _ _ hHeld9 (fun hHeld => ?_)
        clear hHeld9
        clear hK K
        try simp only [Act.put, List.setIfInBounds_toArray, List.set_cons_zero, List.set_cons_succ]
        refine take_op (i := 11) (v := ?vfb11) rfl (by kernel_rfl) (by kernel_rfl) (by kernel_rfl) (fun _ _ _ h => h) rfl hHeld ?yfb11 ?rfb11
        case yfb11 => (intro wz hz; go_simp; first | done | with_reducible rfl)
        try simp only [Act.put, List.setIfInBounds_toArray, List.set_cons_zero, List.set_cons_succ]
        refine wpAnyH_done (by kernel_rfl) ?_ _
        refine NoPanic.normal ?_
        have HB9 : Hid _ := hHeld
        have R9 : Hid _ := r9
        clear hHeld
        go_wp2_with fail
        go_meet
        case rel => exact ⟨_, rfl, R9.out, rfl, HB9.out⟩
    case rest =>
      obtain ⟨g, rfl, rg, rfl, hbc⟩ := hcut
      have c32 : wc.cell? ⟨g, 32, none⟩ = some (.string fx.2) := by
        have := rg.cell (i := 32) (by omega)
        rw [noteV, if_neg (by omega)] at this; exact this
      have hsc := hbc.size
      obtain ⟨v9, w9, hr9, hi9, ho9, hb9, hs9⟩ := str_bytes wc fx.2 (by omega)
      have HB : Hid _ := hb0.trans (hbc.mono (by omega))
      have H9 : Hid _ := hi9
      have B9 : Hid _ := hb9
      have O9 : Hid _ := ho9
      obtain ⟨va, vc, rfl, _⟩ := hi9.slice
      clear rg hbc hi9 hb9 K0 K1 FA ho9
      cases hf : firstAt N q with
      | none =>
        simp only [Option.isSome_none]
        go_wp2
        exact bodyPost_ret (results_tmp2 rfl _ _ _) rfl ⟨_, by rw [hf]; rfl, Or.inl ⟨rfl, by unfold foundB; rw [hf]⟩, fun j hj => absurd hj (by simp [Value.ownBlock]), HB.out⟩
      | some i =>
        have hfb : foundB N q = sBytes fx.2 := by unfold foundB; rw [hf, ← hfx]; unfold foundN; rw [hf]
        simp only [Option.isSome_some]
        go_wp2
        exact bodyPost_ret (results_tmp2 rfl _ _ _) rfl ⟨_, by rw [hf]; rfl, by rw [hfb]; exact H9.out, fun j hj => by
          have := O9.out j hj; omega, HB.out.trans (B9.out.mono (by omega))⟩
end Go.Proofs.YtcfbaijibghcaaaDoor
