import Derived.Test.YtcfbaijibghcaaaDoorSealFindB
/- Books: All. -/
namespace Go.Proofs.YtcfbaijibghcaaaDoor
set_option linter.unusedSimpArgs false
set_option linter.unusedVariables false
open Go.RowKit Go.Deep

theorem hiB : (Tryd.prog.info? 36).map (fun i => (i.zero, i.size, i.bytes)) = some (some (.slice none 0 0), 1, 24) := by kernel_rfl
/-- a slice of slices of bytes, all of the call's own. -/
def mineParts (w : World) (B : Nat) (v : Value) (L : List (List Int)) : Prop :=
  ∃ svs : List Value, owns w B 36 v svs ∧ svs.length = L.length ∧ ∀ (i : Nat) (l : List Int), L[i]? = some l → ∃ u, svs[i]? = some u ∧ isBytes w u l ∧ ∀ j, u.ownBlock = some j → B ≤ j ∧ v.ownBlock ≠ some j
theorem mineParts.nil (w : World) (B : Nat) : mineParts w B (.slice none 0 0) [] := ⟨[], owns_nil _ _ _, rfl, fun i l h => by simp at h⟩
theorem mineParts.below {w w' : World} {B C : Nat} {v : Value} {L : List (List Int)} (h : mineParts w B v L) (hb : Below C w w') (hC : w.heap.size ≤ C) : mineParts w' B v L := by
  obtain ⟨svs, h1, h2, h3⟩ := h
  refine ⟨svs, h1.below hb hC, h2, fun i l hl => ?_⟩
  obtain ⟨u, a1, a2, a3⟩ := h3 i l hl
  exact ⟨u, a1, a2.below hb hC, a3⟩
theorem mineParts.parts {w : World} {B : Nat} {v : Value} {L : List (List Int)} (h : mineParts w B v L) : isParts w v L.length (fun i => L.getD i []) := by
  obtain ⟨svs, h1, h2, h3⟩ := h
  by_cases h0 : L.length = 0
  · obtain ⟨_, h | ⟨g, cap, cur, rfl, hB, hb, hc, hm, hs, ht⟩⟩ := h1
    · exact Or.inl ⟨h.1, h0⟩
    · refine Or.inr ⟨g, 0, cap, fun _ => undef, by rw [h2], (Array.getElem?_eq_some_iff.1 hb).1, by rw [h0]; exact Nat.zero_le _, fun i hi => by omega⟩
  · obtain ⟨g, cap, rfl, hB, hg, hcap, hmx, hcell, _⟩ := h1.shape (by omega)
    refine Or.inr ⟨g, 0, cap, fun i => svs.getD i undef, by rw [h2], hg, by omega, fun i hi => ?_⟩
    obtain ⟨u, a1, a2, a3⟩ := h3 i _ (List.getElem?_eq_getElem hi)
    have e1 : svs.getD i undef = u := by rw [List.getD_eq_getElem?_getD, a1]; rfl
    have e2 : L.getD i [] = L[i] := by rw [List.getD_eq_getElem?_getD, List.getElem?_eq_getElem hi]; rfl
    show w.cell? ⟨g, 0 + i, none⟩ = some (svs.getD i undef) ∧ anyBytes w (svs.getD i undef) (L.getD i [])
    rw [e1, e2, Nat.zero_add]
    exact ⟨hcell i u a1, Or.inl a2⟩
/-- append(v, u), u bytes. -/
theorem part_append_run (w : World) (B : Nat) (v u : Value) (L : List (List Int)) (l : List Int) (hv : mineParts w B v L) (hu : isBytes w u l) (hub : ∀ j, u.ownBlock = some j → B ≤ j ∧ v.ownBlock ≠ some j) (hs : L.length < 1000000) (hB : B ≤ w.heap.size) :
    ∃ v' w', (Builtin.append_ #[35, 35] 35 #[v, .slice (some ⟨w.heap.size, 0, none⟩) 1 1]).run Tryd.prog (w.alloc (.cells #[u] 36)) = .ok v' w' ∧ mineParts w' B v' (L ++ [l]) ∧ Below B w w' := by
  obtain ⟨svs, h1, h2, h3⟩ := hv
  have hbl := fun k hk => h1.block k hk
  have h1' := h1.alloc (.cells #[u] 36)
  have hoc : u.oneCell' = true := by
    rcases hu with ⟨rfl, _⟩ | ⟨pb, po, cap, rfl, _⟩ <;> rfl
  obtain ⟨g, cap, w', hr, ho, hg, hat, hlt⟩ := run_append (P := Tryd.prog) (w.alloc (.cells #[u] 36)) 35 35 B 36 (.slice none 0 0) 24 Tryd.underlying35 hiB rfl v svs h1' w.heap.size 0 1 1 [u] rfl
    (fun j x hx => by
      match j with
      | 0 =>
        have : u = x := by simpa using hx
        subst this; exact one_cell w _ _
      | j + 1 => simp at hx)
    (fun x hx => by
      have : x = u := by simpa using hx
      subst this; exact hoc) (by omega) (by unfold maxLen; omega) (by omega) (by simp; omega)
  have hkeep : ∀ j, j < w.heap.size → v.ownBlock ≠ some j → w'.heap[j]? = w.heap[j]? := fun j hj hne =>
    (hg.block j (by simp; omega) (fun e => hne e.symm)).trans (blk_alloc_lt _ _ _ hj)
  have hsz : w.heap.size ≤ w'.heap.size := by have := hg.size; simp at this; omega
  have hown : ∀ j, j < w.heap.size → v.ownBlock ≠ some j → (Value.slice (some ⟨g, 0, none⟩) (svs.length + 1) cap).ownBlock ≠ some j := fun j hj hne e => by
    have : g = j := by simpa [Value.ownBlock] using e
    subst this
    rcases hat with h | h
    · exact hne h
    · simp at h; omega
  refine ⟨_, w', hr, ⟨svs ++ [u], ho, by simp [h2], fun i q hq => ?_⟩, ⟨hg.os, hg.tape, hg.output, hsz, fun k hk => ?_⟩⟩
  · by_cases hi : i < L.length
    · rw [List.getElem?_append_left hi] at hq
      obtain ⟨x, a1, a2, a3⟩ := h3 i q hq
      refine ⟨x, by rw [List.getElem?_append_left (by omega)]; exact a1, a2.far (fun j hj => hkeep j (a2.block j hj) (a3 j hj).2) hsz, fun j hj => ⟨(a3 j hj).1, hown j (a2.block j hj) (a3 j hj).2⟩⟩
    · have hi2 : i = L.length := by
        have := (List.getElem?_eq_some_iff.1 hq).1
        simp at this; omega
      subst hi2
      have : l = q := by simpa using hq
      subst this
      refine ⟨u, by rw [List.getElem?_append_right (by omega), h2]; simp, hu.far (fun j hj => hkeep j (hu.block j hj) (hub j hj).2) hsz, fun j hj => ⟨(hub j hj).1, hown j (hu.block j hj) (hub j hj).2⟩⟩
  · exact hkeep k (by omega) (fun e => by have := (hbl k e).1; omega)
def textL (N : List Nt) : List (List Int) := N.map fun x => sBytes x.2
set_option maxHeartbeats 1000000 in
theorem all_nil (w : World) : Calls Tryd.prog 20 #[.pointer none] w fun e w' => e = .returned (.slice none 0 0) ∧ w' = w := by
  go_enter Tryd.func20, Tryd.ntmps20
  go_wp2_with fail
  refine (empty_none w).mono ?_
  rintro e w' ⟨rfl, rfl⟩
  go_wp2
  go_ret
  exact ⟨rfl, rfl⟩
set_option maxHeartbeats 1000000 in
set_option maxRecDepth 100000 in
theorem all_any (F : Nat → Prop) (k : Nat) (N : List Nt) (c : Int) (w : World) (h : bookAt w F k N c) (hN : N.length < 1000000) (hts : ∀ x ∈ N, x.2.size ≤ 1000000000) :
    Calls Tryd.prog 20 #[.pointer (some ⟨k, 0, none⟩)] w fun e w' => ∃ v', e = .returned v' ∧ mineParts w' w.heap.size v' (textL N) ∧ Below w.heap.size w w' := by
  obtain ⟨hF, hlt, pv, hpv, hcase⟩ := h
  have hk := hlt k hF
  rcases hcase with ⟨rfl, rfl, rfl⟩ | ⟨nb, rfl, hnk, hnn⟩
  · go_enter Tryd.func20, Tryd.ntmps20
    go_wp2_with fail
    refine (empty_zero k _ hpv).mono ?_
    rintro e w' ⟨rfl, rfl⟩
    go_wp2
    go_ret
    exact ⟨_, rfl, mineParts.nil _ _, Below.refl _ _⟩
  · obtain ⟨lv, mv, h1, h2, h3, h4, h5, h6⟩ := hnn
    have hnb := h6 nb h2
    obtain ⟨la, lc, rfl, hlc, hlm, hcell⟩ := h3.shape
    have c0 : w.cell? ⟨k, 0, none⟩ = some (.pointer (some ⟨nb, 0, none⟩)) := hpv.cell (i := 0) (by omega)
    have c1 : w.cell? ⟨nb, 0, none⟩ = some (.slice la N.length lc) := h1.cell (i := 0) (by omega)
    have hmk := run_make_room (P := Tryd.prog) 35 36 (.slice none 0 0) 24 Tryd.underlying35 hiB rfl .i64 .i64 N.length (by omega) (by omega) w
    obtain ⟨w1, hw1⟩ : ∃ w1, w1 = w.alloc (.cells (madeCells #[Value.slice none 0 0] N.length) 36) := ⟨_, rfl⟩
    rw [← hw1] at hmk
    have b1 : Below w.heap.size w w1 := by rw [hw1]; exact (Below.refl _ _).alloc (Nat.le_refl _) _
    have d0 : w1.cell? ⟨k, 0, none⟩ = some (.pointer (some ⟨nb, 0, none⟩)) := (b1.cell (p := ⟨k, 0, none⟩) hk).trans c0
    have d1 : w1.cell? ⟨nb, 0, none⟩ = some (.slice la N.length lc) := (b1.cell (p := ⟨nb, 0, none⟩) hnb).trans c1
    have hO : mineParts w1 w.heap.size (.slice (some ⟨w.heap.size, 0, none⟩) 0 N.length) [] := by
      rw [hw1]
      exact ⟨[], ⟨rfl, Or.inr ⟨w.heap.size, N.length, _, rfl, Nat.le_refl _, blk_alloc_new _ _, Nat.zero_le _, by unfold maxLen; omega, by rw [size_madeCells]; simp, by simp⟩⟩, rfl, fun i l h => by simp at h⟩
    have HO : Hid _ := hO
    have B1 : Hid _ := b1
    have q0 : (N.length : Int) ≤ 1000000 := by omega
    have hz := zero_note
    clear hw1 hO b1 h1 h3 h4
    go_enter Tryd.func20, Tryd.ntmps20
    go_wp2_with fail
    refine (empty_some k nb w hpv).mono ?_
    rintro e w' ⟨rfl, hw⟩
    obtain rfl := hw.symm
    clear hw
    go_wp2_with (first | (refine wpList_make_run rfl _ _ _ rfl rfl rfl hmk ?_))
    go_loopw [3, 25] (fun v i wr => ∃ j : Nat, j ≤ N.length ∧ i = .int .i64 j ∧ mineParts wr w.heap.size v (textL (N.take j)) ∧ Below w.heap.size w wr) (fun _ i _ => N.length - (intOf i).toNat)
    case atStart => exact ⟨0, by omega, rfl, by rw [List.take_zero]; exact HO.out, B1.out⟩
    case round =>
      obtain ⟨j, hj, rfl, hm, hb⟩ := hrel
      clear hmk HO B1 c0 c1 d0 d1
      by_cases hlt2 : j < N.length
      · obtain ⟨g, rfl, hFg, hgw, hcl⟩ := hcell j _ (List.getElem?_eq_getElem hlt2)
        have p0 : (0 : Int) ≤ (j : Int) := by omega
        have p1 : (j : Int) < (N.length : Int) := by omega
        have ldc : ∀ i, i < 33 → wr.cell? ⟨g, j * 33 + i, none⟩ = some (noteV N[j] i) := fun i hi => by
          rw [hb.cell (p := ⟨g, j * 33 + i, none⟩) hgw]; exact hcl i hi
        have ra := rowIs_box wr 62 33 (noteV zeroN)
        have hbs := hb.size
        have HM : Hid _ := hm
        have HB : Hid _ := hb
        clear hm hb hcl
        go_upto_region 7 with (first | (refine wpList_load_seg rfl 62 _ rfl g (j * 33) 33 (noteV N[j]) rfl _ Tryd.underlying62 rfl note33 ldc ?_) | (refine wpList_store_row rfl 62 (.tmp 5) (.tmp 28) rfl rfl wr.heap.size 0 33 (noteV N[j]) rfl rfl note33 (fun i _ => noteV_one _ i) _ _ _ ra (by omega) ?_; intro w5 r5 hz5 hb5))
        have hs5 : w5.heap.size = wr.heap.size + 1 := by rw [hz5]; simp
        have hb5' : Below wr.heap.size wr w5 := ((Below.refl wr.heap.size wr).alloc (Nat.le_refl _) _).trans ((hb5.mono (by simp)).below (Nat.le_refl _))
        have c32 : w5.cell? ⟨wr.heap.size, 32, none⟩ = some (.string N[j].2) := by
          have := r5.cell (i := 32) (by omega)
          rw [if_pos (by omega), Nat.sub_zero, noteV, if_neg (by omega)] at this; exact this
        have hsz : N[j].2.size ≤ 1000000000 := hts _ (List.getElem_mem _)
        obtain ⟨v9, w9, hr9, hi9, ho9, hb9, hs9⟩ := str_bytes w5 N[j].2 (by omega)
        have hb39 : Below wr.heap.size wr w9 := hb5'.trans (hb9.mono (by omega))
        have hm9 : mineParts w9 w.heap.size u3 (textL (N.take j)) := mineParts.below HM.out hb39 (Nat.le_refl _)
        have hu3 : ∀ q, u3.ownBlock = some q → q < wr.heap.size := fun q hq => by
          obtain ⟨svs, h1, _⟩ := HM.out
          exact (h1.block q hq).2
        obtain ⟨v8, w8, hr8, hm8, hb8⟩ := part_append_run w9 w.heap.size u3 v9 (textL (N.take j)) (sBytes N[j].2) hm9 hi9 (fun q hq => by
          have := ho9 q hq
          exact ⟨by omega, fun e => by have := hu3 q e; omega⟩) (by simp [textL]; omega) (by omega)
        have HM8 : Hid _ := hm8
        have HB8 : Hid _ := HB.out.trans ((hb39.mono (by omega)).trans hb8)
        have htk : textL (N.take (j + 1)) = textL (N.take j) ++ [sBytes N[j].2] := by
          unfold textL
          rw [List.take_succ_eq_append_getElem hlt2, List.map_append]; rfl
        have HT : Hid _ := htk
        obtain ⟨va, vc, rfl, _⟩ := hi9.slice
        clear r5 hz5 hb5 hb5' hb39 hm9 hm8 hb8 htk hi9 ho9 hb9 HM HB ra ldc hu3 hs5 hs9
        go_wp2_with (first | (refine wpList_convert_run rfl _ _ _ rfl rfl hr9 ?_) | (at_builtin; refine wpList_append_run rfl (.tmp 29) (.tmp 33) _ rfl rfl rfl hr8 ?_))
        go_light
        exact ⟨⟨j + 1, by omega, by go_num, by rw [HT.out]; exact HM8.out, HB8.out⟩, by simp [intOf]; omega⟩
      · obtain rfl : j = N.length := by omega
        have HM : Hid _ := hm
        go_wp2
        go_ret
        exact ⟨_, rfl, by rw [List.take_length] at HM; exact HM.out, hb⟩
end Go.Proofs.YtcfbaijibghcaaaDoor
