import Derived.Test.YtcfbaijibghcaaaDoorSealBook
/- Books: Of. -/
namespace Go.Proofs.YtcfbaijibghcaaaDoor
set_option linter.unusedSimpArgs false
set_option linter.unusedVariables false
open Go.RowKit Go.Deep

theorem sumI_byte' {l : List Int} (i : Nat) : 0 ≤ sumI l i ∧ sumI l i ≤ 255 := by unfold sumI sumByte; omega
/-- a sum's bytes. -/
def sumL (l : List Int) : List Int := (List.range 32).map (sumI l)
theorem sumL_getD (l : List Int) (i : Nat) (h : i < 32) : (sumL l).getD i 0 = sumI l i := by
  rw [sumL, List.getD_eq_getElem?_getD, List.getElem?_map, List.getElem?_range h]; rfl
theorem sumL_is (l : List Int) : isSum (sumL l) := ⟨by simp [sumL], fun i => by
  by_cases h : i < 32
  · rw [sumL_getD l i h]; exact sumI_byte' i
  · rw [List.getD_eq_getElem?_getD, List.getElem?_eq_none (by simp [sumL]; omega)]; exact ⟨by simp, by simp⟩⟩
theorem sumL_row (l : List Int) : rowV 32 (fun i => .int .u8 (sumI l i)) = rowV 32 (arrV (sumL l)) := rowV_congr fun i hi => by rw [arrV, sumL_getD l i hi]
theorem addN_ne (N : List Nt) (x : Nt) : addN N x ≠ [] := by
  by_cases h : x ∈ N
  · rw [addN_in h]; intro e; rw [e] at h; simp at h
  · rw [addN_out h]; simp
theorem addN_len (N : List Nt) (x : Nt) : (addN N x).length ≤ N.length + 1 := by
  by_cases h : x ∈ N
  · rw [addN_in h]; omega
  · rw [addN_out h]; simp
/-- sha.Sum(b). -/
theorem sum_one (l : List Int) (v : Value) (B : Nat) (w : World) (h : newBytes w B v l) (hl : l.length < 1000000000) (ht : tabIs w) :
    Calls Tryd.prog 31 #[.slice (some ⟨w.heap.size, 0, none⟩) 1 1] (w.alloc (.cells #[v] 36)) fun e w' => e = .returned (.agg (rowV 32 (arrV (sumL l)))) ∧ Below w.heap.size w w' := by
  have hb0 : Below w.heap.size w (w.alloc (.cells #[v] 36)) := (Below.refl _ _).alloc (Nat.le_refl _) _
  have hp : isParts (w.alloc (.cells #[v] 36)) (.slice (some ⟨w.heap.size, 0, none⟩) 1 1) 1 (fun _ => l) := Or.inr ⟨w.heap.size, 0, 1, fun _ => v, rfl, by simp, by unfold maxLen; omega, fun i hi => by
    obtain rfl : i = 0 := by omega
    exact ⟨one_cell w _ _, Or.inl (h.is.below hb0 (Nat.le_refl _))⟩⟩
  refine (shaSum_any 1 _ (fun _ => l) _ hp (fun i hi => ?_) (ht.below hb0 ht.1)).mono ?_
  · have : i = 0 ∨ i = 1 := by omega
    rcases this with rfl | rfl
    · simp [flatTo]
    · simp [flatTo]; omega
  · rintro e w' ⟨rfl, hb⟩
    refine ⟨?_, hb0.trans (hb.mono (by simp))⟩
    rw [sumL_row]; rfl
theorem hi32' : (Tryd.prog.info? 23).map (·.size) = some 32 := by kernel_rfl
theorem notesAt.count {w : World} {F : Nat → Prop} {nb : Nat} {N : List Nt} {c : Int} (h : notesAt w F nb N c) (c' : Int) : notesAt (w.setCell ⟨nb, 2, none⟩ (.int .i64 c')) F nb N c' := by
  obtain ⟨lv, mv, h1, h2, h3, h4, h5, h6⟩ := h
  refine ⟨lv, mv, (World.rowIs.set h1 2 _).congr fun i hi => ?_, h2, h3.own fun k cur _ hc => blk_setCell_other _ _ _ _ ?_, h4.own fun k es cl _ hc => blk_setCell_other _ _ _ _ ?_, h5, fun k hk => by rw [nblk_setCell]; exact h6 k hk⟩
  · simp only [notesV]
    have : i = 0 ∨ i = 1 ∨ i = 2 := by omega
    rcases this with rfl | rfl | rfl <;> simp
  · rintro rfl
    have := rowIs_block h1
    rw [hc] at this
    injection this with this
    injection this with _ h2
    exact absurd h2 (by decide)
  · rintro rfl
    have := rowIs_block h1
    rw [hc] at this; cases this
set_option maxHeartbeats 1000000 in
set_option maxRecDepth 100000 in
theorem of_any (F : Nat → Prop) (k : Nat) (N : List Nt) (c kind : Int) (n : Nat) (v : Value) (ps : Nat → List Int) (w : World) (h : bookAt w F k N c) (hp : anyParts w v n ps) (hs : ∀ i, i ≤ n → 1 + (flatTo (blobsB ps) i).length ≤ 100000000) (ht : tabIs w) (hF0 : ¬ F 0) (hN : N.length < 1000000) (hc : 0 ≤ c ∧ c < 1000000000) :
    Calls Tryd.prog 17 #[.pointer (some ⟨k, 0, none⟩), .int .i64 kind, v] w fun e w' => e = .returned (sumV (sumL (preB kind n ps))) ∧ bookAt w' (Gr F w w') k (addN N (sumL (preB kind n ps), strOf (preB kind n ps))) (c + 1) ∧ Fr F w w' := by
  have hlt := h.2.1
  have HLT : Hid _ := hlt
  have HBK : Hid _ := h
  have hk0 := hlt k h.1
  have ht0 := ht.1
  obtain ⟨pl, hpl⟩ : ∃ pl, pl = preB kind n ps := ⟨_, rfl⟩
  have hpll : pl.length ≤ 100000000 := by
    rw [hpl, preB, List.length_append]; have := hs n (Nat.le_refl _); simp; omega
  have r0 := rowIs_zero w (Array.replicate 32 (.int .u8 0)) 23 32 (.int .u8 0) rfl
  have hb0 : Below w.heap.size w (w.alloc (.cells (Array.replicate 32 (.int .u8 0)) 23)) := (Below.refl w.heap.size w).alloc (Nat.le_refl _) _
  have hs0 : (w.alloc (.cells (Array.replicate 32 (.int .u8 0)) 23)).heap.size = w.heap.size + 1 := by simp
  have X := pre_any kind n v ps _ (hp.below hb0 (Nat.le_refl _)) (fun i hi => by have := hs i hi; omega)
  rw [← hpl] at X ⊢
  clear hpl
  obtain ⟨a, cap, rfl, _, _⟩ := hp.open
  clear h hlt hp hs
  go_enter Tryd.func17, Tryd.ntmps17
  go_wp2_with fail
  refine X.mono ?_
  rintro e w1 ⟨v1, rfl, hn1, hb1⟩
  have hb1' : Below (w.alloc (.cells (Array.replicate 32 (.int .u8 0)) 23)).heap.size (w.alloc (.cells (Array.replicate 32 (.int .u8 0)) 23)) w1 := hb1
  have hn1' : newBytes w1 (w.alloc (.cells (Array.replicate 32 (.int .u8 0)) 23)).heap.size v1 pl := hn1
  rw [hs0] at hb1' hn1'
  have hB1 : Below w.heap.size w w1 := hb0.trans (hb1'.mono (by omega))
  have r1 : w1.rowIs w.heap.size 23 32 (fun _ => .int .u8 0) := hb1'.row r0 (by omega)
  have hs1 : w.heap.size + 1 ≤ w1.heap.size := by have := hb1'.size; omega
  obtain ⟨va, vc, rfl, _⟩ := hn1'.is.slice
  have Y := sum_one pl _ _ w1 hn1' (by omega) (ht.below hB1 ht0)
  clear X hb1 hn1 hb0 r0 hs0 hb1'
  go_wp2_with fail
  refine Y.mono ?_
  rintro e w3 ⟨rfl, hb3⟩
  have hs3 := hb3.size
  have r3 := hb3.row r1 (by omega)
  have hB3 : Below w.heap.size w w3 := hB1.trans (hb3.mono (by omega))
  have hn3 := hn1'.below hb3 (Nat.le_refl _)
  have r4 := rowIs_zero w3 (Array.replicate 32 (.int .u8 0)) 23 32 (.int .u8 0) rfl
  have hs4 : (w3.alloc (.cells (Array.replicate 32 (.int .u8 0)) 23)).heap.size = w3.heap.size + 1 := by simp
  have hb4 : Below w3.heap.size w3 (w3.alloc (.cells (Array.replicate 32 (.int .u8 0)) 23)) := (Below.refl _ _).alloc (Nat.le_refl _) _
  clear Y hb3 r1 hB1 hn1'
  go_upto_if 16 with (first | (refine wpList_store_row rfl 23 (.tmp 8) (.tmp 14) rfl rfl w3.heap.size 0 32 (arrV (sumL pl)) rfl rfl hi32' (fun _ _ => rfl) _ _ _ r4 (by omega) ?_; intro w5 r5 hz5 hb5))
  have hz5' : w5.heap.size = w3.heap.size + 1 := hz5.trans hs4
  have hb5' : But (w3.heap.size + 1) w3.heap.size (w3.alloc (.cells (Array.replicate 32 (.int .u8 0)) 23)) w5 := hs4 ▸ hb5
  have hB35 : Below w3.heap.size w3 w5 := hb4.trans ((hb5'.mono (by omega)).below (Nat.le_refl _))
  have hB5 : Below w.heap.size w w5 := hB3.trans (hB35.mono (by omega))
  have r5' : w5.rowIs w3.heap.size 23 32 (arrV (sumL pl)) := r5.congr fun i hi => by rw [if_pos (by omega), Nat.sub_zero]
  have r5w := hB35.row r3 (by omega)
  have hv5 := hn3.below hB35 (Nat.le_refl _)
  have Z := note_any F k N c (sumL pl) pl (.slice va pl.length vc) w5 (bookAt.below HBK.out hB5 (Nat.le_refl _)) (sumL_is pl) (Or.inl hv5.is) (fun j hj hf => by
    have h1 := HLT.out j hf
    have h2 := hv5.block j hj
    omega) hN
  unfold sumV at Z
  have R5 : Hid _ := r5'
  have ld5 : ∀ i, i < 32 → w5.cell? ⟨w3.heap.size, 0 + i, none⟩ = some (arrV (sumL pl) i) := fun i hi => by rw [Nat.zero_add]; exact r5'.cell hi
  have LD5 : Hid _ := ld5
  clear ld5
  have R5W : Hid _ := r5w
  have HB5 : Hid _ := hB5
  clear r5 r5' r5w hB35 hb5 hb5' hz5 hb4 hs4 r4 r3 hn3 hv5 hB5 hB3
  go_wp2_with (first | (refine wpList_load_seg rfl 23 (.tmp 8) rfl w3.heap.size 0 32 (arrV (sumL pl)) rfl _ Tryd.underlying23 rfl hi32' LD5.out ?_))
  refine Z.mono ?_
  rintro e w6 ⟨rfl, hbk6, hf6⟩
  clear Z
  have hs6 := hf6.size
  have hbk6' := hbk6
  obtain ⟨hF6, hlt6, pv, hpv6, ⟨_, hnil, _⟩ | ⟨nb, rfl, hnk, hnn⟩⟩ := hbk6
  · exact absurd hnil (addN_ne _ _)
  obtain ⟨lv, mv, rn, hFn, _⟩ := hnn
  have hnbw : nb < w.heap.size ∨ w5.heap.size ≤ nb := by
    rcases hFn.1 with h | h
    · exact Or.inl (HLT.out nb h)
    · exact Or.inr h.1
  have hF3 : ¬ F w3.heap.size := fun f => by have := HLT.out _ f; omega
  have hFw : ¬ F w.heap.size := fun f => by have := HLT.out _ f; omega
  have c0 : w6.cell? ⟨k, 0, none⟩ = some (.pointer (some ⟨nb, 0, none⟩)) := hpv6.cell (i := 0) (by omega)
  have c2 : w6.cell? ⟨nb, 2, none⟩ = some (.int .i64 c) := rn.cell (i := 2) (by omega)
  have z2 := World.rowIs.frozen rn 2
  have q1 : (0 : Int) ≤ c := hc.1
  have q2 : c < 1000000000 := hc.2
  have rs6 : w6.rowIs w3.heap.size 23 32 (arrV (sumL pl)) := World.rowIs.of_block R5.out (hf6.block _ (by omega) hF3)
  have rw6 : w6.rowIs w.heap.size 23 32 (fun _ => .int .u8 0) := World.rowIs.of_block R5W.out (hf6.block _ (by omega) hFw)
  have rs7 : (w6.setCell ⟨nb, 2, none⟩ (.int .i64 (c + 1))).rowIs w3.heap.size 23 32 (arrV (sumL pl)) := World.rowIs.setOther rs6 (show w3.heap.size ≠ nb by omega) _
  have rw7 : (w6.setCell ⟨nb, 2, none⟩ (.int .i64 (c + 1))).rowIs w.heap.size 23 32 (fun _ => .int .u8 0) := World.rowIs.setOther rw6 (show w.heap.size ≠ nb by omega) _
  have BK7 : Hid (bookAt (w6.setCell ⟨nb, 2, none⟩ (.int .i64 (c + 1))) (Gr F w5 w6) k (addN N (sumL pl, strOf pl)) (c + 1)) := (show bookAt (w6.setCell ⟨nb, 2, none⟩ (.int .i64 (c + 1))) (Gr F w5 w6) k (addN N (sumL pl, strOf pl)) (c + 1) from by
    obtain ⟨_, _, pv', hpv', h4⟩ := hbk6'
    have hpe : pv' = .pointer (some ⟨nb, 0, none⟩) := by
      have a := hpv'.cell (i := 0) (by omega)
      rw [c0] at a; exact (Option.some.inj a).symm
    subst hpe
    refine ⟨hF6, fun j hj => by rw [nblk_setCell]; exact hlt6 j hj, _, World.rowIs.setOther hpv' hnk.symm _, Or.inr ⟨nb, rfl, hnk, ?_⟩⟩
    rcases h4 with ⟨h, _⟩ | ⟨nb', h, _, hnn'⟩
    · cases h
    · obtain rfl : nb = nb' := by injection h with h; injection h with h; injection h
      exact hnn'.count (c + 1))
  have FR7 : Hid (Fr (Gr F w5 w6) w6 (w6.setCell ⟨nb, 2, none⟩ (.int .i64 (c + 1)))) := (show Fr (Gr F w5 w6) w6 (w6.setCell ⟨nb, 2, none⟩ (.int .i64 (c + 1))) from (Fr.refl _ _).setCell (Or.inl hFn.1) _)
  have ld7 : ∀ i, i < 32 → (w6.setCell ⟨nb, 2, none⟩ (.int .i64 (c + 1))).cell? ⟨w3.heap.size, 0 + i, none⟩ = some (arrV (sumL pl) i) := fun i hi => by rw [Nat.zero_add]; exact rs7.cell hi
  have RS7 : Hid _ := ld7
  clear ld7
  have F6 : Hid _ := hf6
  have HL6 : Hid _ := hlt6
  clear hbk6' hpv6 rn rs6 rw6 rs7 hf6 hlt6
  go_wp2_with (first | (refine wpList_load_seg rfl 23 (.tmp 8) rfl w3.heap.size 0 32 (arrV (sumL pl)) rfl _ Tryd.underlying23 rfl hi32' RS7.out ?_) | (refine wpList_store_row rfl 23 (.tmp 6) (.tmp 31) rfl rfl w.heap.size 0 32 (arrV (sumL pl)) rfl rfl hi32' (fun _ _ => rfl) _ _ _ rw7 (by omega) ?_; intro w8 r8 hz8 hb8))
  have hz8' : w8.heap.size = w6.heap.size := by rw [hz8, nblk_setCell]
  have hb8' : But w6.heap.size w.heap.size (w6.setCell ⟨nb, 2, none⟩ (.int .i64 (c + 1))) w8 := by
    have : (w6.setCell ⟨nb, 2, none⟩ (.int .i64 (c + 1))).heap.size = w6.heap.size := nblk_setCell _ _ _
    rw [← this]; exact hb8
  refine bodyPost_ret (results_cell_seg rfl _ _ w.heap.size 23 32 (arrV (sumL pl)) _ rfl Tryd.underlying23 rfl hi32' (r8.congr fun i hi => ?_)) rfl ⟨rfl, ?_, ?_⟩
  · rw [if_pos (by omega), Nat.sub_zero]
  · refine bookAt.grow (bookAt.far BK7.out (fun j hj hl => hb8'.block j (HL6.out j hj) ?_) (by rw [nblk_setCell]; omega)) (fun j hj => ?_) (fun j hj => ?_)
    · rintro rfl
      rcases hj with h | h
      · exact hFw h
      · omega
    · rcases hj with h | h
      · exact Or.inl h
      · exact Or.inr ⟨by omega, by rw [hz8']; exact h.2⟩
    · rcases hj with h | h
      · have := HLT.out j h; omega
      · exact h.2
  · have f1 : Fr F w w5 := Fr.of_below F HB5.out
    have f2 : Fr F w w6 := f1.trans F6.out (fun _ _ h => h)
    have f3 : Fr F w (w6.setCell ⟨nb, 2, none⟩ (.int .i64 (c + 1))) := f2.trans FR7.out (fun j hj h => by
      rcases h with h | h
      · exact h
      · omega)
    refine f3.trans (G := fun j => j = w.heap.size) ⟨hb8.os, hb8.tape, hb8.output, hb8.size, fun j hj hne => hb8.block j hj hne⟩ (fun j hj e => ?_)
    omega
end Go.Proofs.YtcfbaijibghcaaaDoor
