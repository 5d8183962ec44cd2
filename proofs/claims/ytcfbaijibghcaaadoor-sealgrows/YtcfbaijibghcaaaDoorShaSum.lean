import Derived.Test.YtcfbaijibghcaaaDoorShaMsg
namespace Go.Proofs.YtcfbaijibghcaaaDoor
open Go.RowKit Go.Deep

/-- A HASH TO WHICH THESE BYTES CAME; its words need not be begun as long as there are none. -/
def hashAny (w : World) (b : Nat) (l : List Int) : Prop :=
  ∃ v f : Nat → Int, hashIs w b v f l.length ∧ (0 < l.length → ∀ i, i < 8 → v i = wordsAt l (l.length / 64) i) ∧ (∀ i, 0 ≤ f i ∧ f i ≤ 255) ∧ ∀ i, i < l.length % 64 → f i = l.getD (l.length / 64 * 64 + i) 0
theorem hashOf.any {w : World} {b : Nat} {l : List Int} (h : hashOf w b l) : hashAny w b l := by
  obtain ⟨v, f, h1, h2, h3, h4⟩ := h; exact ⟨v, f, h1, fun _ => h2, h3, h4⟩
theorem hashAny.lt {w : World} {b : Nat} {l : List Int} (h : hashAny w b l) : b < w.heap.size := by
  obtain ⟨v, f, h1, _⟩ := h; exact World.rowIs.lt h1
theorem hashOf.lt {w : World} {b : Nat} {l : List Int} (h : hashOf w b l) : b < w.heap.size := h.any.lt

theorem begin_any (b : Nat) (l : List Int) (w : World) (h : hashAny w b l) :
    Calls Tryd.prog 48 #[.pointer (some ⟨b, 0, none⟩)] w fun e w' => e = .returned (.tuple #[]) ∧ But w.heap.size b w w' ∧ hashOf w' b l := by
  obtain ⟨v, f, h1, h2, h3, h4⟩ := h
  by_cases e : 0 < l.length
  · refine (begin_some b v f l.length e w h1).mono ?_
    rintro e w' ⟨rfl, rfl⟩
    exact ⟨rfl, But.refl _ _ _, v, f, h1, h2 (by assumption), h3, h4⟩
  · have hl : l = [] := List.eq_nil_of_length_eq_zero (by omega)
    subst hl
    refine (begin_zero b v f w h1).mono ?_
    rintro e w' ⟨rfl, hb, hr⟩
    exact ⟨rfl, hb, _, f, hr, fun _ _ => rfl, h3, fun i hi => by simp at hi⟩
theorem pad_any (b : Nat) (l : List Int) (w : World) (h : hashOf w b l) (hn : l.length < 1099511627776) (hk : ∀ i, i < 64 → w.cell? ⟨0, i, none⟩ = some (.int .u32 (kAt i))) (hb0 : b ≠ 0) :
    Calls Tryd.prog 50 #[.pointer (some ⟨b, 0, none⟩)] w fun e w' => e = .returned (.tuple #[]) ∧ But w.heap.size b w w' ∧ ∃ v' f', hashIs w' b v' f' l.length ∧ ∀ i, i < 8 → v' i = finalW l i := by
  obtain ⟨v, f, h1, h2, h3, h4⟩ := h
  have key : Calls Tryd.prog 50 #[.pointer (some ⟨b, 0, none⟩)] w fun e w' => e = .returned (.tuple #[]) ∧ But w.heap.size b w w' ∧ ∃ f', hashIs w' b (padW v f l.length) f' l.length := by
    by_cases e : l.length % 64 < 56
    · exact pad_short b v f l.length w h1 hn e hk hb0
    · exact pad_long b v f l.length w h1 hn (by omega) hk hb0
  refine key.mono ?_
  rintro e w' ⟨rfl, hb, f', hr⟩
  exact ⟨rfl, hb, _, f', hr, fun i hi => padW_msg h2 h4 i hi⟩

set_option maxHeartbeats 1000000 in
set_option maxRecDepth 100000 in
theorem sum_any (b : Nat) (l : List Int) (w : World) (h : hashAny w b l) (hn : l.length < 1099511627776) (hk : ∀ i, i < 64 → w.cell? ⟨0, i, none⟩ = some (.int .u32 (kAt i))) :
    Calls Tryd.prog 38 #[.pointer (some ⟨b, 0, none⟩)] w fun e w' => e = .returned (.agg (rowV 32 fun i => .int .u8 (sumI l i))) ∧ Below w.heap.size w w' := by
  have hlt := h.lt
  obtain ⟨v, f, h1, h2, h3, h4⟩ := h
  have hi73 : (Tryd.prog.info? 97).map (·.size) = some 73 := by kernel_rfl
  have hi32 : (Tryd.prog.info? 23).map (·.size) = some 32 := by kernel_rfl
  have hz0 := zero_hash
  have r0 := rowIs_zero w (Array.replicate 32 (.int .u8 0)) 23 32 (.int .u8 0) rfl
  have hh : (w.alloc (.cells (Array.replicate 32 (.int .u8 0)) 23)).rowIs b 97 73 (hashV v f l.length) := World.rowIs.alloc h1 _
  have z1 := rowIs_box (w.alloc (.cells (Array.replicate 32 (.int .u8 0)) 23)) 97 73 (hashV (fun _ => 0) (fun _ => 0) 0)
  simp only [nblk_alloc] at z1
  go_enter Tryd.func38, Tryd.ntmps38
  go_wp2_with (first | (refine wpList_load_seg rfl 97 _ rfl b 0 73 _ rfl _ Tryd.underlying97 rfl hi73 (fun i hi => by rw [Nat.zero_add]; exact hh.cell hi) ?_) | (refine wpList_store_row rfl 97 _ _ rfl rfl (w.heap.size + 1) 0 73 _ rfl rfl hi73 (fun i _ => by unfold hashV; split <;> (try split) <;> rfl) _ _ _ z1 (by omega) ?_; intro W rW hzW hbut))
  have hbW : Below w.heap.size w W := (((Below.refl w.heap.size w).alloc (Nat.le_refl _) _).alloc (by simp) _).trans ((hbut.mono (by simp; omega)).below (by omega))
  have r0W : W.rowIs w.heap.size 23 32 (fun _ => .int .u8 0) := hbut.row (r0.alloc _) (by simp; omega) (by omega)
  have hszW : W.heap.size = w.heap.size + 2 := by rw [hzW]; simp
  have hW : hashAny W (w.heap.size + 1) l := ⟨v, f, rW.congr (fun i hi => by rw [if_pos (by omega), Nat.sub_zero]), h2, h3, h4⟩
  clear rW hzW hbut z1 hh r0
  refine (begin_any _ l _ hW).mono ?_
  rintro e w1 ⟨rfl, hb1, ho1⟩
  clear hW
  have hb1' : But (w.heap.size + 1) (w.heap.size + 1) W w1 := hb1.mono (by omega)
  have hB1 : Below w.heap.size w w1 := hbW.trans ((hb1'.mono (by omega)).below (by omega))
  have r01 := hb1'.row r0W (by omega) (by omega)
  have hs1 := hb1.size
  clear hb1 hb1' hbW r0W
  go_wp2_with fail
  refine (pad_any _ l _ ho1 hn (fun i hi => by rw [hB1.cell (p := ⟨0, i, none⟩) (by show 0 < _; omega)]; exact hk i hi) (by omega)).mono ?_
  rintro e w2 ⟨rfl, hb2, v', f', hr2, hv2⟩
  have hb2' : But (w.heap.size + 1) (w.heap.size + 1) w1 w2 := hb2.mono (by omega)
  have hB2 : Below w.heap.size w w2 := hB1.trans ((hb2'.mono (by omega)).below (by omega))
  have r02 := hb2'.row r01 (by omega) (by omega)
  have hs2 := hb2.size
  clear hb2 hb2' hB1 r01 ho1
  go_wp2_with fail
  refine (bytes_any (w.heap.size + 1) _ 73 _ v' _ (fun i hi => hashV_word _ _ _ _ hi) (by omega) hr2).mono ?_
  rintro e w3 ⟨rfl, hb3⟩
  have hB3 : Below w.heap.size w w3 := hB2.trans (hb3.mono (by omega))
  have r03 := hb3.row r02 (by omega)
  clear hb3 hB2 r02
  go_wp2_with (first | (refine wpList_store_row rfl 23 _ _ rfl rfl w.heap.size 0 32 _ rfl rfl hi32 (fun _ _ => rfl) _ _ _ r03 (by omega) ?_; intro W4 r4 hz4 hb4))
  refine bodyPost_ret (results_cell_seg rfl _ _ w.heap.size 23 32 (fun i => .int .u8 (sumI l i)) _ rfl Tryd.underlying23 rfl hi32 (r4.congr fun i hi => ?_)) rfl ⟨rfl, hB3.trans ((hb4.mono (by have := hB3.size; omega)).below (Nat.le_refl _))⟩
  rw [if_pos (by omega), Nat.sub_zero, sumI, sumByte, sumByte, hv2 _ (by omega)]
end Go.Proofs.YtcfbaijibghcaaaDoor
