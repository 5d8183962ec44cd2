import Derived.Test.YtkgegihkhdgdoaaDoorOwn5
import Derived.Test.YtkgegihkhdgdoaaDoorOwn7
import Derived.Test.YtkgegihkhdgdoaaDoorOwn8
set_option linter.unusedVariables false
set_option linter.unusedSimpArgs false
/- the chapter's examples. -/
namespace Go.Proofs.YtkgegihkhdgdoaaDoor
set_option linter.unusedSimpArgs false
set_option linter.unusedVariables false
open Go.RowKit Go.Deep

theorem build_prs2 (f g : Nat → Value) (w : World) : (Instr.buildSlice 22 2 #[(0, .agg (rowV 2 f)), (1, .agg (rowV 2 g))]).run Tryd.prog w = .ok (.slice (some ⟨w.heap.size, 0, none⟩) 2 2) (w.alloc (.cells #[f 0, f 1, g 0, g 1] 38)) := by
  show (_ : Result Value) = _
  kernel_rfl
set_option maxHeartbeats 16000000 in
set_option maxRecDepth 100000 in
theorem kawake_any (w : World) (ht : tabIs w) : Calls Tryd.prog 10 #[] w fun e w' => e = .returned (.bool true) ∧ Below w.heap.size w w' := by
  have X0 := kthree_any w
  have hz32 := zero_s32
  have hzse := zero_se
  have HT : Hid (tabIs w) := (show tabIs w from ht)
  clear ht
  go_enter Tryd.func10, Tryd.ntmps10
  go_wp2_with fail
  refine X0.mono ?_
  rintro e w1 ⟨v, rfl, p1, b1⟩
  clear X0
  obtain ⟨a, cap, rfl, _, _, _⟩ := (id p1 : pairsAt w1 v 3 x3)
  have P1 : Hid (∀ wz, Below w1.heap.size w1 wz → pairsAt wz (.slice a 3 cap) 3 x3 ∧ tabIs wz) := (show _ from fun wz hz => ⟨p1.below hz (Nat.le_refl _), HT.out.below (b1.trans (hz.mono b1.size)) HT.out.1⟩)
  have B1 : Hid (Below w.heap.size w w1) := (show Below w.heap.size w w1 from b1)
  have hx3 : ∀ i, i < 3 → (x3 i).1.length + (x3 i).2.length ≤ 100000 := fun i _ => by simp [x3]
  have HX3 : Hid (∀ i, i < 3 → (x3 i).1.length + (x3 i).2.length ≤ 100000) := (show _ from hx3)
  have XR := kRoot_k frNone w1.heap.size (.pointer none) [] 0 3 (.slice a 3 cap) x3 w1 (bkNone _ _ _) (fun _ h => h.elim) (Nat.le_refl _) (fun wz hz => P1.out wz hz) (by omega) (fun i hi => by have := hx3 i hi; omega) (fun h => h.elim) (by simp) (by omega)
  clear p1 b1 hx3
  unfold sumV at XR
  obtain ⟨R, hR⟩ : ∃ R, keyS x3 3 = R := ⟨_, rfl⟩
  rw [hR] at XR
  go_wp2_with fail
  refine XR.mono ?_
  rintro e w2 ⟨rfl, _, f2⟩
  have B2 : Hid (Below w1.heap.size w1 w2) := (show Below w1.heap.size w1 w2 from frNone_below f2)
  clear XR f2
  obtain ⟨wr, hwr⟩ : ∃ wr, wr = w2.alloc (.cells (rowV 32 (fun _ => .int .u8 0)) 32) := ⟨_, rfl⟩
  have bwr : Below w2.heap.size w2 wr := by rw [hwr]; exact (Below.refl _ _).alloc (Nat.le_refl _) _
  have hzr : wr.rowIs w2.heap.size 32 32 (fun _ => .int .u8 0) := by rw [hwr]; exact rowIs_box _ _ _ _
  have HZ : Hid (wr.rowIs w2.heap.size 32 32 (fun _ => .int .u8 0)) := (show wr.rowIs w2.heap.size 32 32 (fun _ => .int .u8 0) from hzr)
  have BWR : Hid (Below w2.heap.size w2 wr) := (show Below w2.heap.size w2 wr from bwr)
  clear hzr bwr
  go_upto_region 3 with (first | (rw [← hwr]; clear hwr; refine wpList_store_row rfl 32 _ _ rfl rfl w2.heap.size 0 32 (arrV R) rfl rfl hi32' (fun _ _ => rfl) _ _ _ HZ.out (by omega) ?_; intro w3 r3 z3 b3))
  have r3' : w3.rowIs w2.heap.size 32 32 (arrV R) := r3.congr (fun i hi => by rw [if_pos (by omega), Nat.sub_zero])
  have b23 : Below w2.heap.size w2 w3 := BWR.out.trans (b3.below' (Nat.le_refl _) BWR.out.size)
  have b13 : Below w1.heap.size w1 w3 := B2.out.trans (b23.mono B2.out.size)
  obtain ⟨br, hbr⟩ : ∃ br, br = w2.heap.size := ⟨_, rfl⟩
  rw [← hbr] at r3'
  have hbr3 : br < w3.heap.size := r3'.lt
  have P3 : Hid (∀ wz, Below w3.heap.size w3 wz → pairsAt wz (.slice a 3 cap) 3 x3 ∧ tabIs wz ∧ (∀ i, i < 32 → wz.cell? ⟨br, 0 + i, none⟩ = some (arrV R i))) := (show _ from fun wz hz => by
    have hz1 := b13.trans (hz.mono b13.size)
    exact ⟨(P1.out wz hz1).1, (P1.out wz hz1).2, fun i hi => by rw [Nat.zero_add]; exact (hz.row r3' hbr3).cell hi⟩)
  have B3 : Hid (Below w.heap.size w w3) := (show Below w.heap.size w w3 from B1.out.trans (b13.mono B1.out.size))
  obtain ⟨wA, hA, iA, bA, zA⟩ := lit_one w3 100 (by omega) (by omega)
  have XS1 := show_nil 3 (.slice a 3 cap) (.slice (some ⟨w3.heap.size, 0, none⟩) 1 1) x3 [100] wA (P3.out wA bA).1 (Or.inl iA) (P3.out wA bA).2.1 (by omega) (fun i hi => by have := HX3.out i hi; omega)
  have BA : Hid (Below w3.heap.size w3 wA) := (show Below w3.heap.size w3 wA from bA)
  rw [← hbr]
  clear r3 r3' z3 b3 b23 b13 hbr hbr3 iA bA zA hz32
  go_wp2_with (first | (refine wpList_convert_run rfl _ _ _ rfl rfl hA ?_))
  refine XS1.mono ?_
  rintro e w4 ⟨hsh, b4⟩
  rcases hsh with ⟨hno, _⟩ | ⟨_, p, sv, hpos, rfl, hsp1⟩
  · exact absurd ((mayB_is x3 3).2 x3_may) (by rw [hno]; decide)
  obtain ⟨as1, cs1, hs1, _⟩ := (id hsp1 : spotsAt w4 sv (shM x3 3 [100] p) (shY x3 3 [100] p))
  subst hs1
  have SP1 : Hid (spotsAt w4 (.slice as1 (shM x3 3 [100] p) cs1) (shM x3 3 [100] p) (shY x3 3 [100] p)) := (show spotsAt w4 (.slice as1 (shM x3 3 [100] p) cs1) (shM x3 3 [100] p) (shY x3 3 [100] p) from hsp1)
  have HP1 : Hid (posAt x3 3 [100] p) := (show posAt x3 3 [100] p from hpos)
  have B4 : Hid (Below w3.heap.size w3 w4) := (show Below w3.heap.size w3 w4 from BA.out.trans (b4.mono BA.out.size))
  clear XS1 hA hsp1 hpos b4
  obtain ⟨wB, hB, iB, bB, zB⟩ := lit_one w4 99 (by omega) (by omega)
  have b34 := B4.out.trans (bB.mono B4.out.size)
  have XS2 := show_nil 3 (.slice a 3 cap) (.slice (some ⟨w4.heap.size, 0, none⟩) 1 1) x3 [99] wB (P3.out wB b34).1 (Or.inl iB) (P3.out wB b34).2.1 (by omega) (fun i hi => by have := HX3.out i hi; omega)
  have BB : Hid (Below w4.heap.size w4 wB) := (show Below w4.heap.size w4 wB from bB)
  clear iB bB zB b34
  go_wp2_with (first | (refine wpList_convert_run rfl _ _ _ rfl rfl hB ?_))
  refine XS2.mono ?_
  rintro e w5 ⟨hsh, b5⟩
  rcases hsh with ⟨hno, _⟩ | ⟨_, q, sv, hpos, rfl, hsp2⟩
  · exact absurd ((mayB_is x3 3).2 x3_may) (by rw [hno]; decide)
  obtain ⟨as2, cs2, hs2, _⟩ := (id hsp2 : spotsAt w5 sv (shM x3 3 [99] q) (shY x3 3 [99] q))
  subst hs2
  have hq := x3_c q hpos
  have B45 : Hid (Below w4.heap.size w4 w5) := (show Below w4.heap.size w4 w5 from BB.out.trans (b5.mono BB.out.size))
  obtain ⟨wq, hwq⟩ : ∃ wq, wq = (w5.alloc (.cells (rowV 2 (seG 0 (.slice none 0 0))) 29)).alloc (.cells (rowV 2 (seG 0 (.slice none 0 0))) 29) := ⟨_, rfl⟩
  have bq : Below w5.heap.size w5 wq := by rw [hwq]; exact ((Below.refl _ _).alloc (Nat.le_refl _) _).alloc (by simp) _
  have rq1 : wq.rowIs w5.heap.size 29 2 (seG 0 (.slice none 0 0)) := by rw [hwq]; exact (rowIs_box w5 _ _ _).alloc _
  have rq2 : wq.rowIs (w5.heap.size + 1) 29 2 (seG 0 (.slice none 0 0)) := by
    have r := rowIs_box (w5.alloc (.cells (rowV 2 (seG 0 (.slice none 0 0))) 29)) 29 2 (seG 0 (.slice none 0 0))
    rw [World.size_alloc, ← hwq] at r; exact r
  have zq : wq.heap.size = w5.heap.size + 2 := by rw [hwq]; simp
  have HQ : Hid (wq.rowIs w5.heap.size 29 2 (seG 0 (.slice none 0 0)) ∧ wq.rowIs (w5.heap.size + 1) 29 2 (seG 0 (.slice none 0 0)) ∧ wq.heap.size = w5.heap.size + 2 ∧ Below w5.heap.size w5 wq) := (show _ from ⟨rq1, rq2, zq, bq⟩)
  have SP2 : Hid (spotsAt w5 (.slice as2 (shM x3 3 [99] q) cs2) (shM x3 3 [99] q) (shY x3 3 [99] q)) := (show spotsAt w5 (.slice as2 (shM x3 3 [99] q) cs2) (shM x3 3 [99] q) (shY x3 3 [99] q) from hsp2)
  have HP2 : Hid (posAt x3 3 [99] q) := (show posAt x3 3 [99] q from hpos)
  clear XS2 hB hsp2 hpos b5 bq rq1 rq2 zq hq
  go_upto_region 4 with (first
    | (refine wpList_store_row rfl 29 _ (.tmp 23) rfl rfl w5.heap.size 0 2 (seG ((3 : Nat) : Int) (.slice as1 (shM x3 3 [100] p) cs1)) rfl rfl hiSe (seG_one _ _ _ _) _ _ _ (by rw [← hwq]; exact HQ.out.1) (by omega) ?_; rw [← hwq]; clear hwq; intro w6 r6 z6 b6; have r62 : w6.rowIs (w5.heap.size + 1) 29 2 (seG 0 (.slice none 0 0)) := b6.row HQ.out.2.1 (by have := HQ.out.2.2.1; omega) (by omega))
    | (refine wpList_store_row rfl 29 _ (.tmp 27) rfl rfl (w5.heap.size + 1) 0 2 (seG ((3 : Nat) : Int) (.slice as2 (shM x3 3 [99] q) cs2)) rfl rfl hiSe (seG_one _ _ _ _) _ _ _ r62 (by omega) ?_; intro w7 r7 z7 b7))
  have r6' : w6.rowIs w5.heap.size 29 2 (seG ((3 : Nat) : Int) (.slice as1 (shM x3 3 [100] p) cs1)) := r6.congr (fun i hi => by rw [if_pos (by omega), Nat.sub_zero])
  have r7' : w7.rowIs (w5.heap.size + 1) 29 2 (seG ((3 : Nat) : Int) (.slice as2 (shM x3 3 [99] q) cs2)) := r7.congr (fun i hi => by rw [if_pos (by omega), Nat.sub_zero])
  have rd7 : w7.rowIs w5.heap.size 29 2 (seG ((3 : Nat) : Int) (.slice as1 (shM x3 3 [100] p) cs1)) := b7.row r6' r6'.lt (by omega)
  obtain ⟨_, _, zq, bq⟩ := HQ.out
  have b57 : Below w5.heap.size w5 w7 := (bq.trans (b6.below' (Nat.le_refl _) (by omega))).trans (b7.below' (by omega) (by omega))
  obtain ⟨bd, hbd⟩ : ∃ bd, bd = w5.heap.size := ⟨_, rfl⟩
  obtain ⟨bc, hbc⟩ : ∃ bc, bc = w5.heap.size + 1 := ⟨_, rfl⟩
  have B5 : Below w3.heap.size w3 w5 := B4.out.trans (B45.out.mono B4.out.size)
  have b37 : Below w3.heap.size w3 w7 := B5.trans (b57.mono B5.size)
  have b47 : Below w4.heap.size w4 w7 := B45.out.trans (b57.mono B45.out.size)
  rw [← hbd] at rd7
  rw [← hbc] at r7'
  have P7 : Hid (∀ wz, Below w7.heap.size w7 wz → pairsAt wz (.slice a 3 cap) 3 x3 ∧ tabIs wz ∧ (∀ i, i < 32 → wz.cell? ⟨br, 0 + i, none⟩ = some (arrV R i)) ∧ (∀ i, i < 2 → wz.cell? ⟨bd, 0 + i, none⟩ = some (seG ((3 : Nat) : Int) (.slice as1 (shM x3 3 [100] p) cs1) i)) ∧ (∀ i, i < 2 → wz.cell? ⟨bc, 0 + i, none⟩ = some (seG ((3 : Nat) : Int) (.slice as2 (shM x3 3 [99] q) cs2) i)) ∧ spotsAt wz (.slice as1 (shM x3 3 [100] p) cs1) (shM x3 3 [100] p) (shY x3 3 [100] p) ∧ spotsAt wz (.slice as2 (shM x3 3 [99] q) cs2) (shM x3 3 [99] q) (shY x3 3 [99] q)) := (show _ from fun wz hz => by
    have h3 := b37.trans (hz.mono b37.size)
    have h4 := b47.trans (hz.mono b47.size)
    have h5 := b57.trans (hz.mono b57.size)
    exact ⟨(P3.out wz h3).1, (P3.out wz h3).2.1, (P3.out wz h3).2.2, fun i hi => by rw [Nat.zero_add]; exact (hz.row rd7 rd7.lt).cell hi, fun i hi => by rw [Nat.zero_add]; exact (hz.row r7' r7'.lt).cell hi, SP1.out.below h4 (Nat.le_refl _), SP2.out.below h5 (Nat.le_refl _)⟩)
  have B7 : Hid (Below w.heap.size w w7) := (show Below w.heap.size w w7 from B3.out.trans (b37.mono B3.out.size))
  rw [← hbc, ← hbd]
  have hx3n : ∀ i, i < 3 → ((x3 i).1 = [100] ↔ i = 1) ∧ ¬ (x3 i).1 = [99] := fun i hi => by
    have : i = 0 ∨ i = 1 ∨ i = 2 := by omega
    rcases this with rfl | rfl | rfl <;> (refine ⟨?_, ?_⟩ <;> decide)
  have HXN : Hid (∀ i, i < 3 → ((x3 i).1 = [100] ↔ i = 1) ∧ ¬ (x3 i).1 = [99]) := (show _ from hx3n)
  obtain ⟨wC, hC, iC, bC, zC⟩ := lit_one w7 100 (by omega) (by omega)
  obtain ⟨_, t7, c32, cd, cc, s1, s2⟩ := P7.out wC bC
  have XL := look_tells x3_may HP1.out (by omega) HX3.out (.slice as1 (shM x3 3 [100] p) cs1) (.slice (some ⟨w7.heap.size, 0, none⟩) 1 1) wC s1 (Or.inl iC) t7
  rw [hR, ← seG_row] at XL
  have BC : Hid (Below w7.heap.size w7 wC) := (show Below w7.heap.size w7 wC from bC)
  have L32 : Hid (∀ i, i < 32 → w7.cell? ⟨br, 0 + i, none⟩ = some (arrV R i)) := (show _ from (P7.out w7 (Below.refl _ _)).2.2.1)
  have LD : Hid (∀ i, i < 2 → wC.cell? ⟨bd, 0 + i, none⟩ = some (seG ((3 : Nat) : Int) (.slice as1 (shM x3 3 [100] p) cs1) i)) := (show _ from cd)
  clear r6 r7 r6' r7' rd7 r62 z6 z7 b6 b7 zq bq b57 b37 b47 B5 hbd hbc hx3n iC bC zC t7 c32 cd cc s1 s2 HQ B45
  go_wp2_with (first
    | (refine wpList_load_seg rfl 32 _ rfl br 0 32 (arrV R) rfl _ Tryd.underlying32 rfl hi32' L32.out ?_)
    | (refine wpList_load_seg rfl 29 _ rfl bd 0 2 (seG ((3 : Nat) : Int) (.slice as1 (shM x3 3 [100] p) cs1)) rfl _ Tryd.underlying29 rfl hiSe LD.out ?_)
    | (refine wpList_convert_run rfl _ _ _ rfl rfl hC ?_))
  refine XL.mono ?_
  rintro e w8 ⟨htell, b8⟩
  rcases htell with ⟨i, hi, hki, v', hv', rfl⟩ | ⟨hnone, _⟩
  rotate_left
  · exact absurd (((HXN.out 1 (by omega)).1).2 rfl) (hnone 1 (by omega))
  obtain rfl := ((HXN.out i hi).1).1 hki
  have B8 : Hid (Below w7.heap.size w7 w8) := (show Below w7.heap.size w7 w8 from BC.out.trans (b8.mono BC.out.size))
  have hvb : isBytes w8 v' [50] := hv'.is
  obtain ⟨av, cv, rfl, _⟩ := hvb.slice
  have HV : Hid (isBytes w8 (.slice av ([50] : List Int).length cv) [50]) := (show isBytes w8 (.slice av ([50] : List Int).length cv) [50] from hvb)
  clear XL hki hi hv' hvb b8 hC
  obtain ⟨wD, hD, iD, bD, zD⟩ := lit_one w8 99 (by omega) (by omega)
  have b7D := B8.out.trans (bD.mono B8.out.size)
  obtain ⟨_, t7, c32, cd, cc, s1, s2⟩ := P7.out wD b7D
  have XL := look_tells x3_may HP2.out (by omega) HX3.out (.slice as2 (shM x3 3 [99] q) cs2) (.slice (some ⟨w8.heap.size, 0, none⟩) 1 1) wD s2 (Or.inl iD) t7
  rw [hR, ← seG_row] at XL
  have BD : Hid (Below w7.heap.size w7 wD) := (show Below w7.heap.size w7 wD from b7D)
  have L32' : Hid (∀ i, i < 32 → w8.cell? ⟨br, 0 + i, none⟩ = some (arrV R i)) := (show _ from (P7.out w8 B8.out).2.2.1)
  have LC : Hid (∀ i, i < 2 → wD.cell? ⟨bc, 0 + i, none⟩ = some (seG ((3 : Nat) : Int) (.slice as2 (shM x3 3 [99] q) cs2) i)) := (show _ from cc)
  have bD8 := bD
  clear iD bD zD b7D t7 c32 cd cc s1 s2 L32 LD
  go_wp2_with (first
    | (refine wpList_load_seg rfl 32 _ rfl br 0 32 (arrV R) rfl _ Tryd.underlying32 rfl hi32' L32'.out ?_)
    | (refine wpList_load_seg rfl 29 _ rfl bc 0 2 (seG ((3 : Nat) : Int) (.slice as2 (shM x3 3 [99] q) cs2)) rfl _ Tryd.underlying29 rfl hiSe LC.out ?_)
    | (refine wpList_convert_run rfl _ _ _ rfl rfl hD ?_))
  refine XL.mono ?_
  rintro e w9 ⟨htell, b9⟩
  rcases htell with ⟨i, hi, hki, _⟩ | ⟨_, rfl⟩
  · exact absurd hki (HXN.out i hi).2
  have B9 : Hid (Below w7.heap.size w7 w9) := (show Below w7.heap.size w7 w9 from BD.out.trans (b9.mono BD.out.size))
  have HV9 : Hid (isBytes w9 (.slice av ([50] : List Int).length cv) [50]) := (show isBytes w9 (.slice av ([50] : List Int).length cv) [50] from by
    have b89 : Below w8.heap.size w8 w9 := bD8.trans (b9.mono bD8.size)
    exact HV.out.below b89 (Nat.le_refl _))
  clear XL b9 hD
  obtain ⟨wE, hE, iE, bE, zE⟩ := lit_one w9 99 (by omega) (by omega)
  have b7E := B9.out.trans (bE.mono B9.out.size)
  obtain ⟨_, t7, c32, cd, cc, s1, s2⟩ := P7.out wE b7E
  have XK := look_no x3_may HP1.out (by omega) HX3.out (.slice as1 (shM x3 3 [100] p) cs1) (.slice (some ⟨w9.heap.size, 0, none⟩) 1 1) wE s1 (Or.inl iE) t7 (x3_dc p HP1.out _)
  rw [hR, ← seG_row] at XK
  have BE : Hid (Below w9.heap.size w9 wE) := (show Below w9.heap.size w9 wE from bE)
  have L32E : Hid (∀ i, i < 32 → w9.cell? ⟨br, 0 + i, none⟩ = some (arrV R i)) := (show _ from (P7.out w9 B9.out).2.2.1)
  have LDE : Hid (∀ i, i < 2 → wE.cell? ⟨bd, 0 + i, none⟩ = some (seG ((3 : Nat) : Int) (.slice as1 (shM x3 3 [100] p) cs1) i)) := (show _ from cd)
  clear iE bE zE b7E t7 c32 cd cc s1 s2 L32' LC
  go_wp2_with (first
    | (refine wpList_load_seg rfl 32 _ rfl br 0 32 (arrV R) rfl _ Tryd.underlying32 rfl hi32' L32E.out ?_)
    | (refine wpList_load_seg rfl 29 _ rfl bd 0 2 (seG ((3 : Nat) : Int) (.slice as1 (shM x3 3 [100] p) cs1)) rfl _ Tryd.underlying29 rfl hiSe LDE.out ?_)
    | (refine wpList_convert_run rfl _ _ _ rfl rfl hE ?_))
  refine XK.mono ?_
  rintro e wX ⟨rfl, bX⟩
  have b9X : Below w9.heap.size w9 wX := BE.out.trans (bX.mono BE.out.size)
  have BX : Hid (Below w7.heap.size w7 wX) := (show Below w7.heap.size w7 wX from B9.out.trans (b9X.mono B9.out.size))
  have HVX : Hid (isBytes wX (.slice av ([50] : List Int).length cv) [50]) := (show isBytes wX (.slice av ([50] : List Int).length cv) [50] from HV9.out.below b9X (Nat.le_refl _))
  clear XK bX b9X hE L32E LDE BE
  go_upto_region 7 with fail
  go_cut [14, 15, 16] from 55 to 66 (fun e14 e15 e16 wx => e16 = .int .i64 10 ∧ Below wX.heap.size wX wx)
  case first =>
    obtain ⟨wq, hwq⟩ : ∃ wq, wq = wX.drew := ⟨_, rfl⟩
    have Bq : Hid (Below wX.heap.size wX wq) := (show Below wX.heap.size wX wq from by rw [hwq]; exact (Below.refl _ _).drew)
    have PX : Hid (∀ wz, Below wX.heap.size wX wz → pairsAt wz (.slice a 3 cap) 3 x3 ∧ tabIs wz) := (show _ from fun wz hz => by
      have h := BX.out.trans (hz.mono BX.out.size)
      exact ⟨(P7.out wz h).1, (P7.out wz h).2.1⟩)
    have LX : Hid (∀ wz, Below wX.heap.size wX wz → ∀ i, i < 32 → wz.cell? ⟨br, 0 + i, none⟩ = some (arrV R i)) := (show _ from fun wz hz => (P7.out wz (BX.out.trans (hz.mono BX.out.size))).2.2.1)
    have HRK : Hid (keyS x3 3 = R) := (show keyS x3 3 = R from hR)
    clear P7 HV HV9 B8 B9 BC BD HXN SP1 SP2
    refine wp_region_noPanic ?_
    refine wp_region_held_drew (S := fun w' => Below wX.heap.size wX w') (by kernel_rfl) (by rw [← hwq]; exact Bq.out) (fun hHeld => ?_)
    rw [← hwq] at hHeld ⊢
    clear hwq
    refine take_load (i := 0) rfl (by kernel_rfl) (by kernel_rfl) (by kernel_rfl) 32 _ rfl br 0 32 (arrV R) rfl _ Tryd.underlying32 rfl (by kernel_rfl) (fun _ _ _ h => h) rfl hHeld (fun wz hz => LX.out wz hz) ?_
    try simp only [Act.put, List.setIfInBounds_toArray, List.set_cons_zero, List.set_cons_succ]
    refine take_op (i := 3) (v := ?vm3) rfl (by kernel_rfl) (by kernel_rfl) (by kernel_rfl) (fun _ _ _ h => h) rfl hHeld ?ym3 ?rm3
    case ym3 => (intro wz hz; go_simp; first | done | with_reducible rfl)
    try simp only [Act.put, List.setIfInBounds_toArray, List.set_cons_zero, List.set_cons_succ]
    refine take_pair (i := 1) (j := 4) rfl rfl (by kernel_rfl) rfl rfl ?g1a ?g1b
    case g1a =>
      intro K hK
      obtain ⟨V2, hr2, l2, bb2, b2⟩ := lit_build wX wq 120 Bq.out
      obtain ⟨k2, hk2⟩ : ∃ k, k = wq.heap.size := ⟨_, rfl⟩
      rw [← hk2] at hr2 l2
      have BV2 : Hid (Below wX.heap.size wX V2) := (show Below wX.heap.size wX V2 from b2)
      have LX2 : Hid (litB wX V2 k2 120) := (show litB wX V2 k2 120 from l2)
      refine wp_of_run (w' := V2) (exec_bslice1' 23 1 0 (.const (.int .u8 120)) _ rfl rfl hr2) ?_
      refine hK.out _ _ BV2.out (fun hHeld => ?_)
      clear hr2 l2 bb2 b2 hk2
      clear hK K
      try simp only [Act.put, List.setIfInBounds_toArray, List.set_cons_zero, List.set_cons_succ]
      refine take_pair (i := 2) (j := 4) rfl rfl (by kernel_rfl) rfl rfl ?g3a ?g3b
      case g3a =>
        intro K hK
        obtain ⟨V4, hr4, l4, mm4, b4⟩ := lit_conv wX V2 k2 120 (by omega) (by omega) LX2.out BV2.out
        have BV4 : Hid (Below wX.heap.size wX V4) := (show Below wX.heap.size wX V4 from b4)
        have LX4 : Hid (litC wX V4 k2 120) := (show litC wX V4 k2 120 from l4)
        refine wp_convert_run (w' := V4) 23 23 (.tmp 57) rfl rfl hr4 ?_
        refine hK.out _ _ BV4.out (fun hHeld => ?_)
        clear hr4 l4 mm4 b4
        clear hK K
        try simp only [Act.put, List.setIfInBounds_toArray, List.set_cons_zero, List.set_cons_succ]
        refine take_one (i := 4) rfl (by kernel_rfl) rfl (fun K hK => ?_)
        obtain ⟨V5, hr5, l5, bb5, b5⟩ := lit_build wX V4 97 BV4.out
        obtain ⟨k5, hk5⟩ : ∃ k, k = V4.heap.size := ⟨_, rfl⟩
        rw [← hk5] at hr5 l5
        have BV5 : Hid (Below wX.heap.size wX V5) := (show Below wX.heap.size wX V5 from b5)
        have LA5 : Hid (litB wX V5 k5 97) := (show litB wX V5 k5 97 from l5)
        have LX5 : Hid (litC wX V5 k2 120) := (show litC wX V5 k2 120 from LX4.out.step bb5)
        have hne5 : ¬ k2 = k5 := by have := LX4.out.2.1; omega
        refine wp_of_run (w' := V5) (exec_bslice1' 23 1 0 (.const (.int .u8 97)) _ rfl rfl hr5) ?_
        refine hK.out _ _ BV5.out (fun hHeld => ?_)
        clear hr5 l5 bb5 b5 hk5
        clear hK K
        try simp only [Act.put, List.setIfInBounds_toArray, List.set_cons_zero, List.set_cons_succ]
        refine take_one (i := 5) rfl (by kernel_rfl) rfl (fun K hK => ?_)
        obtain ⟨V6, hr6, l6, mm6, b6⟩ := lit_conv wX V5 k5 97 (by omega) (by omega) LA5.out BV5.out
        have BV6 : Hid (Below wX.heap.size wX V6) := (show Below wX.heap.size wX V6 from b6)
        have LA6 : Hid (litC wX V6 k5 97) := (show litC wX V6 k5 97 from l6)
        have LX6 : Hid (litC wX V6 k2 120) := (show litC wX V6 k2 120 from LX5.out.mark mm6)
        refine wp_convert_run (w' := V6) 23 23 (.tmp 60) rfl rfl hr6 ?_
        refine hK.out _ _ BV6.out (fun hHeld => ?_)
        clear hr6 l6 mm6 b6
        clear hK K
        try simp only [Act.put, List.setIfInBounds_toArray, List.set_cons_zero, List.set_cons_succ]
        refine take_one (i := 6) rfl (by kernel_rfl) rfl (fun K hK => ?_)
        have XS7 := show_nil 3 (.slice a 3 cap) (.slice (some ⟨k5, 0, none⟩) 1 1) x3 [97] V6 (PX.out V6 BV6.out).1 (Or.inl LA6.out.2.2) (PX.out V6 BV6.out).2 (by omega) (fun i hi => by have := HX3.out i hi; omega)
        go_simp
        refine Calls.mono XS7 ?_
        rintro e V7 ⟨hsh, bb7⟩
        rcases hsh with ⟨hno, _⟩ | ⟨_, q7, sv, hpos7, rfl, hsp7⟩
        · exact absurd ((mayB_is x3 3).2 x3_may) (by rw [hno]; decide)
        obtain ⟨as7, cs7, hs7, _⟩ := (id hsp7 : spotsAt V7 sv (shM x3 3 [97] q7) (shY x3 3 [97] q7))
        subst hs7
        have LA7 : Hid (spotsAt V7 (.slice as7 (shM x3 3 [97] q7) cs7) (shM x3 3 [97] q7) (shY x3 3 [97] q7)) := (show spotsAt V7 (.slice as7 (shM x3 3 [97] q7) cs7) (shM x3 3 [97] q7) (shY x3 3 [97] q7) from hsp7)
        have HQ7 : Hid (posAt x3 3 [97] q7) := (show posAt x3 3 [97] q7 from hpos7)
        have BV7 : Hid (Below wX.heap.size wX V7) := (show Below wX.heap.size wX V7 from BV6.out.trans (bb7.mono BV6.out.size))
        have LX7 : Hid (litC wX V7 k2 120) := (show litC wX V7 k2 120 from LX6.out.step bb7)
        refine hK.out _ _ BV7.out (fun hHeld => ?_)
        clear XS7 hsp7 hpos7 bb7
        clear hK K
        try simp only [Act.put, List.setIfInBounds_toArray, List.set_cons_zero, List.set_cons_succ]
        have XL8 := look_no x3_may HQ7.out (by omega) HX3.out (.slice as7 (shM x3 3 [97] q7) cs7) (.slice (some ⟨k2, 0, none⟩) 1 1) V7 LA7.out (Or.inl LX7.out.2.2) (PX.out V7 BV7.out).2 (x3_ax q7 HQ7.out _)
        rw [HRK.out, ← seG_row] at XL8
        refine take_one (i := 7) rfl (by kernel_rfl) rfl (fun K hK => ?_)
        go_simp
        refine Calls.mono XL8 ?_
        rintro e V8 ⟨rfl, bb8⟩
        have BV8 : Below wX.heap.size wX V8 := BV7.out.trans (bb8.mono BV7.out.size)
        refine hK.out _ _ BV8 (fun hHeld => ?_)
        clear hK K XL8
        try simp only [Act.put, List.setIfInBounds_toArray, List.set_cons_zero, List.set_cons_succ]
        refine take_op (i := 8) (v := ?vl88) rfl (by kernel_rfl) (by kernel_rfl) (by kernel_rfl) (fun _ _ _ h => h) rfl hHeld ?yl88 ?rl88
        case yl88 => (intro wz hz; go_simp; first | done | with_reducible rfl)
        try simp only [Act.put, List.setIfInBounds_toArray, List.set_cons_zero, List.set_cons_succ]
        refine take_op (i := 9) (v := ?vl89) rfl (by kernel_rfl) (by kernel_rfl) (by kernel_rfl) (fun _ _ _ h => h) rfl hHeld ?yl89 ?rl89
        case yl89 => (intro wz hz; go_simp; first | done | with_reducible rfl)
        try simp only [Act.put, List.setIfInBounds_toArray, List.set_cons_zero, List.set_cons_succ]
        refine take_op (i := 10) (v := ?vl810) rfl (by kernel_rfl) (by kernel_rfl) (by kernel_rfl) (fun _ _ _ h => h) rfl hHeld ?yl810 ?rl810
        case yl810 => (intro wz hz; go_simp; first | done | with_reducible rfl)
        try simp only [Act.put, List.setIfInBounds_toArray, List.set_cons_zero, List.set_cons_succ]
        refine take_op (i := 11) (v := ?vl811) rfl (by kernel_rfl) (by kernel_rfl) (by kernel_rfl) (fun _ _ _ h => h) rfl hHeld ?yl811 ?rl811
        case yl811 => (intro wz hz; go_simp; first | done | with_reducible rfl)
        try simp only [Act.put, List.setIfInBounds_toArray, List.set_cons_zero, List.set_cons_succ]
        refine take_op (i := 12) (v := ?vl812) rfl (by kernel_rfl) (by kernel_rfl) (by kernel_rfl) (fun _ _ _ h => h) rfl hHeld ?yl812 ?rl812
        case yl812 => (intro wz hz; go_simp; first | done | with_reducible rfl)
        try simp only [Act.put, List.setIfInBounds_toArray, List.set_cons_zero, List.set_cons_succ]
        refine take_op (i := 13) (v := ?vl813) rfl (by kernel_rfl) (by kernel_rfl) (by kernel_rfl) (fun _ _ _ h => h) rfl hHeld ?yl813 ?rl813
        case yl813 => (intro wz hz; go_simp; first | done | with_reducible rfl)
        try simp only [Act.put, List.setIfInBounds_toArray, List.set_cons_zero, List.set_cons_succ]
        refine take_op (i := 14) (v := ?vl814) rfl (by kernel_rfl) (by kernel_rfl) (by kernel_rfl) (fun _ _ _ h => h) rfl hHeld ?yl814 ?rl814
        case yl814 => (intro wz hz; go_simp; first | done | with_reducible rfl)
        try simp only [Act.put, List.setIfInBounds_toArray, List.set_cons_zero, List.set_cons_succ]
        refine wpAnyH_done (by kernel_rfl) ?_ _
        refine NoPanic.normal ?_
        clear hHeld
        go_wp2_with fail
        go_meet
        case rel => exact ⟨rfl, BV8⟩
      case g3b =>
        intro K hK
        obtain ⟨V9, hr9, l9, bb9, b9⟩ := lit_build wX V2 97 BV2.out
        obtain ⟨k9, hk9⟩ : ∃ k, k = V2.heap.size := ⟨_, rfl⟩
        rw [← hk9] at hr9 l9
        have BV9 : Hid (Below wX.heap.size wX V9) := (show Below wX.heap.size wX V9 from b9)
        have LA9 : Hid (litB wX V9 k9 97) := (show litB wX V9 k9 97 from l9)
        have LX9 : Hid (litB wX V9 k2 120) := (show litB wX V9 k2 120 from LX2.out.step bb9)
        have hne9 : ¬ k2 = k9 := by have := LX2.out.lt; omega
        refine wp_of_run (w' := V9) (exec_bslice1' 23 1 0 (.const (.int .u8 97)) _ rfl rfl hr9) ?_
        refine hK.out _ _ BV9.out (fun hHeld => ?_)
        clear hr9 l9 bb9 b9 hk9
        clear hK K
        try simp only [Act.put, List.setIfInBounds_toArray, List.set_cons_zero, List.set_cons_succ]
        refine take_pair (i := 2) (j := 5) rfl rfl (by kernel_rfl) rfl rfl ?g10a ?g10b
        case g10a =>
          intro K hK
          obtain ⟨V11, hr11, l11, mm11, b11⟩ := lit_conv wX V9 k2 120 (by omega) (by omega) LX9.out BV9.out
          have BV11 : Hid (Below wX.heap.size wX V11) := (show Below wX.heap.size wX V11 from b11)
          have LX11 : Hid (litC wX V11 k2 120) := (show litC wX V11 k2 120 from l11)
          have LA11 : Hid (litB wX V11 k9 97) := (show litB wX V11 k9 97 from LA9.out.mark mm11 (fun e => hne9 e.symm))
          refine wp_convert_run (w' := V11) 23 23 (.tmp 57) rfl rfl hr11 ?_
          refine hK.out _ _ BV11.out (fun hHeld => ?_)
          clear hr11 l11 mm11 b11
          clear hK K
          try simp only [Act.put, List.setIfInBounds_toArray, List.set_cons_zero, List.set_cons_succ]
          refine take_one (i := 5) rfl (by kernel_rfl) rfl (fun K hK => ?_)
          obtain ⟨V12, hr12, l12, mm12, b12⟩ := lit_conv wX V11 k9 97 (by omega) (by omega) LA11.out BV11.out
          have BV12 : Hid (Below wX.heap.size wX V12) := (show Below wX.heap.size wX V12 from b12)
          have LA12 : Hid (litC wX V12 k9 97) := (show litC wX V12 k9 97 from l12)
          have LX12 : Hid (litC wX V12 k2 120) := (show litC wX V12 k2 120 from LX11.out.mark mm12)
          refine wp_convert_run (w' := V12) 23 23 (.tmp 60) rfl rfl hr12 ?_
          refine hK.out _ _ BV12.out (fun hHeld => ?_)
          clear hr12 l12 mm12 b12
          clear hK K
          try simp only [Act.put, List.setIfInBounds_toArray, List.set_cons_zero, List.set_cons_succ]
          refine take_one (i := 6) rfl (by kernel_rfl) rfl (fun K hK => ?_)
          have XS13 := show_nil 3 (.slice a 3 cap) (.slice (some ⟨k9, 0, none⟩) 1 1) x3 [97] V12 (PX.out V12 BV12.out).1 (Or.inl LA12.out.2.2) (PX.out V12 BV12.out).2 (by omega) (fun i hi => by have := HX3.out i hi; omega)
          go_simp
          refine Calls.mono XS13 ?_
          rintro e V13 ⟨hsh, bb13⟩
          rcases hsh with ⟨hno, _⟩ | ⟨_, q13, sv, hpos13, rfl, hsp13⟩
          · exact absurd ((mayB_is x3 3).2 x3_may) (by rw [hno]; decide)
          obtain ⟨as13, cs13, hs13, _⟩ := (id hsp13 : spotsAt V13 sv (shM x3 3 [97] q13) (shY x3 3 [97] q13))
          subst hs13
          have LA13 : Hid (spotsAt V13 (.slice as13 (shM x3 3 [97] q13) cs13) (shM x3 3 [97] q13) (shY x3 3 [97] q13)) := (show spotsAt V13 (.slice as13 (shM x3 3 [97] q13) cs13) (shM x3 3 [97] q13) (shY x3 3 [97] q13) from hsp13)
          have HQ13 : Hid (posAt x3 3 [97] q13) := (show posAt x3 3 [97] q13 from hpos13)
          have BV13 : Hid (Below wX.heap.size wX V13) := (show Below wX.heap.size wX V13 from BV12.out.trans (bb13.mono BV12.out.size))
          have LX13 : Hid (litC wX V13 k2 120) := (show litC wX V13 k2 120 from LX12.out.step bb13)
          refine hK.out _ _ BV13.out (fun hHeld => ?_)
          clear XS13 hsp13 hpos13 bb13
          clear hK K
          try simp only [Act.put, List.setIfInBounds_toArray, List.set_cons_zero, List.set_cons_succ]
          have XL14 := look_no x3_may HQ13.out (by omega) HX3.out (.slice as13 (shM x3 3 [97] q13) cs13) (.slice (some ⟨k2, 0, none⟩) 1 1) V13 LA13.out (Or.inl LX13.out.2.2) (PX.out V13 BV13.out).2 (x3_ax q13 HQ13.out _)
          rw [HRK.out, ← seG_row] at XL14
          refine take_one (i := 7) rfl (by kernel_rfl) rfl (fun K hK => ?_)
          go_simp
          refine Calls.mono XL14 ?_
          rintro e V14 ⟨rfl, bb14⟩
          have BV14 : Below wX.heap.size wX V14 := BV13.out.trans (bb14.mono BV13.out.size)
          refine hK.out _ _ BV14 (fun hHeld => ?_)
          clear hK K XL14
          try simp only [Act.put, List.setIfInBounds_toArray, List.set_cons_zero, List.set_cons_succ]
          refine take_op (i := 8) (v := ?vl148) rfl (by kernel_rfl) (by kernel_rfl) (by kernel_rfl) (fun _ _ _ h => h) rfl hHeld ?yl148 ?rl148
          case yl148 => (intro wz hz; go_simp; first | done | with_reducible rfl)
          try simp only [Act.put, List.setIfInBounds_toArray, List.set_cons_zero, List.set_cons_succ]
          refine take_op (i := 9) (v := ?vl149) rfl (by kernel_rfl) (by kernel_rfl) (by kernel_rfl) (fun _ _ _ h => h) rfl hHeld ?yl149 ?rl149
          case yl149 => (intro wz hz; go_simp; first | done | with_reducible rfl)
          try simp only [Act.put, List.setIfInBounds_toArray, List.set_cons_zero, List.set_cons_succ]
          refine take_op (i := 10) (v := ?vl1410) rfl (by kernel_rfl) (by kernel_rfl) (by kernel_rfl) (fun _ _ _ h => h) rfl hHeld ?yl1410 ?rl1410
          case yl1410 => (intro wz hz; go_simp; first | done | with_reducible rfl)
          try simp only [Act.put, List.setIfInBounds_toArray, List.set_cons_zero, List.set_cons_succ]
          refine take_op (i := 11) (v := ?vl1411) rfl (by kernel_rfl) (by kernel_rfl) (by kernel_rfl) (fun _ _ _ h => h) rfl hHeld ?yl1411 ?rl1411
          case yl1411 => (intro wz hz; go_simp; first | done | with_reducible rfl)
          try simp only [Act.put, List.setIfInBounds_toArray, List.set_cons_zero, List.set_cons_succ]
          refine take_op (i := 12) (v := ?vl1412) rfl (by kernel_rfl) (by kernel_rfl) (by kernel_rfl) (fun _ _ _ h => h) rfl hHeld ?yl1412 ?rl1412
          case yl1412 => (intro wz hz; go_simp; first | done | with_reducible rfl)
          try simp only [Act.put, List.setIfInBounds_toArray, List.set_cons_zero, List.set_cons_succ]
          refine take_op (i := 13) (v := ?vl1413) rfl (by kernel_rfl) (by kernel_rfl) (by kernel_rfl) (fun _ _ _ h => h) rfl hHeld ?yl1413 ?rl1413
          case yl1413 => (intro wz hz; go_simp; first | done | with_reducible rfl)
          try simp only [Act.put, List.setIfInBounds_toArray, List.set_cons_zero, List.set_cons_succ]
          refine take_op (i := 14) (v := ?vl1414) rfl (by kernel_rfl) (by kernel_rfl) (by kernel_rfl) (fun _ _ _ h => h) rfl hHeld ?yl1414 ?rl1414
          case yl1414 => (intro wz hz; go_simp; first | done | with_reducible rfl)
          try simp only [Act.put, List.setIfInBounds_toArray, List.set_cons_zero, List.set_cons_succ]
          refine wpAnyH_done (by kernel_rfl) ?_ _
          refine NoPanic.normal ?_
          clear hHeld
          go_wp2_with fail
          go_meet
          case rel => exact ⟨rfl, BV14⟩
        case g10b =>
          intro K hK
          obtain ⟨V15, hr15, l15, mm15, b15⟩ := lit_conv wX V9 k9 97 (by omega) (by omega) LA9.out BV9.out
          have BV15 : Hid (Below wX.heap.size wX V15) := (show Below wX.heap.size wX V15 from b15)
          have LA15 : Hid (litC wX V15 k9 97) := (show litC wX V15 k9 97 from l15)
          have LX15 : Hid (litB wX V15 k2 120) := (show litB wX V15 k2 120 from LX9.out.mark mm15 hne9)
          refine wp_convert_run (w' := V15) 23 23 (.tmp 60) rfl rfl hr15 ?_
          refine hK.out _ _ BV15.out (fun hHeld => ?_)
          clear hr15 l15 mm15 b15
          clear hK K
          try simp only [Act.put, List.setIfInBounds_toArray, List.set_cons_zero, List.set_cons_succ]
          refine take_pair (i := 2) (j := 6) rfl rfl (by kernel_rfl) rfl rfl ?g16a ?g16b
          case g16a =>
            intro K hK
            obtain ⟨V17, hr17, l17, mm17, b17⟩ := lit_conv wX V15 k2 120 (by omega) (by omega) LX15.out BV15.out
            have BV17 : Hid (Below wX.heap.size wX V17) := (show Below wX.heap.size wX V17 from b17)
            have LX17 : Hid (litC wX V17 k2 120) := (show litC wX V17 k2 120 from l17)
            have LA17 : Hid (litC wX V17 k9 97) := (show litC wX V17 k9 97 from LA15.out.mark mm17)
            refine wp_convert_run (w' := V17) 23 23 (.tmp 57) rfl rfl hr17 ?_
            refine hK.out _ _ BV17.out (fun hHeld => ?_)
            clear hr17 l17 mm17 b17
            clear hK K
            try simp only [Act.put, List.setIfInBounds_toArray, List.set_cons_zero, List.set_cons_succ]
            refine take_one (i := 6) rfl (by kernel_rfl) rfl (fun K hK => ?_)
            have XS18 := show_nil 3 (.slice a 3 cap) (.slice (some ⟨k9, 0, none⟩) 1 1) x3 [97] V17 (PX.out V17 BV17.out).1 (Or.inl LA17.out.2.2) (PX.out V17 BV17.out).2 (by omega) (fun i hi => by have := HX3.out i hi; omega)
            go_simp
            refine Calls.mono XS18 ?_
            rintro e V18 ⟨hsh, bb18⟩
            rcases hsh with ⟨hno, _⟩ | ⟨_, q18, sv, hpos18, rfl, hsp18⟩
            · exact absurd ((mayB_is x3 3).2 x3_may) (by rw [hno]; decide)
            obtain ⟨as18, cs18, hs18, _⟩ := (id hsp18 : spotsAt V18 sv (shM x3 3 [97] q18) (shY x3 3 [97] q18))
            subst hs18
            have LA18 : Hid (spotsAt V18 (.slice as18 (shM x3 3 [97] q18) cs18) (shM x3 3 [97] q18) (shY x3 3 [97] q18)) := (show spotsAt V18 (.slice as18 (shM x3 3 [97] q18) cs18) (shM x3 3 [97] q18) (shY x3 3 [97] q18) from hsp18)
            have HQ18 : Hid (posAt x3 3 [97] q18) := (show posAt x3 3 [97] q18 from hpos18)
            have BV18 : Hid (Below wX.heap.size wX V18) := (show Below wX.heap.size wX V18 from BV17.out.trans (bb18.mono BV17.out.size))
            have LX18 : Hid (litC wX V18 k2 120) := (show litC wX V18 k2 120 from LX17.out.step bb18)
            refine hK.out _ _ BV18.out (fun hHeld => ?_)
            clear XS18 hsp18 hpos18 bb18
            clear hK K
            try simp only [Act.put, List.setIfInBounds_toArray, List.set_cons_zero, List.set_cons_succ]
            have XL19 := look_no x3_may HQ18.out (by omega) HX3.out (.slice as18 (shM x3 3 [97] q18) cs18) (.slice (some ⟨k2, 0, none⟩) 1 1) V18 LA18.out (Or.inl LX18.out.2.2) (PX.out V18 BV18.out).2 (x3_ax q18 HQ18.out _)
            rw [HRK.out, ← seG_row] at XL19
            refine take_one (i := 7) rfl (by kernel_rfl) rfl (fun K hK => ?_)
            go_simp
            refine Calls.mono XL19 ?_
            rintro e V19 ⟨rfl, bb19⟩
            have BV19 : Below wX.heap.size wX V19 := BV18.out.trans (bb19.mono BV18.out.size)
            refine hK.out _ _ BV19 (fun hHeld => ?_)
            clear hK K XL19
            try simp only [Act.put, List.setIfInBounds_toArray, List.set_cons_zero, List.set_cons_succ]
            refine take_op (i := 8) (v := ?vl198) rfl (by kernel_rfl) (by kernel_rfl) (by kernel_rfl) (fun _ _ _ h => h) rfl hHeld ?yl198 ?rl198
            case yl198 => (intro wz hz; go_simp; first | done | with_reducible rfl)
            try simp only [Act.put, List.setIfInBounds_toArray, List.set_cons_zero, List.set_cons_succ]
            refine take_op (i := 9) (v := ?vl199) rfl (by kernel_rfl) (by kernel_rfl) (by kernel_rfl) (fun _ _ _ h => h) rfl hHeld ?yl199 ?rl199
            case yl199 => (intro wz hz; go_simp; first | done | with_reducible rfl)
            try simp only [Act.put, List.setIfInBounds_toArray, List.set_cons_zero, List.set_cons_succ]
            refine take_op (i := 10) (v := ?vl1910) rfl (by kernel_rfl) (by kernel_rfl) (by kernel_rfl) (fun _ _ _ h => h) rfl hHeld ?yl1910 ?rl1910
            case yl1910 => (intro wz hz; go_simp; first | done | with_reducible rfl)
            try simp only [Act.put, List.setIfInBounds_toArray, List.set_cons_zero, List.set_cons_succ]
            refine take_op (i := 11) (v := ?vl1911) rfl (by kernel_rfl) (by kernel_rfl) (by kernel_rfl) (fun _ _ _ h => h) rfl hHeld ?yl1911 ?rl1911
            case yl1911 => (intro wz hz; go_simp; first | done | with_reducible rfl)
            try simp only [Act.put, List.setIfInBounds_toArray, List.set_cons_zero, List.set_cons_succ]
            refine take_op (i := 12) (v := ?vl1912) rfl (by kernel_rfl) (by kernel_rfl) (by kernel_rfl) (fun _ _ _ h => h) rfl hHeld ?yl1912 ?rl1912
            case yl1912 => (intro wz hz; go_simp; first | done | with_reducible rfl)
            try simp only [Act.put, List.setIfInBounds_toArray, List.set_cons_zero, List.set_cons_succ]
            refine take_op (i := 13) (v := ?vl1913) rfl (by kernel_rfl) (by kernel_rfl) (by kernel_rfl) (fun _ _ _ h => h) rfl hHeld ?yl1913 ?rl1913
            case yl1913 => (intro wz hz; go_simp; first | done | with_reducible rfl)
            try simp only [Act.put, List.setIfInBounds_toArray, List.set_cons_zero, List.set_cons_succ]
            refine take_op (i := 14) (v := ?vl1914) rfl (by kernel_rfl) (by kernel_rfl) (by kernel_rfl) (fun _ _ _ h => h) rfl hHeld ?yl1914 ?rl1914
            case yl1914 => (intro wz hz; go_simp; first | done | with_reducible rfl)
            try simp only [Act.put, List.setIfInBounds_toArray, List.set_cons_zero, List.set_cons_succ]
            refine wpAnyH_done (by kernel_rfl) ?_ _
            refine NoPanic.normal ?_
            clear hHeld
            go_wp2_with fail
            go_meet
            case rel => exact ⟨rfl, BV19⟩
          case g16b =>
            intro K hK
            have XS20 := show_nil 3 (.slice a 3 cap) (.slice (some ⟨k9, 0, none⟩) 1 1) x3 [97] V15 (PX.out V15 BV15.out).1 (Or.inl LA15.out.2.2) (PX.out V15 BV15.out).2 (by omega) (fun i hi => by have := HX3.out i hi; omega)
            go_simp
            refine Calls.mono XS20 ?_
            rintro e V20 ⟨hsh, bb20⟩
            rcases hsh with ⟨hno, _⟩ | ⟨_, q20, sv, hpos20, rfl, hsp20⟩
            · exact absurd ((mayB_is x3 3).2 x3_may) (by rw [hno]; decide)
            obtain ⟨as20, cs20, hs20, _⟩ := (id hsp20 : spotsAt V20 sv (shM x3 3 [97] q20) (shY x3 3 [97] q20))
            subst hs20
            have LA20 : Hid (spotsAt V20 (.slice as20 (shM x3 3 [97] q20) cs20) (shM x3 3 [97] q20) (shY x3 3 [97] q20)) := (show spotsAt V20 (.slice as20 (shM x3 3 [97] q20) cs20) (shM x3 3 [97] q20) (shY x3 3 [97] q20) from hsp20)
            have HQ20 : Hid (posAt x3 3 [97] q20) := (show posAt x3 3 [97] q20 from hpos20)
            have BV20 : Hid (Below wX.heap.size wX V20) := (show Below wX.heap.size wX V20 from BV15.out.trans (bb20.mono BV15.out.size))
            have LX20 : Hid (litB wX V20 k2 120) := (show litB wX V20 k2 120 from LX15.out.step bb20)
            refine hK.out _ _ BV20.out (fun hHeld => ?_)
            clear XS20 hsp20 hpos20 bb20
            clear hK K
            try simp only [Act.put, List.setIfInBounds_toArray, List.set_cons_zero, List.set_cons_succ]
            refine take_one (i := 2) rfl (by kernel_rfl) rfl (fun K hK => ?_)
            obtain ⟨V21, hr21, l21, mm21, b21⟩ := lit_conv wX V20 k2 120 (by omega) (by omega) LX20.out BV20.out
            have BV21 : Hid (Below wX.heap.size wX V21) := (show Below wX.heap.size wX V21 from b21)
            have LX21 : Hid (litC wX V21 k2 120) := (show litC wX V21 k2 120 from l21)
            have LA21 : Hid (spotsAt V21 (.slice as20 (shM x3 3 [97] q20) cs20) (shM x3 3 [97] q20) (shY x3 3 [97] q20)) := (show spotsAt V21 (.slice as20 (shM x3 3 [97] q20) cs20) (shM x3 3 [97] q20) (shY x3 3 [97] q20) from LA20.out.cells mm21.size mm21.cell)
            refine wp_convert_run (w' := V21) 23 23 (.tmp 57) rfl rfl hr21 ?_
            refine hK.out _ _ BV21.out (fun hHeld => ?_)
            clear hr21 l21 mm21 b21
            clear hK K
            try simp only [Act.put, List.setIfInBounds_toArray, List.set_cons_zero, List.set_cons_succ]
            have XL22 := look_no x3_may HQ20.out (by omega) HX3.out (.slice as20 (shM x3 3 [97] q20) cs20) (.slice (some ⟨k2, 0, none⟩) 1 1) V21 LA21.out (Or.inl LX21.out.2.2) (PX.out V21 BV21.out).2 (x3_ax q20 HQ20.out _)
            rw [HRK.out, ← seG_row] at XL22
            refine take_one (i := 7) rfl (by kernel_rfl) rfl (fun K hK => ?_)
            go_simp
            refine Calls.mono XL22 ?_
            rintro e V22 ⟨rfl, bb22⟩
            have BV22 : Below wX.heap.size wX V22 := BV21.out.trans (bb22.mono BV21.out.size)
            refine hK.out _ _ BV22 (fun hHeld => ?_)
            clear hK K XL22
            try simp only [Act.put, List.setIfInBounds_toArray, List.set_cons_zero, List.set_cons_succ]
            refine take_op (i := 8) (v := ?vl228) rfl (by kernel_rfl) (by kernel_rfl) (by kernel_rfl) (fun _ _ _ h => h) rfl hHeld ?yl228 ?rl228
            case yl228 => (intro wz hz; go_simp; first | done | with_reducible rfl)
            try simp only [Act.put, List.setIfInBounds_toArray, List.set_cons_zero, List.set_cons_succ]
            refine take_op (i := 9) (v := ?vl229) rfl (by kernel_rfl) (by kernel_rfl) (by kernel_rfl) (fun _ _ _ h => h) rfl hHeld ?yl229 ?rl229
            case yl229 => (intro wz hz; go_simp; first | done | with_reducible rfl)
            try simp only [Act.put, List.setIfInBounds_toArray, List.set_cons_zero, List.set_cons_succ]
            refine take_op (i := 10) (v := ?vl2210) rfl (by kernel_rfl) (by kernel_rfl) (by kernel_rfl) (fun _ _ _ h => h) rfl hHeld ?yl2210 ?rl2210
            case yl2210 => (intro wz hz; go_simp; first | done | with_reducible rfl)
            try simp only [Act.put, List.setIfInBounds_toArray, List.set_cons_zero, List.set_cons_succ]
            refine take_op (i := 11) (v := ?vl2211) rfl (by kernel_rfl) (by kernel_rfl) (by kernel_rfl) (fun _ _ _ h => h) rfl hHeld ?yl2211 ?rl2211
            case yl2211 => (intro wz hz; go_simp; first | done | with_reducible rfl)
            try simp only [Act.put, List.setIfInBounds_toArray, List.set_cons_zero, List.set_cons_succ]
            refine take_op (i := 12) (v := ?vl2212) rfl (by kernel_rfl) (by kernel_rfl) (by kernel_rfl) (fun _ _ _ h => h) rfl hHeld ?yl2212 ?rl2212
            case yl2212 => (intro wz hz; go_simp; first | done | with_reducible rfl)
            try simp only [Act.put, List.setIfInBounds_toArray, List.set_cons_zero, List.set_cons_succ]
            refine take_op (i := 13) (v := ?vl2213) rfl (by kernel_rfl) (by kernel_rfl) (by kernel_rfl) (fun _ _ _ h => h) rfl hHeld ?yl2213 ?rl2213
            case yl2213 => (intro wz hz; go_simp; first | done | with_reducible rfl)
            try simp only [Act.put, List.setIfInBounds_toArray, List.set_cons_zero, List.set_cons_succ]
            refine take_op (i := 14) (v := ?vl2214) rfl (by kernel_rfl) (by kernel_rfl) (by kernel_rfl) (fun _ _ _ h => h) rfl hHeld ?yl2214 ?rl2214
            case yl2214 => (intro wz hz; go_simp; first | done | with_reducible rfl)
            try simp only [Act.put, List.setIfInBounds_toArray, List.set_cons_zero, List.set_cons_succ]
            refine wpAnyH_done (by kernel_rfl) ?_ _
            refine NoPanic.normal ?_
            clear hHeld
            go_wp2_with fail
            go_meet
            case rel => exact ⟨rfl, BV22⟩
    case g1b =>
      intro K hK
      obtain ⟨V23, hr23, l23, bb23, b23⟩ := lit_build wX wq 97 Bq.out
      obtain ⟨k23, hk23⟩ : ∃ k, k = wq.heap.size := ⟨_, rfl⟩
      rw [← hk23] at hr23 l23
      have BV23 : Hid (Below wX.heap.size wX V23) := (show Below wX.heap.size wX V23 from b23)
      have LA23 : Hid (litB wX V23 k23 97) := (show litB wX V23 k23 97 from l23)
      refine wp_of_run (w' := V23) (exec_bslice1' 23 1 0 (.const (.int .u8 97)) _ rfl rfl hr23) ?_
      refine hK.out _ _ BV23.out (fun hHeld => ?_)
      clear hr23 l23 bb23 b23 hk23
      clear hK K
      try simp only [Act.put, List.setIfInBounds_toArray, List.set_cons_zero, List.set_cons_succ]
      refine take_pair (i := 1) (j := 5) rfl rfl (by kernel_rfl) rfl rfl ?g24a ?g24b
      case g24a =>
        intro K hK
        obtain ⟨V25, hr25, l25, bb25, b25⟩ := lit_build wX V23 120 BV23.out
        obtain ⟨k25, hk25⟩ : ∃ k, k = V23.heap.size := ⟨_, rfl⟩
        rw [← hk25] at hr25 l25
        have BV25 : Hid (Below wX.heap.size wX V25) := (show Below wX.heap.size wX V25 from b25)
        have LX25 : Hid (litB wX V25 k25 120) := (show litB wX V25 k25 120 from l25)
        have LA25 : Hid (litB wX V25 k23 97) := (show litB wX V25 k23 97 from LA23.out.step bb25)
        have hne25 : ¬ k25 = k23 := by have := LA23.out.lt; omega
        refine wp_of_run (w' := V25) (exec_bslice1' 23 1 0 (.const (.int .u8 120)) _ rfl rfl hr25) ?_
        refine hK.out _ _ BV25.out (fun hHeld => ?_)
        clear hr25 l25 bb25 b25 hk25
        clear hK K
        try simp only [Act.put, List.setIfInBounds_toArray, List.set_cons_zero, List.set_cons_succ]
        refine take_pair (i := 2) (j := 5) rfl rfl (by kernel_rfl) rfl rfl ?g26a ?g26b
        case g26a =>
          intro K hK
          obtain ⟨V27, hr27, l27, mm27, b27⟩ := lit_conv wX V25 k25 120 (by omega) (by omega) LX25.out BV25.out
          have BV27 : Hid (Below wX.heap.size wX V27) := (show Below wX.heap.size wX V27 from b27)
          have LX27 : Hid (litC wX V27 k25 120) := (show litC wX V27 k25 120 from l27)
          have LA27 : Hid (litB wX V27 k23 97) := (show litB wX V27 k23 97 from LA25.out.mark mm27 (fun e => hne25 e.symm))
          refine wp_convert_run (w' := V27) 23 23 (.tmp 57) rfl rfl hr27 ?_
          refine hK.out _ _ BV27.out (fun hHeld => ?_)
          clear hr27 l27 mm27 b27
          clear hK K
          try simp only [Act.put, List.setIfInBounds_toArray, List.set_cons_zero, List.set_cons_succ]
          refine take_one (i := 5) rfl (by kernel_rfl) rfl (fun K hK => ?_)
          obtain ⟨V28, hr28, l28, mm28, b28⟩ := lit_conv wX V27 k23 97 (by omega) (by omega) LA27.out BV27.out
          have BV28 : Hid (Below wX.heap.size wX V28) := (show Below wX.heap.size wX V28 from b28)
          have LA28 : Hid (litC wX V28 k23 97) := (show litC wX V28 k23 97 from l28)
          have LX28 : Hid (litC wX V28 k25 120) := (show litC wX V28 k25 120 from LX27.out.mark mm28)
          refine wp_convert_run (w' := V28) 23 23 (.tmp 60) rfl rfl hr28 ?_
          refine hK.out _ _ BV28.out (fun hHeld => ?_)
          clear hr28 l28 mm28 b28
          clear hK K
          try simp only [Act.put, List.setIfInBounds_toArray, List.set_cons_zero, List.set_cons_succ]
          refine take_one (i := 6) rfl (by kernel_rfl) rfl (fun K hK => ?_)
          have XS29 := show_nil 3 (.slice a 3 cap) (.slice (some ⟨k23, 0, none⟩) 1 1) x3 [97] V28 (PX.out V28 BV28.out).1 (Or.inl LA28.out.2.2) (PX.out V28 BV28.out).2 (by omega) (fun i hi => by have := HX3.out i hi; omega)
          go_simp
          refine Calls.mono XS29 ?_
          rintro e V29 ⟨hsh, bb29⟩
          rcases hsh with ⟨hno, _⟩ | ⟨_, q29, sv, hpos29, rfl, hsp29⟩
          · exact absurd ((mayB_is x3 3).2 x3_may) (by rw [hno]; decide)
          obtain ⟨as29, cs29, hs29, _⟩ := (id hsp29 : spotsAt V29 sv (shM x3 3 [97] q29) (shY x3 3 [97] q29))
          subst hs29
          have LA29 : Hid (spotsAt V29 (.slice as29 (shM x3 3 [97] q29) cs29) (shM x3 3 [97] q29) (shY x3 3 [97] q29)) := (show spotsAt V29 (.slice as29 (shM x3 3 [97] q29) cs29) (shM x3 3 [97] q29) (shY x3 3 [97] q29) from hsp29)
          have HQ29 : Hid (posAt x3 3 [97] q29) := (show posAt x3 3 [97] q29 from hpos29)
          have BV29 : Hid (Below wX.heap.size wX V29) := (show Below wX.heap.size wX V29 from BV28.out.trans (bb29.mono BV28.out.size))
          have LX29 : Hid (litC wX V29 k25 120) := (show litC wX V29 k25 120 from LX28.out.step bb29)
          refine hK.out _ _ BV29.out (fun hHeld => ?_)
          clear XS29 hsp29 hpos29 bb29
          clear hK K
          try simp only [Act.put, List.setIfInBounds_toArray, List.set_cons_zero, List.set_cons_succ]
          have XL30 := look_no x3_may HQ29.out (by omega) HX3.out (.slice as29 (shM x3 3 [97] q29) cs29) (.slice (some ⟨k25, 0, none⟩) 1 1) V29 LA29.out (Or.inl LX29.out.2.2) (PX.out V29 BV29.out).2 (x3_ax q29 HQ29.out _)
          rw [HRK.out, ← seG_row] at XL30
          refine take_one (i := 7) rfl (by kernel_rfl) rfl (fun K hK => ?_)
          go_simp
          refine Calls.mono XL30 ?_
          rintro e V30 ⟨rfl, bb30⟩
          have BV30 : Below wX.heap.size wX V30 := BV29.out.trans (bb30.mono BV29.out.size)
          refine hK.out _ _ BV30 (fun hHeld => ?_)
          clear hK K XL30
          try simp only [Act.put, List.setIfInBounds_toArray, List.set_cons_zero, List.set_cons_succ]
          refine take_op (i := 8) (v := ?vl308) rfl (by kernel_rfl) (by kernel_rfl) (by kernel_rfl) (fun _ _ _ h => h) rfl hHeld ?yl308 ?rl308
          case yl308 => (intro wz hz; go_simp; first | done | with_reducible rfl)
          try simp only [Act.put, List.setIfInBounds_toArray, List.set_cons_zero, List.set_cons_succ]
          refine take_op (i := 9) (v := ?vl309) rfl (by kernel_rfl) (by kernel_rfl) (by kernel_rfl) (fun _ _ _ h => h) rfl hHeld ?yl309 ?rl309
          case yl309 => (intro wz hz; go_simp; first | done | with_reducible rfl)
          try simp only [Act.put, List.setIfInBounds_toArray, List.set_cons_zero, List.set_cons_succ]
          refine take_op (i := 10) (v := ?vl3010) rfl (by kernel_rfl) (by kernel_rfl) (by kernel_rfl) (fun _ _ _ h => h) rfl hHeld ?yl3010 ?rl3010
          case yl3010 => (intro wz hz; go_simp; first | done | with_reducible rfl)
          try simp only [Act.put, List.setIfInBounds_toArray, List.set_cons_zero, List.set_cons_succ]
          refine take_op (i := 11) (v := ?vl3011) rfl (by kernel_rfl) (by kernel_rfl) (by kernel_rfl) (fun _ _ _ h => h) rfl hHeld ?yl3011 ?rl3011
          case yl3011 => (intro wz hz; go_simp; first | done | with_reducible rfl)
          try simp only [Act.put, List.setIfInBounds_toArray, List.set_cons_zero, List.set_cons_succ]
          refine take_op (i := 12) (v := ?vl3012) rfl (by kernel_rfl) (by kernel_rfl) (by kernel_rfl) (fun _ _ _ h => h) rfl hHeld ?yl3012 ?rl3012
          case yl3012 => (intro wz hz; go_simp; first | done | with_reducible rfl)
          try simp only [Act.put, List.setIfInBounds_toArray, List.set_cons_zero, List.set_cons_succ]
          refine take_op (i := 13) (v := ?vl3013) rfl (by kernel_rfl) (by kernel_rfl) (by kernel_rfl) (fun _ _ _ h => h) rfl hHeld ?yl3013 ?rl3013
          case yl3013 => (intro wz hz; go_simp; first | done | with_reducible rfl)
          try simp only [Act.put, List.setIfInBounds_toArray, List.set_cons_zero, List.set_cons_succ]
          refine take_op (i := 14) (v := ?vl3014) rfl (by kernel_rfl) (by kernel_rfl) (by kernel_rfl) (fun _ _ _ h => h) rfl hHeld ?yl3014 ?rl3014
          case yl3014 => (intro wz hz; go_simp; first | done | with_reducible rfl)
          try simp only [Act.put, List.setIfInBounds_toArray, List.set_cons_zero, List.set_cons_succ]
          refine wpAnyH_done (by kernel_rfl) ?_ _
          refine NoPanic.normal ?_
          clear hHeld
          go_wp2_with fail
          go_meet
          case rel => exact ⟨rfl, BV30⟩
        case g26b =>
          intro K hK
          obtain ⟨V31, hr31, l31, mm31, b31⟩ := lit_conv wX V25 k23 97 (by omega) (by omega) LA25.out BV25.out
          have BV31 : Hid (Below wX.heap.size wX V31) := (show Below wX.heap.size wX V31 from b31)
          have LA31 : Hid (litC wX V31 k23 97) := (show litC wX V31 k23 97 from l31)
          have LX31 : Hid (litB wX V31 k25 120) := (show litB wX V31 k25 120 from LX25.out.mark mm31 hne25)
          refine wp_convert_run (w' := V31) 23 23 (.tmp 60) rfl rfl hr31 ?_
          refine hK.out _ _ BV31.out (fun hHeld => ?_)
          clear hr31 l31 mm31 b31
          clear hK K
          try simp only [Act.put, List.setIfInBounds_toArray, List.set_cons_zero, List.set_cons_succ]
          refine take_pair (i := 2) (j := 6) rfl rfl (by kernel_rfl) rfl rfl ?g32a ?g32b
          case g32a =>
            intro K hK
            obtain ⟨V33, hr33, l33, mm33, b33⟩ := lit_conv wX V31 k25 120 (by omega) (by omega) LX31.out BV31.out
            have BV33 : Hid (Below wX.heap.size wX V33) := (show Below wX.heap.size wX V33 from b33)
            have LX33 : Hid (litC wX V33 k25 120) := (show litC wX V33 k25 120 from l33)
            have LA33 : Hid (litC wX V33 k23 97) := (show litC wX V33 k23 97 from LA31.out.mark mm33)
            refine wp_convert_run (w' := V33) 23 23 (.tmp 57) rfl rfl hr33 ?_
            refine hK.out _ _ BV33.out (fun hHeld => ?_)
            clear hr33 l33 mm33 b33
            clear hK K
            try simp only [Act.put, List.setIfInBounds_toArray, List.set_cons_zero, List.set_cons_succ]
            refine take_one (i := 6) rfl (by kernel_rfl) rfl (fun K hK => ?_)
            have XS34 := show_nil 3 (.slice a 3 cap) (.slice (some ⟨k23, 0, none⟩) 1 1) x3 [97] V33 (PX.out V33 BV33.out).1 (Or.inl LA33.out.2.2) (PX.out V33 BV33.out).2 (by omega) (fun i hi => by have := HX3.out i hi; omega)
            go_simp
            refine Calls.mono XS34 ?_
            rintro e V34 ⟨hsh, bb34⟩
            rcases hsh with ⟨hno, _⟩ | ⟨_, q34, sv, hpos34, rfl, hsp34⟩
            · exact absurd ((mayB_is x3 3).2 x3_may) (by rw [hno]; decide)
            obtain ⟨as34, cs34, hs34, _⟩ := (id hsp34 : spotsAt V34 sv (shM x3 3 [97] q34) (shY x3 3 [97] q34))
            subst hs34
            have LA34 : Hid (spotsAt V34 (.slice as34 (shM x3 3 [97] q34) cs34) (shM x3 3 [97] q34) (shY x3 3 [97] q34)) := (show spotsAt V34 (.slice as34 (shM x3 3 [97] q34) cs34) (shM x3 3 [97] q34) (shY x3 3 [97] q34) from hsp34)
            have HQ34 : Hid (posAt x3 3 [97] q34) := (show posAt x3 3 [97] q34 from hpos34)
            have BV34 : Hid (Below wX.heap.size wX V34) := (show Below wX.heap.size wX V34 from BV33.out.trans (bb34.mono BV33.out.size))
            have LX34 : Hid (litC wX V34 k25 120) := (show litC wX V34 k25 120 from LX33.out.step bb34)
            refine hK.out _ _ BV34.out (fun hHeld => ?_)
            clear XS34 hsp34 hpos34 bb34
            clear hK K
            try simp only [Act.put, List.setIfInBounds_toArray, List.set_cons_zero, List.set_cons_succ]
            have XL35 := look_no x3_may HQ34.out (by omega) HX3.out (.slice as34 (shM x3 3 [97] q34) cs34) (.slice (some ⟨k25, 0, none⟩) 1 1) V34 LA34.out (Or.inl LX34.out.2.2) (PX.out V34 BV34.out).2 (x3_ax q34 HQ34.out _)
            rw [HRK.out, ← seG_row] at XL35
            refine take_one (i := 7) rfl (by kernel_rfl) rfl (fun K hK => ?_)
            go_simp
            refine Calls.mono XL35 ?_
            rintro e V35 ⟨rfl, bb35⟩
            have BV35 : Below wX.heap.size wX V35 := BV34.out.trans (bb35.mono BV34.out.size)
            refine hK.out _ _ BV35 (fun hHeld => ?_)
            clear hK K XL35
            try simp only [Act.put, List.setIfInBounds_toArray, List.set_cons_zero, List.set_cons_succ]
            refine take_op (i := 8) (v := ?vl358) rfl (by kernel_rfl) (by kernel_rfl) (by kernel_rfl) (fun _ _ _ h => h) rfl hHeld ?yl358 ?rl358
            case yl358 => (intro wz hz; go_simp; first | done | with_reducible rfl)
            try simp only [Act.put, List.setIfInBounds_toArray, List.set_cons_zero, List.set_cons_succ]
            refine take_op (i := 9) (v := ?vl359) rfl (by kernel_rfl) (by kernel_rfl) (by kernel_rfl) (fun _ _ _ h => h) rfl hHeld ?yl359 ?rl359
            case yl359 => (intro wz hz; go_simp; first | done | with_reducible rfl)
            try simp only [Act.put, List.setIfInBounds_toArray, List.set_cons_zero, List.set_cons_succ]
            refine take_op (i := 10) (v := ?vl3510) rfl (by kernel_rfl) (by kernel_rfl) (by kernel_rfl) (fun _ _ _ h => h) rfl hHeld ?yl3510 ?rl3510
            case yl3510 => (intro wz hz; go_simp; first | done | with_reducible rfl)
            try simp only [Act.put, List.setIfInBounds_toArray, List.set_cons_zero, List.set_cons_succ]
            refine take_op (i := 11) (v := ?vl3511) rfl (by kernel_rfl) (by kernel_rfl) (by kernel_rfl) (fun _ _ _ h => h) rfl hHeld ?yl3511 ?rl3511
            case yl3511 => (intro wz hz; go_simp; first | done | with_reducible rfl)
            try simp only [Act.put, List.setIfInBounds_toArray, List.set_cons_zero, List.set_cons_succ]
            refine take_op (i := 12) (v := ?vl3512) rfl (by kernel_rfl) (by kernel_rfl) (by kernel_rfl) (fun _ _ _ h => h) rfl hHeld ?yl3512 ?rl3512
            case yl3512 => (intro wz hz; go_simp; first | done | with_reducible rfl)
            try simp only [Act.put, List.setIfInBounds_toArray, List.set_cons_zero, List.set_cons_succ]
            refine take_op (i := 13) (v := ?vl3513) rfl (by kernel_rfl) (by kernel_rfl) (by kernel_rfl) (fun _ _ _ h => h) rfl hHeld ?yl3513 ?rl3513
            case yl3513 => (intro wz hz; go_simp; first | done | with_reducible rfl)
            try simp only [Act.put, List.setIfInBounds_toArray, List.set_cons_zero, List.set_cons_succ]
            refine take_op (i := 14) (v := ?vl3514) rfl (by kernel_rfl) (by kernel_rfl) (by kernel_rfl) (fun _ _ _ h => h) rfl hHeld ?yl3514 ?rl3514
            case yl3514 => (intro wz hz; go_simp; first | done | with_reducible rfl)
            try simp only [Act.put, List.setIfInBounds_toArray, List.set_cons_zero, List.set_cons_succ]
            refine wpAnyH_done (by kernel_rfl) ?_ _
            refine NoPanic.normal ?_
            clear hHeld
            go_wp2_with fail
            go_meet
            case rel => exact ⟨rfl, BV35⟩
          case g32b =>
            intro K hK
            have XS36 := show_nil 3 (.slice a 3 cap) (.slice (some ⟨k23, 0, none⟩) 1 1) x3 [97] V31 (PX.out V31 BV31.out).1 (Or.inl LA31.out.2.2) (PX.out V31 BV31.out).2 (by omega) (fun i hi => by have := HX3.out i hi; omega)
            go_simp
            refine Calls.mono XS36 ?_
            rintro e V36 ⟨hsh, bb36⟩
            rcases hsh with ⟨hno, _⟩ | ⟨_, q36, sv, hpos36, rfl, hsp36⟩
            · exact absurd ((mayB_is x3 3).2 x3_may) (by rw [hno]; decide)
            obtain ⟨as36, cs36, hs36, _⟩ := (id hsp36 : spotsAt V36 sv (shM x3 3 [97] q36) (shY x3 3 [97] q36))
            subst hs36
            have LA36 : Hid (spotsAt V36 (.slice as36 (shM x3 3 [97] q36) cs36) (shM x3 3 [97] q36) (shY x3 3 [97] q36)) := (show spotsAt V36 (.slice as36 (shM x3 3 [97] q36) cs36) (shM x3 3 [97] q36) (shY x3 3 [97] q36) from hsp36)
            have HQ36 : Hid (posAt x3 3 [97] q36) := (show posAt x3 3 [97] q36 from hpos36)
            have BV36 : Hid (Below wX.heap.size wX V36) := (show Below wX.heap.size wX V36 from BV31.out.trans (bb36.mono BV31.out.size))
            have LX36 : Hid (litB wX V36 k25 120) := (show litB wX V36 k25 120 from LX31.out.step bb36)
            refine hK.out _ _ BV36.out (fun hHeld => ?_)
            clear XS36 hsp36 hpos36 bb36
            clear hK K
            try simp only [Act.put, List.setIfInBounds_toArray, List.set_cons_zero, List.set_cons_succ]
            refine take_one (i := 2) rfl (by kernel_rfl) rfl (fun K hK => ?_)
            obtain ⟨V37, hr37, l37, mm37, b37⟩ := lit_conv wX V36 k25 120 (by omega) (by omega) LX36.out BV36.out
            have BV37 : Hid (Below wX.heap.size wX V37) := (show Below wX.heap.size wX V37 from b37)
            have LX37 : Hid (litC wX V37 k25 120) := (show litC wX V37 k25 120 from l37)
            have LA37 : Hid (spotsAt V37 (.slice as36 (shM x3 3 [97] q36) cs36) (shM x3 3 [97] q36) (shY x3 3 [97] q36)) := (show spotsAt V37 (.slice as36 (shM x3 3 [97] q36) cs36) (shM x3 3 [97] q36) (shY x3 3 [97] q36) from LA36.out.cells mm37.size mm37.cell)
            refine wp_convert_run (w' := V37) 23 23 (.tmp 57) rfl rfl hr37 ?_
            refine hK.out _ _ BV37.out (fun hHeld => ?_)
            clear hr37 l37 mm37 b37
            clear hK K
            try simp only [Act.put, List.setIfInBounds_toArray, List.set_cons_zero, List.set_cons_succ]
            have XL38 := look_no x3_may HQ36.out (by omega) HX3.out (.slice as36 (shM x3 3 [97] q36) cs36) (.slice (some ⟨k25, 0, none⟩) 1 1) V37 LA37.out (Or.inl LX37.out.2.2) (PX.out V37 BV37.out).2 (x3_ax q36 HQ36.out _)
            rw [HRK.out, ← seG_row] at XL38
            refine take_one (i := 7) rfl (by kernel_rfl) rfl (fun K hK => ?_)
            go_simp
            refine Calls.mono XL38 ?_
            rintro e V38 ⟨rfl, bb38⟩
            have BV38 : Below wX.heap.size wX V38 := BV37.out.trans (bb38.mono BV37.out.size)
            refine hK.out _ _ BV38 (fun hHeld => ?_)
            clear hK K XL38
            try simp only [Act.put, List.setIfInBounds_toArray, List.set_cons_zero, List.set_cons_succ]
            refine take_op (i := 8) (v := ?vl388) rfl (by kernel_rfl) (by kernel_rfl) (by kernel_rfl) (fun _ _ _ h => h) rfl hHeld ?yl388 ?rl388
            case yl388 => (intro wz hz; go_simp; first | done | with_reducible rfl)
            try simp only [Act.put, List.setIfInBounds_toArray, List.set_cons_zero, List.set_cons_succ]
            refine take_op (i := 9) (v := ?vl389) rfl (by kernel_rfl) (by kernel_rfl) (by kernel_rfl) (fun _ _ _ h => h) rfl hHeld ?yl389 ?rl389
            case yl389 => (intro wz hz; go_simp; first | done | with_reducible rfl)
            try simp only [Act.put, List.setIfInBounds_toArray, List.set_cons_zero, List.set_cons_succ]
            refine take_op (i := 10) (v := ?vl3810) rfl (by kernel_rfl) (by kernel_rfl) (by kernel_rfl) (fun _ _ _ h => h) rfl hHeld ?yl3810 ?rl3810
            case yl3810 => (intro wz hz; go_simp; first | done | with_reducible rfl)
            try simp only [Act.put, List.setIfInBounds_toArray, List.set_cons_zero, List.set_cons_succ]
            refine take_op (i := 11) (v := ?vl3811) rfl (by kernel_rfl) (by kernel_rfl) (by kernel_rfl) (fun _ _ _ h => h) rfl hHeld ?yl3811 ?rl3811
            case yl3811 => (intro wz hz; go_simp; first | done | with_reducible rfl)
            try simp only [Act.put, List.setIfInBounds_toArray, List.set_cons_zero, List.set_cons_succ]
            refine take_op (i := 12) (v := ?vl3812) rfl (by kernel_rfl) (by kernel_rfl) (by kernel_rfl) (fun _ _ _ h => h) rfl hHeld ?yl3812 ?rl3812
            case yl3812 => (intro wz hz; go_simp; first | done | with_reducible rfl)
            try simp only [Act.put, List.setIfInBounds_toArray, List.set_cons_zero, List.set_cons_succ]
            refine take_op (i := 13) (v := ?vl3813) rfl (by kernel_rfl) (by kernel_rfl) (by kernel_rfl) (fun _ _ _ h => h) rfl hHeld ?yl3813 ?rl3813
            case yl3813 => (intro wz hz; go_simp; first | done | with_reducible rfl)
            try simp only [Act.put, List.setIfInBounds_toArray, List.set_cons_zero, List.set_cons_succ]
            refine take_op (i := 14) (v := ?vl3814) rfl (by kernel_rfl) (by kernel_rfl) (by kernel_rfl) (fun _ _ _ h => h) rfl hHeld ?yl3814 ?rl3814
            case yl3814 => (intro wz hz; go_simp; first | done | with_reducible rfl)
            try simp only [Act.put, List.setIfInBounds_toArray, List.set_cons_zero, List.set_cons_succ]
            refine wpAnyH_done (by kernel_rfl) ?_ _
            refine NoPanic.normal ?_
            clear hHeld
            go_wp2_with fail
            go_meet
            case rel => exact ⟨rfl, BV38⟩
      case g24b =>
        intro K hK
        obtain ⟨V39, hr39, l39, mm39, b39⟩ := lit_conv wX V23 k23 97 (by omega) (by omega) LA23.out BV23.out
        have BV39 : Hid (Below wX.heap.size wX V39) := (show Below wX.heap.size wX V39 from b39)
        have LA39 : Hid (litC wX V39 k23 97) := (show litC wX V39 k23 97 from l39)
        refine wp_convert_run (w' := V39) 23 23 (.tmp 60) rfl rfl hr39 ?_
        refine hK.out _ _ BV39.out (fun hHeld => ?_)
        clear hr39 l39 mm39 b39
        clear hK K
        try simp only [Act.put, List.setIfInBounds_toArray, List.set_cons_zero, List.set_cons_succ]
        refine take_pair (i := 1) (j := 6) rfl rfl (by kernel_rfl) rfl rfl ?g40a ?g40b
        case g40a =>
          intro K hK
          obtain ⟨V41, hr41, l41, bb41, b41⟩ := lit_build wX V39 120 BV39.out
          obtain ⟨k41, hk41⟩ : ∃ k, k = V39.heap.size := ⟨_, rfl⟩
          rw [← hk41] at hr41 l41
          have BV41 : Hid (Below wX.heap.size wX V41) := (show Below wX.heap.size wX V41 from b41)
          have LX41 : Hid (litB wX V41 k41 120) := (show litB wX V41 k41 120 from l41)
          have LA41 : Hid (litC wX V41 k23 97) := (show litC wX V41 k23 97 from LA39.out.step bb41)
          have hne41 : ¬ k41 = k23 := by have := LA39.out.2.1; omega
          refine wp_of_run (w' := V41) (exec_bslice1' 23 1 0 (.const (.int .u8 120)) _ rfl rfl hr41) ?_
          refine hK.out _ _ BV41.out (fun hHeld => ?_)
          clear hr41 l41 bb41 b41 hk41
          clear hK K
          try simp only [Act.put, List.setIfInBounds_toArray, List.set_cons_zero, List.set_cons_succ]
          refine take_pair (i := 2) (j := 6) rfl rfl (by kernel_rfl) rfl rfl ?g42a ?g42b
          case g42a =>
            intro K hK
            obtain ⟨V43, hr43, l43, mm43, b43⟩ := lit_conv wX V41 k41 120 (by omega) (by omega) LX41.out BV41.out
            have BV43 : Hid (Below wX.heap.size wX V43) := (show Below wX.heap.size wX V43 from b43)
            have LX43 : Hid (litC wX V43 k41 120) := (show litC wX V43 k41 120 from l43)
            have LA43 : Hid (litC wX V43 k23 97) := (show litC wX V43 k23 97 from LA41.out.mark mm43)
            refine wp_convert_run (w' := V43) 23 23 (.tmp 57) rfl rfl hr43 ?_
            refine hK.out _ _ BV43.out (fun hHeld => ?_)
            clear hr43 l43 mm43 b43
            clear hK K
            try simp only [Act.put, List.setIfInBounds_toArray, List.set_cons_zero, List.set_cons_succ]
            refine take_one (i := 6) rfl (by kernel_rfl) rfl (fun K hK => ?_)
            have XS44 := show_nil 3 (.slice a 3 cap) (.slice (some ⟨k23, 0, none⟩) 1 1) x3 [97] V43 (PX.out V43 BV43.out).1 (Or.inl LA43.out.2.2) (PX.out V43 BV43.out).2 (by omega) (fun i hi => by have := HX3.out i hi; omega)
            go_simp
            refine Calls.mono XS44 ?_
            rintro e V44 ⟨hsh, bb44⟩
            rcases hsh with ⟨hno, _⟩ | ⟨_, q44, sv, hpos44, rfl, hsp44⟩
            · exact absurd ((mayB_is x3 3).2 x3_may) (by rw [hno]; decide)
            obtain ⟨as44, cs44, hs44, _⟩ := (id hsp44 : spotsAt V44 sv (shM x3 3 [97] q44) (shY x3 3 [97] q44))
            subst hs44
            have LA44 : Hid (spotsAt V44 (.slice as44 (shM x3 3 [97] q44) cs44) (shM x3 3 [97] q44) (shY x3 3 [97] q44)) := (show spotsAt V44 (.slice as44 (shM x3 3 [97] q44) cs44) (shM x3 3 [97] q44) (shY x3 3 [97] q44) from hsp44)
            have HQ44 : Hid (posAt x3 3 [97] q44) := (show posAt x3 3 [97] q44 from hpos44)
            have BV44 : Hid (Below wX.heap.size wX V44) := (show Below wX.heap.size wX V44 from BV43.out.trans (bb44.mono BV43.out.size))
            have LX44 : Hid (litC wX V44 k41 120) := (show litC wX V44 k41 120 from LX43.out.step bb44)
            refine hK.out _ _ BV44.out (fun hHeld => ?_)
            clear XS44 hsp44 hpos44 bb44
            clear hK K
            try simp only [Act.put, List.setIfInBounds_toArray, List.set_cons_zero, List.set_cons_succ]
            have XL45 := look_no x3_may HQ44.out (by omega) HX3.out (.slice as44 (shM x3 3 [97] q44) cs44) (.slice (some ⟨k41, 0, none⟩) 1 1) V44 LA44.out (Or.inl LX44.out.2.2) (PX.out V44 BV44.out).2 (x3_ax q44 HQ44.out _)
            rw [HRK.out, ← seG_row] at XL45
            refine take_one (i := 7) rfl (by kernel_rfl) rfl (fun K hK => ?_)
            go_simp
            refine Calls.mono XL45 ?_
            rintro e V45 ⟨rfl, bb45⟩
            have BV45 : Below wX.heap.size wX V45 := BV44.out.trans (bb45.mono BV44.out.size)
            refine hK.out _ _ BV45 (fun hHeld => ?_)
            clear hK K XL45
            try simp only [Act.put, List.setIfInBounds_toArray, List.set_cons_zero, List.set_cons_succ]
            refine take_op (i := 8) (v := ?vl458) rfl (by kernel_rfl) (by kernel_rfl) (by kernel_rfl) (fun _ _ _ h => h) rfl hHeld ?yl458 ?rl458
            case yl458 => (intro wz hz; go_simp; first | done | with_reducible rfl)
            try simp only [Act.put, List.setIfInBounds_toArray, List.set_cons_zero, List.set_cons_succ]
            refine take_op (i := 9) (v := ?vl459) rfl (by kernel_rfl) (by kernel_rfl) (by kernel_rfl) (fun _ _ _ h => h) rfl hHeld ?yl459 ?rl459
            case yl459 => (intro wz hz; go_simp; first | done | with_reducible rfl)
            try simp only [Act.put, List.setIfInBounds_toArray, List.set_cons_zero, List.set_cons_succ]
            refine take_op (i := 10) (v := ?vl4510) rfl (by kernel_rfl) (by kernel_rfl) (by kernel_rfl) (fun _ _ _ h => h) rfl hHeld ?yl4510 ?rl4510
            case yl4510 => (intro wz hz; go_simp; first | done | with_reducible rfl)
            try simp only [Act.put, List.setIfInBounds_toArray, List.set_cons_zero, List.set_cons_succ]
            refine take_op (i := 11) (v := ?vl4511) rfl (by kernel_rfl) (by kernel_rfl) (by kernel_rfl) (fun _ _ _ h => h) rfl hHeld ?yl4511 ?rl4511
            case yl4511 => (intro wz hz; go_simp; first | done | with_reducible rfl)
            try simp only [Act.put, List.setIfInBounds_toArray, List.set_cons_zero, List.set_cons_succ]
            refine take_op (i := 12) (v := ?vl4512) rfl (by kernel_rfl) (by kernel_rfl) (by kernel_rfl) (fun _ _ _ h => h) rfl hHeld ?yl4512 ?rl4512
            case yl4512 => (intro wz hz; go_simp; first | done | with_reducible rfl)
            try simp only [Act.put, List.setIfInBounds_toArray, List.set_cons_zero, List.set_cons_succ]
            refine take_op (i := 13) (v := ?vl4513) rfl (by kernel_rfl) (by kernel_rfl) (by kernel_rfl) (fun _ _ _ h => h) rfl hHeld ?yl4513 ?rl4513
            case yl4513 => (intro wz hz; go_simp; first | done | with_reducible rfl)
            try simp only [Act.put, List.setIfInBounds_toArray, List.set_cons_zero, List.set_cons_succ]
            refine take_op (i := 14) (v := ?vl4514) rfl (by kernel_rfl) (by kernel_rfl) (by kernel_rfl) (fun _ _ _ h => h) rfl hHeld ?yl4514 ?rl4514
            case yl4514 => (intro wz hz; go_simp; first | done | with_reducible rfl)
            try simp only [Act.put, List.setIfInBounds_toArray, List.set_cons_zero, List.set_cons_succ]
            refine wpAnyH_done (by kernel_rfl) ?_ _
            refine NoPanic.normal ?_
            clear hHeld
            go_wp2_with fail
            go_meet
            case rel => exact ⟨rfl, BV45⟩
          case g42b =>
            intro K hK
            have XS46 := show_nil 3 (.slice a 3 cap) (.slice (some ⟨k23, 0, none⟩) 1 1) x3 [97] V41 (PX.out V41 BV41.out).1 (Or.inl LA41.out.2.2) (PX.out V41 BV41.out).2 (by omega) (fun i hi => by have := HX3.out i hi; omega)
            go_simp
            refine Calls.mono XS46 ?_
            rintro e V46 ⟨hsh, bb46⟩
            rcases hsh with ⟨hno, _⟩ | ⟨_, q46, sv, hpos46, rfl, hsp46⟩
            · exact absurd ((mayB_is x3 3).2 x3_may) (by rw [hno]; decide)
            obtain ⟨as46, cs46, hs46, _⟩ := (id hsp46 : spotsAt V46 sv (shM x3 3 [97] q46) (shY x3 3 [97] q46))
            subst hs46
            have LA46 : Hid (spotsAt V46 (.slice as46 (shM x3 3 [97] q46) cs46) (shM x3 3 [97] q46) (shY x3 3 [97] q46)) := (show spotsAt V46 (.slice as46 (shM x3 3 [97] q46) cs46) (shM x3 3 [97] q46) (shY x3 3 [97] q46) from hsp46)
            have HQ46 : Hid (posAt x3 3 [97] q46) := (show posAt x3 3 [97] q46 from hpos46)
            have BV46 : Hid (Below wX.heap.size wX V46) := (show Below wX.heap.size wX V46 from BV41.out.trans (bb46.mono BV41.out.size))
            have LX46 : Hid (litB wX V46 k41 120) := (show litB wX V46 k41 120 from LX41.out.step bb46)
            refine hK.out _ _ BV46.out (fun hHeld => ?_)
            clear XS46 hsp46 hpos46 bb46
            clear hK K
            try simp only [Act.put, List.setIfInBounds_toArray, List.set_cons_zero, List.set_cons_succ]
            refine take_one (i := 2) rfl (by kernel_rfl) rfl (fun K hK => ?_)
            obtain ⟨V47, hr47, l47, mm47, b47⟩ := lit_conv wX V46 k41 120 (by omega) (by omega) LX46.out BV46.out
            have BV47 : Hid (Below wX.heap.size wX V47) := (show Below wX.heap.size wX V47 from b47)
            have LX47 : Hid (litC wX V47 k41 120) := (show litC wX V47 k41 120 from l47)
            have LA47 : Hid (spotsAt V47 (.slice as46 (shM x3 3 [97] q46) cs46) (shM x3 3 [97] q46) (shY x3 3 [97] q46)) := (show spotsAt V47 (.slice as46 (shM x3 3 [97] q46) cs46) (shM x3 3 [97] q46) (shY x3 3 [97] q46) from LA46.out.cells mm47.size mm47.cell)
            refine wp_convert_run (w' := V47) 23 23 (.tmp 57) rfl rfl hr47 ?_
            refine hK.out _ _ BV47.out (fun hHeld => ?_)
            clear hr47 l47 mm47 b47
            clear hK K
            try simp only [Act.put, List.setIfInBounds_toArray, List.set_cons_zero, List.set_cons_succ]
            have XL48 := look_no x3_may HQ46.out (by omega) HX3.out (.slice as46 (shM x3 3 [97] q46) cs46) (.slice (some ⟨k41, 0, none⟩) 1 1) V47 LA47.out (Or.inl LX47.out.2.2) (PX.out V47 BV47.out).2 (x3_ax q46 HQ46.out _)
            rw [HRK.out, ← seG_row] at XL48
            refine take_one (i := 7) rfl (by kernel_rfl) rfl (fun K hK => ?_)
            go_simp
            refine Calls.mono XL48 ?_
            rintro e V48 ⟨rfl, bb48⟩
            have BV48 : Below wX.heap.size wX V48 := BV47.out.trans (bb48.mono BV47.out.size)
            refine hK.out _ _ BV48 (fun hHeld => ?_)
            clear hK K XL48
            try simp only [Act.put, List.setIfInBounds_toArray, List.set_cons_zero, List.set_cons_succ]
            refine take_op (i := 8) (v := ?vl488) rfl (by kernel_rfl) (by kernel_rfl) (by kernel_rfl) (fun _ _ _ h => h) rfl hHeld ?yl488 ?rl488
            case yl488 => (intro wz hz; go_simp; first | done | with_reducible rfl)
            try simp only [Act.put, List.setIfInBounds_toArray, List.set_cons_zero, List.set_cons_succ]
            refine take_op (i := 9) (v := ?vl489) rfl (by kernel_rfl) (by kernel_rfl) (by kernel_rfl) (fun _ _ _ h => h) rfl hHeld ?yl489 ?rl489
            case yl489 => (intro wz hz; go_simp; first | done | with_reducible rfl)
            try simp only [Act.put, List.setIfInBounds_toArray, List.set_cons_zero, List.set_cons_succ]
            refine take_op (i := 10) (v := ?vl4810) rfl (by kernel_rfl) (by kernel_rfl) (by kernel_rfl) (fun _ _ _ h => h) rfl hHeld ?yl4810 ?rl4810
            case yl4810 => (intro wz hz; go_simp; first | done | with_reducible rfl)
            try simp only [Act.put, List.setIfInBounds_toArray, List.set_cons_zero, List.set_cons_succ]
            refine take_op (i := 11) (v := ?vl4811) rfl (by kernel_rfl) (by kernel_rfl) (by kernel_rfl) (fun _ _ _ h => h) rfl hHeld ?yl4811 ?rl4811
            case yl4811 => (intro wz hz; go_simp; first | done | with_reducible rfl)
            try simp only [Act.put, List.setIfInBounds_toArray, List.set_cons_zero, List.set_cons_succ]
            refine take_op (i := 12) (v := ?vl4812) rfl (by kernel_rfl) (by kernel_rfl) (by kernel_rfl) (fun _ _ _ h => h) rfl hHeld ?yl4812 ?rl4812
            case yl4812 => (intro wz hz; go_simp; first | done | with_reducible rfl)
            try simp only [Act.put, List.setIfInBounds_toArray, List.set_cons_zero, List.set_cons_succ]
            refine take_op (i := 13) (v := ?vl4813) rfl (by kernel_rfl) (by kernel_rfl) (by kernel_rfl) (fun _ _ _ h => h) rfl hHeld ?yl4813 ?rl4813
            case yl4813 => (intro wz hz; go_simp; first | done | with_reducible rfl)
            try simp only [Act.put, List.setIfInBounds_toArray, List.set_cons_zero, List.set_cons_succ]
            refine take_op (i := 14) (v := ?vl4814) rfl (by kernel_rfl) (by kernel_rfl) (by kernel_rfl) (fun _ _ _ h => h) rfl hHeld ?yl4814 ?rl4814
            case yl4814 => (intro wz hz; go_simp; first | done | with_reducible rfl)
            try simp only [Act.put, List.setIfInBounds_toArray, List.set_cons_zero, List.set_cons_succ]
            refine wpAnyH_done (by kernel_rfl) ?_ _
            refine NoPanic.normal ?_
            clear hHeld
            go_wp2_with fail
            go_meet
            case rel => exact ⟨rfl, BV48⟩
        case g40b =>
          intro K hK
          have XS49 := show_nil 3 (.slice a 3 cap) (.slice (some ⟨k23, 0, none⟩) 1 1) x3 [97] V39 (PX.out V39 BV39.out).1 (Or.inl LA39.out.2.2) (PX.out V39 BV39.out).2 (by omega) (fun i hi => by have := HX3.out i hi; omega)
          go_simp
          refine Calls.mono XS49 ?_
          rintro e V49 ⟨hsh, bb49⟩
          rcases hsh with ⟨hno, _⟩ | ⟨_, q49, sv, hpos49, rfl, hsp49⟩
          · exact absurd ((mayB_is x3 3).2 x3_may) (by rw [hno]; decide)
          obtain ⟨as49, cs49, hs49, _⟩ := (id hsp49 : spotsAt V49 sv (shM x3 3 [97] q49) (shY x3 3 [97] q49))
          subst hs49
          have LA49 : Hid (spotsAt V49 (.slice as49 (shM x3 3 [97] q49) cs49) (shM x3 3 [97] q49) (shY x3 3 [97] q49)) := (show spotsAt V49 (.slice as49 (shM x3 3 [97] q49) cs49) (shM x3 3 [97] q49) (shY x3 3 [97] q49) from hsp49)
          have HQ49 : Hid (posAt x3 3 [97] q49) := (show posAt x3 3 [97] q49 from hpos49)
          have BV49 : Hid (Below wX.heap.size wX V49) := (show Below wX.heap.size wX V49 from BV39.out.trans (bb49.mono BV39.out.size))
          refine hK.out _ _ BV49.out (fun hHeld => ?_)
          clear XS49 hsp49 hpos49 bb49
          clear hK K
          try simp only [Act.put, List.setIfInBounds_toArray, List.set_cons_zero, List.set_cons_succ]
          refine take_one (i := 1) rfl (by kernel_rfl) rfl (fun K hK => ?_)
          obtain ⟨V50, hr50, l50, bb50, b50⟩ := lit_build wX V49 120 BV49.out
          obtain ⟨k50, hk50⟩ : ∃ k, k = V49.heap.size := ⟨_, rfl⟩
          rw [← hk50] at hr50 l50
          have BV50 : Hid (Below wX.heap.size wX V50) := (show Below wX.heap.size wX V50 from b50)
          have LX50 : Hid (litB wX V50 k50 120) := (show litB wX V50 k50 120 from l50)
          have LA50 : Hid (spotsAt V50 (.slice as49 (shM x3 3 [97] q49) cs49) (shM x3 3 [97] q49) (shY x3 3 [97] q49)) := (show spotsAt V50 (.slice as49 (shM x3 3 [97] q49) cs49) (shM x3 3 [97] q49) (shY x3 3 [97] q49) from LA49.out.below bb50 (Nat.le_refl _))
          refine wp_of_run (w' := V50) (exec_bslice1' 23 1 0 (.const (.int .u8 120)) _ rfl rfl hr50) ?_
          refine hK.out _ _ BV50.out (fun hHeld => ?_)
          clear hr50 l50 bb50 b50 hk50
          clear hK K
          try simp only [Act.put, List.setIfInBounds_toArray, List.set_cons_zero, List.set_cons_succ]
          refine take_one (i := 2) rfl (by kernel_rfl) rfl (fun K hK => ?_)
          obtain ⟨V51, hr51, l51, mm51, b51⟩ := lit_conv wX V50 k50 120 (by omega) (by omega) LX50.out BV50.out
          have BV51 : Hid (Below wX.heap.size wX V51) := (show Below wX.heap.size wX V51 from b51)
          have LX51 : Hid (litC wX V51 k50 120) := (show litC wX V51 k50 120 from l51)
          have LA51 : Hid (spotsAt V51 (.slice as49 (shM x3 3 [97] q49) cs49) (shM x3 3 [97] q49) (shY x3 3 [97] q49)) := (show spotsAt V51 (.slice as49 (shM x3 3 [97] q49) cs49) (shM x3 3 [97] q49) (shY x3 3 [97] q49) from LA50.out.cells mm51.size mm51.cell)
          refine wp_convert_run (w' := V51) 23 23 (.tmp 57) rfl rfl hr51 ?_
          refine hK.out _ _ BV51.out (fun hHeld => ?_)
          clear hr51 l51 mm51 b51
          clear hK K
          try simp only [Act.put, List.setIfInBounds_toArray, List.set_cons_zero, List.set_cons_succ]
          have XL52 := look_no x3_may HQ49.out (by omega) HX3.out (.slice as49 (shM x3 3 [97] q49) cs49) (.slice (some ⟨k50, 0, none⟩) 1 1) V51 LA51.out (Or.inl LX51.out.2.2) (PX.out V51 BV51.out).2 (x3_ax q49 HQ49.out _)
          rw [HRK.out, ← seG_row] at XL52
          refine take_one (i := 7) rfl (by kernel_rfl) rfl (fun K hK => ?_)
          go_simp
          refine Calls.mono XL52 ?_
          rintro e V52 ⟨rfl, bb52⟩
          have BV52 : Below wX.heap.size wX V52 := BV51.out.trans (bb52.mono BV51.out.size)
          refine hK.out _ _ BV52 (fun hHeld => ?_)
          clear hK K XL52
          try simp only [Act.put, List.setIfInBounds_toArray, List.set_cons_zero, List.set_cons_succ]
          refine take_op (i := 8) (v := ?vl528) rfl (by kernel_rfl) (by kernel_rfl) (by kernel_rfl) (fun _ _ _ h => h) rfl hHeld ?yl528 ?rl528
          case yl528 => (intro wz hz; go_simp; first | done | with_reducible rfl)
          try simp only [Act.put, List.setIfInBounds_toArray, List.set_cons_zero, List.set_cons_succ]
          refine take_op (i := 9) (v := ?vl529) rfl (by kernel_rfl) (by kernel_rfl) (by kernel_rfl) (fun _ _ _ h => h) rfl hHeld ?yl529 ?rl529
          case yl529 => (intro wz hz; go_simp; first | done | with_reducible rfl)
          try simp only [Act.put, List.setIfInBounds_toArray, List.set_cons_zero, List.set_cons_succ]
          refine take_op (i := 10) (v := ?vl5210) rfl (by kernel_rfl) (by kernel_rfl) (by kernel_rfl) (fun _ _ _ h => h) rfl hHeld ?yl5210 ?rl5210
          case yl5210 => (intro wz hz; go_simp; first | done | with_reducible rfl)
          try simp only [Act.put, List.setIfInBounds_toArray, List.set_cons_zero, List.set_cons_succ]
          refine take_op (i := 11) (v := ?vl5211) rfl (by kernel_rfl) (by kernel_rfl) (by kernel_rfl) (fun _ _ _ h => h) rfl hHeld ?yl5211 ?rl5211
          case yl5211 => (intro wz hz; go_simp; first | done | with_reducible rfl)
          try simp only [Act.put, List.setIfInBounds_toArray, List.set_cons_zero, List.set_cons_succ]
          refine take_op (i := 12) (v := ?vl5212) rfl (by kernel_rfl) (by kernel_rfl) (by kernel_rfl) (fun _ _ _ h => h) rfl hHeld ?yl5212 ?rl5212
          case yl5212 => (intro wz hz; go_simp; first | done | with_reducible rfl)
          try simp only [Act.put, List.setIfInBounds_toArray, List.set_cons_zero, List.set_cons_succ]
          refine take_op (i := 13) (v := ?vl5213) rfl (by kernel_rfl) (by kernel_rfl) (by kernel_rfl) (fun _ _ _ h => h) rfl hHeld ?yl5213 ?rl5213
          case yl5213 => (intro wz hz; go_simp; first | done | with_reducible rfl)
          try simp only [Act.put, List.setIfInBounds_toArray, List.set_cons_zero, List.set_cons_succ]
          refine take_op (i := 14) (v := ?vl5214) rfl (by kernel_rfl) (by kernel_rfl) (by kernel_rfl) (fun _ _ _ h => h) rfl hHeld ?yl5214 ?rl5214
          case yl5214 => (intro wz hz; go_simp; first | done | with_reducible rfl)
          try simp only [Act.put, List.setIfInBounds_toArray, List.set_cons_zero, List.set_cons_succ]
          refine wpAnyH_done (by kernel_rfl) ?_ _
          refine NoPanic.normal ?_
          clear hHeld
          go_wp2_with fail
          go_meet
          case rel => exact ⟨rfl, BV52⟩
  case rest =>
    obtain ⟨rfl, hBy⟩ := hcut
    rename World => wy
    have BY : Hid (Below wX.heap.size wX wy) := (show Below wX.heap.size wX wy from hBy)
    have B7Y : Below w7.heap.size w7 wy := BX.out.trans (hBy.mono BX.out.size)
    have BWY : Hid (Below w.heap.size w wy) := (show Below w.heap.size w wy from B7.out.trans (B7Y.mono B7.out.size))
    obtain ⟨q1, q2, hM1, hY1, hA1⟩ := x3_d p HP1.out
    obtain ⟨r1, hM2⟩ := x3_c q HP2.out
    have PY := P7.out wy B7Y
    obtain ⟨y1, y2, _, y4, y5, y6, y7⟩ := PY
    obtain ⟨pg, po, pc, hpe, hpg, _, _, hpc⟩ := y1.at (by omega)
    injection hpe with e1 _ e3
    subst e1
    subst e3
    obtain ⟨ka0, kc0, va0, vc0, H0⟩ := hpc 0 (by omega)
    obtain ⟨ka1, kc1, va1, vc1, H1⟩ := hpc 1 (by omega)
    obtain ⟨sg, so, sc, hse, hsg, hsc⟩ := y6.at (by omega)
    injection hse with e1 _ e3
    subst e1
    subst e3
    obtain ⟨_, _, _, _, _, _, _, HS0⟩ := hsc 0 (by omega)
    have CS : Hid (∀ wz, Below wy.heap.size wy wz → wz.cell? ⟨sg, so, none⟩ = some (.int .i64 1)) := (show _ from fun wz hz => by have := (HS0 wz hz).1; rw [hA1] at this; simpa using this)
    have CD : Hid (∀ wz, Below wy.heap.size wy wz → wz.cell? ⟨bd, 1, none⟩ = some (.slice (some ⟨sg, so, none⟩) (shM x3 3 [100] p) cs1)) := (show _ from fun wz hz => by
      have h := y4 1 (by omega)
      rw [Nat.zero_add] at h
      exact (hz.cell (p := ⟨bd, 1, none⟩) (block_lt_of_cell h)).trans h)
    have CC : Hid (∀ wz, Below wy.heap.size wy wz → wz.cell? ⟨bc, 1, none⟩ = some (.slice as2 (shM x3 3 [99] q) cs2)) := (show _ from fun wz hz => by
      have h := y5 1 (by omega)
      rw [Nat.zero_add] at h
      exact (hz.cell (p := ⟨bc, 1, none⟩) (block_lt_of_cell h)).trans h)
    have CP1 : Hid (∀ wz, Below wy.heap.size wy wz → ∀ i, i < 2 → wz.cell? ⟨pg, po + 1 * 2 + i, none⟩ = some (prG (.slice ka1 (x3 1).1.length kc1) (.slice va1 (x3 1).2.length vc1) i)) := (show _ from fun wz hz i hi => by
      have : i = 0 ∨ i = 1 := by omega
      rcases this with rfl | rfl
      · exact (H1 wz hz).1
      · exact (H1 wz hz).2.1)
    have CP0 : Hid (∀ wz, Below wy.heap.size wy wz → ∀ i, i < 2 → wz.cell? ⟨pg, po + 0 * 2 + i, none⟩ = some (prG (.slice ka0 (x3 0).1.length kc0) (.slice va0 (x3 0).2.length vc0) i)) := (show _ from fun wz hz i hi => by
      have : i = 0 ∨ i = 1 := by omega
      rcases this with rfl | rfl
      · exact (H0 wz hz).1
      · exact (H0 wz hz).2.1)
    have HB1 : Hid (∀ wz, Below wy.heap.size wy wz → anyBytes wz (.slice ka1 (x3 1).1.length kc1) (x3 1).1 ∧ anyBytes wz (.slice va1 (x3 1).2.length vc1) (x3 1).2 ∧ anyBytes wz (.slice ka0 (x3 0).1.length kc0) (x3 0).1 ∧ anyBytes wz (.slice va0 (x3 0).2.length vc0) (x3 0).2) := (show _ from fun wz hz => ⟨(H1 wz hz).2.2.1, (H1 wz hz).2.2.2, (H0 wz hz).2.2.1, (H0 wz hz).2.2.2⟩)
    have XM := may_any 3 (.slice (some ⟨pg, po, none⟩) 3 cap) x3 wy.drew (y1.below (Below.refl _ _).drew (Nat.le_refl _))
    rw [(mayB_is x3 3).2 x3_may] at XM
    have HCV : Hid (∀ wz, Below wy.heap.size wy wz → (convert 23 9 (.slice av 1 cv)).run Tryd.prog wz = .ok (.string (strOf [50])) wz) := (show _ from fun wz hz => convK wz (.slice av 1 cv) [50] (Or.inl (HVX.out.below (BY.out.trans (hz.mono BY.out.size)) (Nat.le_refl _))))
    have hso : strOf [50] = { data := #[50] } := rfl
    clear y1 y2 y4 y5 y6 y7 hpc H0 H1 hsc HS0 hpg hsg hBy B7Y hY1 hA1 q1 q2 r1 P7
    go_upto_region 8 with fail
    refine wp_region_noPanic ?_
    refine wp_region_held_drew (S := fun w' => Below wy.heap.size wy w') (by kernel_rfl) ((Below.refl _ _).drew) (fun hHeld => ?_)
    refine take_op (i := 0) (v := ?ve0) rfl (by kernel_rfl) (by kernel_rfl) (by kernel_rfl) (fun _ _ _ h => h) rfl hHeld ?ye0 ?re0
    case ye0 => (intro wz hz; go_simp; first | done | with_reducible rfl)
    try simp only [Act.put, List.setIfInBounds_toArray, List.set_cons_zero, List.set_cons_succ]
    refine take_one (i := 1) rfl (by kernel_rfl) rfl (fun K hK => ?_)
    go_simp
    refine Calls.mono XM ?_
    rintro e wz1 ⟨rfl, bz1⟩
    have BZ1 : Hid (Below wy.heap.size wy wz1) := (show Below wy.heap.size wy wz1 from (Below.refl _ _).drew.trans (bz1.mono (Nat.le_refl _)))
    refine hK.out _ _ BZ1.out (fun hHeld => ?_)
    clear hK K XM bz1
    try simp only [Act.put, List.setIfInBounds_toArray, List.set_cons_zero, List.set_cons_succ]
    refine take_op (i := 2) (v := ?ve2) rfl (by kernel_rfl) (by kernel_rfl) (by kernel_rfl) (fun _ _ _ h => h) rfl hHeld ?ye2 ?re2
    case ye2 => (intro wz hz; go_simp; first | done | with_reducible rfl)
    try simp only [Act.put, List.setIfInBounds_toArray, List.set_cons_zero, List.set_cons_succ]
    refine take_op (i := 3) (v := ?ve3) rfl (by kernel_rfl) (by kernel_rfl) (by kernel_rfl) (fun _ _ _ h => h) rfl hHeld ?ye3 ?re3
    case ye3 => (intro wz hz; go_simp; first | done | with_reducible rfl)
    try simp only [Act.put, List.setIfInBounds_toArray, List.set_cons_zero, List.set_cons_succ]
    refine take_op (i := 4) (v := ?ve4) rfl (by kernel_rfl) (by kernel_rfl) (by kernel_rfl) (fun _ _ _ h => h) rfl hHeld ?ye4 ?re4
    case ye4 => (intro wz hz; go_simp; first | done | with_reducible rfl)
    try simp only [Act.put, List.setIfInBounds_toArray, List.set_cons_zero, List.set_cons_succ]
    refine take_load (i := 5) rfl (by kernel_rfl) (by kernel_rfl) (by kernel_rfl) 38 _ rfl pg (po + 1 * 2) 2 (prG (.slice ka1 (x3 1).1.length kc1) (.slice va1 (x3 1).2.length vc1)) rfl _ Tryd.underlying38 rfl (by kernel_rfl) (fun _ _ _ h => h) rfl hHeld (fun wz hz => CP1.out wz hz) ?_
    try simp only [Act.put, List.setIfInBounds_toArray, List.set_cons_zero, List.set_cons_succ]
    refine take_op (i := 6) (v := ?ve6) rfl (by kernel_rfl) (by kernel_rfl) (by kernel_rfl) (fun _ _ _ h => h) rfl hHeld ?ye6 ?re6
    case ye6 => (intro wz hz; go_simp; first | done | with_reducible rfl)
    try simp only [Act.put, List.setIfInBounds_toArray, List.set_cons_zero, List.set_cons_succ]
    refine take_op (i := 7) (v := ?ve7) rfl (by kernel_rfl) (by kernel_rfl) (by kernel_rfl) (fun _ _ _ h => h) rfl hHeld ?ye7 ?re7
    case ye7 => (intro wz hz; go_simp; first | done | with_reducible rfl)
    try simp only [Act.put, List.setIfInBounds_toArray, List.set_cons_zero, List.set_cons_succ]
    refine take_load (i := 8) rfl (by kernel_rfl) (by kernel_rfl) (by kernel_rfl) 38 _ rfl pg (po + 0 * 2) 2 (prG (.slice ka0 (x3 0).1.length kc0) (.slice va0 (x3 0).2.length vc0)) rfl _ Tryd.underlying38 rfl (by kernel_rfl) (fun _ _ _ h => h) rfl hHeld (fun wz hz => CP0.out wz hz) ?_
    try simp only [Act.put, List.setIfInBounds_toArray, List.set_cons_zero, List.set_cons_succ]
    obtain ⟨wz2, hwz2⟩ : ∃ W, W = wz1.alloc (.cells #[.slice ka1 (x3 1).1.length kc1, .slice va1 (x3 1).2.length vc1, .slice ka0 (x3 0).1.length kc0, .slice va0 (x3 0).2.length vc0] 38) := ⟨_, rfl⟩
    have bz12 : Below wz1.heap.size wz1 wz2 := by rw [hwz2]; exact (Below.refl _ _).alloc (Nat.le_refl _) _
    have BZ2 : Hid (Below wy.heap.size wy wz2) := (show Below wy.heap.size wy wz2 from BZ1.out.trans (bz12.mono BZ1.out.size))
    have hblk : wz2.heap[wz1.heap.size]? = some (.cells #[.slice ka1 (x3 1).1.length kc1, .slice va1 (x3 1).2.length vc1, .slice ka0 (x3 0).1.length kc0, .slice va0 (x3 0).2.length vc0] 38) := by rw [hwz2, blk_alloc_new]
    have hp2 : pairsAt wz2 (.slice (some ⟨wz1.heap.size, 0, none⟩) 2 2) 2 (fun i => x3 (1 - i)) := by
      obtain ⟨k1, k2, k3, k4⟩ := HB1.out wz2 BZ2.out
      have hlt : wz1.heap.size < wz2.heap.size := (Array.getElem?_eq_some_iff.1 hblk).1
      refine ⟨_, 2, rfl, Nat.le_refl _, by decide, fun i hi => ?_⟩
      have : i = 0 ∨ i = 1 := by omega
      rcases this with rfl | rfl
      · exact ⟨wz1.heap.size, 0, _, _, rfl, hlt, by rw [cell_of_row _ _ _ _ _ _ hblk]; rfl, by rw [cell_of_row _ _ _ _ _ _ hblk]; rfl, k1, k2⟩
      · exact ⟨wz1.heap.size, 0, _, _, rfl, hlt, by rw [cell_of_row _ _ _ _ _ _ hblk]; rfl, by rw [cell_of_row _ _ _ _ _ _ hblk]; rfl, k3, k4⟩
    have XM2 := may_any 2 (.slice (some ⟨wz1.heap.size, 0, none⟩) 2 2) (fun i => x3 (1 - i)) wz2 hp2
    rw [show mayB (fun i => x3 (1 - i)) 2 = false from by decide] at XM2
    refine take_one (i := 9) rfl (by kernel_rfl) rfl (fun K hK => ?_)
    refine wp_of_run (w' := wz2) (by rw [hwz2]; exact exec_bslice2' 22 2 0 1 (.tmp 72) (.tmp 75) _ _ rfl rfl rfl (build_prs2 _ _ wz1)) ?_
    refine hK.out _ _ BZ2.out (fun hHeld => ?_)
    clear hK K hwz2 hblk hp2 bz12
    try simp only [Act.put, List.setIfInBounds_toArray, List.set_cons_zero, List.set_cons_succ]
    refine take_one (i := 10) rfl (by kernel_rfl) rfl (fun K hK => ?_)
    go_simp
    refine Calls.mono XM2 ?_
    rintro e wz3 ⟨rfl, bz3⟩
    have BZ3 : Hid (Below wy.heap.size wy wz3) := (show Below wy.heap.size wy wz3 from BZ2.out.trans (bz3.mono BZ2.out.size))
    refine hK.out _ _ BZ3.out (fun hHeld => ?_)
    clear hK K XM2 bz3
    try simp only [Act.put, List.setIfInBounds_toArray, List.set_cons_zero, List.set_cons_succ]
    refine take_op (i := 11) (v := ?ve11) rfl (by kernel_rfl) (by kernel_rfl) (by kernel_rfl) (fun _ _ _ h => h) rfl hHeld ?ye11 ?re11
    case ye11 => (intro wz hz; go_simp; first | done | with_reducible rfl)
    try simp only [Act.put, List.setIfInBounds_toArray, List.set_cons_zero, List.set_cons_succ]
    refine take_op (i := 12) (v := ?ve12) rfl (by kernel_rfl) (by kernel_rfl) (by kernel_rfl) (fun _ _ _ h => h) rfl hHeld ?ye12 ?re12
    case ye12 => (intro wz hz; go_simp; first | done | with_reducible rfl)
    try simp only [Act.put, List.setIfInBounds_toArray, List.set_cons_zero, List.set_cons_succ]
    refine take_op (i := 13) (v := ?ve13) rfl (by kernel_rfl) (by kernel_rfl) (by kernel_rfl) (fun _ _ _ h => h) rfl hHeld ?ye13 ?re13
    case ye13 => (intro wz hz; go_simp; first | done | with_reducible rfl)
    try simp only [Act.put, List.setIfInBounds_toArray, List.set_cons_zero, List.set_cons_succ]
    refine take_op (i := 14) (v := ?ve14) rfl (by kernel_rfl) (by kernel_rfl) (by kernel_rfl) (fun _ _ _ h => h) rfl hHeld ?ye14 ?re14
    case ye14 => (intro wz hz; go_simp; first | done | with_reducible rfl)
    try simp only [Act.put, List.setIfInBounds_toArray, List.set_cons_zero, List.set_cons_succ]
    refine take_op (i := 15) (v := ?ve15) rfl (by kernel_rfl) (by kernel_rfl) (by kernel_rfl) (fun _ _ _ h => h) rfl hHeld ?ye15 ?re15
    case ye15 => (intro wz hz; have hcz := CD.out wz hz; go_simp; first | done | with_reducible rfl)
    try simp only [Act.put, List.setIfInBounds_toArray, List.set_cons_zero, List.set_cons_succ]
    refine take_op (i := 16) (v := .int .i64 1) rfl (by kernel_rfl) (by kernel_rfl) (by kernel_rfl) (fun _ _ _ h => h) rfl hHeld ?ye16 ?_
    case ye16 => (intro wz hz; go_simp; first | done | with_reducible rfl | (simp [hM1]) | (simp [hM2]) | (simp [hM1, hM2]; done))
    try simp only [Act.put, List.setIfInBounds_toArray, List.set_cons_zero, List.set_cons_succ]
    refine take_op (i := 17) (v := ?ve17) rfl (by kernel_rfl) (by kernel_rfl) (by kernel_rfl) (fun _ _ _ h => h) rfl hHeld ?ye17 ?re17
    case ye17 => (intro wz hz; go_simp; first | done | with_reducible rfl)
    try simp only [Act.put, List.setIfInBounds_toArray, List.set_cons_zero, List.set_cons_succ]
    refine take_op (i := 18) (v := ?ve18) rfl (by kernel_rfl) (by kernel_rfl) (by kernel_rfl) (fun _ _ _ h => h) rfl hHeld ?ye18 ?re18
    case ye18 => (intro wz hz; go_simp; first | done | with_reducible rfl)
    try simp only [Act.put, List.setIfInBounds_toArray, List.set_cons_zero, List.set_cons_succ]
    refine take_op (i := 19) (v := ?ve19) rfl (by kernel_rfl) (by kernel_rfl) (by kernel_rfl) (fun _ _ _ h => h) rfl hHeld ?ye19 ?re19
    case ye19 => (intro wz hz; go_simp; first | done | with_reducible rfl)
    try simp only [Act.put, List.setIfInBounds_toArray, List.set_cons_zero, List.set_cons_succ]
    refine take_op (i := 20) (v := ?ve20) rfl (by kernel_rfl) (by kernel_rfl) (by kernel_rfl) (fun _ _ _ h => h) rfl hHeld ?ye20 ?re20
    case ye20 => (intro wz hz; go_simp; first | done | with_reducible rfl)
    try simp only [Act.put, List.setIfInBounds_toArray, List.set_cons_zero, List.set_cons_succ]
    refine take_op (i := 21) (v := ?ve21) rfl (by kernel_rfl) (by kernel_rfl) (by kernel_rfl) (fun _ _ _ h => h) rfl hHeld ?ye21 ?re21
    case ye21 => (intro wz hz; have hcz := CD.out wz hz; go_simp; first | done | with_reducible rfl)
    try simp only [Act.put, List.setIfInBounds_toArray, List.set_cons_zero, List.set_cons_succ]
    refine take_op (i := 22) (v := .pointer (some ⟨sg, so, none⟩)) rfl (by kernel_rfl) (by kernel_rfl) (by kernel_rfl) (fun _ _ _ h => h) rfl hHeld ?ye22 ?_
    case ye22 => (intro wz hz; have hlt : (0 : Int) < ((shM x3 3 [100] p : Nat) : Int) := (by rw [hM1]; decide); go_simp; first | done | with_reducible rfl | (simp [hM1]))
    try simp only [Act.put, List.setIfInBounds_toArray, List.set_cons_zero, List.set_cons_succ]
    refine take_op (i := 23) (v := ?ve23) rfl (by kernel_rfl) (by kernel_rfl) (by kernel_rfl) (fun _ _ _ h => h) rfl hHeld ?ye23 ?re23
    case ye23 => (intro wz hz; go_simp; first | done | with_reducible rfl)
    try simp only [Act.put, List.setIfInBounds_toArray, List.set_cons_zero, List.set_cons_succ]
    refine take_op (i := 24) (v := ?ve24) rfl (by kernel_rfl) (by kernel_rfl) (by kernel_rfl) (fun _ _ _ h => h) rfl hHeld ?ye24 ?re24
    case ye24 => (intro wz hz; have hcz := CS.out wz hz; go_simp; first | done | with_reducible rfl)
    try simp only [Act.put, List.setIfInBounds_toArray, List.set_cons_zero, List.set_cons_succ]
    refine take_op (i := 25) (v := ?ve25) rfl (by kernel_rfl) (by kernel_rfl) (by kernel_rfl) (fun _ _ _ h => h) rfl hHeld ?ye25 ?re25
    case ye25 => (intro wz hz; go_simp; first | done | with_reducible rfl)
    try simp only [Act.put, List.setIfInBounds_toArray, List.set_cons_zero, List.set_cons_succ]
    refine take_op (i := 26) (v := ?ve26) rfl (by kernel_rfl) (by kernel_rfl) (by kernel_rfl) (fun _ _ _ h => h) rfl hHeld ?ye26 ?re26
    case ye26 => (intro wz hz; go_simp; first | done | with_reducible rfl)
    try simp only [Act.put, List.setIfInBounds_toArray, List.set_cons_zero, List.set_cons_succ]
    refine take_op (i := 27) (v := ?ve27) rfl (by kernel_rfl) (by kernel_rfl) (by kernel_rfl) (fun _ _ _ h => h) rfl hHeld ?ye27 ?re27
    case ye27 => (intro wz hz; go_simp; first | done | with_reducible rfl)
    try simp only [Act.put, List.setIfInBounds_toArray, List.set_cons_zero, List.set_cons_succ]
    refine take_op (i := 28) (v := ?ve28) rfl (by kernel_rfl) (by kernel_rfl) (by kernel_rfl) (fun _ _ _ h => h) rfl hHeld ?ye28 ?re28
    case ye28 => (intro wz hz; go_simp; first | done | with_reducible rfl)
    try simp only [Act.put, List.setIfInBounds_toArray, List.set_cons_zero, List.set_cons_succ]
    refine take_op (i := 29) (v := ?ve29) rfl (by kernel_rfl) (by kernel_rfl) (by kernel_rfl) (fun _ _ _ h => h) rfl hHeld ?ye29 ?re29
    case ye29 => (intro wz hz; have hcz := CC.out wz hz; go_simp; first | done | with_reducible rfl)
    try simp only [Act.put, List.setIfInBounds_toArray, List.set_cons_zero, List.set_cons_succ]
    refine take_op (i := 30) (v := .int .i64 2) rfl (by kernel_rfl) (by kernel_rfl) (by kernel_rfl) (fun _ _ _ h => h) rfl hHeld ?ye30 ?_
    case ye30 => (intro wz hz; go_simp; first | done | with_reducible rfl | (simp [hM1]) | (simp [hM2]) | (simp [hM1, hM2]; done))
    try simp only [Act.put, List.setIfInBounds_toArray, List.set_cons_zero, List.set_cons_succ]
    refine take_op (i := 31) (v := ?ve31) rfl (by kernel_rfl) (by kernel_rfl) (by kernel_rfl) (fun _ _ _ h => h) rfl hHeld ?ye31 ?re31
    case ye31 => (intro wz hz; go_simp; first | done | with_reducible rfl)
    try simp only [Act.put, List.setIfInBounds_toArray, List.set_cons_zero, List.set_cons_succ]
    refine take_op (i := 32) (v := ?ve32) rfl (by kernel_rfl) (by kernel_rfl) (by kernel_rfl) (fun _ _ _ h => h) rfl hHeld ?ye32 ?re32
    case ye32 => (intro wz hz; go_simp; first | done | with_reducible rfl)
    try simp only [Act.put, List.setIfInBounds_toArray, List.set_cons_zero, List.set_cons_succ]
    refine take_op (i := 33) (v := ?ve33) rfl (by kernel_rfl) (by kernel_rfl) (by kernel_rfl) (fun _ _ _ h => h) rfl hHeld ?ye33 ?re33
    case ye33 => (intro wz hz; go_simp; first | done | with_reducible rfl)
    try simp only [Act.put, List.setIfInBounds_toArray, List.set_cons_zero, List.set_cons_succ]
    refine take_op (i := 34) (v := ?ve34) rfl (by kernel_rfl) (by kernel_rfl) (by kernel_rfl) (fun _ _ _ h => h) rfl hHeld ?ye34 ?re34
    case ye34 => (intro wz hz; go_simp; first | done | with_reducible rfl)
    try simp only [Act.put, List.setIfInBounds_toArray, List.set_cons_zero, List.set_cons_succ]
    refine take_op (i := 35) (v := .string { data := #[50] }) rfl (by kernel_rfl) (by kernel_rfl) (by kernel_rfl) (fun _ _ _ h => h) rfl hHeld ?ye35 ?_
    case ye35 => (intro wz hz; have hcz := HCV.out wz hz; rw [hso] at hcz; go_simp; first | done | with_reducible rfl)
    try simp only [Act.put, List.setIfInBounds_toArray, List.set_cons_zero, List.set_cons_succ]
    refine take_op (i := 36) (v := .bool true) rfl (by kernel_rfl) (by kernel_rfl) (by kernel_rfl) (fun _ _ _ h => h) rfl hHeld ?ye36 ?_
    case ye36 => (intro wz hz; go_simp; first | done | with_reducible rfl)
    try simp only [Act.put, List.setIfInBounds_toArray, List.set_cons_zero, List.set_cons_succ]
    refine take_op (i := 37) (v := ?ve37) rfl (by kernel_rfl) (by kernel_rfl) (by kernel_rfl) (fun _ _ _ h => h) rfl hHeld ?ye37 ?re37
    case ye37 => (intro wz hz; go_simp; first | done | with_reducible rfl)
    try simp only [Act.put, List.setIfInBounds_toArray, List.set_cons_zero, List.set_cons_succ]
    refine take_op (i := 38) (v := ?ve38) rfl (by kernel_rfl) (by kernel_rfl) (by kernel_rfl) (fun _ _ _ h => h) rfl hHeld ?ye38 ?re38
    case ye38 => (intro wz hz; go_simp; first | done | with_reducible rfl)
    try simp only [Act.put, List.setIfInBounds_toArray, List.set_cons_zero, List.set_cons_succ]
    refine take_op (i := 39) (v := ?ve39) rfl (by kernel_rfl) (by kernel_rfl) (by kernel_rfl) (fun _ _ _ h => h) rfl hHeld ?ye39 ?re39
    case ye39 => (intro wz hz; go_simp; first | done | with_reducible rfl)
    try simp only [Act.put, List.setIfInBounds_toArray, List.set_cons_zero, List.set_cons_succ]
    refine take_op (i := 40) (v := ?ve40) rfl (by kernel_rfl) (by kernel_rfl) (by kernel_rfl) (fun _ _ _ h => h) rfl hHeld ?ye40 ?re40
    case ye40 => (intro wz hz; go_simp; first | done | with_reducible rfl)
    try simp only [Act.put, List.setIfInBounds_toArray, List.set_cons_zero, List.set_cons_succ]
    refine take_op (i := 41) (v := ?ve41) rfl (by kernel_rfl) (by kernel_rfl) (by kernel_rfl) (fun _ _ _ h => h) rfl hHeld ?ye41 ?re41
    case ye41 => (intro wz hz; go_simp; first | done | with_reducible rfl)
    try simp only [Act.put, List.setIfInBounds_toArray, List.set_cons_zero, List.set_cons_succ]
    refine take_op (i := 42) (v := ?ve42) rfl (by kernel_rfl) (by kernel_rfl) (by kernel_rfl) (fun _ _ _ h => h) rfl hHeld ?ye42 ?re42
    case ye42 => (intro wz hz; go_simp; first | done | with_reducible rfl)
    try simp only [Act.put, List.setIfInBounds_toArray, List.set_cons_zero, List.set_cons_succ]
    refine take_op (i := 43) (v := ?ve43) rfl (by kernel_rfl) (by kernel_rfl) (by kernel_rfl) (fun _ _ _ h => h) rfl hHeld ?ye43 ?re43
    case ye43 => (intro wz hz; go_simp; first | done | with_reducible rfl)
    try simp only [Act.put, List.setIfInBounds_toArray, List.set_cons_zero, List.set_cons_succ]
    refine take_op (i := 44) (v := ?ve44) rfl (by kernel_rfl) (by kernel_rfl) (by kernel_rfl) (fun _ _ _ h => h) rfl hHeld ?ye44 ?re44
    case ye44 => (intro wz hz; go_simp; first | done | with_reducible rfl)
    try simp only [Act.put, List.setIfInBounds_toArray, List.set_cons_zero, List.set_cons_succ]
    refine take_op (i := 45) (v := ?ve45) rfl (by kernel_rfl) (by kernel_rfl) (by kernel_rfl) (fun _ _ _ h => h) rfl hHeld ?ye45 ?re45
    case ye45 => (intro wz hz; go_simp; first | done | with_reducible rfl)
    try simp only [Act.put, List.setIfInBounds_toArray, List.set_cons_zero, List.set_cons_succ]
    refine take_op (i := 46) (v := ?ve46) rfl (by kernel_rfl) (by kernel_rfl) (by kernel_rfl) (fun _ _ _ h => h) rfl hHeld ?ye46 ?re46
    case ye46 => (intro wz hz; go_simp; first | done | with_reducible rfl)
    try simp only [Act.put, List.setIfInBounds_toArray, List.set_cons_zero, List.set_cons_succ]
    refine take_op (i := 47) (v := ?ve47) rfl (by kernel_rfl) (by kernel_rfl) (by kernel_rfl) (fun _ _ _ h => h) rfl hHeld ?ye47 ?re47
    case ye47 => (intro wz hz; go_simp; first | done | with_reducible rfl)
    try simp only [Act.put, List.setIfInBounds_toArray, List.set_cons_zero, List.set_cons_succ]
    refine take_op (i := 48) (v := ?ve48) rfl (by kernel_rfl) (by kernel_rfl) (by kernel_rfl) (fun _ _ _ h => h) rfl hHeld ?ye48 ?re48
    case ye48 => (intro wz hz; go_simp; first | done | with_reducible rfl)
    try simp only [Act.put, List.setIfInBounds_toArray, List.set_cons_zero, List.set_cons_succ]
    refine take_op (i := 49) (v := ?ve49) rfl (by kernel_rfl) (by kernel_rfl) (by kernel_rfl) (fun _ _ _ h => h) rfl hHeld ?ye49 ?re49
    case ye49 => (intro wz hz; go_simp; first | done | with_reducible rfl)
    try simp only [Act.put, List.setIfInBounds_toArray, List.set_cons_zero, List.set_cons_succ]
    refine take_op (i := 50) (v := ?ve50) rfl (by kernel_rfl) (by kernel_rfl) (by kernel_rfl) (fun _ _ _ h => h) rfl hHeld ?ye50 ?re50
    case ye50 => (intro wz hz; go_simp; first | done | with_reducible rfl)
    try simp only [Act.put, List.setIfInBounds_toArray, List.set_cons_zero, List.set_cons_succ]
    refine take_op (i := 51) (v := ?ve51) rfl (by kernel_rfl) (by kernel_rfl) (by kernel_rfl) (fun _ _ _ h => h) rfl hHeld ?ye51 ?re51
    case ye51 => (intro wz hz; go_simp; first | done | with_reducible rfl)
    try simp only [Act.put, List.setIfInBounds_toArray, List.set_cons_zero, List.set_cons_succ]
    refine take_op (i := 52) (v := ?ve52) rfl (by kernel_rfl) (by kernel_rfl) (by kernel_rfl) (fun _ _ _ h => h) rfl hHeld ?ye52 ?re52
    case ye52 => (intro wz hz; go_simp; first | done | with_reducible rfl)
    try simp only [Act.put, List.setIfInBounds_toArray, List.set_cons_zero, List.set_cons_succ]
    refine take_op (i := 53) (v := ?ve53) rfl (by kernel_rfl) (by kernel_rfl) (by kernel_rfl) (fun _ _ _ h => h) rfl hHeld ?ye53 ?re53
    case ye53 => (intro wz hz; go_simp; first | done | with_reducible rfl)
    try simp only [Act.put, List.setIfInBounds_toArray, List.set_cons_zero, List.set_cons_succ]
    refine take_op (i := 54) (v := ?ve54) rfl (by kernel_rfl) (by kernel_rfl) (by kernel_rfl) (fun _ _ _ h => h) rfl hHeld ?ye54 ?re54
    case ye54 => (intro wz hz; go_simp; first | done | with_reducible rfl)
    try simp only [Act.put, List.setIfInBounds_toArray, List.set_cons_zero, List.set_cons_succ]
    refine take_op (i := 55) (v := ?ve55) rfl (by kernel_rfl) (by kernel_rfl) (by kernel_rfl) (fun _ _ _ h => h) rfl hHeld ?ye55 ?re55
    case ye55 => (intro wz hz; go_simp; first | done | with_reducible rfl)
    try simp only [Act.put, List.setIfInBounds_toArray, List.set_cons_zero, List.set_cons_succ]
    refine take_op (i := 56) (v := ?ve56) rfl (by kernel_rfl) (by kernel_rfl) (by kernel_rfl) (fun _ _ _ h => h) rfl hHeld ?ye56 ?re56
    case ye56 => (intro wz hz; go_simp; first | done | with_reducible rfl)
    try simp only [Act.put, List.setIfInBounds_toArray, List.set_cons_zero, List.set_cons_succ]
    refine take_op (i := 57) (v := ?ve57) rfl (by kernel_rfl) (by kernel_rfl) (by kernel_rfl) (fun _ _ _ h => h) rfl hHeld ?ye57 ?re57
    case ye57 => (intro wz hz; go_simp; first | done | with_reducible rfl)
    try simp only [Act.put, List.setIfInBounds_toArray, List.set_cons_zero, List.set_cons_succ]
    refine take_op (i := 58) (v := ?ve58) rfl (by kernel_rfl) (by kernel_rfl) (by kernel_rfl) (fun _ _ _ h => h) rfl hHeld ?ye58 ?re58
    case ye58 => (intro wz hz; go_simp; first | done | with_reducible rfl)
    try simp only [Act.put, List.setIfInBounds_toArray, List.set_cons_zero, List.set_cons_succ]
    refine take_op (i := 59) (v := ?ve59) rfl (by kernel_rfl) (by kernel_rfl) (by kernel_rfl) (fun _ _ _ h => h) rfl hHeld ?ye59 ?re59
    case ye59 => (intro wz hz; go_simp; first | done | with_reducible rfl)
    try simp only [Act.put, List.setIfInBounds_toArray, List.set_cons_zero, List.set_cons_succ]
    refine take_op (i := 60) (v := ?ve60) rfl (by kernel_rfl) (by kernel_rfl) (by kernel_rfl) (fun _ _ _ h => h) rfl hHeld ?ye60 ?re60
    case ye60 => (intro wz hz; go_simp; first | done | with_reducible rfl)
    try simp only [Act.put, List.setIfInBounds_toArray, List.set_cons_zero, List.set_cons_succ]
    refine take_op (i := 61) (v := ?ve61) rfl (by kernel_rfl) (by kernel_rfl) (by kernel_rfl) (fun _ _ _ h => h) rfl hHeld ?ye61 ?re61
    case ye61 => (intro wz hz; go_simp; first | done | with_reducible rfl)
    try simp only [Act.put, List.setIfInBounds_toArray, List.set_cons_zero, List.set_cons_succ]
    refine wpAnyH_done (by kernel_rfl) ?_ _
    refine NoPanic.normal ?_
    clear hHeld
    go_wp2_with fail
    go_ret
    exact ⟨rfl, BWY.out.trans (BZ3.out.mono BWY.out.size)⟩
end Go.Proofs.YtkgegihkhdgdoaaDoor

/- A copy of a row of sums; clear of a row of sums. -/
namespace Go.Proofs.YtkgegihkhdgdoaaDoor
set_option linter.unusedSimpArgs false
set_option linter.unusedVariables false
open Go.RowKit Go.Deep

theorem zero_cells32 (n : Nat) : (Builtin.zeroCells (Value.agg (rowV 32 (fun _ => .int .u8 0))).cells n).toList = List.replicate (n * 32) (.int .u8 0) := by
  have e : (Value.agg (rowV 32 (fun _ => .int .u8 0))).cells = rowV 32 (fun _ => .int .u8 0) := rfl
  rw [e]
  unfold Builtin.zeroCells
  rw [rowV_size]
  apply List.ext_getElem
  · simp
  · intro i h1 h2
    have h3 : i % 32 < 32 := Nat.mod_lt _ (by omega)
    have h4 := rowV_get 32 (fun _ => Value.int .u8 0) (i % 32) h3
    have h5 : (rowV 32 (fun _ => Value.int .u8 0))[i % 32]! = .int .u8 0 := by
      rw [getElem!_def, h4]
    simp [h5]
end Go.Proofs.YtkgegihkhdgdoaaDoor

/- clear of what is shown. -/
namespace Go.Proofs.YtkgegihkhdgdoaaDoor
set_option linter.unusedSimpArgs false
set_option linter.unusedVariables false
open Go.RowKit Go.Deep

/-- nothing has turned but what stands in blocks above b, g and c aside; and that may still be written over. -/
def Cl (b g c : Nat) (w w' : World) : Prop := w'.os = w.os ∧ w'.tape = w.tape ∧ w'.output = w.output ∧ w'.heap.size = w.heap.size ∧ (∀ j, (j ≤ b ∨ j = g ∨ j = c) → w'.heap[j]? = w.heap[j]?) ∧ ∀ p o n, w.there p o n → w'.there p o n
theorem Cl.refl (b g c : Nat) (w : World) : Cl b g c w w := ⟨rfl, rfl, rfl, rfl, fun _ _ => rfl, fun _ _ _ h => h⟩
theorem Cl.trans {b g c : Nat} {w w' w'' : World} (h : Cl b g c w w') (k : Cl b g c w' w'') : Cl b g c w w'' :=
  ⟨k.1.trans h.1, k.2.1.trans h.2.1, k.2.2.1.trans h.2.2.1, k.2.2.2.1.trans h.2.2.2.1, fun j hj => (k.2.2.2.2.1 j hj).trans (h.2.2.2.2.1 j hj), fun p o n ht => k.2.2.2.2.2 p o n (h.2.2.2.2.2 p o n ht)⟩
theorem Cl.below {b g c B : Nat} {w w' : World} (h : Cl b g c w w') (hB : B ≤ b + 1) : Below B w w' :=
  ⟨h.1, h.2.1, h.2.2.1, Nat.le_of_eq h.2.2.2.1.symm, fun j hj => h.2.2.2.2.1 j (Or.inl (by omega))⟩
theorem Cl.row {b g c : Nat} {w w' : World} (h : Cl b g c w w') {t : TypeId} {n : Nat} {f : Nat → Value} (hr : w.rowIs c t n f) : w'.rowIs c t n f := World.rowIs.of_block hr (h.2.2.2.2.1 c (Or.inr (Or.inr rfl)))
theorem Cl.cell {b g c : Nat} {w w' : World} (h : Cl b g c w w') (i : Nat) : w'.cell? ⟨g, i, none⟩ = w.cell? ⟨g, i, none⟩ := by
  have e := h.2.2.2.2.1 g (Or.inr (Or.inl rfl))
  unfold World.cell?; rw [e]
theorem Cl.softE {b g c : Nat} {w w' : World} (h : Cl b g c w w') {u : Value} (hs : softE w u) : softE w' u := fun pb o n k e => h.2.2.2.2.2 pb o n (hs pb o n k e)
theorem Cl.softS {b g c : Nat} {w w' : World} (h : Cl b g c w w') {u : Value} (hs : softS w u) : softS w' u := fun pb o n k e => h.2.2.2.2.2 pb o (n * 32) (hs pb o n k e)
/-- clear(key). -/
theorem clear_e {b g c : Nat} (w : World) (u : Value) (x : Option Addr) (k y : Nat) (hu : u = .slice x k y) (hx : 0 < k → ∃ pb po, x = some ⟨pb, po, none⟩) (hs : Go.Proofs.YtkgegihkhdgdoaaDoor.softE w u) (ho : ∀ j, u.ownBlock = some j → b < j ∧ j ≠ g ∧ j ≠ c) :
    ∃ w', (Builtin.clear_ #[23] 0 #[u]).run Tryd.prog w = .ok (.tuple #[]) w' ∧ Cl b g c w w' := by
  obtain ⟨w', h1, h2, h3, h4, h5, h6, h7⟩ := soft_clear w u x k y hu hx hs
  exact ⟨w', h1, h3, h4, h5, h2, fun j hj => h6 j (fun e => by have := ho j e; omega), h7⟩
/-- clear(path). -/
theorem clear_s {b g c : Nat} (w : World) (u : Value) (x : Option Addr) (k y : Nat) (hu : u = .slice x k y) (hx : 0 < k → ∃ pb po, x = some ⟨pb, po, none⟩) (hs : Go.Proofs.YtkgegihkhdgdoaaDoor.softS w u) (ho : ∀ j, u.ownBlock = some j → b < j ∧ j ≠ g ∧ j ≠ c) :
    ∃ w', (Builtin.clear_ #[39] 0 #[u]).run Tryd.prog w = .ok (.tuple #[]) w' ∧ Cl b g c w w' := by
  by_cases h0 : 0 < k
  · obtain ⟨pb, po, rfl⟩ := hx h0
    have ht := hs pb po k y hu
    subst hu
    have hst := run_storeCells_cells (P := Tryd.prog) pb po (List.replicate (k * 32) (.int .u8 0)) 0 w (fun j hj => by
      have hj' : j < k * 32 := by simpa using hj
      exact (ht j hj').1) (fun j hj => by
      have hj' : j < k * 32 := by simpa using hj
      exact (ht j hj').2) (by intro v hv'; rw [List.eq_of_mem_replicate hv']; rfl)
    have hb : But w.heap.size pb w (w.setCells pb po (List.replicate (k * 32) (.int .u8 0))) := but_setCells _ _ (But.refl _ _ _)
    have hp := ho pb rfl
    refine ⟨w.setCells pb po (List.replicate (k * 32) (.int .u8 0)), ?_, hb.os, hb.tape, hb.output, size_setCells _ _ _ _, fun j hj => ?_, fun p o n h => World.there_setCells h _ _ _⟩
    · obtain ⟨m, hm'⟩ : ∃ m, k = m + 1 := ⟨k - 1, by omega⟩
      rw [hm'] at hst ⊢
      have zc := zero_cells32 (m + 1)
      have zv := zero_s32
      generalize Value.agg (rowV 32 (fun _ => .int .u8 0)) = z at zc zv
      generalize List.replicate ((m + 1) * 32) (Value.int .u8 0) = R at zc hst ⊢
      simp at hst
      simp [Builtin.clear_, run_underlying Tryd.underlying39, zv, zc, hst]
    · by_cases hl : j < w.heap.size
      · exact hb.block j hl (fun e => by omega)
      · rw [Array.getElem?_eq_none (by rw [size_setCells]; omega), Array.getElem?_eq_none (by omega)]
  · obtain rfl : k = 0 := by omega
    subst hu
    exact ⟨w, by cases x <;> simp [Builtin.clear_, run_underlying Tryd.underlying39], Cl.refl _ _ _ _⟩
/-- a spot that may be written over. -/
def spotC (w : World) (b g c i : Nat) : Prop := ∃ (ka va pa : Option Addr) (kn kc vn vc pn pc : Nat),
  w.cell? ⟨g, i * 4 + 1, none⟩ = some (.slice ka kn kc) ∧ w.cell? ⟨g, i * 4 + 2, none⟩ = some (.slice va vn vc) ∧ w.cell? ⟨g, i * 4 + 3, none⟩ = some (.slice pa pn pc) ∧
  softE w (.slice ka kn kc) ∧ softE w (.slice va vn vc) ∧ softS w (.slice pa pn pc) ∧
  ((0 < kn → ∃ pb po, ka = some ⟨pb, po, none⟩) ∧ (0 < vn → ∃ pb po, va = some ⟨pb, po, none⟩) ∧ (0 < pn → ∃ pb po, pa = some ⟨pb, po, none⟩)) ∧
  (∀ j, (Value.slice ka kn kc).ownBlock = some j → b < j ∧ j ≠ g ∧ j ≠ c) ∧ (∀ j, (Value.slice va vn vc).ownBlock = some j → b < j ∧ j ≠ g ∧ j ≠ c) ∧ ∀ j, (Value.slice pa pn pc).ownBlock = some j → b < j ∧ j ≠ g ∧ j ≠ c
theorem any_shape {w : World} {v : Value} {l : List Int} (h : anyBytes w v l) : ∃ a n c, v = .slice a n c ∧ (0 < n → ∃ pb po, a = some ⟨pb, po, none⟩) := by
  rcases h with (⟨rfl, _⟩ | ⟨pb, po, cap, rfl, _⟩) | ⟨⟨a, rfl⟩, _⟩
  · exact ⟨_, _, _, rfl, fun h => absurd h (by decide)⟩
  · exact ⟨_, _, _, rfl, fun _ => ⟨pb, po, rfl⟩⟩
  · exact ⟨_, _, _, rfl, fun h => absurd h (by decide)⟩
theorem sums_shape {w : World} {v : Value} {L : List (List Int)} (h : sumsAt w v L) : ∃ a n c, v = .slice a n c ∧ (0 < n → ∃ pb po, a = some ⟨pb, po, none⟩) := by
  obtain ⟨_, a, c, rfl, h⟩ := h
  refine ⟨a, _, c, rfl, fun hn => ?_⟩
  obtain ⟨_, _, hc⟩ := h
  obtain ⟨pb, po, e, _⟩ := hc hn
  exact ⟨pb, po, e⟩
/-- the spots of one's own may be written over. -/
theorem ownSpots2.clr {w : World} {B b c : Nat} {v : Value} {k : Nat} {y : Nat → Sp} (h : ownSpots2 w B b v k y) (hk : 0 < k) (hc : w.heap.size ≤ c) : ∃ g cap, v = .slice (some ⟨g, 0, none⟩) k cap ∧ g < w.heap.size ∧ ∀ i, i < k → spotC w b g c i := by
  obtain ⟨U, hU, ho, hy⟩ := h
  obtain ⟨a, cap, rfl, hcap, hm, hg⟩ := ownsRow_slice ho
  obtain ⟨g, rfl, hlt, _, hcell⟩ := hg hk
  refine ⟨g, cap, rfl, hlt, fun i hi => ?_⟩
  obtain ⟨u, hu, hf⟩ := hy i hi
  have hq := fun j hj => hcell _ _ (c4s_get U i j _ hu hj)
  have hb := hf.2
  obtain ⟨kc, vc, pc, rfl, h1, h2, h3, h4, s1, s2, s3⟩ := hf.now
  obtain ⟨ka, kn, kcap, rfl, k1⟩ := any_shape h1
  obtain ⟨va, vn, vcap, rfl, v1⟩ := any_shape h2
  obtain ⟨pa, pn, pcap, rfl, p1⟩ := sums_shape h3
  have own : ∀ i, 1 ≤ i → i < 4 → ∀ j, (spG (y _).at_ (.slice ka kn kcap) (.slice va vn vcap) (.slice pa pn pcap) i).ownBlock = some j → b < j ∧ j ≠ g ∧ j ≠ c := fun i h1 h4 j hj => by
    obtain ⟨q1, q2, q3⟩ := hb i h1 h4 j hj
    exact ⟨q1, fun e => q3 (by rw [e]; rfl), by omega⟩
  exact ⟨ka, va, pa, kn, kcap, vn, vcap, pn, pcap, hq 1 (by omega), hq 2 (by omega), hq 3 (by omega), s1, s2, s3, ⟨k1, v1, p1⟩, own 1 (by omega) (by omega), own 2 (by omega) (by omega), own 3 (by omega) (by omega)⟩
theorem spotC.cl {w w' : World} {b g c i : Nat} (h : spotC w b g c i) (hc : Cl b g c w w') : spotC w' b g c i := by
  obtain ⟨ka, va, pa, kn, kc, vn, vc, pn, pc, h1, h2, h3, s1, s2, s3, h4⟩ := h
  exact ⟨ka, va, pa, kn, kc, vn, vc, pn, pc, (hc.cell _).trans h1, (hc.cell _).trans h2, (hc.cell _).trans h3, hc.softE s1, hc.softE s2, hc.softS s3, h4⟩
end Go.Proofs.YtkgegihkhdgdoaaDoor

/- What the document shows, plain. -/
namespace Go.Proofs.YtkgegihkhdgdoaaDoor
set_option linter.unusedVariables false

/-- ahead of the key, behind it: the document's two questions at place i. -/
def aheadB (x : Nat → Pr) (n : Nat) (key : List Int) (i : Nat) : Bool := decide (cmpI (x i).1 key < 0) && (decide (i + 1 = n) || decide (0 < cmpI (x (i + 1)).1 key))
def behindB (x : Nat → Pr) (n : Nat) (key : List Int) (i : Nat) : Bool := decide (0 < cmpI (x i).1 key) && (decide (i = 0) || decide (cmpI (x (i - 1)).1 key < 0))
/-- where the key stands, or -1. -/
def thereP (n : Nat) (x : Nat → Pr) (key : List Int) (t : Int) : Prop := (∃ i, i < n ∧ (x i).1 = key ∧ t = (i : Int)) ∨ ((∀ j, j < n → ¬ (x j).1 = key) ∧ t = -1)
def shownB (x : Nat → Pr) (n : Nat) (key : List Int) (t : Int) (i : Nat) : Bool := decide ((i : Int) = t) || (decide (t < 0) && (aheadB x n key i || behindB x n key i))
theorem shown_is {x : Nat → Pr} {n p : Nat} {key : List Int} {t : Int} (hm : mayP x n) (hp : posAt x n key p) (ht : thereP n x key t) (i : Nat) (hi : i < n) :
    shownB x n key t i = true ↔ shF x n key p ≤ i ∧ i < shF x n key p + shM x n key p := by
  obtain ⟨hpn, h1, h2⟩ := hp
  have hm1 := shM_lt x n key p (i - shF x n key p)
  unfold shF arL at *
  rcases ht with ⟨i0, hi0, hk0, rfl⟩ | ⟨hno, rfl⟩
  · obtain ⟨rfl, ha⟩ := pos_key hm ⟨hpn, h1, h2⟩ i0 hi0 hk0
    rw [if_pos ha] at hm1 ⊢
    rw [if_pos ha] at hm1
    unfold shownB
    rw [show decide ((i0 : Int) < 0) = false from decide_eq_false (by omega), Bool.false_and, Bool.or_false, decide_eq_true_iff]
    constructor
    · intro h
      obtain rfl : i = i0 := by omega
      have := hm1.2 (by omega)
      omega
    · rintro ⟨h3, h4⟩
      have := hm1.1 (by omega)
      omega
  · have ha : isAt x n key p = false := by
      rw [Bool.eq_false_iff]
      intro h
      simp only [isAt, Bool.and_eq_true, decide_eq_true_eq] at h
      exact hno p h.1 (cmpI_zero _ _ h.2)
    have ha' : ¬ isAt x n key p = true := by rw [ha]; decide
    rw [if_neg ha'] at hm1 ⊢
    rw [if_neg ha'] at hm1
    have hne : ∀ j, j < n → cmpI (x j).1 key ≠ 0 := fun j hj h => hno j hj (cmpI_zero _ _ h)
    have e0 : shownB x n key (-1) i = true ↔ (aheadB x n key i = true ∨ behindB x n key i = true) := by
      unfold shownB
      rw [show decide ((i : Int) = -1) = false from decide_eq_false (by omega), show decide ((-1 : Int) < 0) = true from rfl, Bool.false_or, Bool.true_and, Bool.or_eq_true]
    have e1 : aheadB x n key i = true ↔ i + 1 = p := by
      unfold aheadB
      simp only [Bool.and_eq_true, Bool.or_eq_true, decide_eq_true_eq]
      constructor
      · rintro ⟨h3, h4⟩
        have hip : i < p := by
          rcases Nat.lt_or_ge i p with h | h
          · exact h
          · have := h2 i h hi; omega
        rcases h4 with h4 | h4
        · omega
        · rcases Nat.lt_or_ge (i + 1) p with h | h
          · have := h1 _ h; omega
          · omega
      · intro h
        refine ⟨h1 i (by omega), ?_⟩
        by_cases hn : i + 1 = n
        · exact .inl hn
        · right
          have h3 := h2 (i + 1) (by omega) (by omega)
          have h4 := hne (i + 1) (by omega)
          omega
    have e2 : behindB x n key i = true ↔ i = p := by
      unfold behindB
      simp only [Bool.and_eq_true, Bool.or_eq_true, decide_eq_true_eq]
      constructor
      · rintro ⟨h3, h4⟩
        have hip : p ≤ i := by
          rcases Nat.lt_or_ge i p with h | h
          · have := h1 i h; omega
          · exact h
        rcases h4 with h4 | h4
        · omega
        · rcases Nat.lt_or_ge (i - 1) p with h | h
          · omega
          · have := h2 _ h (by omega); omega
      · rintro rfl
        have h3 := h2 i (Nat.le_refl _) hi
        have h4 := hne i hi
        refine ⟨by omega, ?_⟩
        by_cases h0 : i = 0
        · exact .inl h0
        · exact .inr (h1 (i - 1) (by omega))
    rw [e0, e1, e2]
    constructor
    · intro h
      have := hm1.2 (by omega)
      omega
    · rintro ⟨h3, h4⟩
      have := hm1.1 (by omega)
      omega
end Go.Proofs.YtkgegihkhdgdoaaDoor

/- The document's leaf of a pair, and whole. -/
namespace Go.Proofs.YtkgegihkhdgdoaaDoor
set_option linter.unusedSimpArgs false
set_option linter.unusedVariables false
open Go.RowKit Go.Deep

set_option maxHeartbeats 2000000 in
set_option maxRecDepth 100000 in
theorem rleaf_any (kc vc : Value) (x : Pr) (w : World) (h1 : anyBytes w kc x.1) (h2 : anyBytes w vc x.2) (hx : x.1.length + x.2.length ≤ 1000000) :
    Calls Tryd.prog 52 #[.agg #[kc, vc]] w fun e w' => e = .returned (sumV (leafS x)) ∧ Below w.heap.size w w' := by
  have hz32 := zero_s32
  obtain ⟨w1, hw1⟩ : ∃ w1, w1 = (w.alloc (.cells #[kc, vc] 38)).alloc (.cells (rowV 32 (fun _ => .int .u8 0)) 32) := ⟨_, rfl⟩
  have b1 : Below w.heap.size w w1 := by rw [hw1]; exact ((Below.refl _ _).alloc (Nat.le_refl _) _).alloc (by simp) _
  have z1 : w1.heap.size = w.heap.size + 2 := by rw [hw1]; simp
  have rz : w1.rowIs (w.heap.size + 1) 32 32 (fun _ => .int .u8 0) := by
    have r := rowIs_box (w.alloc (.cells #[kc, vc] 38)) 32 32 (fun _ => .int .u8 0)
    rw [World.size_alloc] at r; rw [hw1]; exact r
  have hb0 : w1.heap[w.heap.size]? = some (.cells #[kc, vc] 38) := by rw [hw1, blk_alloc_lt _ _ _ (by simp), blk_alloc_new]
  have c0 : w1.cell? ⟨w.heap.size, 0, none⟩ = some kc := by rw [cell_of_row _ _ _ _ _ _ hb0]; rfl
  have c1 : w1.cell? ⟨w.heap.size, 1, none⟩ = some vc := by rw [cell_of_row _ _ _ _ _ _ hb0]; rfl
  obtain ⟨w2, hw2⟩ : ∃ w2, w2 = w1.alloc (.cells #[kc, vc] 23) := ⟨_, rfl⟩
  have b2 : Below w1.heap.size w1 w2 := by rw [hw2]; exact (Below.refl _ _).alloc (Nat.le_refl _) _
  have z2 : w2.heap.size = w1.heap.size + 1 := by rw [hw2]; simp
  have b02 : Below w.heap.size w w2 := b1.trans (b2.mono (by omega))
  have hp : isParts w2 (.slice (some ⟨w1.heap.size, 0, none⟩) 2 2) 2 (prPs x) := by rw [hw2]; exact parts_two w1 kc vc x (h1.below b1 (Nat.le_refl _)) (h2.below b1 (Nat.le_refl _))
  have X := rof_any 4 2 _ (prPs x) w2 hp.any (prPs_light x hx)
  have X' : Calls Tryd.prog 72 #[.int .i64 4, .slice (some ⟨w1.heap.size, 0, none⟩) 2 2] w2 fun e w' => e = .returned (.agg (rowV 32 (arrV (leafS x)))) ∧ Below w2.heap.size w2 w' := X
  have HX : Hid (∀ w3, Below w2.heap.size w2 w3 → w3.rowIs (w.heap.size + 1) 32 32 (fun _ => .int .u8 0) ∧ ∀ w4, But w3.heap.size (w.heap.size + 1) w3 w4 → w4.heap.size = w3.heap.size → Below w.heap.size w w4) := (show _ from fun w3 b3 => by
    have b13 := b2.trans (b3.mono (by omega))
    refine ⟨b13.row rz (by omega), fun w4 b4 z4 => ?_⟩
    have b03 := b1.trans (b13.mono (by omega))
    exact b03.trans ((b4.mono b03.size).below (by omega)))
  obtain ⟨ka, kcap, rfl, _⟩ := h1.slice
  obtain ⟨va, vcap, rfl, _⟩ := h2.slice
  clear X h1 h2 hp b1 b2 b02 z1 z2 rz hb0 hx
  unfold sumV
  go_enter Tryd.func52, Tryd.ntmps52
  go_upto_region 1 with fail
  rw [← hw1]
  clear hw1
  go_wp2_with fail
  rw [← hw2]
  clear hw2 c0 c1
  refine X'.mono ?_
  rintro e w3 ⟨rfl, f3⟩
  obtain ⟨r3, K3⟩ := HX.out w3 f3
  have HK3 : Hid _ := K3
  clear X' HX f3 K3
  go_wp2_with (refine wpList_store_row rfl 32 _ _ rfl rfl (w.heap.size + 1) 0 32 (arrV (leafS x)) rfl rfl hi32' (fun _ _ => rfl) _ _ _ r3 (by omega) ?_; intro w4 r4 hz4 hb4)
  exact bodyPost_ret (results_cell_seg rfl _ _ (w.heap.size + 1) 32 32 (arrV (leafS x)) _ rfl Tryd.underlying32 rfl hi32' (r4.congr fun i hi => by rw [if_pos (by omega), Nat.sub_zero])) rfl ⟨rfl, HK3.out w4 hb4 hz4⟩
set_option maxHeartbeats 4000000 in
set_option maxRecDepth 100000 in
theorem rwhole_any (count : Int) (s : List Int) (w : World) (h0 : 0 ≤ count) (h63 : count ≤ 9223372036854775807) (hs : isSum s) :
    Calls Tryd.prog 41 #[.int .i64 count, .agg (rowV 32 (arrV s))] w fun e w' => e = .returned (sumV (krootS count s)) ∧ Below w.heap.size w w' := by
  have hz32 := zero_s32
  obtain ⟨w1, hw1⟩ : ∃ w1, w1 = (w.alloc (.cells (rowV 32 (arrV s)) 32)).alloc (.cells (rowV 32 (fun _ => .int .u8 0)) 32) := ⟨_, rfl⟩
  have b1 : Below w.heap.size w w1 := by rw [hw1]; exact ((Below.refl _ _).alloc (Nat.le_refl _) _).alloc (by simp) _
  have z1 : w1.heap.size = w.heap.size + 2 := by rw [hw1]; simp
  have rs : w1.rowIs w.heap.size 32 32 (arrV s) := by
    have r := rowIs_box w 32 32 (arrV s)
    rw [hw1]; exact ((Below.refl (w.alloc (.cells (rowV 32 (arrV s)) 32)).heap.size _).alloc (Nat.le_refl _) _).row r (by simp)
  have rz : w1.rowIs (w.heap.size + 1) 32 32 (fun _ => .int .u8 0) := by
    have r := rowIs_box (w.alloc (.cells (rowV 32 (arrV s)) 32)) 32 32 (fun _ => .int .u8 0)
    rw [World.size_alloc] at r; rw [hw1]; exact r
  have hwu : IntKind.wrap .u64 count = count := wrapU63 count h0 h63
  have FACT : Hid (∀ wz, Below w1.heap.size w1 wz → Below w.heap.size w wz ∧ wz.rowIs w.heap.size 32 32 (arrV s) ∧ wz.rowIs (w.heap.size + 1) 32 32 (fun _ => .int .u8 0)) := (show _ from fun wz hz => by
    have hz' : Below w.heap.size w wz := b1.trans (hz.mono (by omega))
    exact ⟨hz', hz.row rs (by omega), hz.row rz (by omega)⟩)
  have Z1 : Hid (w1.heap.size = w.heap.size + 2) := (show w1.heap.size = w.heap.size + 2 from z1)
  clear b1 z1 rs rz
  unfold sumV
  go_enter Tryd.func41, Tryd.ntmps41
  go_upto_region 1 with fail
  rw [← hw1]
  clear hw1
  refine wp_region_noPanic ?_
  refine wp_region_held_drew (S := fun w' => True) (by kernel_rfl) trivial (fun hHeld => ?_)
  refine take_op (i := 0) (v := ?va0) rfl (by kernel_rfl) (by kernel_rfl) (by kernel_rfl) (fun _ _ _ h => h) rfl hHeld ?ya0 ?ra0
  case ya0 => (intro wz hz; go_simp; first | done | with_reducible rfl)
  try simp only [Act.put, List.setIfInBounds_toArray, List.set_cons_zero, List.set_cons_succ]
  refine take_op (i := 1) (v := ?va1) rfl (by kernel_rfl) (by kernel_rfl) (by kernel_rfl) (fun _ _ _ h => h) rfl hHeld ?ya1 ?ra1
  case ya1 => (intro wz hz; go_simp; first | done | with_reducible rfl)
  try simp only [Act.put, List.setIfInBounds_toArray, List.set_cons_zero, List.set_cons_succ]
  refine take_op (i := 3) (v := ?va3) rfl (by kernel_rfl) (by kernel_rfl) (by kernel_rfl) (fun _ _ _ h => h) rfl hHeld ?ya3 ?ra3
  case ya3 => (intro wz hz; go_simp; first | done | with_reducible rfl)
  try simp only [Act.put, List.setIfInBounds_toArray, List.set_cons_zero, List.set_cons_succ]
  refine take_one (i := 2) rfl (by kernel_rfl) rfl (fun K hK => ?_)
  have XN := rnumber_any count h0 (by omega) w1.drew
  go_simp
  refine Calls.mono XN ?_
  rintro e w3 ⟨nv, rfl, n3, b3⟩
  have b13 : Below w1.heap.size w1 w3 := ((Below.refl w1.heap.size w1).drew).trans (b3.mono (Below.refl w1.heap.size w1).drew.size)
  have hn3 := n3.is
  obtain ⟨na, nc, rfl, _⟩ := hn3.slice
  refine hK.out _ _ trivial (fun hHeld => ?_)
  clear hK K XN b3 n3
  try simp only [Act.put, List.setIfInBounds_toArray, List.set_cons_zero, List.set_cons_succ]
  refine take_one (i := 4) rfl (by kernel_rfl) rfl (fun K hK => ?_)
  refine wp_of_run (exec_bslice2' 130 2 0 1 (.tmp 7) (.tmp 8) (.slice na (numB count).length nc) (.slice (some ⟨w.heap.size, 0, none⟩) 32 32) rfl rfl rfl (build_parts2 _ _ _ _ _ _ w3)) ?_
  obtain ⟨w4, hw4⟩ : ∃ w4, w4 = w3.alloc (.cells #[.slice na (numB count).length nc, .slice (some ⟨w.heap.size, 0, none⟩) 32 32] 23) := ⟨_, rfl⟩
  have b34 : Below w3.heap.size w3 w4 := by rw [hw4]; exact (Below.refl _ _).alloc (Nat.le_refl _) _
  have z4 : w4.heap.size = w3.heap.size + 1 := by rw [hw4]; simp
  have hp4 : isParts w4 (.slice (some ⟨w3.heap.size, 0, none⟩) 2 2) 2 (kroot count s) := by
    have hpp := parts_two w3 _ _ (numB count, s) (Or.inl hn3) (Or.inl (row_bytes (FACT.out w3 b13).2.1 hs))
    rw [hw4]; exact hpp
  have b14 : Below w1.heap.size w1 w4 := b13.trans (b34.mono b13.size)
  obtain ⟨b04, _, rz4⟩ := FACT.out w4 b14
  have X := rof_any 5 2 _ (kroot count s) w4 hp4.any (kroot_light count s hs)
  have X' : Calls Tryd.prog 72 #[.int .i64 5, .slice (some ⟨w3.heap.size, 0, none⟩) 2 2] w4 fun e w' => e = .returned (.agg (rowV 32 (arrV (krootS count s)))) ∧ Below w4.heap.size w4 w' := X
  have s13 := b13.size
  rw [← hw4]
  refine hK.out _ _ trivial (fun hHeld => ?_)
  clear hK K hw4 X hn3 hp4 b13 b34 b14
  try simp only [Act.put, List.setIfInBounds_toArray, List.set_cons_zero, List.set_cons_succ]
  refine take_one (i := 5) rfl (by kernel_rfl) rfl (fun K hK => ?_)
  go_simp
  refine Calls.mono X' ?_
  rintro e w5 ⟨rfl, f5⟩
  have s4 := f5.size
  have rz5 : w5.rowIs (w.heap.size + 1) 32 32 (fun _ => .int .u8 0) := f5.row rz4 (by have := Z1.out; omega)
  have b05 : Below w.heap.size w w5 := b04.trans (f5.mono b04.size)
  refine hK.out _ _ trivial (fun hHeld => ?_)
  clear hK K X' rz4
  try simp only [Act.put, List.setIfInBounds_toArray, List.set_cons_zero, List.set_cons_succ]
  obtain ⟨r6, z6, bu6⟩ := stow32T_row w5 (w.heap.size + 1) (krootS count s) rz5
  have hst := stow32T_run w5 (w.heap.size + 1) (krootS count s) rz5
  generalize w5.setCells (w.heap.size + 1) 0 (rowV 32 (arrV (krootS count s))).toList = w6 at r6 z6 bu6 hst
  have DONE : Hid (Below w.heap.size w w6) := (show _ from b05.trans ((bu6.mono b05.size).below (by omega)))
  refine take_one (i := 6) rfl (by kernel_rfl) rfl (fun K hK => ?_)
  unfold Oper.wp execOp
  simp only [Instr.storeAt, Instr.sureAddr, Sem.run_bind, Sem.run_pure, Result.andThen_ok]
  simp [Act.eval, hst, Oper.upon]
  refine hK.out _ _ trivial (fun hHeld => ?_)
  clear hK K hst bu6 z6 f5 b04 b05 rz5
  try simp only [Act.put, List.setIfInBounds_toArray, List.set_cons_zero, List.set_cons_succ]
  refine wpAnyH_done (by kernel_rfl) ?_ _
  refine NoPanic.normal ?_
  have R6 : Hid (w6.rowIs (w.heap.size + 1) 32 32 (arrV (krootS count s))) := (show w6.rowIs (w.heap.size + 1) 32 32 (arrV (krootS count s)) from r6)
  clear r6
  go_wp2
  exact bodyPost_ret (results_cell_seg rfl _ _ (w.heap.size + 1) 32 32 (arrV (krootS count s)) _ rfl Tryd.underlying32 rfl hi32' R6.out) rfl ⟨rfl, DONE.out⟩
end Go.Proofs.YtkgegihkhdgdoaaDoor

/- The document's leaves of pairs, and root. -/
namespace Go.Proofs.YtkgegihkhdgdoaaDoor
set_option linter.unusedSimpArgs false
set_option linter.unusedVariables false
open Go.RowKit Go.Deep

set_option maxHeartbeats 4000000 in
set_option maxRecDepth 100000 in
theorem rleaves_any (n : Nat) (v : Value) (x : Nat → Pr) (w : World) (hp : pairsAt w v n x) (hn : n ≤ 1000) (hx : ∀ i, i < n → (x i).1.length + (x i).2.length ≤ 1000000) :
    Calls Tryd.prog 43 #[v] w fun e w' => ∃ s, e = .returned s ∧ newSums w' w.heap.size s (leavesTo x n) ∧ Below w.heap.size w w' := by
  obtain ⟨a, cap, hv, hnc, hcm, _⟩ := (id hp : pairsAt w v n x)
  have hnm : (n : Int) ≤ 1000 := by omega
  have HP : Hid (pairsAt w v n x) := (show pairsAt w v n x from hp)
  have HX : Hid (∀ i, i < n → (x i).1.length + (x i).2.length ≤ 1000000) := (show _ from hx)
  subst hv
  have hn0 : (0 : Int) ≤ (n : Int) := by omega
  have hs0 : newSums w w.heap.size (.slice none 0 0) (leavesTo x 0) := newSums.nil _ _
  have HS0 : Hid (newSums w w.heap.size (.slice none 0 0) (leavesTo x 0)) := hs0
  clear hp hnc hcm hx hs0
  go_enter Tryd.func43, Tryd.ntmps43
  go_wp2_with fail
  go_loopw [3, 4] (fun vv i wr => ∃ (q : Nat) (oa : Option Addr) (oc : Nat), q ≤ n ∧ vv = .slice oa q oc ∧ i = .int .i64 (q : Int) ∧ newSums wr w.heap.size (.slice oa q oc) (leavesTo x q) ∧ Below w.heap.size w wr) (fun _ i _ => n - (intOf i).toNat)
  case atStart => exact ⟨0, none, 0, by omega, rfl, rfl, HS0.out, Below.refl _ _⟩
  case round =>
    obtain ⟨q, oa, oc, hqn, rfl, rfl, hos, hbr⟩ := hrel
    have q0 : (0 : Int) ≤ (q : Int) := by omega
    have HBR : Hid (Below w.heap.size w wr) := (show Below w.heap.size w wr from hbr)
    have HOS : Hid (newSums wr w.heap.size (.slice oa q oc) (leavesTo x q)) := (show _ from hos)
    clear hos
    by_cases hlt : q < n
    · have q1 : (q : Int) < (n : Int) := by omega
      obtain ⟨g, o, cap', e, hg, _, _, hcell⟩ := HP.out.at (by omega)
      injection e with e1 e2 e3
      subst e1
      subst e3
      obtain ⟨ka, kcap, va, vcap, H⟩ := hcell q hlt
      have hc2 : ∀ j, j < 2 → wr.cell? ⟨g, o + q * 2 + j, none⟩ = some (prG (.slice ka (x q).1.length kcap) (.slice va (x q).2.length vcap) j) := fun j hj => by
        have : j = 0 ∨ j = 1 := by omega
        rcases this with rfl | rfl
        · exact (H wr hbr).1
        · exact (H wr hbr).2.1
      have X : Calls Tryd.prog 52 #[.agg (rowV 2 (prG (.slice ka (x q).1.length kcap) (.slice va (x q).2.length vcap)))] wr fun e w' => e = .returned (.agg (rowV 32 (arrV (leafS (x q))))) ∧ Below wr.heap.size wr w' := rleaf_any _ _ (x q) wr (H wr hbr).2.2.1 (H wr hbr).2.2.2 (HX.out q hlt)
      have hll : (leavesTo x q).length = q := leavesTo_len x q
      have STEP : Hid (∀ w3, Below wr.heap.size wr w3 → ∃ a c' w4, (Builtin.append_ #[39, 39] 39 #[.slice oa q oc, .slice (some ⟨w3.heap.size, 0, none⟩) 1 1]).run Tryd.prog (w3.alloc (.cells (rowV 32 (arrV (leafS (x q)))) 32)) = .ok (.slice a (q + 1) c') w4 ∧ newSums w4 w.heap.size (.slice a (q + 1) c') (leavesTo x (q + 1)) ∧ Below w.heap.size w w4) := (show _ from fun w3 b3 => by
        have hw := HBR.out.size
        have h3 := b3.size
        have hns3 : newSums w3 w.heap.size (.slice oa q oc) (leavesTo x q) := HOS.out.below b3 (Nat.le_refl _)
        obtain ⟨a, c', w4, hr, hn4, hg, hat⟩ := sums_one_more w3 w.heap.size _ _ (leafS (x q)) (leafS_sum _) hns3 (by omega) (by rw [hll]; omega)
        rw [hll] at hr hn4
        exact ⟨a, c', w4, hr, by rw [leavesTo_succ]; exact hn4, (HBR.out.trans (b3.mono HBR.out.size)).trans (below_grown hg (fun k hk => (hns3.block k hk).1) (by omega))⟩)
      have hbl := fun wz => build_one (arrV (leafS (x q))) wz
      clear hcell H hg hbr hll
      go_wp2_with (first | (refine wpList_load_seg rfl 38 _ rfl g (o + q * 2) 2 (prG (.slice ka (x q).1.length kcap) (.slice va (x q).2.length vcap)) rfl _ Tryd.underlying38 rfl hiPr hc2 ?_))
      refine X.mono ?_
      rintro e w3 ⟨rfl, b3⟩
      obtain ⟨a, c', w4, hr, hS⟩ := STEP.out w3 b3
      have HS4 : Hid (newSums w4 w.heap.size (.slice a (q + 1) c') (leavesTo x (q + 1)) ∧ Below w.heap.size w w4) := (show _ ∧ _ from hS)
      clear X STEP b3 hS hc2
      go_wp2_with (first | (refine wpList_build_run (v := .agg (rowV 32 (arrV (leafS (x q))))) rfl 39 1 0 (.tmp 16) rfl rfl (hbl w3) ?_; clear hbl) | (at_builtin; refine wpList_append_run rfl _ _ _ rfl rfl rfl hr ?_))
      go_light
      exact ⟨⟨q + 1, a, c', by omega, rfl, by go_num, HS4.out.1, HS4.out.2⟩, by simp [intOf]; omega⟩
    · obtain rfl : q = n := by omega
      have q1 : ¬ (q : Int) < (q : Int) := by omega
      clear hbr
      go_wp2
      go_ret
      exact ⟨_, rfl, HOS.out, HBR.out⟩
set_option maxHeartbeats 4000000 in
set_option maxRecDepth 100000 in
/-- the root of pairs. -/
theorem rkroot_any (n : Nat) (v : Value) (x : Nat → Pr) (w : World) (hp : pairsAt w v n x) (hn : n ≤ 1000) (hx : ∀ i, i < n → (x i).1.length + (x i).2.length ≤ 1000000) :
    Calls Tryd.prog 16 #[v] w fun e w' => e = .returned (sumV (krootS (n : Int) (rootS (leavesTo x n)))) ∧ Below w.heap.size w w' := by
  have hz32 := zero_s32
  obtain ⟨a, cap, hv, hnc, hcm, _⟩ := (id hp : pairsAt w v n x)
  subst hv
  obtain ⟨w1, hw1⟩ : ∃ w1, w1 = w.alloc (.cells (rowV 32 (fun _ => .int .u8 0)) 32) := ⟨_, rfl⟩
  have b1 : Below w.heap.size w w1 := by rw [hw1]; exact (Below.refl _ _).alloc (Nat.le_refl _) _
  have r1 : w1.rowIs w.heap.size 32 32 (fun _ => .int .u8 0) := by rw [hw1]; exact rowIs_box _ _ _ _
  have XL := rleaves_any n (.slice a n cap) x w1 (hp.below b1 (Nat.le_refl _)) hn hx
  have H1 : Hid (Below w.heap.size w w1 ∧ w1.rowIs w.heap.size 32 32 (fun _ => .int .u8 0) ∧ n ≤ 1000) := (show _ ∧ _ ∧ _ from ⟨b1, r1, hn⟩)
  have hn1 : (n : Int) ≤ 1000 := by omega
  have hn0 : (0 : Int) ≤ (n : Int) := by omega
  clear hp hx hnc hcm b1 r1 hn
  unfold sumV
  go_enter Tryd.func16, Tryd.ntmps16
  go_upto_region 1 with fail
  rw [← hw1]
  clear hw1
  go_wp2_with fail
  refine XL.mono ?_
  rintro e w2 ⟨s, rfl, hs, b2⟩
  have XR := rroot_any 1000 (leavesTo x n) s w2 (by rw [leavesTo_len]; exact H1.out.2.2) (Nat.le_refl _) hs.is
  have B2 : Hid (Below w1.heap.size w1 w2) := (show _ from b2)
  obtain ⟨sa, sc, hse⟩ : ∃ sa sc, s = .slice sa (leavesTo x n).length sc := by obtain ⟨a, c, e, _⟩ := ownsRow_slice hs.2; exact ⟨a, c, e⟩
  subst hse
  unfold sumV at XR
  clear XL hs b2
  go_wp2_with fail
  refine XR.mono ?_
  rintro e w3 ⟨rfl, b3⟩
  have B3 : Hid (Below w1.heap.size w1 w3) := (show _ from B2.out.trans (b3.mono B2.out.size))
  have XW := rwhole_any (n : Int) (rootS (leavesTo x n)) w3 hn0 (by omega) (rootS_sum (fun l hl => by
    obtain ⟨i, _, rfl⟩ := List.mem_map.1 hl
    exact leafS_sum _))
  unfold sumV at XW
  clear XR b3
  go_wp2_with fail
  refine XW.mono ?_
  rintro e w4 ⟨rfl, b4⟩
  have b14 : Below w1.heap.size w1 w4 := B3.out.trans (b4.mono B3.out.size)
  have r4 : w4.rowIs w.heap.size 32 32 (fun _ => .int .u8 0) := b14.row H1.out.2.1 H1.out.2.1.lt
  have B4 : Hid (Below w.heap.size w w4) := (show _ from H1.out.1.trans (b14.mono H1.out.1.size))
  clear XW b4 b14
  go_wp2_with (refine wpList_store_row rfl 32 _ _ rfl rfl w.heap.size 0 32 (arrV (krootS (n : Int) (rootS (leavesTo x n)))) rfl rfl hi32' (fun _ _ => rfl) _ _ _ r4 (by omega) ?_; intro w5 r5 z5 b5)
  exact bodyPost_ret (results_cell_seg rfl _ _ w.heap.size 32 32 (arrV (krootS (n : Int) (rootS (leavesTo x n)))) _ rfl Tryd.underlying32 rfl hi32' (r5.congr fun i hi => by rw [if_pos (by omega), Nat.sub_zero])) rfl ⟨rfl, B4.out.trans ((b5.mono B4.out.size).below (Nat.le_refl _))⟩
end Go.Proofs.YtkgegihkhdgdoaaDoor
